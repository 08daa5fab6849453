/- What chapter 11 says of packets and options. Nothing of the program. -/
import Derived.WalkKit
import Derived.Test.YteajofcdiankiaaQ2
namespace Go.Proofs.Yteajofcdiankiaa
namespace Pure
/-- A control packet. -/
structure Pkt where
  code : Int
  id : Int
  data : List UInt8
/-- What a packet may not be. -/
def Pkt.odd (p : Pkt) : Prop := p.code < 0 ∨ 255 < p.code ∨ p.id < 0 ∨ 255 < p.id
instance (p : Pkt) : Decidable p.odd := by unfold Pkt.odd; infer_instance
def Pkt.bytes (p : Pkt) : List UInt8 :=
  [UInt8.ofNat p.code.toNat, UInt8.ofNat p.id.toNat, UInt8.ofNat ((p.data.length + 4) / 256), UInt8.ofNat ((p.data.length + 4) % 256)] ++ p.data
/-- What is wrong with a packet, or nothing, and its bytes. -/
def encode (p : Pkt) : Nat × List UInt8 := if p.odd then (1, []) else if 1496 < p.data.length then (3, []) else (0, p.bytes)
theorem encode_odd {p : Pkt} (h : p.odd) : encode p = (1, []) := if_pos h
theorem encode_long {p : Pkt} (h : ¬ p.odd) (hl : 1496 < p.data.length) : encode p = (3, []) := by unfold encode; rw [if_neg h, if_pos hl]
theorem encode_ok {p : Pkt} (h : ¬ p.odd) (hl : ¬ 1496 < p.data.length) : encode p = (0, p.bytes) := by unfold encode; rw [if_neg h, if_neg hl]
def noPkt : Pkt := ⟨0, 0, []⟩
/-- The length that a packet states. -/
def stated (b : List UInt8) : Nat := (b.getD 2 0).toNat * 256 + (b.getD 3 0).toNat
def decode (b : List UInt8) : Nat × Pkt :=
  if b.length < 4 then (2, noPkt) else if stated b < 4 then (4, noPkt) else if b.length < stated b then (2, noPkt) else if 1500 < stated b then (3, noPkt)
  else (0, ⟨(b.getD 0 0).toNat, (b.getD 1 0).toNat, (b.drop 4).take (stated b - 4)⟩)
theorem decode_short {b : List UInt8} (h : b.length < 4) : decode b = (2, noPkt) := if_pos h
theorem decode_form {b : List UInt8} (h : ¬ b.length < 4) (h2 : stated b < 4) : decode b = (4, noPkt) := by unfold decode; rw [if_neg h, if_pos h2]
theorem decode_cut {b : List UInt8} (h : ¬ b.length < 4) (h2 : ¬ stated b < 4) (h3 : b.length < stated b) : decode b = (2, noPkt) := by unfold decode; rw [if_neg h, if_neg h2, if_pos h3]
theorem decode_long {b : List UInt8} (h : ¬ b.length < 4) (h2 : ¬ stated b < 4) (h3 : ¬ b.length < stated b) (h4 : 1500 < stated b) : decode b = (3, noPkt) := by unfold decode; rw [if_neg h, if_neg h2, if_neg h3, if_pos h4]
theorem decode_ok {b : List UInt8} (h : ¬ b.length < 4) (h2 : ¬ stated b < 4) (h3 : ¬ b.length < stated b) (h4 : ¬ 1500 < stated b) : decode b = (0, ⟨(b.getD 0 0).toNat, (b.getD 1 0).toNat, (b.drop 4).take (stated b - 4)⟩) := by unfold decode; rw [if_neg h, if_neg h2, if_neg h3, if_neg h4]
/-- An option: its type, its bytes. -/
abbrev Opt := Int × List UInt8
def Opt.odd (o : Opt) : Prop := o.1 < 0 ∨ 255 < o.1 ∨ 253 < o.2.length
instance (o : Opt) : Decidable (Opt.odd o) := by unfold Opt.odd; infer_instance
def Opt.bytes (o : Opt) : List UInt8 := [UInt8.ofNat o.1.toNat, UInt8.ofNat (o.2.length + 2)] ++ o.2
def joined (l : List Opt) : List UInt8 := l.flatMap Opt.bytes
def options (l : List Opt) : Nat × List UInt8 := if 32 < l.length then (3, []) else if ∃ o ∈ l, Opt.odd o then (1, []) else (0, joined l)
theorem options_long {l : List Opt} (h : 32 < l.length) : options l = (3, []) := if_pos h
theorem options_odd {l : List Opt} (h : ¬ 32 < l.length) (o : Opt) (ho : o ∈ l) (hodd : Opt.odd o) : options l = (1, []) := by unfold options; rw [if_neg h, if_pos ⟨o, ho, hodd⟩]
theorem options_ok {l : List Opt} (h : ¬ 32 < l.length) (ho : ∀ o ∈ l, ¬ Opt.odd o) : options l = (0, joined l) := by
  unfold options
  rw [if_neg h, if_neg (fun ⟨o, h1, h2⟩ => ho o h1 h2)]
/-- Options read, behind those that were read. -/
def splitGo : Nat → List UInt8 → List Opt → Nat × List Opt
  | 0, _, acc => (0, acc)
  | f + 1, b, acc =>
    if b = [] then (0, acc)
    else if acc.length = 32 then (3, [])
    else if b.length < 2 ∨ (b.getD 1 0).toNat < 2 ∨ b.length < (b.getD 1 0).toNat then (4, [])
    else splitGo f (b.drop (b.getD 1 0).toNat) (acc ++ [(((b.getD 0 0).toNat : Int), (b.drop 2).take ((b.getD 1 0).toNat - 2))])
theorem splitGo_fuel : ∀ (f g : Nat) (b : List UInt8) (acc : List Opt), b.length ≤ f → b.length ≤ g → splitGo f b acc = splitGo g b acc
  | 0, 0, _, _, _, _ => rfl
  | 0, g + 1, b, acc, hf, _ => by
    have : b = [] := List.eq_nil_of_length_eq_zero (by omega)
    subst this; simp [splitGo]
  | f + 1, 0, b, acc, _, hg => by
    have : b = [] := List.eq_nil_of_length_eq_zero (by omega)
    subst this; simp [splitGo]
  | f + 1, g + 1, b, acc, hf, hg => by
    unfold splitGo
    split
    · rfl
    · split
      · rfl
      · split
        · rfl
        · rename_i h
          exact splitGo_fuel f g _ _ (by rw [List.length_drop]; omega) (by rw [List.length_drop]; omega)
def splitFrom (b : List UInt8) (acc : List Opt) : Nat × List Opt := splitGo b.length b acc
theorem splitFrom_nil (acc : List Opt) : splitFrom [] acc = (0, acc) := rfl
theorem splitFrom_cons {b : List UInt8} (acc : List Opt) (hb : b ≠ []) : splitFrom b acc =
    if acc.length = 32 then (3, []) else if b.length < 2 ∨ (b.getD 1 0).toNat < 2 ∨ b.length < (b.getD 1 0).toNat then (4, [])
    else splitFrom (b.drop (b.getD 1 0).toNat) (acc ++ [(((b.getD 0 0).toNat : Int), (b.drop 2).take ((b.getD 1 0).toNat - 2))]) := by
  have h0 : 0 < b.length := List.length_pos_iff.2 hb
  obtain ⟨n, hn⟩ : ∃ n, b.length = n + 1 := ⟨b.length - 1, by omega⟩
  conv => lhs; unfold splitFrom; rw [hn]; unfold splitGo
  rw [if_neg hb]
  split
  · rfl
  · split
    · rfl
    · rename_i h
      exact splitGo_fuel _ _ _ _ (by rw [List.length_drop]; omega) (Nat.le_refl _)
def split (b : List UInt8) : Nat × List Opt := splitFrom b []
theorem splitFrom_full {b : List UInt8} {acc : List Opt} (hb : b ≠ []) (h : acc.length = 32) : splitFrom b acc = (3, []) := by rw [splitFrom_cons acc hb, if_pos h]
theorem splitFrom_bad {b : List UInt8} {acc : List Opt} (hb : b ≠ []) (h : acc.length ≠ 32) (h2 : b.length < 2 ∨ (b.getD 1 0).toNat < 2 ∨ b.length < (b.getD 1 0).toNat) : splitFrom b acc = (4, []) := by rw [splitFrom_cons acc hb, if_neg h, if_pos h2]
theorem splitFrom_step {b : List UInt8} {acc : List Opt} (hb : b ≠ []) (h : acc.length ≠ 32) (h2 : ¬ (b.length < 2 ∨ (b.getD 1 0).toNat < 2 ∨ b.length < (b.getD 1 0).toNat)) :
    splitFrom b acc = splitFrom (b.drop (b.getD 1 0).toNat) (acc ++ [(((b.getD 0 0).toNat : Int), (b.drop 2).take ((b.getD 1 0).toNat - 2))]) := by rw [splitFrom_cons acc hb, if_neg h, if_neg h2]
end Pure
end Go.Proofs.Yteajofcdiankiaa
/- A slice of options, as a walk meets it. -/
namespace Go.Proofs.Yteajofcdiankiaa
open Go.RowKit
/-- The cells of options whose bytes lie where the values say. -/
abbrev optCells (ps : List (Value × Pure.Opt)) : List Value := ps.flatMap fun p => [.int .i64 p.2.1, p.1]
theorem optCells_length (ps : List (Value × Pure.Opt)) : (optCells ps).length = ps.length * 2 := by
  induction ps with
  | nil => rfl
  | cons p ps ih => rw [optCells, List.flatMap_cons, List.length_append, ih]; simp; omega
theorem optCells_at (ps : List (Value × Pure.Opt)) (k : Nat) (p : Value × Pure.Opt) (h : ps[k]? = some p) : (optCells ps)[2 * k]? = some (.int .i64 p.2.1) ∧ (optCells ps)[2 * k + 1]? = some p.1 := by
  induction ps generalizing k with
  | nil => simp at h
  | cons q ps ih =>
    rcases k with _ | k
    · simp at h
      subst h
      exact ⟨rfl, rfl⟩
    · have := ih k (by simpa using h)
      rw [optCells, List.flatMap_cons]
      rw [List.getElem?_append_right (by simp; omega), List.getElem?_append_right (by simp; omega)]
      simpa [Nat.mul_add, Nat.add_assoc] using this
/-- A slice of options. -/
structure ORow (w : World) (F : Nat → Prop) (x : Value) (ps : List (Value × Pure.Opt)) : Prop where
  out : Row w F 2 x ps.length (optCells ps)
  rows : ∀ p ∈ ps, Row w F 1 p.1 p.2.2.length (u8s p.2.2)
theorem ORow.keeps {S F : Nat → Prop} {w w' : World} {x : Value} {ps : List (Value × Pure.Opt)} (h : ORow w F x ps) (k : Keeps S w w') (hs : ∀ b, F b → ¬ S b) : ORow w' F x ps :=
  ⟨h.out.keeps k hs, fun p hp => (h.rows p hp).keeps k hs⟩
theorem ORow.mono {F G : Nat → Prop} {w : World} {x : Value} {ps : List (Value × Pure.Opt)} (h : ORow w F x ps) (hG : ∀ b, F b → G b) : ORow w G x ps :=
  ⟨h.out.mono hG, fun p hp => (h.rows p hp).mono hG⟩
theorem ORow.nil (w : World) (F : Nat → Prop) : ORow w F (.slice none 0 0) [] := ⟨Row.nil _ _ _, by simp⟩
/-- A []api.Option that came in. -/
theorem opts_of {w : World} {a : Option Addr} {len cap : Nat} (h : IsStructs w [.int .i64, .row .u8] a len cap) :
    ∃ ps : List (Value × Pure.Opt), ps.length = len ∧ ORow w (fun b => b < w.heap.size) (.slice a len cap) ps ∧ ∀ p ∈ ps, -9223372036854775808 ≤ p.2.1 ∧ p.2.1 ≤ 9223372036854775807 := by
  rcases h with ⟨rfl, rfl, rfl⟩ | ⟨x, rfl, hl, hm, hi⟩
  · exact ⟨[], rfl, ORow.nil _ _, by simp⟩
  · obtain ⟨ps, hpl, hps⟩ := list_choice (P := fun i (d : Value × Pure.Opt) => w.cell? (x.add (i * 2)) = some (.int .i64 d.2.1) ∧ w.cell? (x.add (i * 2 + 1)) = some d.1 ∧ Row w (fun b => b < w.heap.size) 1 d.1 d.2.2.length (u8s d.2.2) ∧ (-9223372036854775808 ≤ d.2.1 ∧ d.2.1 ≤ 9223372036854775807)) len (fun i hil => by
      obtain ⟨u, hu, n, rfl, hn⟩ := hi i hil 0 _ rfl
      obtain ⟨v, hv, a', l', c', zs, rfl, hr⟩ := hi i hil 1 _ rfl
      obtain ⟨bs, hbl, hrow⟩ := hr.bytes
      refine ⟨(.slice a' l' c', n, bs), by simpa using hu, by simpa using hv, ?_, i64_of_wf hn⟩
      rw [← hbl] at hrow ⊢
      exact hrow)
    refine ⟨ps, hpl, ⟨⟨by rw [optCells_length], by omega, some x, cap, by rw [hpl], by omega, by simp, fun h0 => ?_⟩, fun p hp => ?_⟩, fun p hp => ?_⟩
    · have h1 := (hps 0 ps[0] (List.getElem?_eq_getElem h0)).1
      obtain ⟨b, off, rfl⟩ := addr_of_cell h1
      rw [addr_add] at h1
      refine ⟨b, off, rfl, cell_lt h1, fun j u hu => ?_⟩
      have hj : j < ps.length * 2 := by
        have := (List.getElem?_eq_some_iff.1 hu).1
        rwa [optCells_length] at this
      have hk : j / 2 < ps.length := by omega
      obtain ⟨q1, q2, _, _⟩ := hps (j / 2) _ (List.getElem?_eq_getElem hk)
      obtain ⟨o1, o2⟩ := optCells_at ps (j / 2) _ (List.getElem?_eq_getElem hk)
      rcases (show j = 2 * (j / 2) ∨ j = 2 * (j / 2) + 1 by omega) with e | e
      · rw [e, o1] at hu
        injection hu with hu
        subst hu
        rw [addr_add] at q1
        rw [show off + j = off + j / 2 * 2 by omega]
        exact q1
      · rw [e, o2] at hu
        injection hu with hu
        subst hu
        rw [addr_add] at q2
        rw [show off + j = off + (j / 2 * 2 + 1) by omega]
        exact q2
    · obtain ⟨i, hi', rfl⟩ := List.getElem_of_mem hp
      exact (hps i _ (List.getElem?_eq_getElem hi')).2.2.1
    · obtain ⟨i, hi', rfl⟩ := List.getElem_of_mem hp
      exact (hps i _ (List.getElem?_eq_getElem hi')).2.2.2
theorem ORow.form {w : World} {F : Nat → Prop} {x : Value} {ps : List (Value × Pure.Opt)} (h : ORow w F x ps) : ∃ A c, x = .slice A ps.length c ∧ ps.length ≤ c := by
  obtain ⟨_, _, A, c, rfl, hc, _⟩ := h.out
  exact ⟨A, c, rfl, hc⟩
/-- One of its options. -/
theorem ORow.pick {w : World} {F : Nat → Prop} {X : Option Addr} {n cx : Nat} {ps : List (Value × Pure.Opt)} (h : ORow w F (.slice X n cx) ps) (k : Nat) (hk : k < ps.length) :
    ∃ p o A c t bs, X = some ⟨p, o, none⟩ ∧ F p ∧ w.cell? ⟨p, o + k * 2, none⟩ = some (.int .i64 t) ∧ w.cell? ⟨p, o + k * 2 + 1, none⟩ = some (.slice A bs.length c) ∧ Row w F 1 (.slice A bs.length c) bs.length (u8s bs) ∧ ps[k]? = some (.slice A bs.length c, t, bs) := by
  obtain ⟨_, _, A', c', e, _, _, hh⟩ := h.out
  obtain ⟨p, o, rfl, hF, hc⟩ := hh (by omega)
  injection e with e1 _ _
  have hget := List.getElem?_eq_getElem hk
  have hr := h.rows ps[k] (List.getElem_mem hk)
  obtain ⟨A, c, hform, _⟩ := hr.form
  obtain ⟨o1, o2⟩ := optCells_at ps k _ hget
  have c1 := hc _ _ o1
  have c2 := hc _ _ o2
  rw [hform] at c2 hr
  rw [← Nat.add_assoc] at c2
  rw [Nat.mul_comm 2 k] at c1 c2
  refine ⟨p, o, A, c, ps[k].2.1, ps[k].2.2, e1, hF, c1, c2, hr, ?_⟩
  rw [hget, ← hform]
end Go.Proofs.Yteajofcdiankiaa
