/- Rows of bytes, slices as rows, and the document's Same. -/
import Derived.Test.YtjomcffhbaplcaaGreatDoorRows
import Derived.Test.YtjomcffhbaplcaaGreatDoorQ1
import Derived.WalkKit
import Derived.Test.YtjomcffhbaplcaaGreatDoorQ2
namespace Go.Proofs.YtjomcffhbaplcaaGreatDoor
open Go.RowKit

theorem u8_info : (Tryz.prog.info? 5).map (fun i => (i.zero, i.size, i.bytes)) = some (some (.int .u8 0), 1, 1) := by kernel_rfl

theorem u8s_cells (l : List UInt8) : ∀ u ∈ l.map (fun b => Value.int .u8 b.toNat), u.oneCell' = true := by
  intro u hu
  obtain ⟨b, _, rfl⟩ := List.mem_map.1 hu
  rfl
/-- The values of bytes. -/
abbrev u8s (l : List UInt8) : List Value := l.map fun b => Value.int .u8 b.toNat

theorem own_form {w : World} {base : Nat} {e : TypeId} {size : Nat} {v : Value} {n : Nat} {xs : List Value} (h : w.ownsRow base e size v n xs) : ∃ A c, v = .slice A n c := by
  rcases h.2 with ⟨rfl, rfl⟩ | ⟨g, cap, cur, rfl, _⟩
  · exact ⟨_, _, rfl⟩
  · exact ⟨_, _, rfl⟩

theorem own_cell {w : World} {base : Nat} {t : TypeId} {A : Option Addr} {n c : Nat} {xs : List Value} (h : w.ownsRow base t 1 (.slice A n c) n xs) (hn : 0 < n) :
    ∃ b, A = some ⟨b, 0, none⟩ ∧ b < w.heap.size ∧ ∀ j u, xs[j]? = some u → w.cell? ⟨b, j, none⟩ = some u := by
  have hr := Row.of_own h
  obtain ⟨_, _, A', c', e, _, _, hh⟩ := hr
  injection e with e1 e2 e3
  subst e1
  obtain ⟨b, off, rfl, hf, hc⟩ := hh hn
  rcases h.2 with ⟨e, _⟩ | ⟨g, cap, cur, e, _, hh, _⟩
  · cases e
  · injection e with e1 e2 e3
    injection e1 with e1
    injection e1 with e1 e4
    subst e1 e4
    have hb : Blk w b t cur := by assumption
    exact ⟨b, rfl, hb.lt, fun j u hu => by have := hc j u hu; rwa [Nat.zero_add] at this⟩
theorem u8s_at (bs : List UInt8) (j : Nat) (h : j < bs.length) : (u8s bs)[j]? = some (.int .u8 ((bs.getD j 0).toNat)) := by
  rw [List.getElem?_map, List.getElem?_eq_getElem h, List.getD_eq_getElem?_getD, List.getElem?_eq_getElem h]; rfl

theorem Row.take1 {w : World} {F : Nat → Prop} {A : Option Addr} {n c : Nat} {xs : List Value} (h : Row w F 1 (.slice A n c) n xs) (m : Nat) (hm : m ≤ n) : Row w F 1 (.slice A m c) m (xs.take m) := by
  obtain ⟨h1, h0, A', c', e, h3, h4, h5⟩ := h
  injection e with e1 _ e3
  subst e1 e3
  refine ⟨by simp; omega, by omega, _, _, rfl, by omega, fun e => by have := h4 e; omega, fun hn => ?_⟩
  obtain ⟨b, off, e, hf, hc⟩ := h5 (by omega)
  refine ⟨b, off, e, hf, fun j u hu => hc j u ?_⟩
  rw [List.getElem?_take] at hu
  split at hu
  · exact hu
  · cases hu
theorem u8s_take (l : List UInt8) (n : Nat) : u8s (l.take n) = (u8s l).take n := by simp


theorem Row.form {w : World} {F : Nat → Prop} {size n : Nat} {v : Value} {xs : List Value} (h : Row w F size v n xs) : ∃ A c, v = .slice A n c ∧ n ≤ c := by
  obtain ⟨_, _, A, c, rfl, hc, _⟩ := h
  exact ⟨A, c, rfl, hc⟩
theorem Row.cellAt {w : World} {F : Nat → Prop} {A : Option Addr} {n c : Nat} {xs : List Value} (h : Row w F 1 (.slice A n c) n xs) (hn : 0 < n) :
    ∃ b off, A = some ⟨b, off, none⟩ ∧ F b ∧ ∀ j u, xs[j]? = some u → w.cell? ⟨b, off + j, none⟩ = some u := by
  obtain ⟨_, _, A', c', e, _, _, h⟩ := h
  injection e with e1
  subst e1
  exact h hn

set_option maxHeartbeats 1000000 in
theorem same_q (F G : Nat → Prop) (x y : Value) (a b : List UInt8) (w : World) (hx : Row w F 1 x a.length (u8s a)) (hy : Row w G 1 y b.length (u8s b)) :
    Calls Tryz.prog 21 #[x, y] w fun e w' => e = .returned (.bool (decide (a = b))) ∧ ∃ n, w' = w.drewN n := by
  obtain ⟨A, c, rfl, hc⟩ := hx.form
  obtain ⟨B, d, rfl, hd⟩ := hy.form
  have ha := hx.2.1
  have hb := hy.2.1
  unfold maxLen at ha hb
  by_cases hl : a.length = b.length
  · have e1 : ((a.length : Int) != (b.length : Int)) = false := by rw [hl]; simp
    have HX := Lib.hid hx
    have HY := Lib.hid hy
    clear hx hy
    have HL := Lib.hid hl
    rw [← hl] at HY ⊢
    clear hl hb
    rw [← HL.out] at e1
    go_enter Tryz.func21, Tryz.ntmps21
    go_wp2
    clear e1
    go_loopw [5] (fun i wr => ∃ k : Nat, k ≤ a.length ∧ i = .int .i64 k ∧ a.take k = b.take k ∧ ∃ n, wr = w.drewN n) (fun i _ => a.length - (intOf i).toNat)
    case atStart => exact ⟨0, by omega, rfl, by simp, 0, rfl⟩
    case round =>
      obtain ⟨k, hk, rfl, htake, q, hq⟩ := hrel
      have HT := Lib.hid htake
      have HQ := Lib.hid hq
      have HK := Lib.hid (Keeps.of_drewN hq)
      clear htake hq
      by_cases hlt : k < a.length
      · obtain ⟨p, o, rfl, _, hcx⟩ := (HX.out.keeps HK.out (fun _ _ h => h)).cellAt (by omega)
        obtain ⟨p2, o2, rfl, _, hcy⟩ := (HY.out.keeps HK.out (fun _ _ h => h)).cellAt (by omega)
        have hlb : k < b.length := by have := HL.out; omega
        have c1 := hcx k _ (u8s_at a k hlt)
        have c2 := hcy k _ (u8s_at b k hlb)
        have hi0 : (0 : Int) ≤ (k : Int) := by omega
        have hi1 : (k : Int) < (a.length : Int) := by omega
        obtain ⟨X, hX⟩ : ∃ X : Nat, X = (a.getD k 0).toNat := ⟨_, rfl⟩
        obtain ⟨Y, hY⟩ : ∃ Y : Nat, Y = (b.getD k 0).toNat := ⟨_, rfl⟩
        rw [← hX] at c1
        rw [← hY] at c2
        have HX1 := Lib.hid hX
        have HY1 := Lib.hid hY
        clear hX hY hcx hcy
        by_cases hxy : X = Y
        · subst hxy
          have hne : ((X : Int) != (X : Int)) = false := by simp
          go_wp2_with fail
          go_quiet (fail)
          go_wp2
          go_roundw
          case rel =>
            refine ⟨k + 1, by omega, by go_num, ?_, _, by rw [HQ.out, World.drewN_drewN]⟩
            rw [List.take_succ_eq_append_getElem hlt, List.take_succ_eq_append_getElem hlb, HT.out]
            have : a[k] = b[k] := by
              apply UInt8.toNat_inj.1
              have h1 := HX1.out
              have h2 := HY1.out
              rw [List.getD_eq_getElem?_getD, List.getElem?_eq_getElem hlt] at h1
              rw [List.getD_eq_getElem?_getD, List.getElem?_eq_getElem hlb] at h2
              exact h1.symm.trans h2
            rw [this]
          case measure => simp [intOf]; omega
        · have hne : ((X : Int) != (Y : Int)) = true := by rw [bne_iff_ne]; omega
          have hno : decide (a = b) = false := by
            rw [decide_eq_false_iff_not]
            rintro rfl
            exact hxy (HX1.out.trans HY1.out.symm)
          have HNO := Lib.hid hno
          clear hno
          go_wp2_with fail
          go_quiet (fail)
          go_wp2
          go_ret
          exact ⟨by rw [HNO.out]; rfl, _, by rw [HQ.out, World.drewN_drewN]⟩
      · have hk' : k = a.length := by omega
        have hyes : decide (a = b) = true := by
          rw [decide_eq_true_eq]
          have := HT.out
          rw [hk', List.take_length, HL.out, List.take_length] at this
          exact this
        have HYES := Lib.hid hyes
        clear hyes hk'
        go_wp2
        go_ret
        exact ⟨by rw [HYES.out]; rfl, _, HQ.out⟩
  · have e1 : ((a.length : Int) != (b.length : Int)) = true := by rw [bne_iff_ne]; omega
    have hno : decide (a = b) = false := by
      rw [decide_eq_false_iff_not]
      rintro rfl
      exact hl rfl
    have HNO := Lib.hid hno
    clear hno hl hx hy
    go_enter Tryz.func21, Tryz.ntmps21
    go_wp2
    go_ret
    exact ⟨by rw [HNO.out]; rfl, 0, rfl⟩
theorem same_any (F G : Nat → Prop) (x y : Value) (a b : List UInt8) (w : World) (hx : Row w F 1 x a.length (u8s a)) (hy : Row w G 1 y b.length (u8s b)) :
    Calls Tryz.prog 21 #[x, y] w fun e w' => e = .returned (.bool (decide (a = b))) ∧ Keeps nobody w w' :=
  (same_q F G x y a b w hx hy).mono fun _ _ ⟨h, _, h2⟩ => ⟨h, Keeps.of_drewN h2⟩
end Go.Proofs.YtjomcffhbaplcaaGreatDoor
/- What chapter 11 says of packets and options. Nothing of the program. -/
namespace Go.Proofs.YtjomcffhbaplcaaGreatDoor
namespace Pure
/-- A control packet. -/
structure Pkt where
  code : Int
  id : Int
  data : List UInt8
/-- What a packet may not be. -/
def Pkt.odd (p : Pkt) : Prop := p.code < 0 ∨ 255 < p.code ∨ p.id < 0 ∨ 255 < p.id
instance (p : Pkt) : Decidable p.odd := by unfold Pkt.odd; infer_instance
def Pkt.bytes (p : Pkt) : List UInt8 :=
  [UInt8.ofNat p.code.toNat, UInt8.ofNat p.id.toNat, UInt8.ofNat ((p.data.length + 4) / 256), UInt8.ofNat ((p.data.length + 4) % 256)] ++ p.data
/-- What is wrong with a packet, or nothing, and its bytes. -/
def encode (p : Pkt) : Nat × List UInt8 := if p.odd then (1, []) else if 1496 < p.data.length then (3, []) else (0, p.bytes)
theorem encode_odd {p : Pkt} (h : p.odd) : encode p = (1, []) := if_pos h
theorem encode_long {p : Pkt} (h : ¬ p.odd) (hl : 1496 < p.data.length) : encode p = (3, []) := by unfold encode; rw [if_neg h, if_pos hl]
theorem encode_ok {p : Pkt} (h : ¬ p.odd) (hl : ¬ 1496 < p.data.length) : encode p = (0, p.bytes) := by unfold encode; rw [if_neg h, if_neg hl]
def noPkt : Pkt := ⟨0, 0, []⟩
/-- The length that a packet states. -/
def stated (b : List UInt8) : Nat := (b.getD 2 0).toNat * 256 + (b.getD 3 0).toNat
def decode (b : List UInt8) : Nat × Pkt :=
  if b.length < 4 then (2, noPkt) else if stated b < 4 then (4, noPkt) else if b.length < stated b then (2, noPkt) else if 1500 < stated b then (3, noPkt)
  else (0, ⟨(b.getD 0 0).toNat, (b.getD 1 0).toNat, (b.drop 4).take (stated b - 4)⟩)
theorem decode_short {b : List UInt8} (h : b.length < 4) : decode b = (2, noPkt) := if_pos h
theorem decode_form {b : List UInt8} (h : ¬ b.length < 4) (h2 : stated b < 4) : decode b = (4, noPkt) := by unfold decode; rw [if_neg h, if_pos h2]
theorem decode_cut {b : List UInt8} (h : ¬ b.length < 4) (h2 : ¬ stated b < 4) (h3 : b.length < stated b) : decode b = (2, noPkt) := by unfold decode; rw [if_neg h, if_neg h2, if_pos h3]
theorem decode_long {b : List UInt8} (h : ¬ b.length < 4) (h2 : ¬ stated b < 4) (h3 : ¬ b.length < stated b) (h4 : 1500 < stated b) : decode b = (3, noPkt) := by unfold decode; rw [if_neg h, if_neg h2, if_neg h3, if_pos h4]
theorem decode_ok {b : List UInt8} (h : ¬ b.length < 4) (h2 : ¬ stated b < 4) (h3 : ¬ b.length < stated b) (h4 : ¬ 1500 < stated b) : decode b = (0, ⟨(b.getD 0 0).toNat, (b.getD 1 0).toNat, (b.drop 4).take (stated b - 4)⟩) := by unfold decode; rw [if_neg h, if_neg h2, if_neg h3, if_neg h4]
/-- An option: its type, its bytes. -/
abbrev Opt := Int × List UInt8
def Opt.odd (o : Opt) : Prop := o.1 < 0 ∨ 255 < o.1 ∨ 253 < o.2.length
instance (o : Opt) : Decidable (Opt.odd o) := by unfold Opt.odd; infer_instance
def Opt.bytes (o : Opt) : List UInt8 := [UInt8.ofNat o.1.toNat, UInt8.ofNat (o.2.length + 2)] ++ o.2
def joined (l : List Opt) : List UInt8 := l.flatMap Opt.bytes
def options (l : List Opt) : Nat × List UInt8 := if 32 < l.length then (3, []) else if ∃ o ∈ l, Opt.odd o then (1, []) else (0, joined l)
theorem options_long {l : List Opt} (h : 32 < l.length) : options l = (3, []) := if_pos h
theorem options_odd {l : List Opt} (h : ¬ 32 < l.length) (o : Opt) (ho : o ∈ l) (hodd : Opt.odd o) : options l = (1, []) := by unfold options; rw [if_neg h, if_pos ⟨o, ho, hodd⟩]
theorem options_ok {l : List Opt} (h : ¬ 32 < l.length) (ho : ∀ o ∈ l, ¬ Opt.odd o) : options l = (0, joined l) := by
  unfold options
  rw [if_neg h, if_neg (fun ⟨o, h1, h2⟩ => ho o h1 h2)]
/-- Options read, behind those that were read. -/
def splitGo : Nat → List UInt8 → List Opt → Nat × List Opt
  | 0, _, acc => (0, acc)
  | f + 1, b, acc =>
    if b = [] then (0, acc)
    else if acc.length = 32 then (3, [])
    else if b.length < 2 ∨ (b.getD 1 0).toNat < 2 ∨ b.length < (b.getD 1 0).toNat then (4, [])
    else splitGo f (b.drop (b.getD 1 0).toNat) (acc ++ [(((b.getD 0 0).toNat : Int), (b.drop 2).take ((b.getD 1 0).toNat - 2))])
theorem splitGo_fuel : ∀ (f g : Nat) (b : List UInt8) (acc : List Opt), b.length ≤ f → b.length ≤ g → splitGo f b acc = splitGo g b acc
  | 0, 0, _, _, _, _ => rfl
  | 0, g + 1, b, acc, hf, _ => by
    have : b = [] := List.eq_nil_of_length_eq_zero (by omega)
    subst this; simp [splitGo]
  | f + 1, 0, b, acc, _, hg => by
    have : b = [] := List.eq_nil_of_length_eq_zero (by omega)
    subst this; simp [splitGo]
  | f + 1, g + 1, b, acc, hf, hg => by
    unfold splitGo
    split
    · rfl
    · split
      · rfl
      · split
        · rfl
        · rename_i h
          exact splitGo_fuel f g _ _ (by rw [List.length_drop]; omega) (by rw [List.length_drop]; omega)
def splitFrom (b : List UInt8) (acc : List Opt) : Nat × List Opt := splitGo b.length b acc
theorem splitFrom_nil (acc : List Opt) : splitFrom [] acc = (0, acc) := rfl
theorem splitFrom_cons {b : List UInt8} (acc : List Opt) (hb : b ≠ []) : splitFrom b acc =
    if acc.length = 32 then (3, []) else if b.length < 2 ∨ (b.getD 1 0).toNat < 2 ∨ b.length < (b.getD 1 0).toNat then (4, [])
    else splitFrom (b.drop (b.getD 1 0).toNat) (acc ++ [(((b.getD 0 0).toNat : Int), (b.drop 2).take ((b.getD 1 0).toNat - 2))]) := by
  have h0 : 0 < b.length := List.length_pos_iff.2 hb
  obtain ⟨n, hn⟩ : ∃ n, b.length = n + 1 := ⟨b.length - 1, by omega⟩
  conv => lhs; unfold splitFrom; rw [hn]; unfold splitGo
  rw [if_neg hb]
  split
  · rfl
  · split
    · rfl
    · rename_i h
      exact splitGo_fuel _ _ _ _ (by rw [List.length_drop]; omega) (Nat.le_refl _)
def split (b : List UInt8) : Nat × List Opt := splitFrom b []
theorem splitFrom_full {b : List UInt8} {acc : List Opt} (hb : b ≠ []) (h : acc.length = 32) : splitFrom b acc = (3, []) := by rw [splitFrom_cons acc hb, if_pos h]
theorem splitFrom_bad {b : List UInt8} {acc : List Opt} (hb : b ≠ []) (h : acc.length ≠ 32) (h2 : b.length < 2 ∨ (b.getD 1 0).toNat < 2 ∨ b.length < (b.getD 1 0).toNat) : splitFrom b acc = (4, []) := by rw [splitFrom_cons acc hb, if_neg h, if_pos h2]
theorem splitFrom_step {b : List UInt8} {acc : List Opt} (hb : b ≠ []) (h : acc.length ≠ 32) (h2 : ¬ (b.length < 2 ∨ (b.getD 1 0).toNat < 2 ∨ b.length < (b.getD 1 0).toNat)) :
    splitFrom b acc = splitFrom (b.drop (b.getD 1 0).toNat) (acc ++ [(((b.getD 0 0).toNat : Int), (b.drop 2).take ((b.getD 1 0).toNat - 2))]) := by rw [splitFrom_cons acc hb, if_neg h, if_neg h2]
end Pure
end Go.Proofs.YtjomcffhbaplcaaGreatDoor
/- A slice of options, as a walk meets it. -/
namespace Go.Proofs.YtjomcffhbaplcaaGreatDoor
open Go.RowKit
/-- The cells of options whose bytes lie where the values say. -/
abbrev optCells (ps : List (Value × Pure.Opt)) : List Value := ps.flatMap fun p => [.int .i64 p.2.1, p.1]
theorem optCells_length (ps : List (Value × Pure.Opt)) : (optCells ps).length = ps.length * 2 := by
  induction ps with
  | nil => rfl
  | cons p ps ih => rw [optCells, List.flatMap_cons, List.length_append, ih]; simp; omega
theorem optCells_at (ps : List (Value × Pure.Opt)) (k : Nat) (p : Value × Pure.Opt) (h : ps[k]? = some p) : (optCells ps)[2 * k]? = some (.int .i64 p.2.1) ∧ (optCells ps)[2 * k + 1]? = some p.1 := by
  induction ps generalizing k with
  | nil => simp at h
  | cons q ps ih =>
    rcases k with _ | k
    · simp at h
      subst h
      exact ⟨rfl, rfl⟩
    · have := ih k (by simpa using h)
      rw [optCells, List.flatMap_cons]
      rw [List.getElem?_append_right (by simp; omega), List.getElem?_append_right (by simp; omega)]
      simpa [Nat.mul_add, Nat.add_assoc] using this
/-- A slice of options. -/
structure ORow (w : World) (F : Nat → Prop) (x : Value) (ps : List (Value × Pure.Opt)) : Prop where
  out : Row w F 2 x ps.length (optCells ps)
  rows : ∀ p ∈ ps, Row w F 1 p.1 p.2.2.length (u8s p.2.2)
theorem ORow.keeps {S F : Nat → Prop} {w w' : World} {x : Value} {ps : List (Value × Pure.Opt)} (h : ORow w F x ps) (k : Keeps S w w') (hs : ∀ b, F b → ¬ S b) : ORow w' F x ps :=
  ⟨h.out.keeps k hs, fun p hp => (h.rows p hp).keeps k hs⟩
theorem ORow.mono {F G : Nat → Prop} {w : World} {x : Value} {ps : List (Value × Pure.Opt)} (h : ORow w F x ps) (hG : ∀ b, F b → G b) : ORow w G x ps :=
  ⟨h.out.mono hG, fun p hp => (h.rows p hp).mono hG⟩
theorem ORow.nil (w : World) (F : Nat → Prop) : ORow w F (.slice none 0 0) [] := ⟨Row.nil _ _ _, by simp⟩
/-- A []api.Option that came in. -/
theorem opts_of {w : World} {a : Option Addr} {len cap : Nat} (h : IsStructs w [.int .i64, .row .u8] a len cap) :
    ∃ ps : List (Value × Pure.Opt), ps.length = len ∧ ORow w (fun b => b < w.heap.size) (.slice a len cap) ps ∧ ∀ p ∈ ps, -9223372036854775808 ≤ p.2.1 ∧ p.2.1 ≤ 9223372036854775807 := by
  rcases h with ⟨rfl, rfl, rfl⟩ | ⟨x, rfl, hl, hm, hi⟩
  · exact ⟨[], rfl, ORow.nil _ _, by simp⟩
  · obtain ⟨ps, hpl, hps⟩ := list_choice (P := fun i (d : Value × Pure.Opt) => w.cell? (x.add (i * 2)) = some (.int .i64 d.2.1) ∧ w.cell? (x.add (i * 2 + 1)) = some d.1 ∧ Row w (fun b => b < w.heap.size) 1 d.1 d.2.2.length (u8s d.2.2) ∧ (-9223372036854775808 ≤ d.2.1 ∧ d.2.1 ≤ 9223372036854775807)) len (fun i hil => by
      obtain ⟨u, hu, n, rfl, hn⟩ := hi i hil 0 _ rfl
      obtain ⟨v, hv, a', l', c', zs, rfl, hr⟩ := hi i hil 1 _ rfl
      obtain ⟨bs, hbl, hrow⟩ := hr.bytes
      refine ⟨(.slice a' l' c', n, bs), by simpa using hu, by simpa using hv, ?_, i64_of_wf hn⟩
      rw [← hbl] at hrow ⊢
      exact hrow)
    refine ⟨ps, hpl, ⟨⟨by rw [optCells_length], by omega, some x, cap, by rw [hpl], by omega, by simp, fun h0 => ?_⟩, fun p hp => ?_⟩, fun p hp => ?_⟩
    · have h1 := (hps 0 ps[0] (List.getElem?_eq_getElem h0)).1
      obtain ⟨b, off, rfl⟩ := addr_of_cell h1
      rw [addr_add] at h1
      refine ⟨b, off, rfl, cell_lt h1, fun j u hu => ?_⟩
      have hj : j < ps.length * 2 := by
        have := (List.getElem?_eq_some_iff.1 hu).1
        rwa [optCells_length] at this
      have hk : j / 2 < ps.length := by omega
      obtain ⟨q1, q2, _, _⟩ := hps (j / 2) _ (List.getElem?_eq_getElem hk)
      obtain ⟨o1, o2⟩ := optCells_at ps (j / 2) _ (List.getElem?_eq_getElem hk)
      rcases (show j = 2 * (j / 2) ∨ j = 2 * (j / 2) + 1 by omega) with e | e
      · rw [e, o1] at hu
        injection hu with hu
        subst hu
        rw [addr_add] at q1
        rw [show off + j = off + j / 2 * 2 by omega]
        exact q1
      · rw [e, o2] at hu
        injection hu with hu
        subst hu
        rw [addr_add] at q2
        rw [show off + j = off + (j / 2 * 2 + 1) by omega]
        exact q2
    · obtain ⟨i, hi', rfl⟩ := List.getElem_of_mem hp
      exact (hps i _ (List.getElem?_eq_getElem hi')).2.2.1
    · obtain ⟨i, hi', rfl⟩ := List.getElem_of_mem hp
      exact (hps i _ (List.getElem?_eq_getElem hi')).2.2.2
theorem ORow.form {w : World} {F : Nat → Prop} {x : Value} {ps : List (Value × Pure.Opt)} (h : ORow w F x ps) : ∃ A c, x = .slice A ps.length c ∧ ps.length ≤ c := by
  obtain ⟨_, _, A, c, rfl, hc, _⟩ := h.out
  exact ⟨A, c, rfl, hc⟩
/-- One of its options. -/
theorem ORow.pick {w : World} {F : Nat → Prop} {X : Option Addr} {n cx : Nat} {ps : List (Value × Pure.Opt)} (h : ORow w F (.slice X n cx) ps) (k : Nat) (hk : k < ps.length) :
    ∃ p o A c t bs, X = some ⟨p, o, none⟩ ∧ F p ∧ w.cell? ⟨p, o + k * 2, none⟩ = some (.int .i64 t) ∧ w.cell? ⟨p, o + k * 2 + 1, none⟩ = some (.slice A bs.length c) ∧ Row w F 1 (.slice A bs.length c) bs.length (u8s bs) ∧ ps[k]? = some (.slice A bs.length c, t, bs) := by
  obtain ⟨_, _, A', c', e, _, _, hh⟩ := h.out
  obtain ⟨p, o, rfl, hF, hc⟩ := hh (by omega)
  injection e with e1 _ _
  have hget := List.getElem?_eq_getElem hk
  have hr := h.rows ps[k] (List.getElem_mem hk)
  obtain ⟨A, c, hform, _⟩ := hr.form
  obtain ⟨o1, o2⟩ := optCells_at ps k _ hget
  have c1 := hc _ _ o1
  have c2 := hc _ _ o2
  rw [hform] at c2 hr
  rw [← Nat.add_assoc] at c2
  rw [Nat.mul_comm 2 k] at c1 c2
  refine ⟨p, o, A, c, ps[k].2.1, ps[k].2.2, e1, hF, c1, c2, hr, ?_⟩
  rw [hget, ← hform]
end Go.Proofs.YtjomcffhbaplcaaGreatDoor
