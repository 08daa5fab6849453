/- A slice of rules, as a walk meets it. -/
import Derived.Test.YteajofcdiankiaaQ2
import Derived.Test.YteajofcdiankiaaQ6
import Derived.Test.YteajofcdiankiaaQ10
import Derived.Laws.BytesString
import Derived.Lib.BufferRead
import Derived.Test.YteajofcdiankiaaQ5
namespace Go.Proofs.Yteajofcdiankiaa
open Go.RowKit
/-- The cells of a rule whose bytes lie where the value says. -/
abbrev ruleCells (p : Value × Pure.Rule) : List Value := [.int .i64 p.2.type, .int .i64 p.2.len, .int .i64 p.2.how, .int .i64 p.2.lo, .int .i64 p.2.hi, p.1, .bool p.2.need]
/-- A rule as it is handed by value. -/
abbrev ruleV (p : Value × Pure.Rule) : Value := .agg (ruleCells p).toArray
abbrev rulesCells (ps : List (Value × Pure.Rule)) : List Value := ps.flatMap ruleCells
theorem rulesCells_length (ps : List (Value × Pure.Rule)) : (rulesCells ps).length = ps.length * 7 := flat_length ruleCells 7 (fun _ => rfl) ps
theorem rulesCells_at (ps : List (Value × Pure.Rule)) (k j : Nat) (p : Value × Pure.Rule) (h : ps[k]? = some p) (hj : j < 7) : (rulesCells ps)[k * 7 + j]? = (ruleCells p)[j]? := flat_at ruleCells 7 (fun _ => rfl) ps k j p h hj
/-- A slice of rules. -/
structure RRow (w : World) (F : Nat → Prop) (x : Value) (ps : List (Value × Pure.Rule)) : Prop where
  out : Row w F 7 x ps.length (rulesCells ps)
  rows : ∀ p ∈ ps, Row w F 1 p.1 p.2.want.length (u8s p.2.want)
theorem RRow.keeps {S F : Nat → Prop} {w w' : World} {x : Value} {ps : List (Value × Pure.Rule)} (h : RRow w F x ps) (k : Keeps S w w') (hs : ∀ b, F b → ¬ S b) : RRow w' F x ps :=
  ⟨h.out.keeps k hs, fun p hp => (h.rows p hp).keeps k hs⟩
theorem RRow.mono {F G : Nat → Prop} {w : World} {x : Value} {ps : List (Value × Pure.Rule)} (h : RRow w F x ps) (hG : ∀ b, F b → G b) : RRow w G x ps :=
  ⟨h.out.mono hG, fun p hp => (h.rows p hp).mono hG⟩
theorem RRow.nil (w : World) (F : Nat → Prop) : RRow w F (.slice none 0 0) [] := ⟨Row.nil _ _ _, by simp⟩
def In64 (n : Int) : Prop := -9223372036854775808 ≤ n ∧ n ≤ 9223372036854775807
/-- The numbers of a rule that came in. -/
structure Rule64 (r : Pure.Rule) : Prop where
  type : In64 r.type
  len : In64 r.len
  how : In64 r.how
  lo : In64 r.lo
  hi : In64 r.hi
/-- A []Rule that came in. -/
theorem rules_of {w : World} {a : Option Addr} {len cap : Nat} (h : IsStructs w [.int .i64, .int .i64, .int .i64, .int .i64, .int .i64, .row .u8, .bool] a len cap) :
    ∃ ps : List (Value × Pure.Rule), ps.length = len ∧ RRow w (fun b => b < w.heap.size) (.slice a len cap) ps ∧ ∀ p ∈ ps, Rule64 p.2 := by
  rcases h with ⟨rfl, rfl, rfl⟩ | ⟨x, rfl, hl, hm, hi⟩
  · exact ⟨[], rfl, RRow.nil _ _, by simp⟩
  · obtain ⟨ps, hpl, hps⟩ := list_choice (P := fun i (d : Value × Pure.Rule) => (∀ j u, (ruleCells d)[j]? = some u → w.cell? (x.add (i * 7 + j)) = some u) ∧ Row w (fun b => b < w.heap.size) 1 d.1 d.2.want.length (u8s d.2.want) ∧ Rule64 d.2) len (fun i hil => by
      obtain ⟨u0, h0, n0, rfl, w0⟩ := hi i hil 0 _ rfl
      obtain ⟨u1, h1, n1, rfl, w1⟩ := hi i hil 1 _ rfl
      obtain ⟨u2, h2, n2, rfl, w2⟩ := hi i hil 2 _ rfl
      obtain ⟨u3, h3, n3, rfl, w3⟩ := hi i hil 3 _ rfl
      obtain ⟨u4, h4, n4, rfl, w4⟩ := hi i hil 4 _ rfl
      obtain ⟨u5, h5, a', l', c', zs, rfl, hr⟩ := hi i hil 5 _ rfl
      obtain ⟨u6, h6, b6, rfl⟩ := hi i hil 6 _ rfl
      obtain ⟨bs, hbl, hrow⟩ := hr.bytes
      refine ⟨(.slice a' l' c', ⟨n0, n1, n2, n3, n4, bs, b6⟩), fun j u hu => ?_, ?_, ⟨i64_of_wf w0, i64_of_wf w1, i64_of_wf w2, i64_of_wf w3, i64_of_wf w4⟩⟩
      · match j, hu with
        | 0, hu => cases hu; exact h0
        | 1, hu => cases hu; exact h1
        | 2, hu => cases hu; exact h2
        | 3, hu => cases hu; exact h3
        | 4, hu => cases hu; exact h4
        | 5, hu => cases hu; exact h5
        | 6, hu => cases hu; exact h6
        | j + 7, hu => simp at hu
      · rw [← hbl] at hrow ⊢
        exact hrow)
    refine ⟨ps, hpl, ⟨⟨rulesCells_length ps, by omega, some x, cap, by rw [hpl], by omega, by simp, fun hz => ?_⟩, fun p hp => ?_⟩, fun p hp => ?_⟩
    · have h1 := (hps 0 ps[0] (List.getElem?_eq_getElem hz)).1 0 _ rfl
      obtain ⟨b, off, rfl⟩ := addr_of_cell h1
      rw [addr_add] at h1
      refine ⟨b, off, rfl, cell_lt h1, fun j u hu => ?_⟩
      have hj : j < ps.length * 7 := by
        have := (List.getElem?_eq_some_iff.1 hu).1
        rwa [rulesCells_length] at this
      have hk : j / 7 < ps.length := by omega
      have q := (hps (j / 7) _ (List.getElem?_eq_getElem hk)).1 (j % 7)
      have o := rulesCells_at ps (j / 7) (j % 7) _ (List.getElem?_eq_getElem hk) (by omega)
      rw [show j / 7 * 7 + j % 7 = j by omega] at o q
      rw [hu] at o
      have := q u o.symm
      rwa [addr_add] at this
    · obtain ⟨i, hi', rfl⟩ := List.getElem_of_mem hp
      exact (hps i _ (List.getElem?_eq_getElem hi')).2.1
    · obtain ⟨i, hi', rfl⟩ := List.getElem_of_mem hp
      exact (hps i _ (List.getElem?_eq_getElem hi')).2.2
theorem RRow.form {w : World} {F : Nat → Prop} {x : Value} {ps : List (Value × Pure.Rule)} (h : RRow w F x ps) : ∃ A c, x = .slice A ps.length c ∧ ps.length ≤ c := by
  obtain ⟨_, _, A, c, rfl, hc, _⟩ := h.out
  exact ⟨A, c, rfl, hc⟩
/-- One of its rules: its seven cells, and its bytes. -/
theorem RRow.pick {w : World} {F : Nat → Prop} {X : Option Addr} {n cx : Nat} {ps : List (Value × Pure.Rule)} (h : RRow w F (.slice X n cx) ps) (k : Nat) (hk : k < ps.length) :
    ∃ p o A c r, X = some ⟨p, o, none⟩ ∧ F p ∧ (∀ j u, (ruleCells (.slice A r.want.length c, r))[j]? = some u → w.cell? ⟨p, o + k * 7 + j, none⟩ = some u) ∧ Row w F 1 (.slice A r.want.length c) r.want.length (u8s r.want) ∧ ps[k]? = some (.slice A r.want.length c, r) := by
  obtain ⟨_, _, A', c', e, _, _, hh⟩ := h.out
  obtain ⟨p, o, rfl, hF, hc⟩ := hh (by omega)
  injection e with e1 _ _
  have hget := List.getElem?_eq_getElem hk
  have hr := h.rows ps[k] (List.getElem_mem hk)
  obtain ⟨A, c, hform, _⟩ := hr.form
  refine ⟨p, o, A, c, ps[k].2, e1, hF, fun j u hu => ?_, by rw [← hform]; exact hr, by rw [hget, ← hform]⟩
  rw [← hform] at hu
  have hj : j < 7 := (List.getElem?_eq_some_iff.1 hu).1
  rw [Nat.add_assoc]
  exact hc (k * 7 + j) u ((rulesCells_at ps k j _ hget hj).trans hu)
end Go.Proofs.Yteajofcdiankiaa
/- Contracts of package bytes: Clone, Equal. -/
namespace Go.Proofs.Yteajofcdiankiaa
open Go.RowKit

set_option maxHeartbeats 400000 in
theorem bclone_any (F : Nat → Prop) (x : Value) (n : Nat) (l : List UInt8) (w : World) (hr : Row w F 1 x n (u8s l)) (hn : n ≤ 140737488355328) :
    Calls Try.prog 52 #[x] w fun e w' => ∃ v, e = .returned v ∧ w'.ownsRow w.heap.size 5 1 v n (u8s l) ∧ Below w.heap.size w w' := by
  obtain ⟨i0, hi0, hz0, hz1, hz2⟩ := info_parts u8_info
  have hr' := hr
  obtain ⟨hl, hm, A, c, rfl, hc, hA, hcell⟩ := hr
  rcases A with _ | ad
  · obtain rfl := hA rfl
    have hl0 : u8s l = [] := List.eq_nil_of_length_eq_zero (by simpa using hl)
    clear hcell hA hl
    have hq := fun (W : World) => Lib.run_eql_slice_nil (P := Try.prog) W 30 5 none 0 c 0 0 Try.underlying30
    go_enter Try.func52, Try.ntmps52
    go_wp2
    go_ret
    refine ⟨_, rfl, ⟨by rw [hl0]; rfl, .inl ⟨rfl, rfl⟩⟩, Below.refl _ _⟩
  · have HL := Lib.hid hl
    have hbw : Row (w.alloc (.cells #[] 5)) F 1 (.slice (some ad) n c) n (u8s l) :=
      hr'.cellsOf fun b off u _ hu => (World.cell?_alloc_lt w _ ⟨b, off, none⟩ (cell_lt hu)).trans hu
    clear hl hcell hA hr'
    have hq := fun (W : World) => Lib.run_eql_slice_nil (P := Try.prog) W 30 5 (some ad) n c 0 0 Try.underlying30
    go_enter Try.func52, Try.ntmps52
    go_wp2_with (at_builtin; refine stopHere ?_)
    unfold Hid
    refine wpList_append_row rfl (.tmp 5) (.tmp 6) _ rfl w.heap.size 5 i0 _ 1 1 Try.underlying30 hi0 hz0 hz1 hz2 rfl (by omega) (.slice (some ⟨w.heap.size, 0, none⟩) 0 0) 0 []
      rfl (ownsRow_made _ _ _ _ (Nat.le_refl _)) F _ n (u8s l) rfl hbw (u8s_cells l) (by omega) (by omega) (by simp) ?_
    intro v1 w1 hown1 hg1 hat1
    go_wp2
    go_ret
    refine ⟨v1, rfl, by simpa using hown1, ((Below.refl _ _).alloc (Nat.le_refl _) _).grown hg1 (by simp) ?_⟩
    intro k hk
    simp [Value.ownBlock] at hk
    omega
theorem push_all : ∀ (l : List UInt8) (s : ByteArray), (l.map fun b => (b.toNat : Int)).foldl (fun r n => r.push (UInt8.ofNat n.toNat)) s = ⟨s.data ++ l.toArray⟩
  | [], s => by simp
  | x :: l, s => by
    rw [List.map_cons, List.foldl_cons, push_all l]
    simp [ByteArray.push]
/-- Bytes as a string. -/
theorem row_string {F : Nat → Prop} {A : Option Addr} {n c : Nat} {l : List UInt8} {w : World} (h : Row w F 1 (.slice A n c) n (u8s l)) :
    (convert 30 9 (.slice A n c)).run Try.prog w = .ok (.string ⟨l.toArray⟩) w := by
  have hl := h.1
  have hln : n = l.length := by simpa using hl.symm
  rcases A with _ | a
  · have h0 : n = 0 := by
      obtain ⟨_, _, A', c', e, _, _, hh⟩ := h
      rcases Nat.eq_zero_or_pos n with h0 | h0
      · exact h0
      · obtain ⟨b, off, rfl, _⟩ := hh h0
        injection e with e1
        cases e1
    subst h0
    have : l = [] := List.eq_nil_of_length_eq_zero hln.symm
    subst this
    exact Lib.run_convert_nil_bytes w 30 9 5 c Try.underlying30 Try.underlying5 Try.underlying9
  · rw [run_convert_bytes_string w 30 9 5 _ n c Try.underlying30 Try.underlying5 Try.underlying9]
    have hlc : (loadCells a n).run Try.prog w = .ok (u8s l).toArray w := by
      have := run_loadCells_list (P := Try.prog) (w := w) a (u8s l) (fun j v hj => by
        have hj' : j < l.length := by simpa using (List.getElem?_eq_some_iff.1 hj).1
        obtain ⟨b, off, e, _, hc⟩ := h.cellAt (by omega)
        injection e with e
        subst e
        rw [addr_add]
        exact hc j v hj)
      rw [hln]
      simpa using this
    rw [run_bytesToString w a n c (l.map fun b => (b.toNat : Int)) (by rw [hlc]; simp [u8s])]
    rw [push_all]
    simp
set_option maxHeartbeats 400000 in
theorem bequal_any (F G : Nat → Prop) (x y : Value) (n m : Nat) (a b : List UInt8) (w : World) (hx : Row w F 1 x n (u8s a)) (hy : Row w G 1 y m (u8s b)) :
    Calls Try.prog 59 #[x, y] w fun e w' => e = .returned (.bool (decide (a = b))) ∧ w = w' := by
  obtain ⟨A, cA, rfl, _⟩ := hx.form
  obtain ⟨B, cB, rfl, _⟩ := hy.form
  have h1 := row_string hx
  have h2 := row_string hy
  have HB := Lib.hid (show (a == b) = decide (a = b) by rw [Bool.eq_iff_iff]; simp)
  clear hx hy
  go_enter Try.func59, Try.ntmps59
  go_wp2
  go_ret
  exact ⟨by rw [← HB.out]; rfl, rfl⟩
end Go.Proofs.Yteajofcdiankiaa
/- Package slices' IndexFunc over options, ContainsFunc. -/
namespace Go.Proofs.Yteajofcdiankiaa
open Go.RowKit
/-- Where the first one lies that meets p, or -1. -/
def Place {α : Type} (p : α → Bool) (l : List α) (i : Int) : Prop :=
  (i = -1 ∧ ∀ x ∈ l, p x = false) ∨ ∃ (k : Nat) (x : α), i = (k : Int) ∧ l[k]? = some x ∧ p x = true ∧ ∀ y ∈ l.take k, p y = false
/-- What a call answers that looks for a place. -/
def Placed {α : Type} (w : World) (e : Ending) (w' : World) (p : α → Bool) (l : List α) : Prop := ∃ i, e = .returned (.int .i64 i) ∧ Place p l i ∧ Keeps nobody w w'
theorem Place.lt {α : Type} {p : α → Bool} {l : List α} {i : Int} (h : Place p l i) : -1 ≤ i ∧ i < (l.length : Int) ∨ i = -1 := by
  rcases h with ⟨rfl, _⟩ | ⟨k, x, rfl, hk, _⟩
  · exact .inr rfl
  · have := (List.getElem?_eq_some_iff.1 hk).1
    exact .inl (by omega)
theorem Place.neg {α : Type} {p : α → Bool} {l : List α} {i : Int} (h : Place p l i) : decide (i < 0) = !l.any p := by
  rcases h with ⟨rfl, h⟩ | ⟨k, x, rfl, hk, hp, _⟩
  · have : l.any p = false := by rw [List.any_eq_false]; intro x hx; simp [h x hx]
    rw [this]; rfl
  · have : l.any p = true := List.any_eq_true.2 ⟨x, List.mem_of_getElem? hk, hp⟩
    rw [this, decide_eq_false (by omega)]; rfl
theorem Place.any {α : Type} {p : α → Bool} {l : List α} {i : Int} (h : Place p l i) : decide (0 ≤ i) = l.any p := by
  have := h.neg
  rcases h with ⟨rfl, h⟩ | ⟨k, x, rfl, _⟩
  · cases ha : l.any p
    · rfl
    · rw [ha] at this; simp at this
  · cases ha : l.any p
    · rw [ha] at this
      have := of_decide_eq_true this
      omega
    · exact decide_eq_true (by omega)
/-- Is there one ahead of place k, where one lies? -/
theorem Place.before {α : Type} {p : α → Bool} {l : List α} {i : Int} (h : Place p l i) (k : Nat) (x : α) (hk : l[k]? = some x) (hx : p x = true) : decide (i < (k : Int)) = (l.take k).any p := by
  rcases h with ⟨rfl, h⟩ | ⟨j, y, rfl, hj, hy, hno⟩
  · have := h x (List.mem_of_getElem? hk)
    rw [hx] at this
    cases this
  · by_cases hjk : j < k
    · rw [decide_eq_true (by omega)]
      symm
      rw [List.any_eq_true]
      exact ⟨y, List.mem_of_getElem? (show (l.take k)[j]? = some y by rw [List.getElem?_take, if_pos hjk]; exact hj), hy⟩
    · rw [decide_eq_false (by omega)]
      symm
      rw [List.any_eq_false]
      intro z hz
      have hz' : z ∈ l.take j := by
        have e : l.take k = (l.take j).take k := by rw [List.take_take, Nat.min_eq_left (by omega)]
        rw [e] at hz
        exact List.mem_of_mem_take hz
      simp [hno z hz']
theorem Place.find {α : Type} {p : α → Bool} {l : List α} {i : Int} (h : Place p l i) : (i = -1 ∧ l.find? p = none) ∨ ∃ (k : Nat) (x : α), i = (k : Int) ∧ k < l.length ∧ l[k]? = some x ∧ l.find? p = some x := by
  rcases h with ⟨rfl, h⟩ | ⟨j, y, rfl, hj, hy, hno⟩
  · exact .inl ⟨rfl, by rw [List.find?_eq_none]; intro x hx; simp [h x hx]⟩
  · refine .inr ⟨j, y, rfl, (List.getElem?_eq_some_iff.1 hj).1, hj, ?_⟩
    have hs : l = (l.take j ++ [y]) ++ l.drop (j + 1) := by rw [← Pure.take_snoc l j y hj, List.take_append_drop]
    have h0 : (l.take j).find? p = none := by
      rw [List.find?_eq_none]
      intro x hx
      simp [hno x hx]
    rw [hs, List.find?_append, List.find?_append, h0]
    simp [hy]
set_option maxRecDepth 100000 in
set_option maxHeartbeats 4000000 in
theorem indexOpts_any (F : Nat → Prop) (x : Value) (ps : List (Value × Pure.Opt)) (n : Nat) (cap : Value) (p : Pure.Opt → Bool) (w : World) (hx : ORow w F x ps) (hn : ∀ args w, Sem.run Try.prog (callFunc n args) w = .ok (.enter n args) w)
    (hf : ∀ q ∈ ps, ∀ w', Keeps nobody w w' → Calls Try.prog n #[optV q, cap] w' fun e w'' => e = .returned (.bool (p q.2)) ∧ Keeps nobody w' w'') :
    Calls Try.prog 50 #[x, .func (.func n) #[] #[cap]] w fun e w' => Placed w e w' p (optsOf ps) := by
  obtain ⟨A, cA, rfl, hc⟩ := hx.form
  have hm := hx.out.2.1
  unfold maxLen at hm
  have HX := Lib.hid hx
  have HF := Lib.hid hf
  clear hx hf
  go_enter Try.func50, Try.ntmps50
  go_wp2_with fail
  go_loopw [8] (fun i wr => ∃ k : Nat, k ≤ ps.length ∧ i = .int .i64 (k : Int) ∧ (∀ y ∈ (optsOf ps).take k, p y = false) ∧ Keeps nobody w wr) (fun i _ => ps.length - (intOf i).toNat)
  case atStart => exact ⟨0, by omega, rfl, by simp, Keeps.refl _ _⟩
  case round =>
    obtain ⟨k, hk, rfl, hT, hK⟩ := hrel
    have HT := Lib.hid hT
    have HK := Lib.hid hK
    by_cases hkl : k < ps.length
    · have i0 : (0 : Int) ≤ (k : Int) := by omega
      have i1 : (k : Int) < (ps.length : Int) := by omega
      obtain ⟨b, o, A1, c1, s, la, rfl, hFp, x0, x1, hra, hpa⟩ := (HX.out.keeps hK (fun _ _ h => h)).pick k hkl
      have HC := Lib.hid (HF.out _ (List.mem_of_getElem? hpa) wr hK)
      have HPA := Lib.hid (show (optsOf ps)[k]? = some (s, la) by rw [List.getElem?_map, hpa]; rfl)
      obtain ⟨r, hr⟩ : ∃ r, r = p (s, la) := ⟨_, rfl⟩
      have HC := Lib.hid (hr ▸ HC.out)
      have HR := Lib.hid hr
      clear hT hK hra hpa hr
      go_wp2_with fail
      refine HC.out.mono ?_
      rintro e w1 ⟨rfl, hk1⟩
      have HK1 := Lib.hid (HK.out.trans hk1)
      clear HC hk1 x0 x1
      cases r
      · have HT2 := Lib.hid (show ∀ y ∈ (optsOf ps).take (k + 1), p y = false by
          rw [Pure.take_snoc _ k _ HPA.out]
          intro y hy
          rcases List.mem_append.1 hy with hy | hy
          · exact HT.out y hy
          · rw [List.mem_singleton.1 hy]; exact HR.out.symm)
        clear HT
        go_wp2_with fail
        go_roundw
        case rel => exact ⟨k + 1, by omega, by go_num, HT2.out, HK1.out⟩
        case measure => simp [intOf]; omega
      · go_wp2_with fail
        go_ret
        exact ⟨_, rfl, .inr ⟨k, (s, la), rfl, HPA.out, HR.out.symm, HT.out⟩, HK1.out⟩
    · have hkk : k = ps.length := by omega
      have HN := Lib.hid (show ∀ y ∈ optsOf ps, p y = false by
        have h := HT.out
        rwa [List.take_of_length_le (by simp; omega)] at h)
      subst hkk
      clear hkl hk hT HT hK
      go_wp2
      go_ret
      exact ⟨_, rfl, .inl ⟨rfl, HN.out⟩, HK.out⟩
set_option maxHeartbeats 2000000 in
theorem containsOpts_any (F : Nat → Prop) (x : Value) (ps : List (Value × Pure.Opt)) (n : Nat) (cap : Value) (p : Pure.Opt → Bool) (w : World) (hx : ORow w F x ps) (hn : ∀ args w, Sem.run Try.prog (callFunc n args) w = .ok (.enter n args) w)
    (hf : ∀ q ∈ ps, ∀ w', Keeps nobody w w' → Calls Try.prog n #[optV q, cap] w' fun e w'' => e = .returned (.bool (p q.2)) ∧ Keeps nobody w' w'') :
    Calls Try.prog 57 #[x, .func (.func n) #[] #[cap]] w fun e w' => e = .returned (.bool ((optsOf ps).any p)) ∧ Keeps nobody w w' := by
  have HI := Lib.hid (indexOpts_any F x ps n cap p w hx hn hf)
  clear hx hf hn
  go_enter Try.func57, Try.ntmps57
  go_wp2_with fail
  refine HI.out.mono ?_
  rintro e w1 ⟨i, rfl, hp, hk⟩
  have HA := Lib.hid hp.any
  have HK := Lib.hid hk
  clear hp hk HI
  go_wp2_with fail
  go_ret
  exact ⟨by rw [← HA.out]; rfl, HK.out⟩
end Go.Proofs.Yteajofcdiankiaa
