/- Package slices' IndexFunc over options, ContainsFunc. -/
import Derived.Test.YtjomcffhbaplcaaQ8
import Derived.Test.YtjomcffhbaplcaaQ4
namespace Go.Proofs.Ytjomcffhbaplcaa
open Go.RowKit
/-- Where the first one lies that meets p, or -1. -/
def Place {α : Type} (p : α → Bool) (l : List α) (i : Int) : Prop :=
  (i = -1 ∧ ∀ x ∈ l, p x = false) ∨ ∃ (k : Nat) (x : α), i = (k : Int) ∧ l[k]? = some x ∧ p x = true ∧ ∀ y ∈ l.take k, p y = false
/-- What a call answers that looks for a place. -/
def Placed {α : Type} (w : World) (e : Ending) (w' : World) (p : α → Bool) (l : List α) : Prop := ∃ i, e = .returned (.int .i64 i) ∧ Place p l i ∧ Keeps nobody w w'
theorem Place.lt {α : Type} {p : α → Bool} {l : List α} {i : Int} (h : Place p l i) : -1 ≤ i ∧ i < (l.length : Int) ∨ i = -1 := by
  rcases h with ⟨rfl, _⟩ | ⟨k, x, rfl, hk, _⟩
  · exact .inr rfl
  · have := (List.getElem?_eq_some_iff.1 hk).1
    exact .inl (by omega)
theorem Place.neg {α : Type} {p : α → Bool} {l : List α} {i : Int} (h : Place p l i) : decide (i < 0) = !l.any p := by
  rcases h with ⟨rfl, h⟩ | ⟨k, x, rfl, hk, hp, _⟩
  · have : l.any p = false := by rw [List.any_eq_false]; intro x hx; simp [h x hx]
    rw [this]; rfl
  · have : l.any p = true := List.any_eq_true.2 ⟨x, List.mem_of_getElem? hk, hp⟩
    rw [this, decide_eq_false (by omega)]; rfl
theorem Place.any {α : Type} {p : α → Bool} {l : List α} {i : Int} (h : Place p l i) : decide (0 ≤ i) = l.any p := by
  have := h.neg
  rcases h with ⟨rfl, h⟩ | ⟨k, x, rfl, _⟩
  · cases ha : l.any p
    · rfl
    · rw [ha] at this; simp at this
  · cases ha : l.any p
    · rw [ha] at this
      have := of_decide_eq_true this
      omega
    · exact decide_eq_true (by omega)
/-- Is there one ahead of place k, where one lies? -/
theorem Place.before {α : Type} {p : α → Bool} {l : List α} {i : Int} (h : Place p l i) (k : Nat) (x : α) (hk : l[k]? = some x) (hx : p x = true) : decide (i < (k : Int)) = (l.take k).any p := by
  rcases h with ⟨rfl, h⟩ | ⟨j, y, rfl, hj, hy, hno⟩
  · have := h x (List.mem_of_getElem? hk)
    rw [hx] at this
    cases this
  · by_cases hjk : j < k
    · rw [decide_eq_true (by omega)]
      symm
      rw [List.any_eq_true]
      exact ⟨y, List.mem_of_getElem? (show (l.take k)[j]? = some y by rw [List.getElem?_take, if_pos hjk]; exact hj), hy⟩
    · rw [decide_eq_false (by omega)]
      symm
      rw [List.any_eq_false]
      intro z hz
      have hz' : z ∈ l.take j := by
        have e : l.take k = (l.take j).take k := by rw [List.take_take, Nat.min_eq_left (by omega)]
        rw [e] at hz
        exact List.mem_of_mem_take hz
      simp [hno z hz']
theorem Place.find {α : Type} {p : α → Bool} {l : List α} {i : Int} (h : Place p l i) : (i = -1 ∧ l.find? p = none) ∨ ∃ (k : Nat) (x : α), i = (k : Int) ∧ k < l.length ∧ l[k]? = some x ∧ l.find? p = some x := by
  rcases h with ⟨rfl, h⟩ | ⟨j, y, rfl, hj, hy, hno⟩
  · exact .inl ⟨rfl, by rw [List.find?_eq_none]; intro x hx; simp [h x hx]⟩
  · refine .inr ⟨j, y, rfl, (List.getElem?_eq_some_iff.1 hj).1, hj, ?_⟩
    have hs : l = (l.take j ++ [y]) ++ l.drop (j + 1) := by rw [← Pure.take_snoc l j y hj, List.take_append_drop]
    have h0 : (l.take j).find? p = none := by
      rw [List.find?_eq_none]
      intro x hx
      simp [hno x hx]
    rw [hs, List.find?_append, List.find?_append, h0]
    simp [hy]
set_option maxRecDepth 100000 in
set_option maxHeartbeats 4000000 in
theorem indexOpts_any (F : Nat → Prop) (x : Value) (ps : List (Value × Pure.Opt)) (n : Nat) (cap : Value) (p : Pure.Opt → Bool) (w : World) (hx : ORow w F x ps) (hn : ∀ args w, Sem.run Try.prog (callFunc n args) w = .ok (.enter n args) w)
    (hf : ∀ q ∈ ps, ∀ w', Keeps nobody w w' → Calls Try.prog n #[optV q, cap] w' fun e w'' => e = .returned (.bool (p q.2)) ∧ Keeps nobody w' w'') :
    Calls Try.prog 51 #[x, .func (.func n) #[] #[cap]] w fun e w' => Placed w e w' p (optsOf ps) := by
  obtain ⟨A, cA, rfl, hc⟩ := hx.form
  have hm := hx.out.2.1
  unfold maxLen at hm
  have HX := Lib.hid hx
  have HF := Lib.hid hf
  clear hx hf
  go_enter Try.func51, Try.ntmps51
  go_wp2_with fail
  go_loopw [8] (fun i wr => ∃ k : Nat, k ≤ ps.length ∧ i = .int .i64 (k : Int) ∧ (∀ y ∈ (optsOf ps).take k, p y = false) ∧ Keeps nobody w wr) (fun i _ => ps.length - (intOf i).toNat)
  case atStart => exact ⟨0, by omega, rfl, by simp, Keeps.refl _ _⟩
  case round =>
    obtain ⟨k, hk, rfl, hT, hK⟩ := hrel
    have HT := Lib.hid hT
    have HK := Lib.hid hK
    by_cases hkl : k < ps.length
    · have i0 : (0 : Int) ≤ (k : Int) := by omega
      have i1 : (k : Int) < (ps.length : Int) := by omega
      obtain ⟨b, o, A1, c1, s, la, rfl, hFp, x0, x1, hra, hpa⟩ := (HX.out.keeps hK (fun _ _ h => h)).pick k hkl
      have HC := Lib.hid (HF.out _ (List.mem_of_getElem? hpa) wr hK)
      have HPA := Lib.hid (show (optsOf ps)[k]? = some (s, la) by rw [List.getElem?_map, hpa]; rfl)
      obtain ⟨r, hr⟩ : ∃ r, r = p (s, la) := ⟨_, rfl⟩
      have HC := Lib.hid (hr ▸ HC.out)
      have HR := Lib.hid hr
      clear hT hK hra hpa hr
      go_wp2_with fail
      refine HC.out.mono ?_
      rintro e w1 ⟨rfl, hk1⟩
      have HK1 := Lib.hid (HK.out.trans hk1)
      clear HC hk1 x0 x1
      cases r
      · have HT2 := Lib.hid (show ∀ y ∈ (optsOf ps).take (k + 1), p y = false by
          rw [Pure.take_snoc _ k _ HPA.out]
          intro y hy
          rcases List.mem_append.1 hy with hy | hy
          · exact HT.out y hy
          · rw [List.mem_singleton.1 hy]; exact HR.out.symm)
        clear HT
        go_wp2_with fail
        go_roundw
        case rel => exact ⟨k + 1, by omega, by go_num, HT2.out, HK1.out⟩
        case measure => simp [intOf]; omega
      · go_wp2_with fail
        go_ret
        exact ⟨_, rfl, .inr ⟨k, (s, la), rfl, HPA.out, HR.out.symm, HT.out⟩, HK1.out⟩
    · have hkk : k = ps.length := by omega
      have HN := Lib.hid (show ∀ y ∈ optsOf ps, p y = false by
        have h := HT.out
        rwa [List.take_of_length_le (by simp; omega)] at h)
      subst hkk
      clear hkl hk hT HT hK
      go_wp2
      go_ret
      exact ⟨_, rfl, .inl ⟨rfl, HN.out⟩, HK.out⟩
set_option maxHeartbeats 2000000 in
theorem containsOpts_any (F : Nat → Prop) (x : Value) (ps : List (Value × Pure.Opt)) (n : Nat) (cap : Value) (p : Pure.Opt → Bool) (w : World) (hx : ORow w F x ps) (hn : ∀ args w, Sem.run Try.prog (callFunc n args) w = .ok (.enter n args) w)
    (hf : ∀ q ∈ ps, ∀ w', Keeps nobody w w' → Calls Try.prog n #[optV q, cap] w' fun e w'' => e = .returned (.bool (p q.2)) ∧ Keeps nobody w' w'') :
    Calls Try.prog 58 #[x, .func (.func n) #[] #[cap]] w fun e w' => e = .returned (.bool ((optsOf ps).any p)) ∧ Keeps nobody w w' := by
  have HI := Lib.hid (indexOpts_any F x ps n cap p w hx hn hf)
  clear hx hf hn
  go_enter Try.func58, Try.ntmps58
  go_wp2_with fail
  refine HI.out.mono ?_
  rintro e w1 ⟨i, rfl, hp, hk⟩
  have HA := Lib.hid hp.any
  have HK := Lib.hid hk
  clear hp hk HI
  go_wp2_with fail
  go_ret
  exact ⟨by rw [← HA.out]; rfl, HK.out⟩
end Go.Proofs.Ytjomcffhbaplcaa
/- Package slices' IndexFunc over rules; package nego: find, findRule, has. -/
namespace Go.Proofs.Ytjomcffhbaplcaa
open Go.RowKit
abbrev rulesOf (ps : List (Value × Pure.Rule)) : List Pure.Rule := ps.map Prod.snd
set_option maxRecDepth 100000 in
set_option maxHeartbeats 4000000 in
theorem indexRules_any (F : Nat → Prop) (x : Value) (ps : List (Value × Pure.Rule)) (n : Nat) (cap : Value) (p : Pure.Rule → Bool) (w : World) (hx : RRow w F x ps) (hn : ∀ args w, Sem.run Try.prog (callFunc n args) w = .ok (.enter n args) w)
    (hf : ∀ q ∈ ps, ∀ w', Keeps nobody w w' → Calls Try.prog n #[ruleV q, cap] w' fun e w'' => e = .returned (.bool (p q.2)) ∧ Keeps nobody w' w'') :
    Calls Try.prog 72 #[x, .func (.func n) #[] #[cap]] w fun e w' => Placed w e w' p (rulesOf ps) := by
  obtain ⟨A, cA, rfl, hc⟩ := hx.form
  have hm := hx.out.2.1
  unfold maxLen at hm
  have HX := Lib.hid hx
  have HF := Lib.hid hf
  clear hx hf
  go_enter Try.func72, Try.ntmps72
  go_wp2_with fail
  go_loopw [8] (fun i wr => ∃ k : Nat, k ≤ ps.length ∧ i = .int .i64 (k : Int) ∧ (∀ y ∈ (rulesOf ps).take k, p y = false) ∧ Keeps nobody w wr) (fun i _ => ps.length - (intOf i).toNat)
  case atStart => exact ⟨0, by omega, rfl, by simp, Keeps.refl _ _⟩
  case round =>
    obtain ⟨k, hk, rfl, hT, hK⟩ := hrel
    have HT := Lib.hid hT
    have HK := Lib.hid hK
    by_cases hkl : k < ps.length
    · have i0 : (0 : Int) ≤ (k : Int) := by omega
      have i1 : (k : Int) < (ps.length : Int) := by omega
      obtain ⟨b, o, A1, c1, r0, rfl, hFp, hcell, hra, hpa⟩ := (HX.out.keeps hK (fun _ _ h => h)).pick k hkl
      have x0 : wr.cell? ⟨b, o + k * 7, none⟩ = some (.int .i64 r0.type) := hcell 0 _ rfl
      have x1 := hcell 1 _ rfl
      have x2 := hcell 2 _ rfl
      have x3 := hcell 3 _ rfl
      have x4 := hcell 4 _ rfl
      have x5 := hcell 5 _ rfl
      have x6 := hcell 6 _ rfl
      have HC := Lib.hid (HF.out _ (List.mem_of_getElem? hpa) wr hK)
      have HPA := Lib.hid (show (rulesOf ps)[k]? = some r0 by rw [List.getElem?_map, hpa]; rfl)
      obtain ⟨r, hr⟩ : ∃ r, r = p r0 := ⟨_, rfl⟩
      have HC := Lib.hid (hr ▸ HC.out)
      have HR := Lib.hid hr
      clear hT hK hra hpa hr hcell
      go_wp2_with fail
      refine HC.out.mono ?_
      rintro e w1 ⟨rfl, hk1⟩
      have HK1 := Lib.hid (HK.out.trans hk1)
      clear HC hk1 x0 x1 x2 x3 x4 x5 x6
      cases r
      · have HT2 := Lib.hid (show ∀ y ∈ (rulesOf ps).take (k + 1), p y = false by
          rw [Pure.take_snoc _ k _ HPA.out]
          intro y hy
          rcases List.mem_append.1 hy with hy | hy
          · exact HT.out y hy
          · rw [List.mem_singleton.1 hy]; exact HR.out.symm)
        clear HT
        go_wp2_with fail
        go_roundw
        case rel => exact ⟨k + 1, by omega, by go_num, HT2.out, HK1.out⟩
        case measure => simp [intOf]; omega
      · go_wp2_with fail
        go_ret
        exact ⟨_, rfl, .inr ⟨k, r0, rfl, HPA.out, HR.out.symm, HT.out⟩, HK1.out⟩
    · have hkk : k = ps.length := by omega
      have HN := Lib.hid (show ∀ y ∈ rulesOf ps, p y = false by
        have h := HT.out
        rwa [List.take_of_length_le (by simp; omega)] at h)
      subst hkk
      clear hkl hk hT HT hK
      go_wp2
      go_ret
      exact ⟨_, rfl, .inl ⟨rfl, HN.out⟩, HK.out⟩
/-- A call of a function that has a body. -/
theorem run_enter {P : Program} {f : FuncId} {fn : Func} {c : Code} (hf : P.funcs[f]? = some fn) (hname : (fn.name == "runtime.NumGoroutine") = false) (hb : fn.body = some c) (args : Array Value) (w : World) :
    Sem.run P (callFunc f args) w = .ok (.enter f args) w := by
  have h1 : fn.name ≠ "runtime.NumGoroutine" := by simpa using hname
  simp [callFunc, hf, h1, hb]
theorem run_find1 (args : Array Value) (w : World) : Sem.run Try.prog (callFunc 52 args) w = .ok (.enter 52 args) w := run_enter Try.func52 (by kernel_rfl) rfl args w
theorem run_find2 (args : Array Value) (w : World) : Sem.run Try.prog (callFunc 73 args) w = .ok (.enter 73 args) w := run_enter Try.func73 (by kernel_rfl) rfl args w
theorem run_has1 (args : Array Value) (w : World) : Sem.run Try.prog (callFunc 59 args) w = .ok (.enter 59 args) w := run_enter Try.func59 (by kernel_rfl) rfl args w
theorem find1_any (q : Value × Pure.Opt) (g : Nat) (t : Int) (w : World) (hg : w.cell? ⟨g, 0, none⟩ = some (.int .i64 t)) :
    Calls Try.prog 52 #[optV q, .pointer (some ⟨g, 0, none⟩)] w fun e w' => e = .returned (.bool (decide (q.2.1 = t))) ∧ Keeps nobody w w' := by
  obtain ⟨v, s, l⟩ := q
  have hg' : ∀ o, (w.alloc o).cell? ⟨g, 0, none⟩ = some (.int .i64 t) := fun o => opt_later hg
  clear hg
  go_enter Try.func52, Try.ntmps52
  go_wp2_with fail
  go_ret
  exact ⟨rfl, (Keeps.refl nobody w).alloc _⟩
theorem find2_any (q : Value × Pure.Rule) (g : Nat) (t : Int) (w : World) (hg : w.cell? ⟨g, 0, none⟩ = some (.int .i64 t)) :
    Calls Try.prog 73 #[ruleV q, .pointer (some ⟨g, 0, none⟩)] w fun e w' => e = .returned (.bool (decide (q.2.type = t))) ∧ Keeps nobody w w' := by
  obtain ⟨v, r⟩ := q
  have hg' : ∀ o, (w.alloc o).cell? ⟨g, 0, none⟩ = some (.int .i64 t) := fun o => opt_later hg
  clear hg
  go_enter Try.func73, Try.ntmps73
  go_wp2_with fail
  go_ret
  exact ⟨rfl, (Keeps.refl nobody w).alloc _⟩
/-- A new box. -/
theorem box_cell (w : World) (v : Value) (t : TypeId) : (w.alloc (.cells #[v] t)).cell? ⟨w.heap.size, 0, none⟩ = some v := by rw [(Blk.new w t #[v]).cell]; rfl
set_option maxHeartbeats 2000000 in
theorem find_any (F : Nat → Prop) (x : Value) (ps : List (Value × Pure.Opt)) (t : Int) (w : World) (hx : ORow w F x ps) :
    Calls Try.prog 31 #[x, .int .i64 t] w fun e w' => Placed w e w' (fun o => decide (o.1 = t)) (optsOf ps) := by
  have hc := box_cell w (.int .i64 t) 3
  have hk := (Keeps.refl nobody w).alloc (.cells #[.int .i64 t] 3)
  have HI := Lib.hid (indexOpts_any F x ps 52 (.pointer (some ⟨w.heap.size, 0, none⟩)) (fun o => decide (o.1 = t)) (w.alloc (.cells #[.int .i64 t] 3)) (hx.keeps hk (fun _ _ h => h)) run_find1
    (fun q _ w' k => find1_any q _ t w' (cell_quiet hc k)))
  have HK := Lib.hid hk
  clear hx hc hk
  go_enter Try.func31, Try.ntmps31
  go_wp2_with fail
  refine HI.out.mono ?_
  rintro e w1 ⟨i, rfl, hp, hk⟩
  have HP := Lib.hid hp
  have HK1 := Lib.hid (HK.out.trans hk)
  clear hp hk HI HK
  go_wp2_with fail
  go_ret
  exact ⟨i, rfl, HP.out, HK1.out⟩
set_option maxHeartbeats 2000000 in
theorem findRule_any (F : Nat → Prop) (x : Value) (ps : List (Value × Pure.Rule)) (t : Int) (w : World) (hx : RRow w F x ps) :
    Calls Try.prog 50 #[x, .int .i64 t] w fun e w' => Placed w e w' (fun r => decide (r.type = t)) (rulesOf ps) := by
  have hc := box_cell w (.int .i64 t) 3
  have hk := (Keeps.refl nobody w).alloc (.cells #[.int .i64 t] 3)
  have HI := Lib.hid (indexRules_any F x ps 73 (.pointer (some ⟨w.heap.size, 0, none⟩)) (fun r => decide (r.type = t)) (w.alloc (.cells #[.int .i64 t] 3)) (hx.keeps hk (fun _ _ h => h)) run_find2
    (fun q _ w' k => find2_any q _ t w' (cell_quiet hc k)))
  have HK := Lib.hid hk
  clear hx hc hk
  go_enter Try.func50, Try.ntmps50
  go_wp2_with fail
  refine HI.out.mono ?_
  rintro e w1 ⟨i, rfl, hp, hk⟩
  have HP := Lib.hid hp
  have HK1 := Lib.hid (HK.out.trans hk)
  clear hp hk HI HK
  go_wp2_with fail
  go_ret
  exact ⟨i, rfl, HP.out, HK1.out⟩
end Go.Proofs.Ytjomcffhbaplcaa
