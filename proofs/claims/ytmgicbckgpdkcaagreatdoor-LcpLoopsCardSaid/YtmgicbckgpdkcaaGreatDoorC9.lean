/- Contracts of package bytes: Clone, Equal. -/
import Derived.Laws.BytesString
import Derived.Lib.BufferRead
import Derived.Test.YtmgicbckgpdkcaaGreatDoorC8
namespace Go.Proofs.YtmgicbckgpdkcaaGreatDoor
set_option maxRecDepth 100000
set_option maxHeartbeats 4000000
open _root_.Go.Lib renaming hid → xhd
open List renaming setIfInBounds_toArray → xqA, getElem_toArray → xqB, getElem_cons_succ → xqC, getElem_cons_zero → xqD, set_cons_succ → xqE, set_cons_zero → xqF
open Go.RowKit
theorem y2g (F : Nat → Prop) (x : Value) (n : Nat) (l : List UInt8) (w : World) (hr : Row w F 1 x n (u8s l)) (hn : n ≤ 140737488355328) :
  Calls Tryz.prog 143 #[x] w fun e w' => ∃ v, e = .returned v ∧ w'.ownsRow w.heap.size 5 1 v n (u8s l) ∧ Below w.heap.size w w' := by
 obtain ⟨i0, hi0, hz0, hz1, hz2⟩ := info_parts y5a
 have hr' := hr
 obtain ⟨hl, hm, A, c, rfl, hc, hA, hcell⟩ := hr
 rcases A with _ | ad
 ·obtain rfl := hA rfl
  have hl0 : u8s l = [] := List.eq_nil_of_length_eq_zero (by simpa using hl)
  clear hcell hA hl
  have hq := fun (W : World) => Lib.run_eql_slice_nil (P := Tryz.prog) W 29 5 none 0 c 0 0 Tryz.underlying29
  go_enter Tryz.func143, Tryz.ntmps143
  go_wp2
  go_ret
  refine ⟨_, rfl, ⟨by rw [hl0]; rfl, .inl ⟨rfl, rfl⟩⟩, Below.refl _ _⟩
 ·have HL := xhd hl
  have hbw : Row (w.alloc (.cells #[] 5)) F 1 (.slice (some ad) n c) n (u8s l) :=
   hr'.cellsOf fun b off u _ hu => (World.cell?_alloc_lt w _ ⟨b, off, none⟩ (y0x hu)).trans hu
  clear hl hcell hA hr'
  have hq := fun (W : World) => Lib.run_eql_slice_nil (P := Tryz.prog) W 29 5 (some ad) n c 0 0 Tryz.underlying29
  go_enter Tryz.func143, Tryz.ntmps143
  go_wp2_with (at_builtin; refine y0t ?_)
  unfold Hid
  refine y1a rfl (.tmp 5) (.tmp 6) _ rfl w.heap.size 5 i0 _ 1 1 Tryz.underlying29 hi0 hz0 hz1 hz2 rfl (by omega) (.slice (some ⟨w.heap.size, 0, none⟩) 0 0) 0 []
   rfl (y91 _ _ _ _ (Nat.le_refl _)) F _ n (u8s l) rfl hbw (y73 l) (by omega) (by omega) (by simp) ?_
  intro v1 w1 hown1 hg1 hat1
  go_wp2
  go_ret
  refine ⟨v1, rfl, by simpa using hown1, ((Below.refl _ _).alloc (Nat.le_refl _) _).grown hg1 (by simp) ?_⟩
  intro k hk
  simp [Value.ownBlock] at hk
  omega
theorem push_all : ∀ (l : List UInt8) (s : ByteArray), (l.map fun b => (b.toNat : Int)).foldl (fun r n => r.push (UInt8.ofNat n.toNat)) s = ⟨s.data ++ l.toArray⟩
 | [], s => by simp
 | x :: l, s => by
  rw [List.map_cons, List.foldl_cons, push_all l]
  simp [ByteArray.push]
theorem ybn {F : Nat → Prop} {A : Option Addr} {n c : Nat} {l : List UInt8} {w : World} (h : Row w F 1 (.slice A n c) n (u8s l)) :
  (convert 29 9 (.slice A n c)).run Tryz.prog w = .ok (.string ⟨l.toArray⟩) w := by
 have hl := h.1
 have hln : n = l.length := by simpa using hl.symm
 rcases A with _ | a
 ·have h0 : n = 0 := by
   obtain ⟨_, _, A', c', e, _, _, hh⟩ := h
   rcases Nat.eq_zero_or_pos n with h0 | h0
   ·exact h0
   ·obtain ⟨b, off, rfl, _⟩ := hh h0
    injection e with e1
    cases e1
  subst h0
  have : l = [] := List.eq_nil_of_length_eq_zero hln.symm
  subst this
  exact Lib.run_convert_nil_bytes w 29 9 5 c Tryz.underlying29 Tryz.underlying5 Tryz.underlying9
 ·rw [run_convert_bytes_string w 29 9 5 _ n c Tryz.underlying29 Tryz.underlying5 Tryz.underlying9]
  have hlc : (loadCells a n).run Tryz.prog w = .ok (u8s l).toArray w := by
   have := run_loadCells_list (P := Tryz.prog) (w := w) a (u8s l) (fun j v hj => by
    have hj' : j < l.length := by simpa using (List.getElem?_eq_some_iff.1 hj).1
    obtain ⟨b, off, e, _, hc⟩ := h.cellAt (by omega)
    injection e with e
    subst e
    rw [y54]
    exact hc j v hj)
   rw [hln]
   simpa using this
  rw [run_bytesToString w a n c (l.map fun b => (b.toNat : Int)) (by rw [hlc]; simp [u8s])]
  rw [push_all]
  simp
theorem y7o (F G : Nat → Prop) (x y : Value) (n m : Nat) (a b : List UInt8) (w : World) (hx : Row w F 1 x n (u8s a)) (hy : Row w G 1 y m (u8s b)) :
  Calls Tryz.prog 221 #[x, y] w fun e w' => e = .returned (.bool (decide (a = b))) ∧ w = w' := by
 obtain ⟨A, cA, rfl, _⟩ := hx.form
 obtain ⟨B, cB, rfl, _⟩ := hy.form
 have h1 := ybn hx
 have h2 := ybn hy
 have HB := xhd (show (a == b) = decide (a = b) by rw [Bool.eq_iff_iff]; simp)
 clear hx hy
 go_enter Tryz.func221, Tryz.ntmps221
 go_wp2
 go_ret
 exact ⟨by rw [← HB.out]; rfl, rfl⟩
def y4h {α : Type} (p : α → Bool) (l : List α) (i : Int) : Prop :=
 (i = -1 ∧ ∀ x ∈ l, p x = false) ∨ ∃ (k : Nat) (x : α), i = (k : Int) ∧ l[k]? = some x ∧ p x = true ∧ ∀ y ∈ l.take k, p y = false
def Placed {α : Type} (w : World) (e : Ending) (w' : World) (p : α → Bool) (l : List α) : Prop := ∃ i, e = .returned (.int .i64 i) ∧ y4h p l i ∧ Keeps y01 w w'
theorem y4h.lt {α : Type} {p : α → Bool} {l : List α} {i : Int} (h : y4h p l i) : -1 ≤ i ∧ i < (l.length : Int) ∨ i = -1 := by
 rcases h with ⟨rfl, _⟩ | ⟨k, x, rfl, hk, _⟩
 ·exact .inr rfl
 ·have := (List.getElem?_eq_some_iff.1 hk).1
  exact .inl (by omega)
theorem y4h.neg {α : Type} {p : α → Bool} {l : List α} {i : Int} (h : y4h p l i) : decide (i < 0) = !l.any p := by
 rcases h with ⟨rfl, h⟩ | ⟨k, x, rfl, hk, hp, _⟩
 ·have : l.any p = false := by rw [List.any_eq_false]; intro x hx; simp [h x hx]
  rw [this]; rfl
 ·have : l.any p = true := List.any_eq_true.2 ⟨x, List.mem_of_getElem? hk, hp⟩
  rw [this, decide_eq_false (by omega)]; rfl
theorem y4h.any {α : Type} {p : α → Bool} {l : List α} {i : Int} (h : y4h p l i) : decide (0 ≤ i) = l.any p := by
 have := h.neg
 rcases h with ⟨rfl, h⟩ | ⟨k, x, rfl, _⟩
 ·cases ha : l.any p
  ·rfl
  ·rw [ha] at this; simp at this
 ·cases ha : l.any p
  ·rw [ha] at this
   have := of_decide_eq_true this
   omega
  ·exact decide_eq_true (by omega)
theorem y4h.before {α : Type} {p : α → Bool} {l : List α} {i : Int} (h : y4h p l i) (k : Nat) (x : α) (hk : l[k]? = some x) (hx : p x = true) : decide (i < (k : Int)) = (l.take k).any p := by
 rcases h with ⟨rfl, h⟩ | ⟨j, y, rfl, hj, hy, hno⟩
 ·have := h x (List.mem_of_getElem? hk)
  rw [hx] at this
  cases this
 ·by_cases hjk : j < k
  ·rw [decide_eq_true (by omega)]
   symm
   rw [List.any_eq_true]
   exact ⟨y, List.mem_of_getElem? (show (l.take k)[j]? = some y by rw [List.getElem?_take, if_pos hjk]; exact hj), hy⟩
  ·rw [decide_eq_false (by omega)]
   symm
   rw [List.any_eq_false]
   intro z hz
   have hz' : z ∈ l.take j := by
    have e : l.take k = (l.take j).take k := by rw [List.take_take, Nat.min_eq_left (by omega)]
    rw [e] at hz
    exact List.mem_of_mem_take hz
   simp [hno z hz']
theorem y4h.find {α : Type} {p : α → Bool} {l : List α} {i : Int} (h : y4h p l i) : (i = -1 ∧ l.find? p = none) ∨ ∃ (k : Nat) (x : α), i = (k : Int) ∧ k < l.length ∧ l[k]? = some x ∧ l.find? p = some x := by
 rcases h with ⟨rfl, h⟩ | ⟨j, y, rfl, hj, hy, hno⟩
 ·exact .inl ⟨rfl, by rw [List.find?_eq_none]; intro x hx; simp [h x hx]⟩
 ·refine .inr ⟨j, y, rfl, (List.getElem?_eq_some_iff.1 hj).1, hj, ?_⟩
  have hs : l = (l.take j ++ [y]) ++ l.drop (j + 1) := by rw [← Pure.take_snoc l j y hj, List.take_append_drop]
  have h0 : (l.take j).find? p = none := by
   rw [List.find?_eq_none]
   intro x hx
   simp [hno x hx]
  rw [hs, List.find?_append, List.find?_append, h0]
  simp [hy]
theorem y8a (F : Nat → Prop) (x : Value) (ps : List (Value × Pure.Opt)) (n : Nat) (cap : Value) (p : Pure.Opt → Bool) (w : World) (hx : ORow w F x ps) (hn : ∀ args w, Sem.run Tryz.prog (callFunc n args) w = .ok (.enter n args) w)
  (hf : ∀ q ∈ ps, ∀ w', Keeps y01 w w' → Calls Tryz.prog n #[optV q, cap] w' fun e w'' => e = .returned (.bool (p q.2)) ∧ Keeps y01 w' w'') :
  Calls Tryz.prog 219 #[x, .func (.func n) #[] #[cap]] w fun e w' => Placed w e w' p (y02 ps) := by
 obtain ⟨A, cA, rfl, hc⟩ := hx.form
 have hm := hx.out.2.1
 unfold maxLen at hm
 have HX := xhd hx
 have HF := xhd hf
 clear hx hf
 go_enter Tryz.func219, Tryz.ntmps219
 go_wp2_with fail
 go_loopw [8] (fun i wr => ∃ k : Nat, k ≤ ps.length ∧ i = .int .i64 (k : Int) ∧ (∀ y ∈ (y02 ps).take k, p y = false) ∧ Keeps y01 w wr) (fun i _ => ps.length - (intOf i).toNat)
 case atStart => exact ⟨0, by omega, rfl, by simp, Keeps.refl _ _⟩
 case round =>
  obtain ⟨k, hk, rfl, hT, hK⟩ := hrel
  have HT := xhd hT
  have HK := xhd hK
  by_cases hkl : k < ps.length
  ·have i0 : (0 : Int) ≤ (k : Int) := by omega
   have i1 : (k : Int) < (ps.length : Int) := by omega
   obtain ⟨b, o, A1, c1, s, la, rfl, hFp, x0, x1, hra, hpa⟩ := (HX.out.keeps hK (fun _ _ h => h)).pick k hkl
   have HC := xhd (HF.out _ (List.mem_of_getElem? hpa) wr hK)
   have HPA := xhd (show (y02 ps)[k]? = some (s, la) by rw [List.getElem?_map, hpa]; rfl)
   obtain ⟨r, hr⟩ : ∃ r, r = p (s, la) := ⟨_, rfl⟩
   have HC := xhd (hr ▸ HC.out)
   have HR := xhd hr
   clear hT hK hra hpa hr
   go_wp2_with fail
   refine HC.out.mono ?_
   rintro e w1 ⟨rfl, hk1⟩
   have HK1 := xhd (HK.out.trans hk1)
   clear HC hk1 x0 x1
   cases r
   ·have HT2 := xhd (show ∀ y ∈ (y02 ps).take (k + 1), p y = false by
     rw [Pure.take_snoc _ k _ HPA.out]
     intro y hy
     rcases List.mem_append.1 hy with hy | hy
     ·exact HT.out y hy
     ·rw [List.mem_singleton.1 hy]; exact HR.out.symm)
    clear HT
    go_wp2_with fail
    go_roundw
    case rel => exact ⟨k + 1, by omega, by go_num, HT2.out, HK1.out⟩
    case measure => simp [intOf]; omega
   ·go_wp2_with fail
    go_ret
    exact ⟨_, rfl, .inr ⟨k, (s, la), rfl, HPA.out, HR.out.symm, HT.out⟩, HK1.out⟩
  ·have hkk : k = ps.length := by omega
   have HN := xhd (show ∀ y ∈ y02 ps, p y = false by
    have h := HT.out
    rwa [List.take_of_length_le (by simp; omega)] at h)
   subst hkk
   clear hkl hk hT HT hK
   go_wp2
   go_ret
   exact ⟨_, rfl, .inl ⟨rfl, HN.out⟩, HK.out⟩
theorem yad (F : Nat → Prop) (x : Value) (ps : List (Value × Pure.Opt)) (n : Nat) (cap : Value) (p : Pure.Opt → Bool) (w : World) (hx : ORow w F x ps) (hn : ∀ args w, Sem.run Tryz.prog (callFunc n args) w = .ok (.enter n args) w)
  (hf : ∀ q ∈ ps, ∀ w', Keeps y01 w w' → Calls Tryz.prog n #[optV q, cap] w' fun e w'' => e = .returned (.bool (p q.2)) ∧ Keeps y01 w' w'') :
  Calls Tryz.prog 244 #[x, .func (.func n) #[] #[cap]] w fun e w' => e = .returned (.bool ((y02 ps).any p)) ∧ Keeps y01 w w' := by
 have HI := xhd (y8a F x ps n cap p w hx hn hf)
 clear hx hf hn
 go_enter Tryz.func244, Tryz.ntmps244
 go_wp2_with fail
 refine HI.out.mono ?_
 rintro e w1 ⟨i, rfl, hp, hk⟩
 have HA := xhd hp.any
 have HK := xhd hk
 clear hp hk HI
 go_wp2_with fail
 go_ret
 exact ⟨by rw [← HA.out]; rfl, HK.out⟩
abbrev y08 (ps : List (Value × Pure.Rule)) : List Pure.Rule := ps.map Prod.snd
theorem ycs (F : Nat → Prop) (x : Value) (ps : List (Value × Pure.Rule)) (n : Nat) (cap : Value) (p : Pure.Rule → Bool) (w : World) (hx : RRow w F x ps) (hn : ∀ args w, Sem.run Tryz.prog (callFunc n args) w = .ok (.enter n args) w)
  (hf : ∀ q ∈ ps, ∀ w', Keeps y01 w w' → Calls Tryz.prog n #[y1i q, cap] w' fun e w'' => e = .returned (.bool (p q.2)) ∧ Keeps y01 w' w'') :
  Calls Tryz.prog 222 #[x, .func (.func n) #[] #[cap]] w fun e w' => Placed w e w' p (y08 ps) := by
 obtain ⟨A, cA, rfl, hc⟩ := hx.form
 have hm := hx.out.2.1
 unfold maxLen at hm
 have HX := xhd hx
 have HF := xhd hf
 clear hx hf
 go_enter Tryz.func222, Tryz.ntmps222
 go_wp2_with fail
 go_loopw [8] (fun i wr => ∃ k : Nat, k ≤ ps.length ∧ i = .int .i64 (k : Int) ∧ (∀ y ∈ (y08 ps).take k, p y = false) ∧ Keeps y01 w wr) (fun i _ => ps.length - (intOf i).toNat)
 case atStart => exact ⟨0, by omega, rfl, by simp, Keeps.refl _ _⟩
 case round =>
  obtain ⟨k, hk, rfl, hT, hK⟩ := hrel
  have HT := xhd hT
  have HK := xhd hK
  by_cases hkl : k < ps.length
  ·have i0 : (0 : Int) ≤ (k : Int) := by omega
   have i1 : (k : Int) < (ps.length : Int) := by omega
   obtain ⟨b, o, A1, c1, r0, rfl, hFp, hcell, hra, hpa⟩ := (HX.out.keeps hK (fun _ _ h => h)).pick k hkl
   have x0 : wr.cell? ⟨b, o + k * 7, none⟩ = some (.int .i64 r0.type) := hcell 0 _ rfl
   have x1 := hcell 1 _ rfl
   have x2 := hcell 2 _ rfl
   have x3 := hcell 3 _ rfl
   have x4 := hcell 4 _ rfl
   have x5 := hcell 5 _ rfl
   have x6 := hcell 6 _ rfl
   have HC := xhd (HF.out _ (List.mem_of_getElem? hpa) wr hK)
   have HPA := xhd (show (y08 ps)[k]? = some r0 by rw [List.getElem?_map, hpa]; rfl)
   obtain ⟨r, hr⟩ : ∃ r, r = p r0 := ⟨_, rfl⟩
   have HC := xhd (hr ▸ HC.out)
   have HR := xhd hr
   clear hT hK hra hpa hr hcell
   go_wp2_with fail
   refine HC.out.mono ?_
   rintro e w1 ⟨rfl, hk1⟩
   have HK1 := xhd (HK.out.trans hk1)
   clear HC hk1 x0 x1 x2 x3 x4 x5 x6
   cases r
   ·have HT2 := xhd (show ∀ y ∈ (y08 ps).take (k + 1), p y = false by
     rw [Pure.take_snoc _ k _ HPA.out]
     intro y hy
     rcases List.mem_append.1 hy with hy | hy
     ·exact HT.out y hy
     ·rw [List.mem_singleton.1 hy]; exact HR.out.symm)
    clear HT
    go_wp2_with fail
    go_roundw
    case rel => exact ⟨k + 1, by omega, by go_num, HT2.out, HK1.out⟩
    case measure => simp [intOf]; omega
   ·go_wp2_with fail
    go_ret
    exact ⟨_, rfl, .inr ⟨k, r0, rfl, HPA.out, HR.out.symm, HT.out⟩, HK1.out⟩
  ·have hkk : k = ps.length := by omega
   have HN := xhd (show ∀ y ∈ y08 ps, p y = false by
    have h := HT.out
    rwa [List.take_of_length_le (by simp; omega)] at h)
   subst hkk
   clear hkl hk hT HT hK
   go_wp2
   go_ret
   exact ⟨_, rfl, .inl ⟨rfl, HN.out⟩, HK.out⟩
theorem y70 {P : Program} {f : FuncId} {fn : Func} {c : Code} (hf : P.funcs[f]? = some fn) (hname : (fn.name == "runtime.NumGoroutine") = false) (hb : fn.body = some c) (args : Array Value) (w : World) :
  Sem.run P (callFunc f args) w = .ok (.enter f args) w := by
 have h1 : fn.name ≠ "runtime.NumGoroutine" := by simpa using hname
 simp [callFunc, hf, h1, hb]
theorem run_find1 (args : Array Value) (w : World) : Sem.run Tryz.prog (callFunc 220 args) w = .ok (.enter 220 args) w := y70 Tryz.func220 (by kernel_rfl) rfl args w
theorem run_find2 (args : Array Value) (w : World) : Sem.run Tryz.prog (callFunc 223 args) w = .ok (.enter 223 args) w := y70 Tryz.func223 (by kernel_rfl) rfl args w
theorem run_has1 (args : Array Value) (w : World) : Sem.run Tryz.prog (callFunc 245 args) w = .ok (.enter 245 args) w := y70 Tryz.func245 (by kernel_rfl) rfl args w
theorem find1_any (q : Value × Pure.Opt) (g : Nat) (t : Int) (w : World) (hg : w.cell? ⟨g, 0, none⟩ = some (.int .i64 t)) :
  Calls Tryz.prog 220 #[optV q, .pointer (some ⟨g, 0, none⟩)] w fun e w' => e = .returned (.bool (decide (q.2.1 = t))) ∧ Keeps y01 w w' := by
 obtain ⟨v, s, l⟩ := q
 have hg' : ∀ o, (w.alloc o).cell? ⟨g, 0, none⟩ = some (.int .i64 t) := fun o => y36 hg
 clear hg
 go_enter Tryz.func220, Tryz.ntmps220
 go_wp2_with fail
 go_ret
 exact ⟨rfl, (Keeps.refl y01 w).alloc _⟩
theorem find2_any (q : Value × Pure.Rule) (g : Nat) (t : Int) (w : World) (hg : w.cell? ⟨g, 0, none⟩ = some (.int .i64 t)) :
  Calls Tryz.prog 223 #[y1i q, .pointer (some ⟨g, 0, none⟩)] w fun e w' => e = .returned (.bool (decide (q.2.type = t))) ∧ Keeps y01 w w' := by
 obtain ⟨v, r⟩ := q
 have hg' : ∀ o, (w.alloc o).cell? ⟨g, 0, none⟩ = some (.int .i64 t) := fun o => y36 hg
 clear hg
 go_enter Tryz.func223, Tryz.ntmps223
 go_wp2_with fail
 go_ret
 exact ⟨rfl, (Keeps.refl y01 w).alloc _⟩
theorem y63 (w : World) (v : Value) (t : TypeId) : (w.alloc (.cells #[v] t)).cell? ⟨w.heap.size, 0, none⟩ = some v := by rw [(Blk.new w t #[v]).cell]; rfl
theorem yaf (F : Nat → Prop) (x : Value) (ps : List (Value × Pure.Opt)) (t : Int) (w : World) (hx : ORow w F x ps) :
  Calls Tryz.prog 188 #[x, .int .i64 t] w fun e w' => Placed w e w' (fun o => decide (o.1 = t)) (y02 ps) := by
 have hc := y63 w (.int .i64 t) 3
 have hk := (Keeps.refl y01 w).alloc (.cells #[.int .i64 t] 3)
 have HI := xhd (y8a F x ps 220 (.pointer (some ⟨w.heap.size, 0, none⟩)) (fun o => decide (o.1 = t)) (w.alloc (.cells #[.int .i64 t] 3)) (hx.keeps hk (fun _ _ h => h)) run_find1
  (fun q _ w' k => find1_any q _ t w' (y04 hc k)))
 have HK := xhd hk
 clear hx hc hk
 go_enter Tryz.func188, Tryz.ntmps188
 go_wp2_with fail
 refine HI.out.mono ?_
 rintro e w1 ⟨i, rfl, hp, hk⟩
 have HP := xhd hp
 have HK1 := xhd (HK.out.trans hk)
 clear hp hk HI HK
 go_wp2_with fail
 go_ret
 exact ⟨i, rfl, HP.out, HK1.out⟩
theorem y8k (F : Nat → Prop) (x : Value) (ps : List (Value × Pure.Rule)) (t : Int) (w : World) (hx : RRow w F x ps) :
  Calls Tryz.prog 190 #[x, .int .i64 t] w fun e w' => Placed w e w' (fun r => decide (r.type = t)) (y08 ps) := by
 have hc := y63 w (.int .i64 t) 3
 have hk := (Keeps.refl y01 w).alloc (.cells #[.int .i64 t] 3)
 have HI := xhd (ycs F x ps 223 (.pointer (some ⟨w.heap.size, 0, none⟩)) (fun r => decide (r.type = t)) (w.alloc (.cells #[.int .i64 t] 3)) (hx.keeps hk (fun _ _ h => h)) run_find2
  (fun q _ w' k => find2_any q _ t w' (y04 hc k)))
 have HK := xhd hk
 clear hx hc hk
 go_enter Tryz.func190, Tryz.ntmps190
 go_wp2_with fail
 refine HI.out.mono ?_
 rintro e w1 ⟨i, rfl, hp, hk⟩
 have HP := xhd hp
 have HK1 := xhd (HK.out.trans hk)
 clear hp hk HI HK
 go_wp2_with fail
 go_ret
 exact ⟨i, rfl, HP.out, HK1.out⟩
theorem y8x : (Tryz.prog.info? 31).map (·.size) = some 2 := by kernel_rfl
theorem nrule_info : (Tryz.prog.info? 122).map (·.size) = some 7 := by kernel_rfl
theorem y07 {P : Program} {fn : Func} {p : Tmp} {ty : TypeId} (h : fn.results = #[.cell p ty]) (tmps : Array Value) (w : World) (g : Nat) (t : TypeId) (cs : Array Value) (fr : Nat × Nat) (d : TypeDesc)
  (hp : tmps.getD p undef = .pointer (some ⟨g, 0, none⟩)) (hg : w.heap[g]? = some (.cells cs t fr))
  (hu : P.underlying ty = some d) (hd : (match d with | .struct _ | .array _ _ => true | _ => false) = true) (hi : (P.info? ty).map (·.size) = some cs.size) :
  (results fn tmps).run P w = .ok (.agg cs) w := by
 have hp' : tmps[p]?.getD undef = .pointer (some ⟨g, 0, none⟩) := by simpa using hp
 simp [results, h, hp', asAddr, run_loadVar_row w g t ty cs fr d hg hu hd hi]
theorem y7q (F : Nat → Prop) (v : Value) (t : Int) (D : List UInt8) (w : World) (hr : Row w F 1 v D.length (u8s D)) (hl : D.length ≤ 1000000) :
  Calls Tryz.prog 156 #[optV (v, (t, D))] w fun e w' => ∃ A c, e = .returned (.agg #[.int .i64 t, .slice A D.length c]) ∧ Row w' (fun b => w.heap.size ≤ b) 1 (.slice A D.length c) D.length (u8s D) ∧ Keeps y01 w w' := by
 obtain ⟨A, c, rfl, _⟩ := hr.form
 have HR := xhd hr
 have HI := xhd y8x
 clear hr
 obtain ⟨g, hg⟩ : ∃ g, g = w.heap.size := ⟨_, rfl⟩
 go_enter Tryz.func156, Tryz.ntmps156
 go_upto_region 1 with fail
 generalize hw1 : (w.alloc _).alloc _ = w1
 rw [← hg]
 have HK := xhd (show Keeps y01 w w1 by rw [← hw1]; exact ((Keeps.refl y01 w).alloc _).alloc _)
 have HSZ := xhd (show w1.heap.size = g + 2 by rw [← hw1, hg]; simp)
 have HC := xhd (show w1.cell? ⟨g, 0, none⟩ = some (.int .i64 t) ∧ w1.cell? ⟨g, 1, none⟩ = some (.slice A D.length c) ∧ Blk w1 (g + 1) 31 #[.int .i64 0, .slice none 0 0] by
  have hb : Blk w1 g 31 #[.int .i64 t, .slice A D.length c] := by rw [← hw1, hg]; exact (Blk.new w _ _).alloc _
  refine ⟨by rw [hb.cell]; rfl, by rw [hb.cell]; rfl, ?_⟩
  rw [← hw1, show g + 1 = (w.alloc (.cells #[.int .i64 t, .slice A D.length c] 31)).heap.size by rw [hg]; simp]
  exact Blk.new _ _ _)
 have HG := xhd hg
 clear hw1 hg
 refine y0b (fun w' => w'.cell? ⟨g, 0, none⟩ = some (.int .i64 t) ∧ w'.cell? ⟨g, 1, none⟩ = some (.slice A D.length c) ∧ Blk w' (g + 1) 31 #[.int .i64 0, .slice none 0 0]) 6 7 rfl (by kernel_rfl) ⟨HC.out.1, HC.out.2.1, HC.out.2.2⟩ (fun hHeld => ?_)
 have HSW := hHeld
 clear hHeld
 have HK0d := xhd (HK.out.drew)
 refine y00 (i := 0) rfl (by kernel_rfl) (fun _ _ _ h => h) (Or.inl ⟨by rfl, by intro w hSw; obtain ⟨s0, s1, s2⟩ := hSw; go_simp; try with_reducible rfl⟩) HSW.out ?_
 simp only [Act.put, xqA, xqB, xqD, xqE, xqF]
 refine y00 (i := 1) rfl (by kernel_rfl) (fun _ _ _ h => h) (Or.inl ⟨by rfl, by intro w hSw; obtain ⟨s0, s1, s2⟩ := hSw; go_simp; try with_reducible rfl⟩) HSW.out ?_
 simp only [Act.put, xqA, xqB, xqC, xqD, xqE, xqF]
 refine y00 (i := 2) rfl (by kernel_rfl) (fun _ _ _ h => h) (Or.inl ⟨by rfl, by intro w hSw; obtain ⟨s0, s1, s2⟩ := hSw; go_simp; try with_reducible rfl⟩) HSW.out ?_
 simp only [Act.put, xqA, xqB, xqC, xqD, xqE, xqF]
 refine y00 (i := 3) rfl (by kernel_rfl) (fun _ _ _ h => h) (Or.inl ⟨by rfl, by intro w hSw; obtain ⟨s0, s1, s2⟩ := hSw; go_simp; try with_reducible rfl⟩) HSW.out ?_
 simp only [Act.put, xqA, xqB, xqC, xqD, xqE, xqF]
 refine y03 (i := 4) (by kernel_rfl) rfl (fun K hK => ?_)
 try rw [if_pos (by rfl)]
 go_simp
 refine (y2g F (.slice A D.length c) _ D _ (HR.out.keeps HK0d.out (fun _ _ h => h)) (by omega)).mono ?_
 rintro e w2 ⟨u, rfl, hu, hb⟩
 obtain ⟨A2, cc2, rfl⟩ := y0c hu
 have hk2 := Keeps.new hb
 have HK2 := xhd (HK0d.out.trans hk2)
 have HU := xhd ((Row.of_own hu).mono (G := fun b => w1.heap.size ≤ b) (fun b hb => y0f hu b hb))
 have HS2 := xhd (And.intro (y04 HSW.out.1 hk2) (And.intro (y04 HSW.out.2.1 hk2) (HSW.out.2.2.keeps hk2 (fun h => h))))
 clear hu hb hk2
 refine hK.out _ _ (fun _ => HS2.out) ?_
 clear hK K
 try simp only [Act.put, xqA, Nat.reduceAdd, xqB, xqC, xqD, xqE, xqF]
 refine y00 (i := 5) rfl (by kernel_rfl) (fun _ _ _ h => h) (Or.inl ⟨by rfl, by intro w hSw; obtain ⟨s0, s1, s2⟩ := hSw; go_simp; try with_reducible rfl⟩) HS2.out ?_
 simp only [Act.put, xqA, xqB, xqC, xqD, xqE, xqF]
 have hB := HS2.out.2.2
 have HZ := xhd ((hB.set 0 (.int .i64 t)).set 1 (.slice A2 D.length cc2))
 have HKS := xhd ((HK2.out.store (g + 1) 0 (fun h => by have := HG.out; omega) (.int .i64 t)).store (g + 1) 1 (fun h => by have := HG.out; omega) (.slice A2 D.length cc2))
 have HRW := xhd ((HU.out.keeps (((Keeps.refl (only (g + 1)) w2).store (g + 1) 0 (fun _ => rfl) (.int .i64 t)).store (g + 1) 1 (fun _ => rfl) (.slice A2 D.length cc2)) (fun b hb e => by have e : b = g + 1 := e; have := HSZ.out; omega)).mono (G := fun b => w.heap.size ≤ b) (fun b hb => by have := HSZ.out; have := HG.out; omega))
 have o0 : w2.cell? ⟨g + 1, 0, none⟩ = some (.int .i64 0) := by rw [hB.cell]; rfl
 have o1 : w2.cell? ⟨g + 1, 1, none⟩ = some (.slice none 0 0) := by rw [hB.cell]; rfl
 have f0 := hB.frozen 0
 have f1 := hB.frozen 1
 clear hB
 refine y03 (i := 6) (by kernel_rfl) rfl (fun K hK => ?_)
 go_simp
 refine hK.out _ _ (fun h => absurd rfl h) ?_
 clear hK K
 refine y09 (by kernel_rfl) ?_ _
 go_wp2_with fail
 refine bodyPost_ret (y07 rfl _ _ (g + 1) 31 _ (0, 0) _ rfl HZ.out Tryz.underlying31 rfl (by rw [HI.out]; rfl)) rfl ?_
 exact ⟨A2, cc2, rfl, HRW.out, HKS.out⟩
theorem y1v (F : Nat → Prop) (x : Value) (ps : List (Value × Pure.Opt)) (w : World) (hx : ORow w F x ps) (hl : ps.length ≤ 100000) (hd : ∀ p ∈ ps, p.2.2.length ≤ 100000) :
  Calls Tryz.prog 117 #[x] w fun e w' => ∃ u, ∃ qs : List (Value × Pure.Opt), e = .returned u ∧ y02 qs = y02 ps ∧ Read w w' u qs := by
 obtain ⟨X, cx, rfl, _⟩ := hx.form
 have HX := xhd hx
 have HDL := xhd hd
 clear hx hd
 obtain ⟨cs, hrun, hrd0⟩ := made_read w ps.length (by omega)
 obtain ⟨w1, hw1⟩ : ∃ w1, w1 = w.alloc (.cells cs 31) := ⟨_, rfl⟩
 rw [← hw1] at hrun hrd0
 have HRD0 := xhd hrd0
 clear hrd0 hw1
 go_enter Tryz.func117, Tryz.ntmps117
 go_wp2_with fail
 go_loopw [3, 11] (fun v i wr => ∃ k : Nat, k ≤ ps.length ∧ i = .int .i64 (k : Int) ∧ ∃ qs : List (Value × Pure.Opt), y02 qs = (y02 ps).take k ∧ Read w wr v qs) (fun _ i _ => ps.length - (intOf i).toNat)
 case atStart => exact ⟨0, by omega, rfl, [], rfl, HRD0.out⟩
 case round =>
  clear hrun HRD0
  obtain ⟨k, hk, rfl, qs, hqs, hrd⟩ := hrel
  have hql : qs.length = k := by
   have := congrArg List.length hqs
   simp at this
   omega
  obtain ⟨A2, c2, rfl⟩ := y0c hrd.own
  subst hql
  have HQS := xhd hqs
  have HRD := xhd hrd
  clear hqs hrd
  by_cases hkl : qs.length < ps.length
  ·have i0' : (0 : Int) ≤ (qs.length : Int) := by omega
   have i1 : (qs.length : Int) < (ps.length : Int) := by omega
   have d1 : decide ((qs.length : Int) < (ps.length : Int)) = true := decide_eq_true (by omega)
   have d2 : decide (qs.length < ps.length) = true := decide_eq_true hkl
   obtain ⟨bx, ox, A1, c1, t, D, rfl, hFb, x0, x1, hra, hpa⟩ := (HX.out.keeps (Keeps.new HRD.out.below) (fun _ _ h => h)).pick qs.length hkl
   have hDl : D.length ≤ 100000 := HDL.out _ (List.mem_of_getElem? hpa)
   have HTK := xhd (show (y02 ps).take (qs.length + 1) = (y02 ps).take qs.length ++ [(t, D)] from yam _ qs.length _ (by rw [List.getElem?_map, hpa]; rfl))
   have HRA := xhd hra
   clear hra hpa
   go_upto_region 5 with fail
   obtain ⟨wb, hwb⟩ : ∃ wb, wb = wr.alloc (.cells #[.int .i64 t, .slice A1 D.length c1] 31) := ⟨_, rfl⟩
   obtain ⟨gb, hgb⟩ : ∃ gb, gb = wr.heap.size := ⟨_, rfl⟩
   rw [← hwb, ← hgb]
   have hkb : Keeps y01 wr wb := by rw [hwb]; exact (Keeps.refl _ wr).alloc _
   have hbb : Blk wb gb 31 #[.int .i64 t, .slice A1 D.length c1] := by rw [hwb, hgb]; exact Blk.new wr _ _
   have y0 : wb.cell? ⟨gb, 0, none⟩ = some (.int .i64 t) := by rw [hbb.cell]; rfl
   have y1 : wb.cell? ⟨gb, 1, none⟩ = some (.slice A1 D.length c1) := by rw [hbb.cell]; rfl
   have HCP := xhd (y7q F (.slice A1 D.length c1) t D wb (HRA.out.keeps hkb (fun _ _ h => h)) (by omega))
   have HKb := xhd hkb
   clear hwb hgb hbb hkb x0 x1
   go_wp2_with fail
   refine HCP.out.mono ?_
   rintro e w2 ⟨A3, c3, rfl, hu, hk2⟩
   have hkr : Keeps y01 wr w2 := HKb.out.trans hk2
   have hR2 := HRD.out.keeps hkr
   have HU := xhd (HRD.out.fresh (hu.mono (G := fun b => wr.heap.size ≤ b) (fun b hb => Nat.le_trans HKb.out.size hb)))
   have HR2 := xhd hR2
   clear hu hk2 hkr hR2 HCP y0 y1
   go_wp2_with (at_builtin; refine y0t ?_)
   unfold Hid
   refine y3d rfl (.tmp 15) (.tmp 18) rfl _ qs A3 c3 t D rfl rfl HR2.out (by omega) HU.out ?_
   intro A4 c4 w3 hread hkw
   have HRead := xhd hread
   clear hread hkw
   go_wp2_with fail
   go_roundw
   case rel => exact ⟨qs.length + 1, by omega, by go_num, _, by rw [HTK.out, ← HQS.out]; simp [y02], HRead.out⟩
   case measure => simp [intOf] <;> omega
  ·have hkk : qs.length = ps.length := by omega
   have d1 : decide ((qs.length : Int) < (ps.length : Int)) = false := decide_eq_false (by omega)
   have d2 : decide (qs.length < ps.length) = false := decide_eq_false (by omega)
   have HE := xhd (show y02 qs = y02 ps by rw [HQS.out]; exact List.take_of_length_le (by simp; omega))
   go_wp2
   go_ret
   exact ⟨_, qs, rfl, HE.out, HRD.out⟩
def Ruled (w : World) (e : Ending) (w' : World) (ps : List (Value × Pure.Rule)) (t : Int) : Prop :=
 ∃ (A : Option Addr) (c : Nat) (r : Pure.Rule), e = .returned (y1i (.slice A r.want.length c, r)) ∧ r = Pure.ruleFor (y08 ps) t ∧ Row w' (fun _ => True) 1 (.slice A r.want.length c) r.want.length (u8s r.want) ∧ ((∃ p ∈ ps, p.2 = r) ∨ r = Pure.deadRule) ∧ Keeps y01 w w'
theorem y5i (F : Nat → Prop) (x : Value) (ps : List (Value × Pure.Rule)) (t : Int) (w : World) (hx : RRow w F x ps) :
  Calls Tryz.prog 186 #[x, .int .i64 t] w fun e w' => Ruled w e w' ps t := by
 obtain ⟨X, cx, rfl, _⟩ := hx.form
 have hm := hx.out.2.1
 unfold maxLen at hm
 have HX := xhd hx
 have HI := xhd nrule_info
 clear hx
 obtain ⟨g, hg⟩ : ∃ g, g = w.heap.size := ⟨_, rfl⟩
 go_enter Tryz.func186, Tryz.ntmps186
 go_upto_region 1 with fail
 generalize hw1 : w.alloc _ = w1
 rw [← hg]
 have hB : Blk w1 g 122 #[.int .i64 0, .int .i64 0, .int .i64 0, .int .i64 0, .int .i64 0, .slice none 0 0, .bool false] := by rw [← hw1, hg]; exact Blk.new w _ _
 have HB := xhd hB
 have hK : Keeps y01 w w1 := by rw [← hw1]; exact (Keeps.refl _ w).alloc _
 have HK := xhd hK
 have HG := xhd hg
 have HF := xhd (y8k F (.slice X ps.length cx) ps t w1 (HX.out.keeps hK (fun _ _ h => h)))
 clear hw1 hg hB hK
 go_wp2_with fail
 refine HF.out.mono ?_
 rintro e w2 ⟨i, rfl, hp, hk2⟩
 have HK2 := xhd (HK.out.trans hk2)
 have HB2 := xhd (HB.out.keeps hk2 (fun h => h))
 have HX2 := xhd (HX.out.keeps HK2.out (fun _ _ h => h))
 have z0 : w2.cell? ⟨g, 0, none⟩ = some (.int .i64 0) := by rw [HB2.out.cell]; rfl
 have z1 : w2.cell? ⟨g, 1, none⟩ = some (.int .i64 0) := by rw [HB2.out.cell]; rfl
 have z2 : w2.cell? ⟨g, 2, none⟩ = some (.int .i64 0) := by rw [HB2.out.cell]; rfl
 have z3 : w2.cell? ⟨g, 3, none⟩ = some (.int .i64 0) := by rw [HB2.out.cell]; rfl
 have z4 : w2.cell? ⟨g, 4, none⟩ = some (.int .i64 0) := by rw [HB2.out.cell]; rfl
 have z5 : w2.cell? ⟨g, 5, none⟩ = some (.slice none 0 0) := by rw [HB2.out.cell]; rfl
 have z6 : w2.cell? ⟨g, 6, none⟩ = some (.bool false) := by rw [HB2.out.cell]; rfl
 have f0 := HB2.out.frozen 0
 have f1 := HB2.out.frozen 1
 have f2 := HB2.out.frozen 2
 have f3 := HB2.out.frozen 3
 have f4 := HB2.out.frozen 4
 have f5 := HB2.out.frozen 5
 have f6 := HB2.out.frozen 6
 rcases hp.find with ⟨rfl, hnone⟩ | ⟨k, r, rfl, hkl, hkr, hsome⟩
 ·have HE := xhd (show Pure.ruleFor (ps.map Prod.snd) t = Pure.deadRule by unfold Pure.ruleFor Pure.ruleOf; rw [hnone]; rfl)
  have hB := HB2.out
  have HZS := xhd (((((((hB.set 0 (.int .i64 0)).set 1 (.int .i64 0)).set 2 (.int .i64 0)).set 3 (.int .i64 0)).set 4 (.int .i64 0)).set 5 (.slice none 0 0)).set 6 (.bool false))
  have HKS := xhd (((((((HK2.out.store g 0 (fun h => by have := HG.out; omega) (.int .i64 0)).store g 1 (fun h => by have := HG.out; omega) (.int .i64 0)).store g 2 (fun h => by have := HG.out; omega) (.int .i64 0)).store g 3 (fun h => by have := HG.out; omega) (.int .i64 0)).store g 4 (fun h => by have := HG.out; omega) (.int .i64 0)).store g 5 (fun h => by have := HG.out; omega) (.slice none 0 0)).store g 6 (fun h => by have := HG.out; omega) (.bool false))
  clear hB hp hnone hk2 HF HB HK
  go_wp2_with fail
  refine bodyPost_ret (y07 rfl _ _ g 122 _ (0, 0) _ rfl HZS.out Tryz.underlying122 rfl (by rw [HI.out]; rfl)) rfl ?_
  exact ⟨none, 0, Pure.deadRule, rfl, HE.out.symm, Row.nil _ _ _, .inr rfl, HKS.out⟩
 ·have hkp : k < ps.length := by simpa using hkl
  obtain ⟨pb, po, A5, c5, r', rfl, hFp, hcell, hwant, hpa⟩ := HX2.out.pick k hkp
  have hrr : r' = r := by
   have h1 : (ps.map Prod.snd)[k]? = some r' := by rw [List.getElem?_map, hpa]; rfl
   rw [hkr] at h1
   injection h1 with h1
   exact h1.symm
  subst hrr
  have x0 : w2.cell? ⟨pb, po + k * 7, none⟩ = some (.int .i64 r'.type) := hcell 0 _ rfl
  have x1 := hcell 1 _ rfl
  have x2 := hcell 2 _ rfl
  have x3 := hcell 3 _ rfl
  have x4 := hcell 4 _ rfl
  have x5 := hcell 5 _ rfl
  have x6 := hcell 6 _ rfl
  have i0 : (0 : Int) ≤ (k : Int) := by omega
  have i1 : (k : Int) < (ps.length : Int) := by omega
  have HE := xhd (show Pure.ruleFor (ps.map Prod.snd) t = r' by unfold Pure.ruleFor Pure.ruleOf; rw [hsome]; rfl)
  have HPA := xhd (List.mem_of_getElem? hpa)
  have hB := HB2.out
  have HZS := xhd (((((((hB.set 0 (.int .i64 r'.type)).set 1 (.int .i64 r'.len)).set 2 (.int .i64 r'.how)).set 3 (.int .i64 r'.lo)).set 4 (.int .i64 r'.hi)).set 5 (.slice A5 r'.want.length c5)).set 6 (.bool r'.need))
  have HKS := xhd (((((((HK2.out.store g 0 (fun h => by have := HG.out; omega) (.int .i64 r'.type)).store g 1 (fun h => by have := HG.out; omega) (.int .i64 r'.len)).store g 2 (fun h => by have := HG.out; omega) (.int .i64 r'.how)).store g 3 (fun h => by have := HG.out; omega) (.int .i64 r'.lo)).store g 4 (fun h => by have := HG.out; omega) (.int .i64 r'.hi)).store g 5 (fun h => by have := HG.out; omega) (.slice A5 r'.want.length c5)).store g 6 (fun h => by have := HG.out; omega) (.bool r'.need))
  have HW := xhd ((HX.out.rows _ HPA.out).keeps HKS.out (fun _ _ h => h))
  clear hB hp hsome hk2 HF HB HK hcell hwant hpa hkr hkl
  go_wp2_with fail
  refine bodyPost_ret (y07 rfl _ _ g 122 _ (0, 0) _ rfl HZS.out Tryz.underlying122 rfl (by rw [HI.out]; rfl)) rfl ?_
  exact ⟨A5, c5, r', rfl, HE.out.symm, HW.out.mono (fun _ _ => trivial), .inl ⟨_, HPA.out, rfl⟩, HKS.out⟩
namespace Pure
def Rule.nearTo (r : Rule) (n : Nat) : Nat := if r.how = 4 then n &&& r.hi.toNat else min (max n r.lo.toNat) r.hi.toNat
def Rule.Ok (r : Rule) : Prop := 1 ≤ r.len → r.len ≤ 4 → 0 ≤ r.lo ∧ r.lo ≤ r.hi ∧ r.hi < 4294967296
end Pure
theorem yaw (v : Value) (r : Pure.Rule) (w : World) : Calls Tryz.prog 216 #[y1i (v, r)] w fun e w' => e = .returned (.bool (decide (1 ≤ r.len ∧ r.len ≤ 4))) ∧ Keeps y01 w w' := by
 have HK0 := xhd ((Keeps.refl y01 w).alloc (.cells (y0a (v, r)).toArray 122))
 by_cases h1 : 1 ≤ r.len
 ·have d1 : decide (1 ≤ r.len) = true := decide_eq_true h1
  have HD := xhd (show decide (1 ≤ r.len ∧ r.len ≤ 4) = decide (r.len ≤ 4) by simp [h1])
  clear h1
  go_enter Tryz.func216, Tryz.ntmps216
  go_wp2_with fail
  go_ret
  exact ⟨by rw [HD.out]; rfl, HK0.out⟩
 ·have d1 : decide (1 ≤ r.len) = false := decide_eq_false h1
  have HD := xhd (show decide (1 ≤ r.len ∧ r.len ≤ 4) = false by simp [h1])
  clear h1
  go_enter Tryz.func216, Tryz.ntmps216
  go_wp2_with fail
  go_ret
  exact ⟨by rw [HD.out]; rfl, HK0.out⟩
theorem y8m (v : Value) (r : Pure.Rule) (A : Option Addr) (n c : Nat) (w : World) (_ : n ≤ maxLen) : Calls Tryz.prog 217 #[y1i (v, r), .slice A n c] w fun e w' => e = .returned (.bool (decide (1 ≤ r.len ∧ r.len ≤ 4 ∧ (n : Int) = r.len))) ∧ Keeps y01 w w' := by
 have hb := Blk.new w 122 (y0a (v, r)).toArray
 have HK0 := xhd ((Keeps.refl y01 w).alloc (.cells (y0a (v, r)).toArray 122))
 have HC := xhd (yaw v r (w.alloc (.cells (y0a (v, r)).toArray 122)))
 have hc1 : (w.alloc (.cells (y0a (v, r)).toArray 122)).cell? ⟨w.heap.size, 1, none⟩ = some (.int .i64 r.len) := by rw [hb.cell]; rfl
 by_cases h : 1 ≤ r.len ∧ r.len ≤ 4
 ·rw [decide_eq_true h] at HC
  have HD := xhd (show decide (1 ≤ r.len ∧ r.len ≤ 4 ∧ (n : Int) = r.len) = decide ((n : Int) = r.len) by simp [h.1, h.2])
  clear h hb
  go_enter Tryz.func217, Tryz.ntmps217
  go_wp2_with fail
  refine HC.out.mono ?_
  rintro e w1 ⟨rfl, hk⟩
  have c1 := y04 hc1 hk
  have HK1 := xhd (HK0.out.trans hk)
  clear hk HC hc1
  go_wp2_with fail
  go_ret
  exact ⟨by rw [HD.out]; rfl, HK1.out⟩
 ·rw [decide_eq_false h] at HC
  have HD := xhd (show decide (1 ≤ r.len ∧ r.len ≤ 4 ∧ (n : Int) = r.len) = false by rw [decide_eq_false_iff_not]; exact fun h' => h ⟨h'.1, h'.2.1⟩)
  clear h hb hc1
  go_enter Tryz.func217, Tryz.ntmps217
  go_wp2_with fail
  refine HC.out.mono ?_
  rintro e w1 ⟨rfl, hk⟩
  have HK1 := xhd (HK0.out.trans hk)
  clear hk HC
  go_wp2_with fail
  go_ret
  exact ⟨by rw [HD.out]; rfl, HK1.out⟩
theorem yak (v : Value) (r : Pure.Rule) (n : Nat) (w : World) (hn : n < 4294967296) (hr : 0 ≤ r.lo ∧ r.lo ≤ r.hi ∧ r.hi < 4294967296) :
  Calls Tryz.prog 218 #[y1i (v, r), .int .i64 (n : Int)] w fun e w' => e = .returned (.int .i64 (r.nearTo n : Nat)) ∧ Keeps y01 w w' := by
 have hb := Blk.new w 122 (y0a (v, r)).toArray
 have HK0 := xhd ((Keeps.refl y01 w).alloc (.cells (y0a (v, r)).toArray 122))
 by_cases h4 : r.how = 4
 ·have q4 : (r.how == 4) = true := by rw [beq_iff_eq]; exact h4
  have HN := xhd (show r.nearTo n = n &&& r.hi.toNat by unfold Pure.Rule.nearTo; rw [if_pos h4])
  have ha : bits .and .i64 (n : Int) r.hi = ((n &&& r.hi.toNat : Nat) : Int) := by
   rw [i64_and _ _ (by omega) (by omega) (by omega) (by omega)]
   simp
  clear h4 hb hr
  go_enter Tryz.func218, Tryz.ntmps218
  go_wp2_with fail
  go_ret
  exact ⟨by rw [HN.out]; rfl, HK0.out⟩
 ·have q4 : (r.how == 4) = false := by rw [beq_eq_false_iff_ne]; exact h4
  have HN := xhd (show ((r.nearTo n : Nat) : Int) = min (max (n : Int) r.lo) r.hi by unfold Pure.Rule.nearTo; rw [if_neg h4]; omega)
  clear h4 hb hr
  go_enter Tryz.func218, Tryz.ntmps218
  go_wp2_with fail
  all_goals
   go_ret
   refine ⟨?_, HK0.out⟩
   rw [HN.out]
   show Ending.returned (Value.int IntKind.i64 _) = _
   congr 2
   first | omega | (split at * <;> omega) | trace_state
theorem y3z (F : Nat → Prop) (x : Value) (l : List UInt8) (w : World) (hr : Row w F 1 x l.length (u8s l)) (hl : l.length ≤ 4) :
  Calls Tryz.prog 60 #[x] w fun e w' => e = .returned (.int .i64 (Pure.bnum l : Nat)) ∧ w = w' := by
 obtain ⟨A, c, rfl, hc⟩ := hr.form
 have HR := xhd hr
 have HT := xhd (fun (k : Nat) (h : k ≤ l.length) => show Pure.bnum (l.take k) < 4294967296 from Pure.bnum_small (by rw [List.length_take]; omega))
 have HT3 := xhd (fun (k : Nat) (h : k < l.length) => show Pure.bnum (l.take k) < 16777216 from Nat.lt_of_lt_of_le (Pure.bnum_lt _) (show 256 ^ (l.take k).length ≤ 256 ^ 3 from Nat.pow_le_pow_right (by omega) (by rw [List.length_take]; omega)))
 clear hr
 go_enter Tryz.func60, Tryz.ntmps60
 go_wp2_with fail
 go_loopw [3, 8] (fun v i wr => ∃ k : Nat, k ≤ l.length ∧ i = .int .i64 (k : Int) ∧ v = .int .i64 (Pure.bnum (l.take k) : Nat) ∧ wr = w) (fun _ i _ => l.length - (intOf i).toNat)
 case atStart => exact ⟨0, by omega, rfl, rfl, rfl⟩
 case round =>
  obtain ⟨k, hk, rfl, rfl, rfl⟩ := hrel
  by_cases hkl : k < l.length
  ·have i0 : (0 : Int) ≤ (k : Int) := by omega
   have i1 : (k : Int) < (l.length : Int) := by omega
   obtain ⟨b, off, rfl, _, hcx⟩ := HR.out.cellAt (by omega)
   have b0 := hcx k _ (y3t l k hkl)
   have hx := (l.getD k 0).toNat_lt
   have hN := HT3.out k hkl
   have hsn : Pure.bnum (l.take (k + 1)) = Pure.bnum (l.take k) * 256 + (l.getD k 0).toNat := by
    rw [List.take_succ_eq_append_getElem hkl, Pure.bnum_snoc]
    simp [List.getD_eq_getElem?_getD, hkl]
   have hM := HT.out (k + 1) (by omega)
   obtain ⟨N, hN'⟩ : ∃ N, N = Pure.bnum (l.take k) := ⟨_, rfl⟩
   obtain ⟨M, hM'⟩ : ∃ N, N = Pure.bnum (l.take (k + 1)) := ⟨_, rfl⟩
   obtain ⟨X, hX⟩ : ∃ N, N = (l.getD k 0).toNat := ⟨_, rfl⟩
   rw [← hN', ← hM', ← hX] at hsn
   rw [← hN'] at hN ⊢
   rw [← hM'] at hM
   rw [← hX] at b0 hx
   have eor : bits .or .i64 ((N : Int) * 256) (X : Int) = (M : Int) := by
    have h := yb1 (N * 256) X (by omega) (by omega)
    rw [show N * 256 ||| X = M by rw [hsn, show (256 : Nat) = 2 ^ 8 by rfl, ← Nat.shiftLeft_eq, Nat.shiftLeft_add_eq_or_of_lt (show X < 2 ^ 8 by omega)]] at h
    simpa using h
   have HM := xhd hM'
   clear hcx hN' hM' hX hsn hM
   go_wp2_with fail
   go_roundw
   case rel => exact ⟨k + 1, by omega, by go_num, by rw [← HM.out], trivial⟩
   case measure => simp [intOf]; omega
  ·have hkk : k = l.length := by omega
   have HE := xhd (show Pure.bnum (l.take k) = Pure.bnum l by rw [hkk, List.take_length])
   subst hkk
   clear hkl hk
   go_wp2
   go_ret
   exact ⟨by rw [← HE.out]; rfl, rfl⟩
theorem set_back (m : Nat) (L : List UInt8) (B : UInt8) : (List.replicate (m + 1) 0 ++ L).set m B = List.replicate m 0 ++ B :: L := by
 rw [List.replicate_succ', List.append_assoc, List.set_append_right _ _ (by simp)]
 simp
theorem wide_at (x n m : Nat) (h : m < n) : (Pure.wide x n).drop m = UInt8.ofNat (x / 256 ^ (n - 1 - m) % 256) :: (Pure.wide x n).drop (m + 1) := by
 have hl : m < (Pure.wide x n).length := by rw [Pure.wide_length]; exact h
 rw [List.drop_eq_getElem_cons hl]
 congr 1
 simp [Pure.wide]
theorem y75 (x n : Nat) (w : World) (hn : n ≤ 4) (_ : x < 4294967296) :
  Calls Tryz.prog 92 #[.int .i64 x, .int .i64 n] w fun e w' => ∃ A c, e = .returned (.slice A n c) ∧ Row w' (fun b => w.heap.size ≤ b) 1 (.slice A n c) n (u8s (Pure.wide x n)) ∧ Keeps y01 w w' := by
 go_enter Tryz.func92, Tryz.ntmps92
 go_wp2_with (at_make; refine y0t ?_)
 unfold Hid
 refine y7j rfl _ _ rfl n .i64 .i64 rfl rfl (by omega) ?_
 intro w1 hX hk hs
 obtain ⟨g, hg⟩ : ∃ g, g = w.heap.size := ⟨_, rfl⟩
 rw [← hg] at hX ⊢
 have HX := xhd hX
 have HK := xhd hk
 have HG := xhd hg
 clear hX hk hs hg
 go_wp2_with fail
 go_loopw [12] (fun v wr => ∃ k : Nat, k ≤ n ∧ v = .int .i64 (k : Int) ∧ Blk wr g 5 (u8s (List.replicate (n - k) 0 ++ (Pure.wide x n).drop (n - k))).toArray ∧ Keeps (only g) w1 wr) (fun v _ => n - (intOf v).toNat)
 case atStart =>
  refine ⟨0, by omega, rfl, ?_, Keeps.refl _ _⟩
  rw [Nat.sub_zero, List.drop_of_length_le (by rw [Pure.wide_length]; omega), List.append_nil]
  exact HX.out
 case round =>
  clear HX
  obtain ⟨k, hk, rfl, hX, hK⟩ := hrel
  have HX := xhd hX
  have HK2 := xhd hK
  by_cases hkl : k < n
  ·obtain ⟨m, hm⟩ : ∃ m, n - 1 - k = m := ⟨_, rfl⟩
   have hnk : n - k = m + 1 := by omega
   have hi0 : (0 : Int) ≤ (n : Int) - 1 - (k : Int) := by omega
   have hi1 : (n : Int) - 1 - (k : Int) < (n : Int) := by omega
   have e1 : wrap64 ((n : Int) - 1) = (n : Int) - 1 := IntWalk.wrap64_in _ (by omega)
   have e3 : wrap64 (8 * (k : Int)) = ((8 * k : Nat) : Int) := by rw [IntWalk.wrap64_in _ (by omega)]; omega
   obtain ⟨B, hBe⟩ : ∃ B, B = UInt8.ofNat (x / 256 ^ k % 256) := ⟨_, rfl⟩
   have hbv : ((x : Int) / 2 ^ (8 * k) % 256) = (B.toNat : Int) := by
    rw [hBe, show (UInt8.ofNat (x / 256 ^ k % 256)).toNat = x / 256 ^ k % 256 by simp, show (256 : Nat) ^ k = 2 ^ (8 * k) by rw [Nat.pow_mul]]
    simp
   rw [hnk] at HX
   have hlen : (List.replicate (m + 1) 0 ++ (Pure.wide x n).drop (m + 1)).length = n := by simp [Pure.wide_length]; omega
   have k0 : wr.cell? ⟨g, m, none⟩ = some (.int .u8 ((List.replicate (m + 1) 0 ++ (Pure.wide x n).drop (m + 1)).getD m 0).toNat) := by rw [HX.out.cell, ← y3t _ m (by omega)]; simp only [List.getElem?_toArray]
   obtain ⟨old, hold⟩ : ∃ old, old = (List.replicate (m + 1) 0 ++ (Pure.wide x n).drop (m + 1)).getD m 0 := ⟨_, rfl⟩
   rw [← hold] at k0
   have f0 : wr.frozen? ⟨g, m, none⟩ = false := HX.out.frozen m
   have HS := xhd (show Blk (wr.setCell ⟨g, m, none⟩ (.int .u8 B.toNat)) g 5 (u8s (List.replicate m 0 ++ (Pure.wide x n).drop m)).toArray by
    have h := HX.out.set m (.int .u8 B.toNat)
    have e : (u8s (List.replicate (m + 1) 0 ++ (Pure.wide x n).drop (m + 1))).toArray.setIfInBounds m (.int .u8 B.toNat) = (u8s (List.replicate m 0 ++ (Pure.wide x n).drop m)).toArray := by
     rw [wide_at x n m (by omega), show n - 1 - m = k by omega, ← hBe, ← set_back, xqA]
     congr 1
     rw [← List.map_set]
    rw [e] at h
    exact h)
   have HKS := xhd (HK2.out.store g m (fun _ => rfl) (.int .u8 B.toNat))
   have HM := xhd (show m = n - (k + 1) by omega)
   subst hm
   clear hX hK hold hlen hBe hnk
   go_wp2_with fail
   go_roundw
   case rel =>
    refine ⟨k + 1, by omega, by go_num, ?_, HKS.out⟩
    rw [← HM.out]
    exact HS.out
   case measure => simp [intOf]; omega
  ·have hkk : k = n := by omega
   subst hkk
   have HR := xhd (show Row wr (fun b => w.heap.size ≤ b) 1 (.slice (some ⟨g, 0, none⟩) k k) k (u8s (Pure.wide x k)) by
    have h := HX.out
    rw [Nat.sub_self] at h
    have := Row.block (F := fun b => w.heap.size ≤ b) (size := 1) (n := k) (c := k) h (by rw [HG.out]; exact Nat.le_refl _) (by simp [Pure.wide_length]) (by unfold maxLen; omega) (Nat.le_refl _)
    simpa using this)
   have HKE := xhd (show Keeps y01 w wr from (HK.out.trans' HK2.out (fun i hi hl => by have e : i = g := hi; have := HG.out; omega)))
   clear hX hK HX HK HK2
   go_wp2_with fail
   go_ret
   exact ⟨_, _, rfl, HR.out, HKE.out⟩
end Go.Proofs.YtmgicbckgpdkcaaGreatDoor
