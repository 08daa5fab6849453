/- Contracts of rc4's functions: New, Symbol, Xor, Offset, Clone. -/
import Derived.Laws.Tables
import Derived.Test.YtkfcdeeohhghhaaRc4C
namespace Go.Proofs.Ytkfcdeeohhghhaa
open Go.RowKit

theorem fold_set : ∀ (vs : List Value) (off i : Nat) (l : List Value), off + i + vs.length ≤ l.length →
    (vs.zipIdx i).foldl (fun cs x => Array.setIfInBounds cs (off + x.2) x.1) l.toArray = (l.take (off + i) ++ vs ++ l.drop (off + i + vs.length)).toArray
  | [], off, i, l, _ => by simp
  | v :: vs, off, i, l, h => by
    simp only [List.length_cons] at h
    have hl : off + i < l.length := by omega
    rw [List.zipIdx_cons, List.foldl_cons, List.setIfInBounds_toArray]
    have ih := fold_set vs off (i + 1) (l.set (off + i) v) (by simp; omega)
    rw [ih]
    congr 1
    have e1 : (l.set (off + i) v).take (off + (i + 1)) = l.take (off + i) ++ [v] := by
      rw [show off + (i + 1) = (off + i) + 1 by omega, List.take_succ_eq_append_getElem (by simpa using hl), List.getElem_set_self, List.take_set_of_le (Nat.le_refl _)]
    have e2 : (l.set (off + i) v).drop (off + (i + 1) + vs.length) = l.drop (off + i + (v :: vs).length) := by
      rw [List.drop_set_of_lt (by omega)]
      congr 1
      simp only [List.length_cons]
      omega
    rw [e1, e2]
    simp

theorem cipher_built : ∀ parts, Try.prog.built 47 parts = Instr.fill (fun i => (#[(0, 1), (1, 256), (257, 1), (258, 1), (259, 1), (260, 1)] : Array (Nat × Nat))[i]?) (cc 0 zero256 0 0 0 0) parts := fun _ => by kernel_rfl
theorem doc_built : ∀ parts, Try.prog.built 40 parts = Instr.fill (fun i => (#[(0, 256), (256, 1), (257, 1), (258, 1), (259, 1), (260, 1)] : Array (Nat × Nat))[i]?) (mc zero256 0 0 0 false 0) parts := fun _ => by kernel_rfl
theorem fill_next {place : Nat → Option (Nat × Nat)} {cells : Array Value} {i off size : Nat} {v : Value} {rest : List (Nat × Value)} (hp : place i = some (off, size)) (h1 : v.cells.size = size) (h2 : off + size ≤ cells.size) :
    Instr.fill place cells ((i, v) :: rest) = Instr.fill place (v.cells.toList.zipIdx.foldl (fun cs x => Array.setIfInBounds cs (off + x.2) x.1) cells) rest := by
  rw [Instr.fill, hp]
  have h3 : (decide (v.cells.size ≠ size) || decide (off + v.cells.size > cells.size)) = false := by simp; omega
  simp only [h3, Bool.false_eq_true, if_false]
  congr 1
  rw [← Array.foldl_toList, Array.toList_zipIdx]
theorem fill_one {place : Nat → Option (Nat × Nat)} {cells : Array Value} {i off : Nat} {v : Value} {rest : List (Nat × Value)} (hp : place i = some (off, 1)) (h1 : v.cells = #[v]) (h2 : off + 1 ≤ cells.size) :
    Instr.fill place cells ((i, v) :: rest) = Instr.fill place (cells.setIfInBounds off v) rest := by
  rw [fill_next hp (by rw [h1]; rfl) h2, h1]
  rfl
theorem wpList_build_at {P : Program} {ops : Array Oper} {rest : List Oper} {o : Oper} {a : Act} {w : World} {Q : Exit → Act → World → Prop} (hg : o.guard = none) (t : TypeId) (parts : Array (Nat × Operand)) (ho : o.op = .build t parts)
    (ps : Array (Nat × Value)) (hps : parts.toList.map (fun x => (x.1, a.eval x.2)) = ps.toList) (cells : Array Value) (hrun : (Instr.build t ps).run P w = .ok (.agg cells) w) (h : wpList P ops Q rest (a.put o.dst (.agg cells)) w) :
    wpList P ops Q (o :: rest) a w :=
  wpList_plain hg fun _ hK => by
    have e : (parts.map fun (i, x) => (i, a.eval x)) = ps := by
      apply Array.toList_inj.1
      rw [Array.toList_map]
      exact hps
    unfold Oper.wp execOp
    simp only [ho, Sem.run_bind, e, hrun, Result.andThen_ok]
    exact hK _ _ h
theorem fill_done {place : Nat → Option (Nat × Nat)} {cells : Array Value} : Instr.fill place cells [] = some cells := rfl
theorem cc_set_kd {kd : Int} {s : List UInt8} {i j : Nat} {id n : Int} (x : Int) : (cc kd s i j id n).setIfInBounds 0 (.int .i64 x) = cc x s i j id n := by
  unfold cc
  rw [List.setIfInBounds_toArray]
  rfl
theorem cc_set_id {kd : Int} {s : List UInt8} {i j : Nat} {id n : Int} (hs : s.length = 256) (x : Int) : (cc kd s i j id n).setIfInBounds 259 (.int .i64 x) = cc kd s i j x n := cc_set_tail hs 2 _
theorem cc_put (kd : Int) (s t : List UInt8) (i j : Nat) (id n : Int) (hs : s.length = 256) (ht : t.length = 256) :
    (u8s t).zipIdx.foldl (fun cs x => Array.setIfInBounds cs (1 + x.2) x.1) (cc kd s i j id n) = cc kd t i j id n := by
  unfold cc
  rw [fold_set (u8s t) 1 0 _ (by simp; omega)]
  congr 1
  have e : 1 + 0 + (u8s t).length = 256 + 1 := by simp [ht]
  rw [e, List.drop_succ_cons, List.drop_append_of_le_length (by simp; omega), List.drop_of_length_le (by simp; omega)]
  rfl
theorem build_key (s : List UInt8) (hs : s.length = 256) (w : World) : (Instr.build 47 #[(0, .int .i64 1), (1, .agg (tab s))]).run Try.prog w = .ok (.agg (cc 1 s 0 0 0 0)) w := by
  refine run_build w _ _ _ ?_
  rw [cipher_built, fill_one (off := 0) rfl rfl (by rw [cc_size zero256_length]; omega), cc_set_kd, fill_next (off := 1) (size := 256) rfl (by show (tab s).size = 256; rw [tab_size, hs]) (by rw [cc_size zero256_length]; omega), fill_done]
  congr 1
  exact cc_put 1 zero256 s 0 0 0 0 zero256_length hs
theorem build_term (id : Int) (w : World) : (Instr.build 47 #[(0, .int .i64 2), (4, .int .i64 id)]).run Try.prog w = .ok (.agg (cc 2 zero256 0 0 id 0)) w := by
  refine run_build w _ _ _ ?_
  rw [cipher_built, fill_one (off := 0) rfl rfl (by rw [cc_size zero256_length]; omega), cc_set_kd, fill_one (off := 259) rfl rfl (by rw [cc_size zero256_length]; omega), fill_done, cc_set_id zero256_length id]
theorem build_doc (w : World) : (Instr.build 40 #[]).run Try.prog w = .ok (.agg (mc zero256 0 0 0 false 0)) w := by
  refine run_build w _ _ _ ?_
  rw [doc_built]
  exact fill_done
theorem mc_set_t {s : List UInt8} {i j n id : Int} {t : Bool} (hs : s.length = 256) (x : Bool) : (mc s i j n t id).setIfInBounds 259 (.bool x) = mc s i j n x id := mc_set_tail hs 3 _
theorem mc_set_id {s : List UInt8} {i j n id : Int} {t : Bool} (hs : s.length = 256) (x : Int) : (mc s i j n t id).setIfInBounds 260 (.int .i64 x) = mc s i j n t x := mc_set_tail hs 4 _
theorem build_docterm (id : Int) (w : World) : (Instr.build 40 #[(4, .bool true), (5, .int .i64 id)]).run Try.prog w = .ok (.agg (mc zero256 0 0 0 true id)) w := by
  refine run_build w _ _ _ ?_
  rw [doc_built, fill_one (off := 259) rfl rfl (by rw [mc_size zero256_length]; omega), mc_set_t zero256_length, fill_one (off := 260) rfl rfl (by rw [mc_size zero256_length]; omega), fill_done, mc_set_id zero256_length id]

/-- The program's cipher that is a term. -/
structure TObj (w : World) (g id n : Nat) : Prop where
  blk : Blk w g 47 (cc 2 zero256 0 0 id n)
theorem TObj.lt {w : World} {g id n : Nat} (h : TObj w g id n) : g < w.heap.size := h.blk.lt
theorem TObj.keeps {S : Nat → Prop} {w w' : World} {g id n : Nat} (h : TObj w g id n) (k : Keeps S w w') (hs : ¬ S g) : TObj w' g id n := ⟨h.blk.keeps k hs⟩

set_option maxRecDepth 100000 in
set_option maxHeartbeats 1000000 in
theorem symbol_any (id : Nat) (w : World) :
    Calls Try.prog 11 #[.int .i64 id] w fun e w' => e = .returned (.pointer (some ⟨w.heap.size, 0, none⟩)) ∧ TObj w' w.heap.size id 0 ∧ Below w.heap.size w w' := by
  have HB := Lib.hid (build_term id w)
  go_enter Try.func11, Try.ntmps11
  go_upto_region 1 with fail
  apply wp_region_lit
  refine wpList_plain rfl (fun K hK => ?_)
  go_simp
  refine hK _ _ ?_
  clear hK K
  refine wpList_build_at rfl _ _ rfl _ rfl _ HB.out ?_
  go_wp2
  go_ret
  exact ⟨rfl, ⟨Blk.new w _ _⟩, (Below.refl _ w).alloc (Nat.le_refl _) _⟩

theorem new_cells (key : List UInt8) : cc 1 (Pure.ksaAt key 256).1 0 0 0 0 = cc 1 (Pure.Rc.new key).s (Pure.Rc.new key).i (Pure.Rc.new key).j 0 (Pure.Rc.new key).n := by
  unfold Pure.Rc.new
  generalize Pure.ksaAt key 256 = p
  rfl

set_option maxRecDepth 100000 in
set_option maxHeartbeats 1000000 in
theorem new_ok (F : Nat → Prop) (x : Value) (key : List UInt8) (w : World) (hr : Row w F 1 x key.length (u8s key)) (h0 : 0 < key.length) (h1 : key.length ≤ 256) :
    Calls Try.prog 10 #[x] w fun e w' => ∃ g, e = .returned (.tuple #[.pointer (some ⟨g, 0, none⟩), .int .i64 0]) ∧ w.heap.size ≤ g ∧ KObj w' g (Pure.Rc.new key) ∧ Below w.heap.size w w' := by
  obtain ⟨A, c, rfl, hc⟩ := hr.form
  have HM := Lib.hid (mixed_any F _ key w hr h0 h1)
  have d1 : ¬ (key.length : Int) < 1 := by omega
  have d2 : ¬ (key.length : Int) > 256 := by omega
  have hbk := build_key (Pure.ksaAt key 256).1 (Pure.ksaAt_length key 256)
  rw [new_cells] at hbk
  obtain ⟨c1, hc1⟩ : ∃ c1, c1 = Pure.Rc.new key := ⟨_, rfl⟩
  obtain ⟨s1, hs1⟩ : ∃ s1, s1 = (Pure.ksaAt key 256).1 := ⟨_, rfl⟩
  have hok := Pure.Rc.new_ok key
  rw [← hc1] at hbk hok ⊢
  rw [← hs1] at hbk HM
  have HBK := Lib.hid hbk
  clear hs1 hc1 hbk
  clear hr
  go_enter Try.func10, Try.ntmps10
  go_upto_region 3 with fail
  apply wp_region_lit
  refine wpList_plain rfl (fun K hK => ?_)
  go_simp
  refine hK _ _ ?_
  clear hK K
  refine wpList_plain rfl (fun K hK => ?_)
  go_simp
  refine HM.out.mono ?_
  rintro e w1 ⟨rfl, hb1⟩
  refine hK _ _ ?_
  clear hK K
  have HB := Lib.hid hb1
  have hsz := hb1.size
  clear HM hb1
  refine wpList_build_at rfl _ _ rfl _ rfl _ (HBK.out w1) ?_
  go_wp2
  go_ret2
  exact ⟨_, rfl, hsz, ⟨Blk.new w1 _ _, hok⟩, HB.out.alloc hsz _⟩

set_option maxHeartbeats 1000000 in
theorem new_bad (A : Option Addr) (len c : Nat) (w : World) (h : len < 1 ∨ 256 < len) (hl : len ≤ maxLen) :
    Calls Try.prog 10 #[.slice A len c] w fun e w' => e = .returned (.tuple #[.pointer none, .int .i64 1]) ∧ w = w' := by
  unfold maxLen at hl
  rcases h with h | h
  · have d1 : (len : Int) < 1 := by omega
    go_enter Try.func10, Try.ntmps10
    go_wp2
    go_ret2
    exact ⟨rfl, rfl⟩
  · have d1 : ¬ (len : Int) < 1 := by omega
    have d2 : (len : Int) > 256 := by omega
    go_enter Try.func10, Try.ntmps10
    go_wp2
    go_ret2
    exact ⟨rfl, rfl⟩
end Go.Proofs.Ytkfcdeeohhghhaa
