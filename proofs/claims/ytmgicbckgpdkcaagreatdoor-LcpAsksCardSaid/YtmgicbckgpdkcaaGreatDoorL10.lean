/- slices.Chunk of bytes, in parts of 64, and its iterator. -/
import Derived.RangeFuncNested
import Derived.RangeFuncBound
import Derived.RangeFuncCalls
import Derived.RangeFuncLeaves
import Derived.Shelf.Abstract
import Derived.Shelf.RegionOpen
import Derived.OwnWalkIn
import Derived.TacticsInMore
import Derived.LoopNIn
import Derived.LoopIn
import Derived.BigRegionIn
import Derived.RangeFuncBox
import Derived.Test.YtmgicbckgpdkcaaGreatDoorL1
namespace Go.Proofs.YtmgicbckgpdkcaaGreatDoor
set_option maxRecDepth 100000
set_option maxHeartbeats 4000000
open Go.RowKit Go.Shelf
attribute [local go_sem] Oper.semAt_some
def y1d (D s : Nat) (W W' : World) : Prop := ∀ k, k < D → k ≠ s → W'.heap[k]? = W.heap[k]?
theorem keptBut_t {D s : Nat} {A B C : World} (h : y1d D s A B) (k : y1d D s B C) : y1d D s A C := fun i hi hs => (k i hi hs).trans (h i hi hs)
theorem y1d.boxed {D s : Nat} {W W' : World} (h : y1d D s W W') {B : Nat} {t : TypeId} {v : Value} (hb : Boxed W B t v) (h1 : B < D) (h2 : B ≠ s) : Boxed W' B t v := (h B h1 h2).trans hb
theorem chunk_any (a : Option Addr) (len cap : Nat) (w : World) :
  Calls Tryz.prog 208 #[.slice a len cap, .int .i64 64] w fun e w' => e = .returned (.func (.func 240) #[] #[.pointer (some ⟨w.heap.size, 0, none⟩), .pointer (some ⟨w.heap.size + 1, 0, none⟩)]) ∧
   w' = (w.alloc (.cells #[.slice a len cap] 29)).alloc (.cells #[.int .i64 64] 3) := by
 go_enter Tryz.func208, Tryz.ntmps208
 go_wp2
 go_ret
 exact ⟨rfl, rfl⟩
theorem chunk1_in (n : Nat) (hn : 1 ≤ n) (l Bv Bn D s : Nat) (hv1 : Bv < D) (hv2 : Bv ≠ s) (hn1 : Bn < D) (hn2 : Bn ≠ s) (A : Option Addr) (b off cap N B0 : Nat) (hA : 0 < N → A = some ⟨b, off, none⟩) (hcap : 64 * N ≤ cap) (hbig : N ≤ 10000000000) (J Jx : List (Fin N) → World → Prop) (hJ : AbidesFrom B0 J)
  (hY : ∀ pre x W, J pre W → pre.length < N → YieldAt Fence.wide (n - 1) Tryz.prog l #[.slice (some ⟨b, off + 64 * x.1, none⟩) 64 64] W fun e W' =>
   (e = .returned (.bool true) ∧ J (pre ++ [x]) W' ∧ y1d D s W W') ∨ (e = .returned (.bool false) ∧ Jx (pre ++ [x]) W'))
  (W : World) (hBv : Boxed W Bv 29 (.slice A (64 * N) cap)) (hBn : Boxed W Bn 3 (.int .i64 64)) (h0 : J [] W) :
  CallsIn Fence.wide n Tryz.prog 240 #[.func (.yield l) #[] #[], .pointer (some ⟨Bv, 0, none⟩), .pointer (some ⟨Bn, 0, none⟩)] W fun e W' => (∃ v, e = .returned v) ∧
   ((∃ xs, xs.map (·.1) = List.range N ∧ J xs W') ∨ (∃ pre, True ∧ Jx pre W')) := by
 refine callsIn_of_wp Tryz.func240 rfl trivial ?_ rfl
 simp only [Tryz.ntmps240, List.size_toArray, List.length_cons, List.length_nil, Nat.reduceAdd, Nat.reduceSub, Array.replicate_succ, Array.replicate_zero, List.push_toArray, List.append_toArray, List.nil_append, List.cons_append]
 gi_wp2
 gi_loopw [4] (fun i wr => ∃ (k : Nat) (pre : List (Fin N)), k ≤ N ∧ i = .int .i64 (64 * k : Nat) ∧ pre.map (·.1) = List.range k ∧ J pre wr ∧ Boxed wr Bv 29 (.slice A (64 * N) cap) ∧ Boxed wr Bn 3 (.int .i64 64))
  (fun i _ => 64 * N - (intOf i).toNat)
 case atStart => exact ⟨0, [], by omega, rfl, rfl, h0, hBv, hBn⟩
 case round =>
  obtain ⟨k, pre, hk, rfl, hpre, hJs, hb1, hb2⟩ := hrel
  have hlen : pre.length = k := by simpa using congrArg List.length hpre
  obtain ⟨M, hM⟩ : ∃ M, M = 64 * N := ⟨_, rfl⟩
  obtain ⟨q, hq⟩ : ∃ q, q = 64 * k := ⟨_, rfl⟩
  rw [← hM] at hb1 hcap
  rw [← hq, ← hM]
  have hc1 := hb1.cell
  have hc2 := hb2.cell
  by_cases hlt : k < N
  ·obtain rfl := hA (by omega)
   obtain ⟨fn, tmps, assign, body, hy, hR⟩ := hY pre ⟨k, hlt⟩ wr.drew (hJ pre wr wr.drew none hJs ⟨rfl, rfl, rfl, Nat.le_refl _, fun _ _ _ => rfl⟩ (fun r e => by cases e)) (by omega)
   dsimp only at hy
   rw [← hq] at hy
   have hq1 : q + 64 ≤ M := by omega
   have hM2 : M ≤ 640000000000 := by omega
   have q1 := Lib.hid hq
   have q2 := Lib.hid hM
   have q3 := Lib.hid hlen
   have q4 := Lib.hid hpre
   clear hY hq hM hBv hBn hlen hpre
   have hmin : (if (64 : Int) ≤ (M : Int) - (q : Int) then (64 : Int) else (M : Int) - (q : Int)) = 64 := by rw [if_pos (by omega)]
   gi_wp2
   gi_region
   gi_wp2
   refine hR.mono ?_
   rintro e W3 (⟨rfl, hJ3, hk3⟩ | ⟨rfl, hJx3⟩)
   ·have hb13 := y1d.boxed hk3 (show Boxed wr.drew Bv _ _ from hb1) hv1 hv2
    have hb23 := y1d.boxed hk3 (show Boxed wr.drew Bn _ _ from hb2) hn1 hn2
    have hc3 := hb23.cell
    gi_wp2
    go_roundw
    case rel => exact ⟨k + 1, pre ++ [⟨k, hlt⟩], by omega, by have := q1.out; subst this; simp; omega, by rw [List.map_append, q4.out, List.range_succ]; rfl, hJ3, by have := q2.out; subst this; exact hb13, hb23⟩
    case measure => simp [intOf]; omega
   ·gi_wp2
    refine bodyPost_ret (results_none rfl _ _ _) rfl ?_
    exact ⟨⟨_, rfl⟩, .inr ⟨_, trivial, hJx3⟩⟩
  ·obtain rfl : k = N := by omega
   obtain rfl : q = M := by omega
   clear hY
   gi_wp2
   go_end0
   exact ⟨⟨_, rfl⟩, .inl ⟨pre, hpre, hJs⟩⟩
theorem keptBut_kb {w : World} {s : Nat} (_ : s < w.heap.size) (W : World) (l : Nat) (o o' : Obj) (hl : w.heap.size ≤ l) (_ : W.heap[l]? = some o) (_ : o.isCells = false) (_ : o.isWalk = false) : y1d w.heap.size s W (W.putObj l o') :=
 fun k hk _ => World.putObj_heap_other (by omega)
theorem y8a (n : Nat) (hn : 1 ≤ n) (w : World) (Bv Bn s : Nat) (hv1 : Bv < w.heap.size) (hv2 : Bv ≠ s) (hn1 : Bn < w.heap.size) (hn2 : Bn ≠ s) (A : Option Addr) (b off cap N : Nat) (hA : 0 < N → A = some ⟨b, off, none⟩)
  (hcap : 64 * N ≤ cap) (hbig : N ≤ 10000000000) (hBv : Boxed w Bv 29 (.slice A (64 * N) cap)) (hBn : Boxed w Bn 3 (.int .i64 64)) :
  SeqStopsK Fence.wide n Tryz.prog 240 #[.pointer (some ⟨Bv, 0, none⟩), .pointer (some ⟨Bn, 0, none⟩)] (fun x : Fin N => #[Value.slice (some ⟨b, off + 64 * x.1, none⟩) 64 64])
   (y1d w.heap.size s) (fun xs => xs.map (·.1) = List.range N) (fun _ => True) N w := fun l J Jx W hW hJ _ hY h0 =>
 chunk1_in n hn l Bv Bn w.heap.size s hv1 hv2 hn1 hn2 A b off cap N W.heap.size hA hcap hbig J Jx hJ hY W ((hW.block Bv hv1).trans hBv) ((hW.block Bn hn1).trans hBn) h0
end Go.Proofs.YtmgicbckgpdkcaaGreatDoor
