/- The table that a key stream begins with. -/
import Derived.Test.YtkfcdeeohhghhaaRc4A
namespace Go.Proofs.Ytkfcdeeohhghhaa
open Go.RowKit

/-- The cells of a table. -/
def tab (s : List UInt8) : Array Value := (u8s s).toArray
theorem tab_size (s : List UInt8) : (tab s).size = s.length := by simp [tab]
theorem tab_at (s : List UInt8) (k : Nat) (hk : k < s.length) : (tab s)[k]? = some (.int .u8 ((s.getD k 0).toNat)) := by
  unfold tab
  rw [List.getElem?_toArray]
  exact u8s_at s k hk
theorem tab_set (s : List UInt8) (k : Nat) (x : UInt8) : (tab s).setIfInBounds k (.int .u8 x.toNat) = tab (s.set k x) := by
  unfold tab
  rw [List.setIfInBounds_toArray]
  simp [List.map_set]
theorem tab_one (s : List UInt8) : (tab s).all (·.oneCell') = true := by simp [tab, Value.oneCell']
def zero256 : List UInt8 := List.replicate 256 0
theorem zero256_length : zero256.length = 256 := List.length_replicate
/-- The table's beginning: behind k rounds of the first loop. -/
def filledN (N k : Nat) : List UInt8 := (List.range N).map fun i => if i < k then UInt8.ofNat i else 0
def filled (k : Nat) : List UInt8 := filledN 256 k
theorem filled_length (k : Nat) : (filled k).length = 256 := by simp [filled, filledN]
theorem filledN_zero (N : Nat) : filledN N 0 = List.replicate N 0 := by
  apply List.ext_getElem?
  intro i
  simp only [filledN, List.getElem?_map, List.getElem?_replicate]
  by_cases h : i < N
  · simp [h]
  · simp [h]
theorem filled_zero : filled 0 = zero256 := filledN_zero 256
theorem filledN_succ (N k : Nat) (hk : k < N) : (filledN N k).set k (UInt8.ofNat k) = filledN N (k + 1) := by
  apply List.ext_getElem?
  intro i
  rw [List.getElem?_set]
  by_cases h : k = i
  · subst h
    simp [filledN, hk]
  · rw [if_neg h]
    simp only [filledN, List.getElem?_map]
    by_cases hi : i < N
    · simp only [List.getElem?_range hi, Option.map_some]
      congr 1
      by_cases h2 : i < k
      · rw [if_pos h2, if_pos (by omega)]
      · rw [if_neg h2, if_neg (by omega)]
    · simp [hi]
theorem filled_succ (k : Nat) (hk : k < 256) : (filled k).set k (UInt8.ofNat k) = filled (k + 1) := filledN_succ 256 k hk
theorem filledN_all (N : Nat) : filledN N N = (List.range N).map UInt8.ofNat := by
  unfold filledN
  apply List.map_congr_left
  intro i hi
  rw [if_pos (List.mem_range.1 hi)]
theorem filled_all (key : List UInt8) : filled 256 = (Pure.ksaAt key 0).1 := filledN_all 256

theorem Blk.raw {w : World} {g : Nat} {t : TypeId} {cs : Array Value} (h : Blk w g t cs) : w.heap[g]? = some (.cells cs t (0, 0)) := h
theorem Keeps.row {S : Nat → Prop} {a w : World} {g : Nat} (h : Keeps S a w) (hp : g < a.heap.size → S g) (cs : Array Value) : Keeps S a (w.setRow g cs) :=
  ⟨h.os, h.tape, h.output, by simpa using h.size, fun k hk hs => (setRow_other w g k cs (fun e => hs (e ▸ hp (e ▸ hk)))).trans (h.block k hk hs)⟩
theorem swap_tab {w w2 : World} {g i j n : Nat} {t : TypeId} {s : List UInt8} (h : Blk w g t (tab s))
    (hw : w2 = ((w.setCell ⟨g, 0 + i, none⟩ (.int .u8 (s.getD j 0).toNat)).setCell ⟨g, 0 + j, none⟩ (.int .u8 (s.getD i 0).toNat)).drewN n) : Blk w2 g t (tab (Pure.swap s i j)) := by
  subst hw
  rw [Nat.zero_add, Nat.zero_add]
  have h2 := (h.set i (.int .u8 (s.getD j 0).toNat)).set j (.int .u8 (s.getD i 0).toNat)
  rw [tab_set, tab_set] at h2
  exact h2.drewN n
theorem zero_tab : ∀ w, (zeroValue 38).run Try.prog w = .ok (.agg (tab zero256)) w := fun _ => by kernel_rfl
theorem tab_info : (Try.prog.info? 38).map (·.size) = some 256 := by kernel_rfl

set_option maxRecDepth 100000 in
set_option maxHeartbeats 4000000 in
theorem mixed_any (F : Nat → Prop) (x : Value) (key : List UInt8) (w : World) (hr : Row w F 1 x key.length (u8s key)) (h0 : 0 < key.length) (h1 : key.length ≤ 256) :
    Calls Try.prog 20 #[x] w fun e w' => e = .returned (.agg (tab (Pure.ksaAt key 256).1)) ∧ Below w.heap.size w w' := by
  obtain ⟨A, c, rfl, hc⟩ := hr.form
  have HR := Lib.hid hr
  have hz := zero_tab
  clear hr
  go_enter Try.func20, Try.ntmps20
  go_wp2_with fail
  go_loopw [8] (fun i wr => ∃ k : Nat, k ≤ 256 ∧ i = .int .i64 k ∧ Blk wr (w.heap.size + 1) 38 (tab (filled k)) ∧ Blk wr w.heap.size 38 (tab zero256) ∧ Keeps nobody w wr) (fun i _ => 256 - (intOf i).toNat)
  case atStart => exact ⟨0, by omega, rfl, by rw [filled_zero]; exact (by simpa using Blk.new (w.alloc (.cells (tab zero256) 38)) 38 (tab zero256)), (Blk.new w _ _).alloc _, ((Keeps.refl _ w).alloc _).alloc _⟩
  case round =>
    obtain ⟨k, hk, rfl, hT, hR, hK⟩ := hrel
    have HT := Lib.hid hT
    have HR2 := Lib.hid hR
    have HK := Lib.hid hK
    by_cases hlt : k < 256
    · have hi0 : (0 : Int) ≤ (k : Int) := by omega
      have hi1 : (k : Int) < 256 := by omega
      have hcell : wr.cell? ⟨w.heap.size + 1, k, none⟩ = some (.int .u8 (((filled k).getD k 0).toNat)) := by
        rw [hT.cell]
        exact tab_at _ _ (by rw [filled_length]; exact hlt)
      have hfr := hT.frozen k
      clear hT hR hK
      go_wp2
      go_roundw
      case rel =>
        refine ⟨k + 1, by omega, by go_num, ?_, HR2.out.far (by simp) _, HK.out.store _ _ (fun h => by omega) _⟩
        have h := HT.out.set k (.int .u8 k)
        have e : (k : Int) = ((UInt8.ofNat k).toNat : Nat) := by
          rw [UInt8.toNat_ofNat', Nat.mod_eq_of_lt (by omega)]
        rw [e, tab_set, filled_succ k hlt] at h
        rw [e]
        exact h
      case measure => simp [intOf]; omega
    · obtain rfl : k = 256 := by omega
      rw [filled_all key] at HT
      have HX := Lib.hid (exchanger_any ⟨w.heap.size + 1, 0, none⟩ wr)
      clear hT hR hK hz
      go_wp2_with fail
      refine HX.out.mono ?_
      rintro e w1 ⟨rfl, hw1⟩
      have hh : w.heap.size + 2 ≤ wr.heap.size := by have := HT.out.lt; omega
      obtain ⟨h, hhh⟩ : ∃ h, h = wr.heap.size := ⟨_, rfl⟩
      have HC := Lib.hid (show Blk w1 h 51 #[.pointer (some ⟨w.heap.size + 1, 0, none⟩)] by rw [← hw1, hhh]; exact Blk.new wr _ _)
      have HT1 := Lib.hid (show Blk w1 (w.heap.size + 1) 38 (tab (Pure.ksaAt key 0).1) by rw [← hw1]; exact HT.out.alloc _)
      have HR1 := Lib.hid (show Blk w1 w.heap.size 38 (tab zero256) by rw [← hw1]; exact HR2.out.alloc _)
      have HK1 := Lib.hid (show Keeps nobody w w1 by rw [← hw1]; exact HK.out.alloc _)
      rw [← hhh] at hh ⊢
      clear HX HT HR2 HK hw1 hhh hk
      go_wp2_with fail
      go_loopw [6, 17] (fun j i wr => ∃ k : Nat, k ≤ 256 ∧ i = .int .i64 k ∧ j = .int .u8 ((Pure.ksaAt key k).2 : Nat) ∧ Blk wr h 51 #[.pointer (some ⟨w.heap.size + 1, 0, none⟩)] ∧ Blk wr (w.heap.size + 1) 38 (tab (Pure.ksaAt key k).1) ∧ Blk wr w.heap.size 38 (tab zero256) ∧ Keeps nobody w wr) (fun _ i _ => 256 - (intOf i).toNat)
      case atStart => exact ⟨0, by omega, rfl, rfl, HC.out, HT1.out, HR1.out, HK1.out⟩
      case round =>
        clear HC HT1 HR1 HK1
        obtain ⟨k, hk, rfl, rfl, hC, hT, hR, hK⟩ := hrel
        have HC := Lib.hid hC
        have HT := Lib.hid hT
        have HR1 := Lib.hid hR
        have HK := Lib.hid hK
        by_cases hlt : k < 256
        · have hi0 : (0 : Int) ≤ (k : Int) := by omega
          have hi1 : (k : Int) < 256 := by omega
          have hsl := Pure.ksaAt_length key k
          have hcell : wr.cell? ⟨w.heap.size + 1, k, none⟩ = some (.int .u8 (((Pure.ksaAt key k).1.getD k 0).toNat)) := by
            rw [hT.cell]
            exact tab_at _ _ (by omega)
          have hm : k % key.length < key.length := Nat.mod_lt _ h0
          obtain ⟨b, off, rfl, hbF, hkc⟩ := (HR.out.keeps hK (fun _ _ h => h)).cellAt h0
          have hkcell := hkc _ _ (u8s_at key (k % key.length) hm)
          obtain ⟨J, hJ⟩ : ∃ J, J = (Pure.ksaAt key k).2 := ⟨_, rfl⟩
          have hJ2 : J < 256 := by rw [hJ]; exact Pure.ksaAt_lt key k
          obtain ⟨X, hX⟩ : ∃ X : Nat, X = ((Pure.ksaAt key k).1.getD k 0).toNat := ⟨_, rfl⟩
          have hX2 : X < 256 := by rw [hX]; exact UInt8.toNat_lt _
          obtain ⟨Y, hY⟩ : ∃ Y : Nat, Y = (key.getD (k % key.length) 0).toNat := ⟨_, rfl⟩
          have hY2 : Y < 256 := by rw [hY]; exact UInt8.toNat_lt _
          rw [← hX] at hcell
          rw [← hY] at hkcell
          rw [← hJ]
          have HJ := Lib.hid hJ
          have HX := Lib.hid hX
          have HY := Lib.hid hY
          have HKC := Lib.hid hkc
          clear hC hT hR hK hJ hX hY hsl hkc
          go_wp2_with fail
          go_quiet (fail)
          go_wp2_with fail
          obtain ⟨K, hK⟩ : ∃ K : Nat, K = (J + X + Y) % 256 := ⟨_, rfl⟩
          have hK2 : K < 256 := by omega
          have e1 : ((J : Int) + ((X : Int) + (Y : Int))) % 256 = (K : Int) := by omega
          have e2 : ((J : Int) + ((X : Int) + (Y : Int)) % 256) % 256 = (K : Int) := by omega
          rw [e1, e2]
          have hKJ : K = (Pure.ksaAt key (k + 1)).2 := by
            rw [hK, HX.out, HY.out, HJ.out]
            rfl
          have HKJ := Lib.hid hKJ
          have hnext : (Pure.ksaAt key (k + 1)).1 = Pure.swap (Pure.ksaAt key k).1 k K := by rw [hKJ]; rfl
          have HN := Lib.hid hnext
          clear e1 e2 hK hKJ hnext
          have HQ := Lib.hid (Keeps.of_drewN (w := wr) (n := nq) rfl)
          obtain ⟨wq, hwq⟩ : ∃ wq, wq = wr.drewN nq := ⟨_, rfl⟩
          rw [← hwq] at HQ ⊢
          have HC2 := Lib.hid (HC.out.keeps HQ.out (fun h => h))
          have HT2 := Lib.hid (HT.out.keeps HQ.out (fun h => h))
          have HR2 := Lib.hid (HR1.out.keeps HQ.out (fun h => h))
          have HK2 := Lib.hid (HK.out.trans HQ.out)
          clear hwq hcell hkcell HC HT HR1 HK HKC
          have hK3 : K < (Pure.ksaAt key k).1.length := by rw [Pure.ksaAt_length]; exact hK2
          have hk3 : k < (Pure.ksaAt key k).1.length := by rw [Pure.ksaAt_length]; exact hlt
          have HE := Lib.hid (exch_any (w.heap.size + 1) 0 h k K _ _ wq hlt hK2 (by omega) (by rw [HC2.out.cell]; rfl) (by rw [HT2.out.cell, Nat.zero_add]; exact tab_at _ _ hk3) (by rw [HT2.out.cell, Nat.zero_add]; exact tab_at _ _ hK3) (HT2.out.frozen _) (HT2.out.frozen _))
          clear hK3 hk3
          refine HE.out.mono ?_
          rintro e w2 ⟨rfl, n2, hw2⟩
          have HT3 := Lib.hid (swap_tab HT2.out hw2)
          have hk2 : Keeps (only (w.heap.size + 1)) wq w2 := by
            rw [hw2]
            exact (((Keeps.refl _ wq).store _ _ (fun _ => only_self _) _).store _ _ (fun _ => only_self _) _).drewN _
          have HC3 := Lib.hid (HC2.out.keeps hk2 (fun h => by unfold only at h; omega))
          have HR3 := Lib.hid (HR2.out.keeps hk2 (fun h => by unfold only at h; omega))
          have HK3 := Lib.hid (HK2.out.trans' hk2 (fun i hi hlt => by unfold only at hi; omega))
          clear hk2 hw2 HE HT2 HC2 HR2 HK2 HQ
          go_wp2
          go_roundw
          case rel => exact ⟨k + 1, by omega, by go_num, by rw [← HKJ.out], HC3.out, by rw [HN.out]; exact HT3.out, HR3.out, HK3.out⟩
          case measure => simp [intOf]; omega
        · obtain rfl : k = 256 := by omega
          clear hC hT hR hK HC
          have hi1 : (Try.prog.info? 38).map (·.size) = some (tab (Pure.ksaAt key 256).1).size := by rw [tab_info, tab_size, Pure.ksaAt_length]
          have HI := Lib.hid hi1
          have ho : (tab zero256).size = (tab (Pure.ksaAt key 256).1).size := by rw [tab_size, tab_size, Pure.ksaAt_length, zero256_length]
          have HO := Lib.hid ho
          clear hi1 ho
          go_upto_region 15 with fail
          apply wp_region_lit
          refine wpList_load_row rfl 38 (.tmp 3) rfl (w.heap.size + 1) rfl 38 _ (0, 0) _ HT.out.raw Try.underlying38 rfl HI.out ?_
          refine wpList_store_row rfl 38 (.tmp 2) (.tmp 39) rfl w.heap.size (tab (Pure.ksaAt key 256).1) rfl rfl 38 _ HR1.out.raw HI.out HO.out (tab_one _) ?_
          obtain ⟨w9, hw9⟩ : ∃ w9, w9 = wr.setRow w.heap.size (tab (Pure.ksaAt key 256).1) := ⟨_, rfl⟩
          have hb9 : Blk w9 w.heap.size 38 (tab (Pure.ksaAt key 256).1) := by
            rw [hw9]
            exact setRow_heap wr w.heap.size _ _ _ _ HR1.out.raw
          have hk9 : Keeps nobody w w9 := by
            rw [hw9]
            exact HK.out.row (fun h => by omega) _
          rw [← hw9]
          have HB9 := Lib.hid hb9
          have HK9 := Lib.hid hk9
          clear hw9 hb9 hk9
          go_wp2
          refine bodyPost_ret (results_cell_row rfl _ _ w.heap.size 38 _ (0, 0) _ rfl HB9.out.raw Try.underlying38 rfl HI.out) rfl ?_
          exact ⟨rfl, HK9.out.to_below⟩
end Go.Proofs.Ytkfcdeeohhghhaa
