/- The document's cipher: NewRc4, Symbol. -/
import Derived.Test.YtkfcdeeohhghhaaRc4E
namespace Go.Proofs.Ytkfcdeeohhghhaa
open Go.RowKit

/-- The document's cipher of a key, at block g. -/
structure DKObj (w : World) (g : Nat) (c : Pure.Rc) : Prop where
  blk : Blk w g 40 (mc c.s c.i c.j c.n false 0)
  ok : c.Ok
theorem DKObj.lt {w : World} {g : Nat} {c : Pure.Rc} (h : DKObj w g c) : g < w.heap.size := h.blk.lt
theorem DKObj.keeps {S : Nat → Prop} {w w' : World} {g : Nat} {c : Pure.Rc} (h : DKObj w g c) (k : Keeps S w w') (hs : ¬ S g) : DKObj w' g c := ⟨h.blk.keeps k hs, h.ok⟩
/-- The document's term. -/
structure DTObj (w : World) (g id n : Nat) : Prop where
  blk : Blk w g 40 (mc zero256 0 0 n true id)
theorem DTObj.lt {w : World} {g id n : Nat} (h : DTObj w g id n) : g < w.heap.size := h.blk.lt
theorem DTObj.keeps {S : Nat → Prop} {w w' : World} {g id n : Nat} (h : DTObj w g id n) (k : Keeps S w w') (hs : ¬ S g) : DTObj w' g id n := ⟨h.blk.keeps k hs⟩

set_option maxRecDepth 100000 in
set_option maxHeartbeats 1000000 in
theorem docsymbol_any (id : Nat) (w : World) :
    Calls Try.prog 15 #[.int .i64 id] w fun e w' => e = .returned (.pointer (some ⟨w.heap.size, 0, none⟩)) ∧ DTObj w' w.heap.size id 0 ∧ Below w.heap.size w w' := by
  have HB := Lib.hid (build_docterm id w)
  go_enter Try.func15, Try.ntmps15
  go_upto_region 1 with fail
  apply wp_region_lit
  refine wpList_plain rfl (fun K hK => ?_)
  go_simp
  refine hK _ _ ?_
  clear hK K
  refine wpList_build_at rfl _ _ rfl _ rfl _ HB.out ?_
  go_wp2
  go_ret
  exact ⟨rfl, ⟨Blk.new w _ _⟩, (Below.refl _ w).alloc (Nat.le_refl _) _⟩

theorem newdoc_cells (key : List UInt8) : mc (Pure.ksaAt key 256).1 0 0 0 false 0 = mc (Pure.Rc.new key).s (Pure.Rc.new key).i (Pure.Rc.new key).j (Pure.Rc.new key).n false 0 := by
  unfold Pure.Rc.new
  generalize Pure.ksaAt key 256 = p
  rfl
theorem newdoc_bad (A : Option Addr) (len c : Nat) (w : World) (h : len < 1 ∨ 256 < len) (hl : len ≤ maxLen) :
    Calls Try.prog 14 #[.slice A len c] w fun e w' => e = .returned (.tuple #[.pointer none, .int .i64 1]) ∧ w = w' := by
  unfold maxLen at hl
  rcases h with h | h
  · have d1 : (len : Int) < 1 := by omega
    go_enter Try.func14, Try.ntmps14
    go_wp2
    go_ret2
    exact ⟨rfl, rfl⟩
  · have d1 : ¬ (len : Int) < 1 := by omega
    have d2 : (len : Int) > 256 := by omega
    go_enter Try.func14, Try.ntmps14
    go_wp2
    go_ret2
    exact ⟨rfl, rfl⟩

set_option maxRecDepth 100000 in
set_option maxHeartbeats 4000000 in
theorem newdoc_ok (F : Nat → Prop) (x : Value) (key : List UInt8) (w : World) (hr : Row w F 1 x key.length (u8s key)) (h0 : 0 < key.length) (h1 : key.length ≤ 256) :
    Calls Try.prog 14 #[x] w fun e w' => e = .returned (.tuple #[.pointer (some ⟨w.heap.size, 0, none⟩), .int .i64 0]) ∧ DKObj w' w.heap.size (Pure.Rc.new key) ∧ Below w.heap.size w w' := by
  obtain ⟨A, c, rfl, hc⟩ := hr.form
  have HR := Lib.hid hr
  have HB := Lib.hid (build_doc w)
  have d1 : ¬ (key.length : Int) < 1 := by omega
  have d2 : ¬ (key.length : Int) > 256 := by omega
  clear hr
  go_enter Try.func14, Try.ntmps14
  go_upto_region 3 with fail
  apply wp_region_lit
  refine wpList_build_at rfl _ _ rfl _ rfl _ HB.out ?_
  go_wp2_with fail
  go_loopw [5] (fun i wr => ∃ k : Nat, k ≤ 256 ∧ i = .int .i64 k ∧ Blk wr w.heap.size 40 (mc (filled k) 0 0 0 false 0) ∧ Keeps nobody w wr) (fun i _ => 256 - (intOf i).toNat)
  case atStart => exact ⟨0, by omega, rfl, by rw [filled_zero]; exact Blk.new w _ _, (Keeps.refl _ w).alloc _⟩
  case round =>
    clear HB
    obtain ⟨k, hk, rfl, hT, hK⟩ := hrel
    have HT := Lib.hid hT
    have HK := Lib.hid hK
    by_cases hlt : k < 256
    · have hi0 : (0 : Int) ≤ (k : Int) := by omega
      have hi1 : (k : Int) < 256 := by omega
      have hcell : wr.cell? ⟨w.heap.size, k, none⟩ = some (.int .u8 (((filled k).getD k 0).toNat)) := by
        rw [hT.cell]
        exact mc_s (filled_length k) k hlt
      have hfr := hT.frozen k
      clear hT hK
      go_wp2
      go_roundw
      case rel =>
        refine ⟨k + 1, by omega, by go_num, ?_, HK.out.store _ _ (fun h => by omega) _⟩
        have h := HT.out.set k (.int .u8 k)
        have e : (k : Int) = ((UInt8.ofNat k).toNat : Nat) := by
          rw [UInt8.toNat_ofNat', Nat.mod_eq_of_lt (by omega)]
        rw [e, mc_set (filled_length k) k hlt, filled_succ k hlt] at h
        rw [e]
        exact h
      case measure => simp [intOf]; omega
    · obtain rfl : k = 256 := by omega
      rw [filled_all key] at HT
      clear hT hK
      obtain ⟨w1, hw1⟩ : ∃ w1, w1 = wr := ⟨_, rfl⟩
      rw [← hw1] at HT HK ⊢
      clear hw1
      go_wp2_with fail
      go_loopw [6, 7] (fun j i wr => ∃ k : Nat, k ≤ 256 ∧ i = .int .i64 k ∧ j = .int .i64 ((Pure.ksaAt key k).2 : Nat) ∧ Blk wr w.heap.size 40 (mc (Pure.ksaAt key k).1 0 0 0 false 0) ∧ Keeps nobody w wr) (fun _ i _ => 256 - (intOf i).toNat)
      case atStart => exact ⟨0, by omega, rfl, rfl, HT.out, HK.out⟩
      case round =>
        clear HT HK
        obtain ⟨k, hk, rfl, rfl, hT, hK⟩ := hrel
        have HT := Lib.hid hT
        have HK := Lib.hid hK
        by_cases hlt : k < 256
        · have hi0 : (0 : Int) ≤ (k : Int) := by omega
          have hi1 : (k : Int) < 256 := by omega
          have hsl := Pure.ksaAt_length key k
          obtain ⟨s, hs⟩ : ∃ s, s = (Pure.ksaAt key k).1 := ⟨_, rfl⟩
          rw [← hs] at hsl
          have hcell : wr.cell? ⟨w.heap.size, k, none⟩ = some (.int .u8 ((s.getD k 0).toNat)) := by
            rw [hT.cell, hs]
            exact mc_s (Pure.ksaAt_length key k) k hlt
          have hm : k % key.length < key.length := Nat.mod_lt _ h0
          obtain ⟨b, off, rfl, hbF, hkc⟩ := (HR.out.keeps hK (fun _ _ h => h)).cellAt h0
          have hkcell := hkc _ _ (u8s_at key (k % key.length) hm)
          obtain ⟨J, hJ⟩ : ∃ J, J = (Pure.ksaAt key k).2 := ⟨_, rfl⟩
          have hJ2 : J < 256 := by rw [hJ]; exact Pure.ksaAt_lt key k
          obtain ⟨X, hX⟩ : ∃ X : Nat, X = (s.getD k 0).toNat := ⟨_, rfl⟩
          have hX2 : X < 256 := by rw [hX]; exact UInt8.toNat_lt _
          obtain ⟨Y, hY⟩ : ∃ Y : Nat, Y = (key.getD (k % key.length) 0).toNat := ⟨_, rfl⟩
          have hY2 : Y < 256 := by rw [hY]; exact UInt8.toNat_lt _
          rw [← hX] at hcell
          rw [← hY] at hkcell
          rw [← hJ]
          obtain ⟨K, hKK⟩ : ∃ K : Nat, K = (J + X + Y) % 256 := ⟨_, rfl⟩
          have hK2 : K < 256 := by omega
          have e1 : ((J : Int) + (X : Int) + (Y : Int)) % 256 = (K : Int) := by omega
          have hKJ : K = (Pure.ksaAt key (k + 1)).2 := by
            rw [hKK, hX, hY, hJ, hs]
            rfl
          have HKJ := Lib.hid hKJ
          have hnext : (Pure.ksaAt key (k + 1)).1 = Pure.swap s k K := by rw [hKJ, hs]; rfl
          have HN := Lib.hid hnext
          have HS := Lib.hid hsl
          have HX := Lib.hid hX
          have HT1 := Lib.hid (show Blk wr w.heap.size 40 (mc s 0 0 0 false 0) by rw [hs]; exact hT)
          clear hT hK hJ hX hY hsl hkc hKK hKJ hnext hs HT
          go_upto_region 12 with fail
          go_quiet (fail)
          go_wp2_with fail
          rw [e1]
          obtain ⟨wq, hwq⟩ : ∃ wq, wq = wr.drewN nq := ⟨_, rfl⟩
          rw [← hwq]
          have hT2 : Blk wq w.heap.size 40 (mc s 0 0 0 false 0) := by rw [hwq]; exact HT1.out.drewN nq
          have HT2 := Lib.hid hT2
          have HK2 := Lib.hid (show Keeps nobody w wq by rw [hwq]; exact HK.out.drewN nq)
          obtain ⟨Z, hZ⟩ : ∃ Z : UInt8, Z = s.getD K 0 := ⟨_, rfl⟩
          have HZ := Lib.hid hZ
          have cK : wq.cell? ⟨w.heap.size, K, none⟩ = some (.int .u8 Z.toNat) := by rw [hT2.cell, hZ]; exact mc_s HS.out K hK2
          have ck : wq.cell? ⟨w.heap.size, k, none⟩ = some (.int .u8 X) := by rw [hT2.cell, HX.out]; exact mc_s HS.out k hlt
          have fk := hT2.frozen k
          have hK0 : (0 : Int) ≤ (K : Int) := by omega
          have hK3 : (K : Int) < 256 := by omega
          clear hT2 hwq hZ hcell hkcell e1 HT1 HK
          go_region
          obtain ⟨wb, hwb⟩ : ∃ wb, wb = (wq.setCell ⟨w.heap.size, k, none⟩ (.int .u8 Z.toNat)).drew := ⟨_, rfl⟩
          rw [← hwb]
          have hT3 : Blk wb w.heap.size 40 (mc (s.set k Z) 0 0 0 false 0) := by
            rw [hwb]
            have h := (HT2.out.set k (.int .u8 Z.toNat)).drew
            rw [mc_set HS.out k hlt] at h
            exact h
          have hs3 : (s.set k Z).length = 256 := by rw [List.length_set]; exact HS.out
          have HT3 := Lib.hid hT3
          have HK3 := Lib.hid (show Keeps nobody w wb by rw [hwb]; exact (HK2.out.store _ _ (fun h => by omega) _).drew)
          have c3 : wb.cell? ⟨w.heap.size, K, none⟩ = some (.int .u8 (((s.set k Z).getD K 0).toNat)) := by rw [hT3.cell]; exact mc_s hs3 K hK2
          have f3 := hT3.frozen K
          have HS3 := Lib.hid hs3
          clear hT3 hs3 hwb cK ck fk HT2 HK2
          go_wp2
          go_roundw
          case rel =>
            refine ⟨k + 1, by omega, by go_num, by rw [← HKJ.out], ?_, HK3.out.store _ _ (fun h => by omega) _⟩
            have h := HT3.out.set K (.int .u8 X)
            rw [HX.out, mc_set HS3.out K hK2] at h
            rw [HN.out, HX.out]
            have e : Pure.swap s k K = (s.set k Z).set K (s.getD k 0) := by rw [HZ.out]; rfl
            rw [e]
            exact h
          case measure => simp [intOf]; omega
        · obtain rfl : k = 256 := by omega
          rw [newdoc_cells] at HT
          have hok := Pure.Rc.new_ok key
          obtain ⟨j1, hj1⟩ : ∃ j1, j1 = (Pure.ksaAt key 256).2 := ⟨_, rfl⟩
          rw [← hj1]
          clear hT hK hj1
          go_wp2
          go_ret2
          exact ⟨rfl, ⟨HT.out, hok⟩, HK.out.to_below⟩
end Go.Proofs.Ytkfcdeeohhghhaa
