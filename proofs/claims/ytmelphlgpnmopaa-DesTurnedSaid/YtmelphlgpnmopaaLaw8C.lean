/- The laws of des: DesTwice. -/
import Derived.Test.YtmelphlgpnmopaaLaw8A
namespace Go.Proofs.Ytmelphlgpnmopaa
open Go.RowKit
theorem row_array {w : World} {g : Nat} {t : TypeId} {l : List UInt8} {n : Nat} (h : Blk w g t (u8s l).toArray) (hl : l.length = n) (hn : n ≤ 1000) : Row w (fun b => b = g) 1 (.slice (some ⟨g, 0, none⟩) n n) n (u8s l) := by
  have := Row.block (F := fun b => b = g) (size := 1) (n := n) (c := n) h rfl (by simp [hl]) (by unfold maxLen; omega) (Nat.le_refl _)
  exact this
set_option maxRecDepth 100000 in
set_option maxHeartbeats 2000000 in
theorem desTwice_walk' (ones : Bool) (a : List UInt8) (ha : a.length = 8) (w : World) :
    Calls Try.prog 6 #[.bool ones, .agg (u8s a).toArray] w fun e w' => e = .returned (.bool true) ∧ Below w.heap.size w w' := by
  go_enter Try.func6, Try.ntmps6
  go_wp2_with fail
  obtain ⟨b3, hb3⟩ : ∃ b3, b3 = w.heap.size := ⟨_, rfl⟩
  obtain ⟨w1, hw1⟩ : ∃ w1, w1 = w.alloc (.cells (u8s a).toArray 31) := ⟨_, rfl⟩
  rw [← hw1, ← hb3]
  have hB1 : Blk w1 b3 31 (u8s a).toArray := by rw [hw1, hb3]; exact Blk.new w _ _
  have hk1 : Below w.heap.size w w1 := by rw [hw1]; exact Keeps.to_below ((Keeps.refl _ w).alloc _)
  have HB1 := Lib.hid hB1
  have HK1 := Lib.hid hk1
  have HB3 := Lib.hid hb3
  clear hw1 hB1 hk1 hb3
  refine (awake_any w1).mono ?_
  rintro e w2 ⟨rfl, hb2⟩
  have HB2 := Lib.hid (HB1.out.below hb2 HB1.out.lt)
  have HK2 := Lib.hid (HK1.out.trans (hb2.mono HK1.out.size))
  clear hb2 HB1 HK1
  go_wp2_with (at_make; refine stopHere ?_)
  unfold Hid
  refine wpList_make_u8 rfl _ _ rfl 7 .i64 .i64 rfl rfl (by omega) ?_
  intro w3 hX3 hk3 hs3
  obtain ⟨g, hg⟩ : ∃ g, g = w2.heap.size := ⟨_, rfl⟩
  rw [← hg] at hX3 ⊢
  have hg3 : b3 < g := by have := HB2.out.lt; omega
  have HX3 := Lib.hid hX3
  have HB3' := Lib.hid (HB2.out.keeps hk3 (fun h => h))
  have HK3 := Lib.hid (Below.quiet HK2.out hk3 HK2.out.size)
  have HG := Lib.hid (show w.heap.size ≤ g by have := HK2.out.size; omega)
  clear hX3 hk3 hs3 hg HB2 HK2
  go_wp2_with fail
  go_loopw [6] (fun v wr => ∃ k : Nat, k ≤ 7 ∧ v = .int .i64 (k : Int) ∧ (ones = false → k = 0) ∧ Blk wr g 5 (u8s (List.replicate k 255 ++ List.replicate (7 - k) 0)).toArray ∧ Keeps (only g) w3 wr) (fun v _ => 7 - (intOf v).toNat)
  case atStart => exact ⟨0, by omega, rfl, fun _ => rfl, by simpa using HX3.out, Keeps.refl _ _⟩
  case round =>
    clear HX3
    obtain ⟨k, hk, rfl, hones, hX, hK⟩ := hrel
    have HX := Lib.hid hX
    have HK := Lib.hid hK
    by_cases hkl : k < 7 ∧ ones = true
    · obtain ⟨hk7, rfl⟩ := hkl
      have hi0 : (0 : Int) ≤ (k : Int) := by omega
      have hi1 : (k : Int) < 7 := by omega
      have hlen : (List.replicate k (255 : UInt8) ++ List.replicate (7 - k) 0).length = 7 := by simp; omega
      have k0 : wr.cell? ⟨g, k, none⟩ = some (.int .u8 ((List.replicate k (255 : UInt8) ++ List.replicate (7 - k) 0).getD k 0).toNat) := by rw [hX.cell, ← u8s_at _ k (by omega)]; simp only [List.getElem?_toArray]
      obtain ⟨old, hold⟩ : ∃ old, old = (List.replicate k (255 : UInt8) ++ List.replicate (7 - k) 0).getD k 0 := ⟨_, rfl⟩
      rw [← hold] at k0
      have f0 : wr.frozen? ⟨g, k, none⟩ = false := hX.frozen k
      clear hX hK hold hlen hones
      go_wp2_with fail
      go_roundw
      case rel =>
        refine ⟨k + 1, by omega, by go_num, (fun h => by cases h), ?_, HK.out.store g k (fun _ => only_self g) _⟩
        have h := HX.out.set k (.int .u8 ((255 : UInt8).toNat : Int))
        rw [u8s_set', Pure.rep_set _ 7 k (by simp) hk7] at h
        rw [List.replicate_succ']
        exact h
      case measure => simp [intOf]; omega
    · have hkv : List.replicate k (255 : UInt8) ++ List.replicate (7 - k) 0 = List.replicate 7 (if ones then 255 else 0) := by
        cases ones
        · rw [hones rfl]
          rfl
        · have : k = 7 := by
            rcases Nat.lt_or_ge k 7 with h | h
            · exact absurd ⟨h, rfl⟩ hkl
            · omega
          subst this
          rfl
      rw [hkv] at hX
      obtain ⟨kv, hkv2⟩ : ∃ kv : UInt8, kv = if ones then 255 else 0 := ⟨_, rfl⟩
      rw [← hkv2] at hX
      have hkv3 : kv = 0 ∨ kv = 255 := by rw [hkv2]; cases ones; exact .inl rfl; exact .inr rfl
      have hA := HB3'.out.keeps hK (fun e => by have e : b3 = g := e; omega)
      have hKw := Below.keeps HK3.out hK HK3.out.size (fun i hi => by have hi : i = g := hi; have := HG.out; omega)
      have HKw := Lib.hid hKw
      have HA := Lib.hid hA
      have HXf := Lib.hid hX
      have HE := Lib.hid (encL hKw (row_array hX (by simp) (by omega)) (row_array hA ha (by omega)) (by simp) ha (fun b hb => by have hb : b = g := hb; rw [hb]; exact hX.lt) (fun b hb => by have hb : b = b3 := hb; rw [hb]; exact hA.lt))
      have hdec : ¬ ((k : Int) < 7) ∨ (k = 0 ∧ ones = false) := by
        cases ones
        · exact .inr ⟨hones rfl, rfl⟩
        · refine .inl fun h => hkl ⟨by omega, rfl⟩
      have HTw := Lib.hid (Pure.des_twice kv hkv3 a ha)
      clear HX HK hX hK hA hKw hkv hkv2 hkv3 hkl hones HB3'
      rcases hdec with hd | ⟨rfl, rfl⟩
      all_goals
        go_wp2_with fail
        refine HE.out.mono ?_
        rintro e w5 ⟨A5, c5, rfl, hu5, hk5, hb5⟩
        have HU5 := Lib.hid hu5
        have hX5 : Blk w5 g 5 (u8s (List.replicate 7 kv)).toArray := HXf.out.keeps hk5 (fun h => h)
        have hA5 := HA.out.keeps hk5 (fun h => h)
        have HA5 := Lib.hid hA5
        have HE2 := Lib.hid (encL (key := List.replicate 7 kv) (block := Pure.des (List.replicate 7 kv) a) hb5 (row_array hX5 (by simp) (by omega)) (Row.of_own hu5) (by simp) (Pure.des_length _ _) (fun b hb => by have hb : b = g := hb; rw [hb]; exact hX5.lt) (fun b hb => ownsRow_lt hu5 b hb))
        clear hu5 hk5 hb5 hX5 hA5 HE HXf HA
        go_wp2_with fail
        refine HE2.out.mono ?_
        rintro e w6 ⟨A6, c6, rfl, hu6, hk6, hb6⟩
        rw [HTw.out] at hu6
        have HSM := Lib.hid (sameY hb6 (Row.of_own hu6) (row_array (HA5.out.keeps hk6 (fun h => h)) ha (by omega)) ha rfl)
        clear hu6 hk6 hb6 HE2 HU5 HA5
        go_wp2_with fail
        refine HSM.out.mono ?_
        rintro e w7 ⟨rfl, _, hb7⟩
        have B7 := Lib.hid hb7
        clear hb7 HSM
        go_wp2
        go_ret
        exact ⟨rfl, B7.out⟩
theorem desTwice_walk (a0 : Bool) (a1 : List UInt8) (w : World) (w1 : a1.length = 8) : Calls Try.prog 6 #[.bool a0, .agg (u8s a1).toArray] w fun e w' => e = .returned (.bool true) ∧ Below w.heap.size w w' := desTwice_walk' a0 a1 w1 w
end Go.Proofs.Ytmelphlgpnmopaa
