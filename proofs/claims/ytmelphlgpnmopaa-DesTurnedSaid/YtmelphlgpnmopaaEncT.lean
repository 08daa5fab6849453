/- des: the tables. -/
import Derived.Test.YtmelphlgpnmopaaEncB
namespace Go.Proofs.Ytmelphlgpnmopaa
open Go.RowKit
theorem ip_get : ∀ k < 8, ∀ j < 8, Pure.desIp.getD (8 * k + j) 0 + 8 * j = Pure.desStarts.getD k 0 := by decide +kernel
theorem starts_lt : ∀ k < 8, Pure.desStarts.getD k 0 ≤ 64 := by decide +kernel
set_option maxHeartbeats 2000000 in
theorem initialTable_any (w : World) :
    Calls Try.prog 11 #[] w fun e w' => ∃ u, e = .returned u ∧ Row w' (fun _ => True) 1 u Pure.desIp.length (ints Pure.desIp) ∧ Keeps nobody w w' := by
  obtain ⟨T, hT⟩ : ∃ T, T = Pure.desIp := ⟨_, rfl⟩
  have hTl : T.length = 64 := by rw [hT]; exact Pure.ip_length
  have hTg : ∀ k < 8, ∀ j < 8, T.getD (8 * k + j) 0 + 8 * j = Pure.desStarts.getD k 0 := by rw [hT]; exact ip_get
  rw [← hT]
  clear hT
  have HT := Lib.hid hTl
  have HG := Lib.hid hTg
  clear hTl hTg
  obtain ⟨b, hb⟩ : ∃ b, b = w.heap.size := ⟨_, rfl⟩
  have HB := Lib.hid hb
  go_enter Try.func11, Try.ntmps11
  go_wp2_with fail
  rw [← hb]
  obtain ⟨w1, hw1⟩ : ∃ w1, w1 = w.alloc (.cells (ints Pure.desStarts).toArray 3) := ⟨_, rfl⟩
  have hw1' : w.alloc (.cells #[.int .i64 58, .int .i64 60, .int .i64 62, .int .i64 64, .int .i64 57, .int .i64 59, .int .i64 61, .int .i64 63] 3) = w1 := by rw [hw1]; rfl
  rw [hw1']
  have HS := Lib.hid (show Blk w1 b 3 (ints Pure.desStarts).toArray by rw [hw1, hb]; exact Blk.new w _ _)
  have HK1 := Lib.hid (show Keeps nobody w w1 by rw [hw1]; exact (Keeps.refl _ w).alloc _)
  have HZ := Lib.hid (show w1.heap.size = b + 1 by rw [hw1, hb]; simp)
  clear hw1 hw1' hb
  go_loopw [1, 7] (fun v i wr => ∃ k : Nat, k ≤ 8 ∧ i = .int .i64 (k : Int) ∧ wr.ownsRow (b + 1) 3 1 v (8 * k) (ints (T.take (8 * k))) ∧ Below (b + 1) w1 wr) (fun _ i _ => 8 - (intOf i).toNat)
  case atStart => exact ⟨0, by omega, rfl, World.ownsRow_nil _ _ _ _, Below.refl _ _⟩
  case round =>
    obtain ⟨k, hk, rfl, hW, hK⟩ := hrel
    have HW := Lib.hid hW
    have HK := Lib.hid hK
    obtain ⟨A2, c2, rfl⟩ := own_form hW
    by_cases hkl : k < 8
    · have hi0 : (0 : Int) ≤ (k : Int) := by omega
      have hi1 : (k : Int) < 8 := by omega
      obtain ⟨p, hp⟩ : ∃ p, p = Pure.desStarts.getD k 0 := ⟨_, rfl⟩
      have hp64 : p ≤ 64 := by rw [hp]; exact starts_lt k hkl
      have hBr := HS.out.below hK (by omega)
      have c0 : wr.cell? ⟨b, k, none⟩ = some (.int .i64 (p : Int)) := by
        rw [hBr.cell, hp, ← ints_at Pure.desStarts k (by simpa [Pure.desStarts] using hkl)]
        simp
      have HP := Lib.hid hp
      clear hW hK hBr hp
      go_wp2_with fail
      clear c0
      go_loopw [1, 11] (fun v i wi => ∃ j : Nat, j ≤ 8 ∧ i = .int .i64 (j : Int) ∧ wi.ownsRow (b + 1) 3 1 v (8 * k + j) (ints (T.take (8 * k + j))) ∧ Below (b + 1) w1 wi) (fun _ i _ => 8 - (intOf i).toNat)
      case atStart => exact ⟨0, by omega, rfl, HW.out, HK.out⟩
      case round =>
        clear HW HK
        obtain ⟨j, hj, rfl, hW, hK⟩ := hrel
        have HW := Lib.hid hW
        have HK := Lib.hid hK
        obtain ⟨A3, c3, rfl⟩ := own_form hW
        by_cases hjl : j < 8
        · have hj0 : (0 : Int) ≤ (j : Int) := by omega
          have hj1 : (j : Int) < 8 := by omega
          have hg := HG.out k hkl j hjl
          rw [← HP.out] at hg
          obtain ⟨m, hm⟩ : ∃ m, m = T.getD (8 * k + j) 0 := ⟨_, rfl⟩
          rw [← hm] at hg
          have e1 : (p : Int) - 8 * (j : Int) = (m : Int) := by omega
          have HM := Lib.hid hm
          have hsz := HK.out.size
          have hszb : b + 1 ≤ wr.heap.size := by have := HZ.out; omega
          clear hW hK hm hg
          go_wp2_with (at_builtin; refine stopHere ?_)
          unfold Hid
          have hl1 : (T.take (8 * k + j)).length = 8 * k + j := by rw [List.length_take, HT.out]; omega
          refine wp_append_int rfl (.tmp 14) (.tmp 19) rfl (b + 1) (.slice A3 (8 * k + j) c3) (8 * k + j) (T.take (8 * k + j)) hl1 rfl (own_grown HW.out (World.grownBy_alloc wr _ none) (by simp)) _ _ [m] rfl (irow_new wr [m] _ 1 rfl rfl (by simp)) (by simp; omega) (by simp; omega) ?_
          intro v3 w3 hown3 hg3 hat3
          have HB3 := Lib.hid (show Below (b + 1) w1 w3 from ((HK.out.alloc hszb _).grown hg3 (by simp; omega) (fun k hk => ownsRow_ge HW.out k hk)))
          have hown4 : w3.ownsRow (b + 1) 3 1 v3 (8 * k + j + 1) (ints (T.take (8 * k + j + 1))) := by
            have e1 : T.take (8 * k + j) ++ [m] = T.take (8 * k + j + 1) := by rw [take_snoc _ 0 (8 * k + j) (by rw [HT.out]; omega), HM.out]
            rw [e1] at hown3
            have e2 : (T.take (8 * k + j + 1)).length = 8 * k + j + 1 := by rw [← e1, List.length_append, hl1]; rfl
            rw [e2] at hown3
            exact hown3
          have HO3 := Lib.hid hown4
          clear hown3 hown4 hg3 hat3 hl1
          go_wp2_with fail
          go_roundw
          case rel => exact ⟨j + 1, by omega, by go_num, HO3.out, HB3.out⟩
          case measure => simp [intOf]; omega
        · have hjj : j = 8 := by omega
          subst hjj
          clear hW hK hjl hj
          go_wp2_with fail
          go_roundw
          case rel => exact ⟨k + 1, by omega, by go_num, HW.out, HK.out⟩
          case measure => simp [intOf]; omega
    · have hkk : k = 8 := by omega
      subst hkk
      clear hW hK hkl hk
      go_wp2
      go_ret
      have h := Row.of_own HW.out
      rw [List.take_of_length_le (by have := HT.out; omega)] at h
      have hz := HZ.out
      refine ⟨_, rfl, ?_, HK1.out.trans (Keeps.of_below (HK.out.mono (by omega)))⟩
      rw [HT.out]
      exact h.mono (fun _ _ => trivial)
set_option maxHeartbeats 2000000 in
theorem expansionTable_any (w : World) :
    Calls Try.prog 26 #[] w fun e w' => ∃ u, e = .returned u ∧ Row w' (fun _ => True) 1 u Pure.expand.length (ints Pure.expand) ∧ Keeps nobody w w' := by
  obtain ⟨T, hT⟩ : ∃ T, T = Pure.expand := ⟨_, rfl⟩
  have hTl : T.length = 48 := by rw [hT]; exact Pure.expand_length
  have hTg : ∀ k < 8, ∀ j < 6, T.getD (6 * k + j) 0 = (4 * k + j + 31) % 32 + 1 := by
    intro k hk j hj
    rw [hT, Pure.expand_at _ (by omega)]
    omega
  rw [← hT]
  clear hT
  have HT := Lib.hid hTl
  have HG := Lib.hid hTg
  clear hTl hTg
  obtain ⟨b, hb⟩ : ∃ b, b = w.heap.size := ⟨_, rfl⟩
  have HB := Lib.hid hb
  clear hb
  go_enter Try.func26, Try.ntmps26
  go_wp2_with fail
  go_loopw [1, 4] (fun v i wr => ∃ k : Nat, k ≤ 8 ∧ i = .int .i64 (k : Int) ∧ wr.ownsRow b 3 1 v (6 * k) (ints (T.take (6 * k))) ∧ Below b w wr) (fun _ i _ => 8 - (intOf i).toNat)
  case atStart => exact ⟨0, by omega, rfl, World.ownsRow_nil _ _ _ _, Below.refl _ _⟩
  case round =>
    obtain ⟨k, hk, rfl, hW, hK⟩ := hrel
    have HW := Lib.hid hW
    have HK := Lib.hid hK
    obtain ⟨A2, c2, rfl⟩ := own_form hW
    by_cases hkl : k < 8
    · have hi0 : (0 : Int) ≤ (k : Int) := by omega
      have hi1 : (k : Int) < 8 := by omega
      clear hW hK
      go_wp2_with fail
      go_loopw [1, 7] (fun v i wi => ∃ j : Nat, j ≤ 6 ∧ i = .int .i64 (j : Int) ∧ wi.ownsRow b 3 1 v (6 * k + j) (ints (T.take (6 * k + j))) ∧ Below b w wi) (fun _ i _ => 6 - (intOf i).toNat)
      case atStart => exact ⟨0, by omega, rfl, HW.out, HK.out⟩
      case round =>
        clear HW HK
        obtain ⟨j, hj, rfl, hW, hK⟩ := hrel
        have HW := Lib.hid hW
        have HK := Lib.hid hK
        obtain ⟨A3, c3, rfl⟩ := own_form hW
        by_cases hjl : j < 6
        · have hj0 : (0 : Int) ≤ (j : Int) := by omega
          have hj1 : (j : Int) < 6 := by omega
          have hg := HG.out k hkl j hjl
          obtain ⟨m, hm⟩ : ∃ m, m = T.getD (6 * k + j) 0 := ⟨_, rfl⟩
          rw [← hm] at hg
          obtain ⟨q, hq⟩ : ∃ q, q = 4 * k + j + 31 := ⟨_, rfl⟩
          have e0 : 4 * (k : Int) + (j : Int) + 32 - 1 = (q : Int) := by omega
          have e1 : (q : Int).tmod 32 = ((q % 32 : Nat) : Int) := by rw [Int.tmod_eq_emod_of_nonneg (by omega)]; rfl
          have e2 : (q : Int) % 32 + 1 = (m : Int) := by omega
          have HM := Lib.hid hm
          have hsz := HK.out.size
          have hszb : b ≤ wr.heap.size := by have := HB.out; omega
          clear hW hK hm hg hq
          go_wp2_with (at_builtin; refine stopHere ?_)
          unfold Hid
          have hl1 : (T.take (6 * k + j)).length = 6 * k + j := by rw [List.length_take, HT.out]; omega
          refine wp_append_int rfl (.tmp 10) (.tmp 19) rfl b (.slice A3 (6 * k + j) c3) (6 * k + j) (T.take (6 * k + j)) hl1 rfl (own_grown HW.out (World.grownBy_alloc wr _ none) (by simp)) _ _ [m] rfl (irow_new wr [m] _ 1 rfl rfl (by simp)) (by simp; omega) (by simp; omega) ?_
          intro v3 w3 hown3 hg3 hat3
          have HB3 := Lib.hid (show Below b w w3 from ((HK.out.alloc hszb _).grown hg3 (by simp; omega) (fun k hk => ownsRow_ge HW.out k hk)))
          have hown4 : w3.ownsRow b 3 1 v3 (6 * k + j + 1) (ints (T.take (6 * k + j + 1))) := by
            have e1 : T.take (6 * k + j) ++ [m] = T.take (6 * k + j + 1) := by rw [take_snoc _ 0 (6 * k + j) (by rw [HT.out]; omega), HM.out]
            rw [e1] at hown3
            have e2 : (T.take (6 * k + j + 1)).length = 6 * k + j + 1 := by rw [← e1, List.length_append, hl1]; rfl
            rw [e2] at hown3
            exact hown3
          have HO3 := Lib.hid hown4
          clear hown3 hown4 hg3 hat3 hl1
          go_wp2_with fail
          go_roundw
          case rel => exact ⟨j + 1, by omega, by go_num, HO3.out, HB3.out⟩
          case measure => simp [intOf]; omega
        · have hjj : j = 6 := by omega
          subst hjj
          clear hW hK hjl hj
          go_wp2_with fail
          go_roundw
          case rel => exact ⟨k + 1, by omega, by go_num, HW.out, HK.out⟩
          case measure => simp [intOf]; omega
    · have hkk : k = 8 := by omega
      subst hkk
      clear hW hK hkl hk
      go_wp2
      go_ret
      have h := Row.of_own HW.out
      rw [List.take_of_length_le (by have := HT.out; omega)] at h
      have hz := HB.out
      refine ⟨_, rfl, ?_, Keeps.of_below (by rw [← hz]; exact HK.out)⟩
      rw [HT.out]
      exact h.mono (fun _ _ => trivial)
theorem mixTable_any (w : World) :
    Calls Try.prog 27 #[] w fun e w' => ∃ u, e = .returned u ∧ Row w' (fun _ => True) 1 u Pure.desP.length (ints Pure.desP) ∧ Keeps nobody w w' := by
  go_enter Try.func27, Try.ntmps27
  go_wp2
  go_ret
  exact ⟨_, rfl, (irow_new w Pure.desP _ 32 rfl rfl (by decide)).mono (fun _ _ => trivial), (Keeps.refl _ w).alloc _⟩
set_option maxRecDepth 100000 in
theorem roundKeyTable_any (w : World) :
    Calls Try.prog 32 #[] w fun e w' => ∃ u, e = .returned u ∧ Row w' (fun _ => True) 1 u Pure.desPc2.length (ints Pure.desPc2) ∧ Keeps nobody w w' := by
  go_enter Try.func32, Try.ntmps32
  go_wp2
  go_ret
  exact ⟨_, rfl, (irow_new w Pure.desPc2 _ 48 rfl rfl (by decide)).mono (fun _ _ => trivial), (Keeps.refl _ w).alloc _⟩
end Go.Proofs.Ytmelphlgpnmopaa
