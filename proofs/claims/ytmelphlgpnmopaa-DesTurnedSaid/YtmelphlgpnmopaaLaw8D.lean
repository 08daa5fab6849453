/- The laws of des: DesTurned. -/
import Derived.Test.YtmelphlgpnmopaaLaw8C
import Derived.Test.YtmelphlgpnmopaaBytesEq
import Derived.Test.YtmelphlgpnmopaaRowSet
namespace Go.Proofs.Ytmelphlgpnmopaa
open Go.RowKit
theorem arr8_info : (Try.prog.info? 31).map (·.size) = some 8 := by kernel_rfl
set_option maxRecDepth 100000 in
set_option maxHeartbeats 4000000 in
theorem desTurned_walk' (key a b : List UInt8) (hkl7 : key.length = 7) (hal : a.length = 8) (hbl : b.length = 8) (w : World) :
    Calls Try.prog 5 #[.agg (u8s key).toArray, .agg (u8s a).toArray, .agg (u8s b).toArray] w fun e w' => e = .returned (.bool true) ∧ Below w.heap.size w w' := by
  go_enter Try.func5, Try.ntmps5
  go_wp2_with fail
  obtain ⟨b3, hb3⟩ : ∃ b3, b3 = w.heap.size := ⟨_, rfl⟩
  obtain ⟨w1, hw1⟩ : ∃ w1, w1 = ((w.alloc (.cells (u8s key).toArray 30)).alloc (.cells (u8s a).toArray 31)).alloc (.cells (u8s b).toArray 31) := ⟨_, rfl⟩
  rw [← hw1, ← hb3]
  have h3 : Blk w1 b3 30 (u8s key).toArray := by rw [hw1, hb3]; exact ((Blk.new w _ _).alloc _).alloc _
  have h4 : Blk w1 (b3 + 1) 31 (u8s a).toArray := by
    rw [hw1, hb3]
    have := Blk.new (w.alloc (.cells (u8s key).toArray 30)) 31 (u8s a).toArray
    rw [World.size_alloc] at this
    exact this.alloc _
  have h5 : Blk w1 (b3 + 1 + 1) 31 (u8s b).toArray := by
    rw [hw1, hb3]
    have := Blk.new ((w.alloc (.cells (u8s key).toArray 30)).alloc (.cells (u8s a).toArray 31)) 31 (u8s b).toArray
    rw [World.size_alloc, World.size_alloc] at this
    exact this
  have hk1 : Below w.heap.size w w1 := by rw [hw1]; exact Keeps.to_below ((((Keeps.refl _ w).alloc _).alloc _).alloc _)
  have H3 := Lib.hid h3
  have H4 := Lib.hid h4
  have H5 := Lib.hid h5
  have HK1 := Lib.hid hk1
  clear hw1 h3 h4 h5 hk1 hb3
  refine (awake_any w1).mono ?_
  rintro e w2 ⟨rfl, hb2⟩
  have H32 := Lib.hid (H3.out.below hb2 H3.out.lt)
  have H42 := Lib.hid (H4.out.below hb2 H4.out.lt)
  have H52 := Lib.hid (H5.out.below hb2 H5.out.lt)
  have HK2 := Lib.hid (HK1.out.trans (hb2.mono HK1.out.size))
  clear hb2 H3 H4 H5 HK1
  go_wp2_with fail
  go_loopw [7, 9] (fun u v wr => ∃ k : Nat, k ≤ 7 ∧ v = .int .i64 (k : Int) ∧ wr.ownsRow w2.heap.size 5 1 u k (u8s ((key.map (~~~·)).take k)) ∧ Below w2.heap.size w2 wr) (fun _ v _ => 7 - (intOf v).toNat)
  case atStart => exact ⟨0, by omega, rfl, World.ownsRow_nil _ _ _ _, Below.refl _ _⟩
  case round =>
    obtain ⟨k, hk, rfl, hW, hK⟩ := hrel
    have HW := Lib.hid hW
    have HK := Lib.hid hK
    obtain ⟨A2, c2, rfl⟩ := own_form hW
    by_cases hkl : k < 7
    · have hi0 : (0 : Int) ≤ (k : Int) := by omega
      have hi1 : (k : Int) < 7 := by omega
      have hBr := H32.out.below hK H32.out.lt
      have c0 : wr.cell? ⟨b3, k, none⟩ = some (.int .u8 (key.getD k 0).toNat) := by rw [hBr.cell, ← u8s_at key k (by omega)]; simp only [List.getElem?_toArray]
      obtain ⟨X, hX⟩ : ∃ X, X = key.getD k 0 := ⟨_, rfl⟩
      rw [← hX] at c0
      obtain ⟨Z, hZ⟩ : ∃ Z, Z = ~~~X := ⟨_, rfl⟩
      have hv := not_u8 X
      rw [← hZ] at hv
      have hsg : IntKind.u8.signed = false := rfl
      have hnext : (key.map (~~~·)).take (k + 1) = (key.map (~~~·)).take k ++ [Z] := by
        rw [take_snoc _ 0 k (by rw [List.length_map]; omega), hZ, hX]
        rw [List.getD_eq_getElem?_getD, List.getElem?_map, List.getElem?_eq_getElem (by omega), List.getD_eq_getElem?_getD, List.getElem?_eq_getElem (by omega)]
        rfl
      have HN := Lib.hid hnext
      have hsz := HK.out.size
      have hl1 : ((key.map (~~~·)).take k).length = k := by rw [List.length_take, List.length_map]; omega
      have HL1 := Lib.hid hl1
      clear hW hK hBr hX hZ hnext hl1
      go_wp2_with (at_builtin; refine stopHere ?_)
      unfold Hid
      refine wp_append_u8 rfl (.tmp 24) (.tmp 29) rfl w2.heap.size (.slice A2 k c2) k ((key.map (~~~·)).take k) HL1.out rfl (own_grown HW.out (World.grownBy_alloc wr _ none) (by simp)) _ _ [Z] rfl (row_new wr [Z] _ 1 rfl rfl (by simp)) (by simp; omega) (by simp; omega) ?_
      intro v3 w3' hown3 hg3 hat3
      have HB3 := Lib.hid (show Below w2.heap.size w2 w3' from ((HK.out.alloc hsz _).grown hg3 (by simp; omega) (fun k hk => ownsRow_ge HW.out k hk)))
      have hown4 : w3'.ownsRow w2.heap.size 5 1 v3 (k + 1) (u8s ((key.map (~~~·)).take (k + 1))) := by
        rw [← HN.out] at hown3
        have e2 : ((key.map (~~~·)).take (k + 1)).length = k + 1 := by rw [List.length_take, List.length_map]; omega
        rw [e2] at hown3
        exact hown3
      have HO3 := Lib.hid hown4
      clear hown3 hown4 hg3 hat3
      go_wp2_with fail
      go_roundw
      case rel => exact ⟨k + 1, by omega, by go_num, HO3.out, HB3.out⟩
      case measure => simp [intOf]; omega
    · have hkk : k = 7 := by omega
      subst hkk
      have hW2 := HW.out
      rw [List.take_of_length_le (by rw [List.length_map]; omega)] at hW2
      have HWf := Lib.hid hW2
      have HKf := Lib.hid HK.out
      clear hW hK HW HK hW2 hk hkl
      have H33 := Lib.hid (H32.out.below HKf.out H32.out.lt)
      have H43 := Lib.hid (H42.out.below HKf.out H42.out.lt)
      have H53 := Lib.hid (H52.out.below HKf.out H52.out.lt)
      have HK3 := Lib.hid (HK2.out.trans (HKf.out.mono HK2.out.size))
      have HKr := Lib.hid (Row.of_own HWf.out).lo
      clear H32 H42 H52 HK2 HWf HKf
      obtain ⟨w3, hw3⟩ : ∃ w3, w3 = wr := ⟨_, rfl⟩
      rw [← hw3] at H33 H43 H53 HK3 HKr ⊢
      clear hw3
      obtain ⟨A7, c7, hA7⟩ : ∃ A c, A = A2 ∧ c = c2 := ⟨_, _, rfl, rfl⟩
      obtain ⟨rfl, rfl⟩ := hA7
      go_wp2_with fail
      go_loopw [8, 10] (fun u v wr => ∃ k : Nat, k ≤ 8 ∧ v = .int .i64 (k : Int) ∧ wr.ownsRow w3.heap.size 5 1 u k (u8s ((a.map (~~~·)).take k)) ∧ Below w3.heap.size w3 wr) (fun _ v _ => 8 - (intOf v).toNat)
      case atStart => exact ⟨0, by omega, rfl, World.ownsRow_nil _ _ _ _, Below.refl _ _⟩
      case round =>
        obtain ⟨k, hk, rfl, hW, hK⟩ := hrel
        have HW := Lib.hid hW
        have HK := Lib.hid hK
        obtain ⟨A2, c2, rfl⟩ := own_form hW
        by_cases hkl : k < 8
        · have hi0 : (0 : Int) ≤ (k : Int) := by omega
          have hi1 : (k : Int) < 8 := by omega
          have hBr := H43.out.below hK H43.out.lt
          have c0 : wr.cell? ⟨(b3 + 1), k, none⟩ = some (.int .u8 (a.getD k 0).toNat) := by rw [hBr.cell, ← u8s_at a k (by omega)]; simp only [List.getElem?_toArray]
          obtain ⟨X, hX⟩ : ∃ X, X = a.getD k 0 := ⟨_, rfl⟩
          rw [← hX] at c0
          obtain ⟨Z, hZ⟩ : ∃ Z, Z = ~~~X := ⟨_, rfl⟩
          have hv := not_u8 X
          rw [← hZ] at hv
          have hsg : IntKind.u8.signed = false := rfl
          have hnext : (a.map (~~~·)).take (k + 1) = (a.map (~~~·)).take k ++ [Z] := by
            rw [take_snoc _ 0 k (by rw [List.length_map]; omega), hZ, hX]
            rw [List.getD_eq_getElem?_getD, List.getElem?_map, List.getElem?_eq_getElem (by omega), List.getD_eq_getElem?_getD, List.getElem?_eq_getElem (by omega)]
            rfl
          have HN := Lib.hid hnext
          have hsz := HK.out.size
          have hl1 : ((a.map (~~~·)).take k).length = k := by rw [List.length_take, List.length_map]; omega
          have HL1 := Lib.hid hl1
          clear hW hK hBr hX hZ hnext hl1
          go_wp2_with (at_builtin; refine stopHere ?_)
          unfold Hid
          refine wp_append_u8 rfl (.tmp 35) (.tmp 40) rfl w3.heap.size (.slice A2 k c2) k ((a.map (~~~·)).take k) HL1.out rfl (own_grown HW.out (World.grownBy_alloc wr _ none) (by simp)) _ _ [Z] rfl (row_new wr [Z] _ 1 rfl rfl (by simp)) (by simp; omega) (by simp; omega) ?_
          intro v3 w3' hown3 hg3 hat3
          have HB3 := Lib.hid (show Below w3.heap.size w3 w3' from ((HK.out.alloc hsz _).grown hg3 (by simp; omega) (fun k hk => ownsRow_ge HW.out k hk)))
          have hown4 : w3'.ownsRow w3.heap.size 5 1 v3 (k + 1) (u8s ((a.map (~~~·)).take (k + 1))) := by
            rw [← HN.out] at hown3
            have e2 : ((a.map (~~~·)).take (k + 1)).length = k + 1 := by rw [List.length_take, List.length_map]; omega
            rw [e2] at hown3
            exact hown3
          have HO3 := Lib.hid hown4
          clear hown3 hown4 hg3 hat3
          go_wp2_with fail
          go_roundw
          case rel => exact ⟨v3, _, _, _, _, _, _, _, _, _, _, _, _, ⟨k + 1, by omega, rfl, HO3.out, HB3.out⟩, rfl⟩
          case measure => simp [intOf]; omega
        · have hkk : k = 8 := by omega
          subst hkk
          have hW2 := HW.out
          rw [List.take_of_length_le (by rw [List.length_map]; omega)] at hW2
          have HWf := Lib.hid hW2
          have HKf := Lib.hid HK.out
          clear hW hK HW HK hW2 hk hkl
          have H34 := Lib.hid (H33.out.below HKf.out H33.out.lt)
          have H44 := Lib.hid (H43.out.below HKf.out H43.out.lt)
          have H54 := Lib.hid (H53.out.below HKf.out H53.out.lt)
          have HK4 := Lib.hid (HK3.out.trans (HKf.out.mono HK3.out.size))
          have HKr4 := Lib.hid (HKr.out.go HKf.out)
          have HXr4 := Lib.hid (Row.of_own HWf.out).lo
          clear H33 H43 H53 HK3 HWf HKf HKr
          obtain ⟨w4, hw4⟩ : ∃ w4, w4 = wr := ⟨_, rfl⟩
          rw [← hw4] at H34 H44 H54 HK4 HKr4 HXr4 ⊢
          clear hw4
          have hE1 := encL (wr := w4.drew) (below_drew HK4.out) (row_array H34.out.drew hkl7 (by omega)) (row_array H44.out.drew hal (by omega)) hkl7 hal (fun b hb => by have hb : b = b3 := hb; rw [hb]; exact H34.out.lt) (fun b hb => by have hb : b = b3 + 1 := hb; rw [hb]; exact H44.out.lt)
          have HE1 := Lib.hid hE1
          clear hE1
          go_upto_region 12 with fail
          refine wp_region_Z (fun _ => True) 7 8 rfl (by kernel_rfl) trivial (fun hHeld => ?_)
          refine wpAnyZ_take (i := 0) rfl (by kernel_rfl) (fun _ _ _ h => h) (Or.inl ⟨by rfl, by intro w hSw; go_simp; try with_reducible rfl⟩) trivial ?_
          simp only [Act.put, List.setIfInBounds_toArray, Nat.reduceAdd, List.getElem_toArray, List.getElem_cons_succ, List.getElem_cons_zero, List.set_cons_succ, List.set_cons_zero]
          refine wpAnyZ_take (i := 1) rfl (by kernel_rfl) (fun _ _ _ h => h) (Or.inl ⟨by rfl, by intro w hSw; go_simp; try with_reducible rfl⟩) trivial ?_
          simp only [Act.put, List.setIfInBounds_toArray, Nat.reduceAdd, List.getElem_toArray, List.getElem_cons_succ, List.getElem_cons_zero, List.set_cons_succ, List.set_cons_zero]
          refine wpAnyZ_one (i := 2) (by kernel_rfl) rfl (fun K hK => ?_)
          try rw [if_pos (by rfl)]
          go_simp
          refine HE1.out.mono ?_
          rintro e w5 ⟨A5, c5, rfl, hu5, hk5, hb5⟩
          have hk5 : Keeps nobody w4 w5 := ⟨hk5.os, hk5.tape, hk5.output, hk5.size, hk5.block⟩
          have hu5 : w5.ownsRow w4.heap.size 5 1 (.slice A5 8 c5) 8 (u8s (Pure.des key a)) := hu5
          have HU5 := Lib.hid (Row.of_own hu5).lo
          have H35 := Lib.hid (H34.out.keeps hk5 (fun h => h))
          have H45 := Lib.hid (H44.out.keeps hk5 (fun h => h))
          have H55 := Lib.hid (H54.out.keeps hk5 (fun h => h))
          have HKr5 := Lib.hid (HKr4.out.go (Keeps.to_below hk5))
          have HXr5 := Lib.hid (HXr4.out.go (Keeps.to_below hk5))
          have HK5 := Lib.hid hb5
          clear HE1 hu5 hk5 hb5 H34 H44 H54 HKr4 HXr4 HK4
          refine hK.out _ _ (fun _ => trivial) ?_
          clear hK K
          refine wpAnyZ_take (i := 3) rfl (by kernel_rfl) (fun _ _ _ h => h) (Or.inl ⟨by rfl, by intro w hSw; go_simp; try with_reducible rfl⟩) trivial ?_
          simp only [Act.put, List.setIfInBounds_toArray, Nat.reduceAdd, List.getElem_toArray, List.getElem_cons_succ, List.getElem_cons_zero, List.set_cons_succ, List.set_cons_zero]
          refine wpAnyZ_take (i := 4) rfl (by kernel_rfl) (fun _ _ _ h => h) (Or.inl ⟨by rfl, by intro w hSw; go_simp; try with_reducible rfl⟩) trivial ?_
          simp only [Act.put, List.setIfInBounds_toArray, Nat.reduceAdd, List.getElem_toArray, List.getElem_cons_succ, List.getElem_cons_zero, List.set_cons_succ, List.set_cons_zero]
          refine wpAnyZ_take (i := 5) rfl (by kernel_rfl) (fun _ _ _ h => h) (Or.inl ⟨by rfl, by intro w hSw; go_simp; try with_reducible rfl⟩) trivial ?_
          simp only [Act.put, List.setIfInBounds_toArray, Nat.reduceAdd, List.getElem_toArray, List.getElem_cons_succ, List.getElem_cons_zero, List.set_cons_succ, List.set_cons_zero]
          refine wpAnyZ_take (i := 6) rfl (by kernel_rfl) (fun _ _ _ h => h) (Or.inl ⟨by rfl, by intro w hSw; go_simp; try with_reducible rfl⟩) trivial ?_
          simp only [Act.put, List.setIfInBounds_toArray, Nat.reduceAdd, List.getElem_toArray, List.getElem_cons_succ, List.getElem_cons_zero, List.set_cons_succ, List.set_cons_zero]
          refine wpAnyZ_one (i := 7) (by kernel_rfl) rfl (fun K hK => ?_)
          rw [if_pos (by rfl)]
          go_simp
          refine hK.out _ _ (fun _ => trivial) ?_
          clear hK K
          refine wpAnyZ_done (by kernel_rfl) ?_ _
          have HE2 := Lib.hid (encL HK5.out HKr5.out HXr5.out (by rw [List.length_map]; exact hkl7) (by rw [List.length_map]; exact hal) (fun _ h => h) (fun _ h => h))
          go_wp2_with fail
          refine HE2.out.mono ?_
          rintro e w6 ⟨A6, c6, rfl, hu6, hk6, hb6⟩
          rw [Pure.des_not key a hkl7 hal] at hu6
          have HU6 := Lib.hid (Row.of_own hu6).lo
          have HU56 := Lib.hid (HU5.out.go (Keeps.to_below hk6))
          have H36 := Lib.hid (H35.out.keeps hk6 (fun h => h))
          have H46 := Lib.hid (H45.out.keeps hk6 (fun h => h))
          have H56 := Lib.hid (H55.out.keeps hk6 (fun h => h))
          have HK6 := Lib.hid hb6
          clear HE2 hu6 hk6 hb6 H35 H45 H55 HKr5 HXr5 HK5 HU5
          have hE3 := encL (wr := w6.drew) (below_drew HK6.out) (row_array H36.out.drew hkl7 (by omega)) (row_array H56.out.drew hbl (by omega)) hkl7 hbl (fun b hb => by have hb : b = b3 := hb; rw [hb]; exact H36.out.lt) (fun b hb => by have hb : b = b3 + 1 + 1 := hb; rw [hb]; exact H56.out.lt)
          have HE3 := Lib.hid hE3
          clear hE3
          go_upto_region 14 with fail
          refine wp_region_Z (fun _ => True) 7 8 rfl (by kernel_rfl) trivial (fun hHeld => ?_)
          refine wpAnyZ_take (i := 0) rfl (by kernel_rfl) (fun _ _ _ h => h) (Or.inl ⟨by rfl, by intro w hSw; go_simp; try with_reducible rfl⟩) trivial ?_
          simp only [Act.put, List.setIfInBounds_toArray, Nat.reduceAdd, List.getElem_toArray, List.getElem_cons_succ, List.getElem_cons_zero, List.set_cons_succ, List.set_cons_zero]
          refine wpAnyZ_take (i := 1) rfl (by kernel_rfl) (fun _ _ _ h => h) (Or.inl ⟨by rfl, by intro w hSw; go_simp; try with_reducible rfl⟩) trivial ?_
          simp only [Act.put, List.setIfInBounds_toArray, Nat.reduceAdd, List.getElem_toArray, List.getElem_cons_succ, List.getElem_cons_zero, List.set_cons_succ, List.set_cons_zero]
          refine wpAnyZ_one (i := 2) (by kernel_rfl) rfl (fun K hK => ?_)
          try rw [if_pos (by rfl)]
          go_simp
          refine HE3.out.mono ?_
          rintro e w7 ⟨A7, c7, rfl, hu7, hk7, hb7⟩
          have hk7 : Keeps nobody w6 w7 := ⟨hk7.os, hk7.tape, hk7.output, hk7.size, hk7.block⟩
          have hu7 : w7.ownsRow w6.heap.size 5 1 (.slice A7 8 c7) 8 (u8s (Pure.des key b)) := hu7
          have HU7 := Lib.hid (Row.of_own hu7).lo
          have HU57 := Lib.hid (HU56.out.go (Keeps.to_below hk7))
          have HU67 := Lib.hid (HU6.out.go (Keeps.to_below hk7))
          have H47 := Lib.hid (H46.out.keeps hk7 (fun h => h))
          have H57 := Lib.hid (H56.out.keeps hk7 (fun h => h))
          have HK7 := Lib.hid hb7
          clear HE3 hu7 hk7 hb7 H36 H46 H56 HK6 HU6 HU56
          refine hK.out _ _ (fun _ => trivial) ?_
          clear hK K
          refine wpAnyZ_take (i := 3) rfl (by kernel_rfl) (fun _ _ _ h => h) (Or.inl ⟨by rfl, by intro w hSw; go_simp; try with_reducible rfl⟩) trivial ?_
          simp only [Act.put, List.setIfInBounds_toArray, Nat.reduceAdd, List.getElem_toArray, List.getElem_cons_succ, List.getElem_cons_zero, List.set_cons_succ, List.set_cons_zero]
          refine wpAnyZ_take (i := 4) rfl (by kernel_rfl) (fun _ _ _ h => h) (Or.inl ⟨by rfl, by intro w hSw; go_simp; try with_reducible rfl⟩) trivial ?_
          simp only [Act.put, List.setIfInBounds_toArray, Nat.reduceAdd, List.getElem_toArray, List.getElem_cons_succ, List.getElem_cons_zero, List.set_cons_succ, List.set_cons_zero]
          refine wpAnyZ_take (i := 5) rfl (by kernel_rfl) (fun _ _ _ h => h) (Or.inl ⟨by rfl, by intro w hSw; go_simp; try with_reducible rfl⟩) trivial ?_
          simp only [Act.put, List.setIfInBounds_toArray, Nat.reduceAdd, List.getElem_toArray, List.getElem_cons_succ, List.getElem_cons_zero, List.set_cons_succ, List.set_cons_zero]
          refine wpAnyZ_take (i := 6) rfl (by kernel_rfl) (fun _ _ _ h => h) (Or.inl ⟨by rfl, by intro w hSw; go_simp; try with_reducible rfl⟩) trivial ?_
          simp only [Act.put, List.setIfInBounds_toArray, Nat.reduceAdd, List.getElem_toArray, List.getElem_cons_succ, List.getElem_cons_zero, List.set_cons_succ, List.set_cons_zero]
          refine wpAnyZ_one (i := 7) (by kernel_rfl) rfl (fun K hK => ?_)
          rw [if_pos (by rfl)]
          go_simp
          refine hK.out _ _ (fun _ => trivial) ?_
          clear hK K
          refine wpAnyZ_done (by kernel_rfl) ?_ _
          go_wp2_with fail
          go_loopw [17] (fun v wr => ∃ k : Nat, k ≤ 8 ∧ v = .int .i64 (k : Int) ∧ Keeps nobody w7 wr) (fun v _ => 8 - (intOf v).toNat)
          case atStart => exact ⟨0, by omega, rfl, Keeps.refl _ _⟩
          case round =>
            obtain ⟨k, hk, rfl, hK⟩ := hrel
            have HK := Lib.hid hK
            by_cases hkl : k < 8
            · have hi0 : (0 : Int) ≤ (k : Int) := by omega
              have hi1 : (k : Int) < 8 := by omega
              obtain ⟨bp, op, rfl, _, hcp⟩ := (HU57.out.keeps hK (fun _ _ h => h)).cellAt (by omega)
              obtain ⟨bq, oq, rfl, _, hcq⟩ := (HU67.out.keeps hK (fun _ _ h => h)).cellAt (by omega)
              have c0 := hcp k _ (u8s_at (Pure.des key a) k (by rw [Pure.des_length]; omega))
              have c1 := hcq k _ (u8s_at ((Pure.des key a).map (~~~·)) k (by rw [List.length_map, Pure.des_length]; omega))
              obtain ⟨X, hX⟩ : ∃ X, X = (Pure.des key a).getD k 0 := ⟨_, rfl⟩
              obtain ⟨Y, hY⟩ : ∃ Y, Y = ((Pure.des key a).map (~~~·)).getD k 0 := ⟨_, rfl⟩
              rw [← hX] at c0
              rw [← hY] at c1
              have hXY : X = ~~~Y := by
                rw [hX, hY, List.getD_eq_getElem?_getD, List.getD_eq_getElem?_getD, List.getElem?_map, List.getElem?_eq_getElem (by rw [Pure.des_length]; omega)]
                simp
              have hv := not_u8 Y
              rw [← hXY] at hv
              have hsg : IntKind.u8.signed = false := rfl
              clear hcp hcq hX hY hXY hK
              go_wp2_with fail
              go_quiet (fail)
              go_wp2_with fail
              go_roundw
              case rel => exact ⟨k + 1, by omega, by go_num, HK.out.trans (Keeps.of_drewN rfl)⟩
              case measure => simp [intOf]; omega
            · have hkk : k = 8 := by omega
              subst hkk
              have HPr := Lib.hid (HU57.out.go (Keeps.to_below hK))
              have HRr := Lib.hid (HU7.out.go (Keeps.to_below hK))
              have hA8 := H47.out.keeps hK (fun h => h)
              have hB8 := H57.out.keeps hK (fun h => h)
              have HKw := Lib.hid (Below.quiet HK7.out hK HK7.out.size)
              have hiff : decide (Pure.des key a = Pure.des key b) = decide (a = b) := by
                rw [decide_eq_decide]
                exact ⟨fun h => Pure.des_inj key a b hal hbl h, fun h => by rw [h]⟩
              have hEq := run_eql_bytes 31 8 Try.underlying31 a b hal hbl
              clear hK HU57 HU67 HU7 H47 H57 HK7 hk hkl
              go_upto_region 22 with fail
              refine wp_region_Z (fun w' => Blk w' (b3 + 1) 31 (u8s a).toArray ∧ Blk w' (b3 + 1 + 1) 31 (u8s b).toArray) 7 8 rfl (by kernel_rfl) ⟨hA8.drew, hB8.drew⟩ (fun hHeld => ?_)
              refine wpAnyZ_take (i := 0) rfl (by kernel_rfl) (fun _ _ _ h => h) (Or.inl ⟨by rfl, by intro w hSw; go_simp; try with_reducible rfl⟩) hHeld.out ?_
              simp only [Act.put, List.setIfInBounds_toArray, Nat.reduceAdd, List.getElem_toArray, List.getElem_cons_succ, List.getElem_cons_zero, List.set_cons_succ, List.set_cons_zero]
              refine wpAnyZ_take (i := 1) rfl (by kernel_rfl) (fun _ _ _ h => h) (Or.inl ⟨by rfl, by intro w hSw; go_simp; try with_reducible rfl⟩) hHeld.out ?_
              simp only [Act.put, List.setIfInBounds_toArray, Nat.reduceAdd, List.getElem_toArray, List.getElem_cons_succ, List.getElem_cons_zero, List.set_cons_succ, List.set_cons_zero]
              refine wpAnyZ_take (i := 3) (v := .agg (u8s a).toArray) rfl (by kernel_rfl) (fun _ _ _ h => h) (Or.inl ⟨by rfl, fun w' hSw => exec_load_row 31 (.tmp 4) rfl (b3 + 1) rfl 31 _ (0, 0) _ hSw.1 Try.underlying31 rfl (by rw [arr8_info]; simp [hal])⟩) hHeld.out ?_
              simp only [Act.put, List.setIfInBounds_toArray, Nat.reduceAdd, List.getElem_toArray, List.getElem_cons_succ, List.getElem_cons_zero, List.set_cons_succ, List.set_cons_zero]
              refine wpAnyZ_take (i := 4) (v := .agg (u8s b).toArray) rfl (by kernel_rfl) (fun _ _ _ h => h) (Or.inl ⟨by rfl, fun w' hSw => exec_load_row 31 (.tmp 5) rfl (b3 + 1 + 1) rfl 31 _ (0, 0) _ hSw.2 Try.underlying31 rfl (by rw [arr8_info]; simp [hbl])⟩) hHeld.out ?_
              simp only [Act.put, List.setIfInBounds_toArray, Nat.reduceAdd, List.getElem_toArray, List.getElem_cons_succ, List.getElem_cons_zero, List.set_cons_succ, List.set_cons_zero]
              refine wpAnyZ_take (i := 5) (v := .bool (decide (a = b))) rfl (by kernel_rfl) (fun _ _ _ h => h) (Or.inl ⟨by rfl, by intro w hSw; have hE := hEq w; go_simp⟩) hHeld.out ?_
              simp only [Act.put, List.setIfInBounds_toArray, Nat.reduceAdd, List.getElem_toArray, List.getElem_cons_succ, List.getElem_cons_zero, List.set_cons_succ, List.set_cons_zero]
              refine wpAnyZ_one (i := 2) (by kernel_rfl) rfl (fun K hK => ?_)
              try rw [if_pos (by rfl)]
              go_simp
              have hSM := sameN (below_drew HKw.out) (HPr.out.keeps (Keeps.refl nobody wr).drew (fun _ _ h => h)) (HRr.out.keeps (Keeps.refl nobody wr).drew (fun _ _ h => h)) (Pure.des_length key a) (Pure.des_length key b)
              rw [hiff] at hSM
              refine hSM.mono ?_
              rintro e w8 ⟨rfl, hk8, hb8⟩
              have hS8 := And.intro (hHeld.out.1.keeps hk8 (fun h => h)) (hHeld.out.2.keeps hk8 (fun h => h))
              have HB8 := Lib.hid hb8
              refine hK.out _ _ (fun _ => hS8) ?_
              clear hK K hHeld hSM hk8 hb8 HPr HRr HKw hEq hiff
              refine wpAnyZ_one (i := 6) (by kernel_rfl) rfl (fun K hK => ?_)
              rw [if_pos (by rfl)]
              go_simp
              refine hK.out _ _ (fun _ => hS8) ?_
              clear hK K
              refine wpAnyZ_one (i := 7) (by kernel_rfl) rfl (fun K hK => ?_)
              rw [if_pos (by rfl)]
              go_simp
              refine hK.out _ _ (fun h => absurd rfl h) ?_
              clear hK K
              refine wpAnyZ_done (by kernel_rfl) ?_ _
              go_wp2
              go_ret
              exact ⟨by simp, HB8.out⟩
theorem desTurned_walk (a0 a1 a2 : List UInt8) (w : World) (w0 : a0.length = 7) (w1 : a1.length = 8) (w2 : a2.length = 8) : Calls Try.prog 5 #[.agg (u8s a0).toArray, .agg (u8s a1).toArray, .agg (u8s a2).toArray] w fun e w' => e = .returned (.bool true) ∧ Below w.heap.size w w' := desTurned_walk' a0 a1 a2 w0 w1 w2 w
end Go.Proofs.Ytmelphlgpnmopaa
