/- The law ChapParts, out of what Answer answers. -/
import Derived.Test.YtkllaghfiofnjaaDoorQ11
import Derived.Test.YtkllaghfiofnjaaDoorQ4
import Derived.Test.YtkllaghfiofnjaaDoorQ10
import Derived.Test.YtkllaghfiofnjaaDoorQ3
import Derived.Laws.Rows
import Derived.Laws.BitsAllLaws
import Derived.Test.YtkllaghfiofnjaaDoorQ2
import Derived.Test.YtkllaghfiofnjaaDoorQ7
namespace Go.Proofs.YtkllaghfiofnjaaDoor
open Go.RowKit
theorem arr_row {w : World} {g : Nat} {t : TypeId} {l : List UInt8} {n : Nat} (h : Blk w g t (u8s l).toArray) (hl : l.length = n) (hn : n ≤ 1000) : Row w (fun b => b = g) 1 (.slice (some ⟨g, 0, none⟩) n n) n (u8s l) :=
  Row.block h rfl (by simp [hl]) (by unfold maxLen; omega) (Nat.le_refl _)
theorem bytes8_info : (Tryd.prog.info? 58).map (·.size) = some 8 := by kernel_rfl
theorem bytes16_info : (Tryd.prog.info? 59).map (·.size) = some 16 := by kernel_rfl
/-- What chap.Answer answers to a challenge and a hash that are as long as they should be. -/
def AnswerOk : Prop := ∀ (F G : Nat → Prop) (x y : Value) (c h : List UInt8) (w : World), Env w → Row w F 1 x 8 (u8s c) → Row w G 1 y 16 (u8s h) → c.length = 8 → h.length = 16 → (∀ b, F b → b < w.heap.size) → (∀ b, G b → b < w.heap.size) →
    Calls Tryd.prog 52 #[x, y] w fun e w' => ∃ u, e = .returned (.tuple #[u, .int .i64 0]) ∧ w'.ownsRow w.heap.size 5 1 u 24 (u8s (Pure.answer c h)) ∧ Below w.heap.size w w'
theorem answerL (HA : AnswerOk) {w0 wr : World} (E : Env w0) {F G : Nat → Prop} {x y : Value} {c h : List UInt8} (B : Below w0.heap.size w0 wr) (hx : Row wr F 1 x 8 (u8s c)) (hy : Row wr G 1 y 16 (u8s h)) (hc : c.length = 8) (hh : h.length = 16) (hF : ∀ b, F b → b < wr.heap.size) (hG : ∀ b, G b → b < wr.heap.size) :
    Calls Tryd.prog 52 #[x, y] wr fun e w' => ∃ b cap, e = .returned (.tuple #[.slice (some ⟨b, 0, none⟩) 24 cap, .int .i64 0]) ∧ w'.ownsRow wr.heap.size 5 1 (.slice (some ⟨b, 0, none⟩) 24 cap) 24 (u8s (Pure.answer c h)) ∧ 24 ≤ cap ∧ Keeps nobody wr w' ∧ Below w0.heap.size w0 w' :=
  (HA F G x y c h wr (E.below B) hx hy hc hh hF hG).mono fun e w' ⟨u, he, hu, hb⟩ => by
    obtain ⟨A, cap, rfl⟩ := own_form hu
    obtain ⟨b, rfl, _, _⟩ := own_cell hu (by omega)
    obtain ⟨A', c', e', hcap⟩ := (Row.of_own hu).form
    injection e' with _ _ e3
    subst e3
    exact ⟨b, cap, he, hu, hcap, Keeps.new hb, B.trans (hb.mono B.size)⟩
theorem set_u8s (l : List UInt8) (k : Nat) (x : UInt8) : (u8s l).toArray.setIfInBounds k (.int .u8 x.toNat) = (u8s (l.set k x)).toArray := by
  apply Array.toList_inj.1
  simp [List.map_set]
set_option maxRecDepth 100000 in
set_option maxHeartbeats 4000000 in
theorem partsWell_any (HA : AnswerOk) (c h : List UInt8) (hcl : c.length = 8) (hhl : h.length = 16) (a : Nat) (ha : a < 16) (by' : UInt8) (w : World) (E : Env w) :
    Calls Tryd.prog 30 #[.agg (u8s c).toArray, .agg (u8s h).toArray, .int .i64 (a : Int), .int .u8 by'.toNat] w fun e w' => e = .returned (.bool true) ∧ Below w.heap.size w w' := by
  obtain ⟨g, hg⟩ : ∃ g, g = w.heap.size := ⟨_, rfl⟩
  go_enter Tryd.func30, Tryd.ntmps30
  go_upto_region 1 with fail
  obtain ⟨w1, hw1⟩ : ∃ w1, w1 = (w.alloc (.cells (u8s c).toArray 58)).alloc (.cells (u8s h).toArray 59) := ⟨_, rfl⟩
  rw [← hw1, ← hg]
  have h3 : Blk w1 g 58 (u8s c).toArray := by rw [hw1, hg]; exact (Blk.new w _ _).alloc _
  have h4 : Blk w1 (g + 1) 59 (u8s h).toArray := by
    rw [hw1, hg]
    have := Blk.new (w.alloc (.cells (u8s c).toArray 58)) 59 (u8s h).toArray
    rw [World.size_alloc] at this
    exact this
  have hk1 : Below w.heap.size w w1 := by rw [hw1]; exact Keeps.to_below (((Keeps.refl _ w).alloc _).alloc _)
  have H3 := Lib.hid h3
  have H4 := Lib.hid h4
  have HK1 := Lib.hid hk1
  have hE1 := answerL (wr := w1.drew) HA E (below_drew HK1.out) (arr_row h3.drew hcl (by omega)) (arr_row h4.drew hhl (by omega)) hcl hhl (fun b hb => by have hb : b = g := hb; rw [hb]; exact h3.lt) (fun b hb => by have hb : b = g + 1 := hb; rw [hb]; exact h4.lt)
  have HE1 := Lib.hid hE1
  have HG := Lib.hid hg
  clear hE1 hw1 h3 h4 hk1 hg
  go_upto_region 1 with fail
  refine wp_region_Z (fun _ => True) 7 8 rfl (by kernel_rfl) trivial (fun hHeld => ?_)
  refine wpAnyZ_take (i := 0) rfl (by kernel_rfl) (fun _ _ _ h => h) (Or.inl ⟨by rfl, by intro w hSw; go_simp; try with_reducible rfl⟩) trivial ?_
  simp only [Act.put, List.setIfInBounds_toArray, Nat.reduceAdd, List.getElem_toArray, List.getElem_cons_succ, List.getElem_cons_zero, List.set_cons_succ, List.set_cons_zero]
  refine wpAnyZ_take (i := 1) rfl (by kernel_rfl) (fun _ _ _ h => h) (Or.inl ⟨by rfl, by intro w hSw; go_simp; try with_reducible rfl⟩) trivial ?_
  simp only [Act.put, List.setIfInBounds_toArray, Nat.reduceAdd, List.getElem_toArray, List.getElem_cons_succ, List.getElem_cons_zero, List.set_cons_succ, List.set_cons_zero]
  refine wpAnyZ_one (i := 2) (by kernel_rfl) rfl (fun K hK => ?_)
  try rw [if_pos (by rfl)]
  go_simp
  refine HE1.out.mono ?_
  rintro e w2 ⟨bA, cA, rfl, hu2, hcA, hk2, hb2⟩
  have hk2 : Keeps nobody w1 w2 := ⟨hk2.os, hk2.tape, hk2.output, hk2.size, hk2.block⟩
  have hu2 : w2.ownsRow w1.heap.size 5 1 (.slice (some ⟨bA, 0, none⟩) 24 cA) 24 (u8s (Pure.answer c h)) := hu2
  have HU2 := Lib.hid hu2
  have H32 := Lib.hid (H3.out.keeps hk2 (fun x => x))
  have h42 := H4.out.keeps hk2 (fun x => x)
  have HK2 := Lib.hid hb2
  have HgA := Lib.hid (show bA ≠ g + 1 by have h1 := ownsRow_ge hu2 bA rfl; have h2 := H4.out.lt; omega)
  clear HE1 hu2 hk2 hb2 H3 H4 HK1
  refine hK.out _ _ (fun _ => trivial) ?_
  clear hK K
  refine wpAnyZ_take (i := 3) rfl (by kernel_rfl) (fun _ _ _ h => h) (Or.inl ⟨by rfl, by intro w hSw; go_simp; try with_reducible rfl⟩) trivial ?_
  simp only [Act.put, List.setIfInBounds_toArray, Nat.reduceAdd, List.getElem_toArray, List.getElem_cons_succ, List.getElem_cons_zero, List.set_cons_succ, List.set_cons_zero]
  refine wpAnyZ_take (i := 4) rfl (by kernel_rfl) (fun _ _ _ h => h) (Or.inl ⟨by rfl, by intro w hSw; go_simp; try with_reducible rfl⟩) trivial ?_
  simp only [Act.put, List.setIfInBounds_toArray, Nat.reduceAdd, List.getElem_toArray, List.getElem_cons_succ, List.getElem_cons_zero, List.set_cons_succ, List.set_cons_zero]
  refine wpAnyZ_take (i := 5) rfl (by kernel_rfl) (fun _ _ _ h => h) (Or.inl ⟨by rfl, by intro w hSw; go_simp; try with_reducible rfl⟩) trivial ?_
  simp only [Act.put, List.setIfInBounds_toArray, Nat.reduceAdd, List.getElem_toArray, List.getElem_cons_succ, List.getElem_cons_zero, List.set_cons_succ, List.set_cons_zero]
  refine wpAnyZ_take (i := 6) rfl (by kernel_rfl) (fun _ _ _ h => h) (Or.inl ⟨by rfl, by intro w hSw; go_simp; try with_reducible rfl⟩) trivial ?_
  simp only [Act.put, List.setIfInBounds_toArray, Nat.reduceAdd, List.getElem_toArray, List.getElem_cons_succ, List.getElem_cons_zero, List.set_cons_succ, List.set_cons_zero]
  refine wpAnyZ_one (i := 7) (by kernel_rfl) rfl (fun K hK => ?_)
  rw [if_pos (by rfl)]
  go_simp
  refine hK.out _ _ (fun _ => trivial) ?_
  clear hK K hHeld
  refine wpAnyZ_done (by kernel_rfl) ?_ _
  obtain ⟨x, hx⟩ : ∃ x, x = h.getD a 0 := ⟨_, rfl⟩
  have c0 : w2.cell? ⟨g + 1, a, none⟩ = some (.int .u8 x.toNat) := by rw [h42.cell, hx, ← u8s_at h a (by omega)]; simp only [List.getElem?_toArray]
  have f0 := h42.frozen a
  have i0 : (0 : Int) ≤ (a : Int) := by omega
  have i1 : (a : Int) < 16 := by omega
  have hxor := xor_u8 x by'
  obtain ⟨y, hy⟩ : ∃ y, y = x ^^^ by' := ⟨_, rfl⟩
  rw [← hy] at hxor
  have hset := h42.set a (.int .u8 y.toNat)
  rw [set_u8s] at hset
  obtain ⟨w3, hw3⟩ : ∃ w3, w3 = w2.setCell ⟨g + 1, a, none⟩ (.int .u8 y.toNat) := ⟨_, rfl⟩
  rw [← hw3] at hset
  have H43 := Lib.hid hset
  have H33 := Lib.hid (show Blk w3 g 58 (u8s c).toArray by rw [hw3]; exact H32.out.far (by simp) _)
  have HU3 := Lib.hid (show w3.ownsRow w1.heap.size 5 1 (.slice (some ⟨bA, 0, none⟩) 24 cA) 24 (u8s (Pure.answer c h)) by rw [hw3]; exact own_store HU2.out (by simp [Value.ownBlock]; exact HgA.out))
  have HK3 := Lib.hid (show Below w.heap.size w w3 by rw [hw3]; exact Below.keeps HK2.out ((Keeps.refl (only (g + 1)) w2).store (g + 1) a (fun _ => rfl) _) HK2.out.size (fun i hi => by have hi : i = g + 1 := hi; have := HG.out; omega))
  have HW3 := Lib.hid hw3
  clear hx hy hset h42 H32 HU2 HK2 hw3
  go_upto_region 3 with fail
  rw [← HW3.out]
  clear HW3 c0 f0
  have hE2 := answerL (wr := w3.drew) HA E (below_drew HK3.out) (arr_row H33.out.drew hcl (by omega)) (arr_row H43.out.drew (by rw [List.length_set]; exact hhl) (by omega)) hcl (by rw [List.length_set]; exact hhl) (fun b hb => by have hb : b = g := hb; rw [hb]; exact H33.out.lt) (fun b hb => by have hb : b = g + 1 := hb; rw [hb]; exact H43.out.lt)
  have HE2 := Lib.hid hE2
  clear hE2
  refine wp_region_Z (fun _ => True) 7 8 rfl (by kernel_rfl) trivial (fun hHeld => ?_)
  refine wpAnyZ_take (i := 0) rfl (by kernel_rfl) (fun _ _ _ h => h) (Or.inl ⟨by rfl, by intro w hSw; go_simp; try with_reducible rfl⟩) trivial ?_
  simp only [Act.put, List.setIfInBounds_toArray, Nat.reduceAdd, List.getElem_toArray, List.getElem_cons_succ, List.getElem_cons_zero, List.set_cons_succ, List.set_cons_zero]
  refine wpAnyZ_take (i := 1) rfl (by kernel_rfl) (fun _ _ _ h => h) (Or.inl ⟨by rfl, by intro w hSw; go_simp; try with_reducible rfl⟩) trivial ?_
  simp only [Act.put, List.setIfInBounds_toArray, Nat.reduceAdd, List.getElem_toArray, List.getElem_cons_succ, List.getElem_cons_zero, List.set_cons_succ, List.set_cons_zero]
  refine wpAnyZ_one (i := 2) (by kernel_rfl) rfl (fun K hK => ?_)
  try rw [if_pos (by rfl)]
  go_simp
  refine HE2.out.mono ?_
  rintro e w4 ⟨bB, cB, rfl, hu4, hcB, hk4, hb4⟩
  have hk4 : Keeps nobody w3 w4 := ⟨hk4.os, hk4.tape, hk4.output, hk4.size, hk4.block⟩
  have hu4 : w4.ownsRow w3.heap.size 5 1 (.slice (some ⟨bB, 0, none⟩) 24 cB) 24 (u8s (Pure.answer c (h.set a y))) := hu4
  have HU4 := Lib.hid hu4
  have HA4 := Lib.hid (own_quiet HU3.out hk4)
  have HK4 := Lib.hid hb4
  clear HE2 hu4 hk4 hb4 H33 H43 HU3 HK3
  refine hK.out _ _ (fun _ => trivial) ?_
  clear hK K
  refine wpAnyZ_take (i := 3) rfl (by kernel_rfl) (fun _ _ _ h => h) (Or.inl ⟨by rfl, by intro w hSw; go_simp; try with_reducible rfl⟩) trivial ?_
  simp only [Act.put, List.setIfInBounds_toArray, Nat.reduceAdd, List.getElem_toArray, List.getElem_cons_succ, List.getElem_cons_zero, List.set_cons_succ, List.set_cons_zero]
  refine wpAnyZ_take (i := 4) rfl (by kernel_rfl) (fun _ _ _ h => h) (Or.inl ⟨by rfl, by intro w hSw; go_simp; try with_reducible rfl⟩) trivial ?_
  simp only [Act.put, List.setIfInBounds_toArray, Nat.reduceAdd, List.getElem_toArray, List.getElem_cons_succ, List.getElem_cons_zero, List.set_cons_succ, List.set_cons_zero]
  refine wpAnyZ_take (i := 5) rfl (by kernel_rfl) (fun _ _ _ h => h) (Or.inl ⟨by rfl, by intro w hSw; go_simp; try with_reducible rfl⟩) trivial ?_
  simp only [Act.put, List.setIfInBounds_toArray, Nat.reduceAdd, List.getElem_toArray, List.getElem_cons_succ, List.getElem_cons_zero, List.set_cons_succ, List.set_cons_zero]
  refine wpAnyZ_take (i := 6) rfl (by kernel_rfl) (fun _ _ _ h => h) (Or.inl ⟨by rfl, by intro w hSw; go_simp; try with_reducible rfl⟩) trivial ?_
  simp only [Act.put, List.setIfInBounds_toArray, Nat.reduceAdd, List.getElem_toArray, List.getElem_cons_succ, List.getElem_cons_zero, List.set_cons_succ, List.set_cons_zero]
  refine wpAnyZ_one (i := 7) (by kernel_rfl) rfl (fun K hK => ?_)
  rw [if_pos (by rfl)]
  go_simp
  refine hK.out _ _ (fun _ => trivial) ?_
  clear hK K hHeld
  refine wpAnyZ_done (by kernel_rfl) ?_ _
  go_wp2_with fail
  refine (awake_any w4 (E.below HK4.out)).mono ?_
  rintro e w5 ⟨rfl, hb5⟩
  have HU5 := Lib.hid (own_quiet HU4.out (Keeps.new hb5))
  have HA5 := Lib.hid (own_quiet HA4.out (Keeps.new hb5))
  have HK5 := Lib.hid (HK4.out.trans (hb5.mono HK4.out.size))
  clear hb5 HU4 HA4 HK4
  go_wp2_with fail
  obtain ⟨q, hq⟩ : ∃ q, q = a / 7 := ⟨_, rfl⟩
  have hq3 : q < 3 := by omega
  have e7 : (a : Int) / 7 = (q : Int) := by omega
  have HQ := Lib.hid hq
  have q0 : (0 : Int) ≤ (q : Int) := by omega
  have q3 : (q : Int) < 3 := by omega
  have HX := Lib.hid (Row.of_own HA5.out)
  have HY := Lib.hid (Row.of_own HU5.out)
  clear hq HA5 HU5 hxor
  go_loopw [13] (fun i wr => ∃ k : Nat, k ≤ 3 ∧ i = .int .i64 (k : Int) ∧ ∃ m, wr = w5.drewN m) (fun i _ => 3 - (intOf i).toNat)
  case atStart => exact ⟨0, by omega, rfl, 0, rfl⟩
  case round =>
    obtain ⟨k, hk, rfl, m, hm⟩ := hrel
    have HM := Lib.hid hm
    have HXr := Lib.hid (HX.out.keeps (Keeps.of_drewN hm) (fun _ _ h => h))
    have HYr := Lib.hid (HY.out.keeps (Keeps.of_drewN hm) (fun _ _ h => h))
    clear hm
    have main : ∀ i : Nat, i < 3 → i ≠ q → ∀ n, Calls Tryd.prog 15 #[.slice (some ⟨bA, 8 * i, none⟩) 8 (cA - 8 * i), .slice (some ⟨bB, 8 * i, none⟩) 8 (cB - 8 * i)] (wr.drewN n) fun e w' => e = .returned (.bool true) ∧ ∃ m, w' = (wr.drewN n).drewN m := by
      intro i hi hne n
      have hx := (HXr.out.cut1 (8 * i) 8 (by omega)).keeps (Keeps.of_drewN (n := n) rfl) (fun _ _ h => h)
      have hy := (HYr.out.cut1 (8 * i) 8 (by omega)).keeps (Keeps.of_drewN (n := n) rfl) (fun _ _ h => h)
      rw [← List.map_drop, ← List.map_take] at hx hy
      simp only [Option.map_some, addr_add, Nat.zero_add] at hx hy
      have l1 : (((Pure.answer c h).drop (8 * i)).take 8).length = 8 := by rw [List.length_take, List.length_drop, Pure.answer_length]; omega
      have l2 : (((Pure.answer c (h.set a y)).drop (8 * i)).take 8).length = 8 := by rw [List.length_take, List.length_drop, Pure.answer_length]; omega
      have hs := Pure.answer_set c h hhl a ha y i hi (by rw [← HQ.out]; exact hne)
      refine (same_q _ _ _ _ (((Pure.answer c h).drop (8 * i)).take 8) (((Pure.answer c (h.set a y)).drop (8 * i)).take 8) (wr.drewN n) (by rw [l1]; exact hx) (by rw [l2]; exact hy)).mono ?_
      rintro e w' ⟨he, hw⟩
      exact ⟨by rw [he, decide_eq_true hs.symm], hw⟩
    have MAIN := Lib.hid main
    clear main
    by_cases hkl : k < 3
    · rcases (show k = 0 ∨ k = 1 ∨ k = 2 by omega) with rfl | rfl | rfl
      · by_cases hkq : 0 = q
        · have dq : ((0 : Int) != (q : Int)) = false := by rw [← hkq]; rfl
          clear hkq MAIN
          go_wp2_with fail
          go_quiet (fail)
          go_wp2
          go_roundw
          case rel => exact ⟨1, by omega, rfl, _, by rw [HM.out, World.drewN_drewN]⟩
          case measure => simp [intOf]
        · have dq : ((0 : Int) != (q : Int)) = true := by rw [bne_iff_ne]; omega
          have SQ := Lib.hid (MAIN.out 0 (by omega) hkq)
          clear MAIN
          go_wp2_with fail
          go_quiet ((go_at_call 15; refine Calls.quiet_of (SQ.out _)))
          go_wp2
          go_roundw
          case rel => exact ⟨1, by omega, rfl, _, by rw [HM.out, World.drewN_drewN]⟩
          case measure => simp [intOf]
      · by_cases hkq : 1 = q
        · have dq : ((1 : Int) != (q : Int)) = false := by rw [← hkq]; rfl
          clear hkq MAIN
          go_wp2_with fail
          go_quiet (fail)
          go_wp2
          go_roundw
          case rel => exact ⟨2, by omega, rfl, _, by rw [HM.out, World.drewN_drewN]⟩
          case measure => simp [intOf]
        · have dq : ((1 : Int) != (q : Int)) = true := by rw [bne_iff_ne]; omega
          have SQ := Lib.hid (MAIN.out 1 (by omega) hkq)
          clear MAIN
          go_wp2_with fail
          go_quiet ((go_at_call 15; refine Calls.quiet_of (SQ.out _)))
          go_wp2
          go_roundw
          case rel => exact ⟨2, by omega, rfl, _, by rw [HM.out, World.drewN_drewN]⟩
          case measure => simp [intOf]
      · by_cases hkq : 2 = q
        · have dq : ((2 : Int) != (q : Int)) = false := by rw [← hkq]; rfl
          clear hkq MAIN
          go_wp2_with fail
          go_quiet (fail)
          go_wp2
          go_roundw
          case rel => exact ⟨3, by omega, rfl, _, by rw [HM.out, World.drewN_drewN]⟩
          case measure => simp [intOf]
        · have dq : ((2 : Int) != (q : Int)) = true := by rw [bne_iff_ne]; omega
          have SQ := Lib.hid (MAIN.out 2 (by omega) hkq)
          clear MAIN
          go_wp2_with fail
          go_quiet ((go_at_call 15; refine Calls.quiet_of (SQ.out _)))
          go_wp2
          go_roundw
          case rel => exact ⟨3, by omega, rfl, _, by rw [HM.out, World.drewN_drewN]⟩
          case measure => simp [intOf]
    · have hkk : k = 3 := by omega
      subst hkk
      clear MAIN hkl hk
      go_wp2
      go_ret
      exact ⟨rfl, by rw [HM.out]; exact Below.drewN HK5.out m⟩
set_option maxRecDepth 100000 in
set_option maxHeartbeats 4000000 in
theorem chapParts_walk' (HA : AnswerOk) (c h : List UInt8) (t : Int) (w : World) (E : Env w) (hcl : c.length = 8) (hhl : h.length = 16) (t0 : 0 ≤ t) (t1 : t ≤ 65535) :
    Calls Tryd.prog 10 #[.agg (u8s c).toArray, .agg (u8s h).toArray, .int .u16 t] w fun e w' => e = .returned (.bool true) ∧ Below w.heap.size w w' := by
  obtain ⟨T, rfl⟩ := Int.eq_ofNat_of_zero_le t0
  obtain ⟨g, hg⟩ : ∃ g, g = w.heap.size := ⟨_, rfl⟩
  obtain ⟨a, ha⟩ : ∃ a, a = T % 16 := ⟨_, rfl⟩
  obtain ⟨y, hy⟩ : ∃ y, y = UInt8.ofNat (T / 256) := ⟨_, rfl⟩
  have ea : (T : Int) % 16 = (a : Int) := by omega
  have etm : (T : Int).tmod 16 = (T : Int) % 16 := Int.tmod_eq_emod_of_nonneg (by omega)
  have ey : (T : Int) / 256 = (y.toNat : Int) := by rw [hy, UInt8.toNat_ofNat']; omega
  have ha2 : a < 16 := by omega
  clear ha hy
  go_enter Tryd.func10, Tryd.ntmps10
  go_wp2_with fail
  obtain ⟨w1, hw1⟩ : ∃ w1, w1 = (w.alloc (.cells (u8s c).toArray 58)).alloc (.cells (u8s h).toArray 59) := ⟨_, rfl⟩
  rw [← hw1, ← hg]
  have h3 : Blk w1 g 58 (u8s c).toArray := by rw [hw1, hg]; exact (Blk.new w _ _).alloc _
  have h4 : Blk w1 (g + 1) 59 (u8s h).toArray := by
    rw [hw1, hg]
    have := Blk.new (w.alloc (.cells (u8s c).toArray 58)) 59 (u8s h).toArray
    rw [World.size_alloc] at this
    exact this
  have hk1 : Below w.heap.size w w1 := by rw [hw1]; exact Keeps.to_below (((Keeps.refl _ w).alloc _).alloc _)
  clear hw1
  refine (awake_any w1 (E.below hk1)).mono ?_
  rintro e w2 ⟨rfl, hb2⟩
  have H3 := Lib.hid (h3.below hb2 h3.lt)
  have H4 := Lib.hid (h4.below hb2 h4.lt)
  have HK := Lib.hid (hk1.trans (hb2.mono hk1.size))
  clear h3 h4 hk1 hb2 hg
  go_upto_region 3 with fail
  apply wp_region_lit
  refine wpList_load_row rfl 58 (.tmp 3) rfl g rfl 58 _ (0, 0) _ H3.out Tryd.underlying58 rfl (by rw [bytes8_info]; simp [hcl]) ?_
  refine wpList_load_row rfl 59 (.tmp 4) rfl (g + 1) rfl 59 _ (0, 0) _ H4.out Tryd.underlying59 rfl (by rw [bytes16_info]; simp [hhl]) ?_
  have HP := Lib.hid (partsWell_any HA c h hcl hhl a ha2 y w2 (E.below HK.out))
  clear hcl hhl
  go_wp2_with fail
  refine HP.out.mono ?_
  rintro e w3 ⟨rfl, hb3⟩
  have HK3 := Lib.hid (HK.out.trans (hb3.mono HK.out.size))
  clear hb3 HP HK
  go_wp2
  go_ret
  exact ⟨rfl, HK3.out⟩
theorem chapParts_walk_of (HA : AnswerOk) (a0 a1 : List UInt8) (a2 : Int) (w : World) (E : Env w) (w0 : a0.length = 8) (w1 : a1.length = 16) (w2 : (Lit.int .u16 a2).wf = true) :
    Calls Tryd.prog 10 #[.agg (u8s a0).toArray, .agg (u8s a1).toArray, .int .u16 a2] w fun e w' => e = .returned (.bool true) ∧ Below w.heap.size w w' := by
  have h : 0 ≤ a2 ∧ a2 ≤ 65535 := u16_of_wf w2
  exact chapParts_walk' HA a0 a1 a2 w E w0 w1 h.1 h.2
end Go.Proofs.YtkllaghfiofnjaaDoor
/- Numbers as rows of bits, the first one the greatest, and chapter 8's steps on them. Nothing of the program. -/
namespace Go.Proofs.YtkllaghfiofnjaaDoor
namespace Pure
/-- The number whose bits these are, the first one the greatest. -/
def val : List Bool → Nat
  | [] => 0
  | b :: l => b.toNat * 2 ^ l.length + val l
theorem val_append (a b : List Bool) : val (a ++ b) = val a * 2 ^ b.length + val b := by
  induction a with
  | nil => simp [val]
  | cons x a ih => simp [val, ih, Nat.pow_add, Nat.add_mul, Nat.mul_assoc, Nat.add_assoc]
theorem val_lt (l : List Bool) : val l < 2 ^ l.length := by
  induction l with
  | nil => simp [val]
  | cons x l ih =>
    rw [List.length_cons, Nat.pow_succ]
    cases x <;> simp [val] <;> omega
theorem val_snoc (l : List Bool) (b : Bool) : val (l ++ [b]) = 2 * val l + b.toNat := by
  rw [val_append]; simp [val]; omega
theorem val_parts (l : List Bool) (n : Nat) : val l = val (l.take n) * 2 ^ (l.length - n) + val (l.drop n) := by
  conv => lhs; rw [← List.take_append_drop n l]
  rw [val_append, List.length_drop]
theorem val_drop (l : List Bool) (n : Nat) : val (l.drop n) = val l % 2 ^ (l.length - n) := by
  have h := val_lt (l.drop n)
  rw [List.length_drop] at h
  rw [val_parts l n, Nat.mul_add_mod', Nat.mod_eq_of_lt h]
theorem val_take (l : List Bool) (n : Nat) : val (l.take n) = val l / 2 ^ (l.length - n) := by
  have h := val_lt (l.drop n)
  rw [List.length_drop] at h
  rw [val_parts l n, Nat.mul_comm, Nat.mul_add_div (Nat.two_pow_pos _), Nat.div_eq_of_lt h]; rfl
theorem val_bit (l : List Bool) (p : Nat) (h1 : 1 ≤ p) (h2 : p ≤ l.length) : val l / 2 ^ (l.length - p) % 2 = (l.getD (p - 1) false).toNat := by
  obtain ⟨q, rfl⟩ : ∃ q, p = q + 1 := ⟨p - 1, by omega⟩
  have e : l.take (q + 1) = l.take q ++ [l.getD q false] := by
    rw [List.take_succ_eq_append_getElem (by omega), List.getD_eq_getElem?_getD, List.getElem?_eq_getElem (by omega)]; rfl
  rw [← val_take, e, val_snoc, Nat.add_sub_cancel]
  cases l.getD q false <;> simp <;> omega
theorem val_testBit (l : List Bool) (j : Nat) (h : j < l.length) : (val l).testBit j = l.getD (l.length - 1 - j) false := by
  have hb := val_bit l (l.length - j) (by omega) (by omega)
  rw [show l.length - (l.length - j) = j by omega, show l.length - j - 1 = l.length - 1 - j by omega] at hb
  have ht := Nat.toNat_testBit (val l) j
  rw [hb] at ht
  revert ht
  cases (val l).testBit j <;> cases l.getD (l.length - 1 - j) false <;> simp
theorem val_testBit' (l : List Bool) (j : Nat) (h : l.length ≤ j) : (val l).testBit j = false :=
  Nat.testBit_lt_two_pow (Nat.lt_of_lt_of_le (val_lt l) (Nat.pow_le_pow_right (by omega) h))
/-- Two rows of bits, xor'd. -/
def xors (a b : List Bool) : List Bool := (List.range a.length).map fun i => a.getD i false ^^ b.getD i false
theorem xors_length (a b : List Bool) : (xors a b).length = a.length := by simp [xors]
theorem xors_getD (a b : List Bool) (i : Nat) (h : i < a.length) : (xors a b).getD i false = (a.getD i false ^^ b.getD i false) := by
  unfold xors
  rw [List.getD_eq_getElem?_getD, List.getElem?_map, List.getElem?_range h]; rfl
theorem val_xors (a b : List Bool) (h : a.length = b.length) : val (xors a b) = val a ^^^ val b := by
  apply Nat.eq_of_testBit_eq
  intro j
  rw [Nat.testBit_xor]
  by_cases hj : j < a.length
  · rw [val_testBit _ j (by rw [xors_length]; exact hj), val_testBit a j hj, val_testBit b j (by omega), xors_length, xors_getD _ _ _ (by omega), h]
  · rw [val_testBit' _ j (by rw [xors_length]; omega), val_testBit' a j (by omega), val_testBit' b j (by omega)]; rfl
theorem val_or (a b : List Bool) : val a * 2 ^ b.length ||| val b = val (a ++ b) := by
  rw [val_append, ← Nat.shiftLeft_eq, Nat.shiftLeft_add_eq_or_of_lt (val_lt b)]
theorem or_low (a n b : Nat) (h : b < 2 ^ n) : a * 2 ^ n ||| b = a * 2 ^ n + b := by
  rw [← Nat.shiftLeft_eq, Nat.shiftLeft_add_eq_or_of_lt h]
theorem val_turn (c : List Bool) (n : Nat) (hc : c.length = 28) (h1 : 1 ≤ n) (h2 : n ≤ 2) : (val c * 2 ^ n ||| val c / 2 ^ (28 - n)) % 2 ^ 28 = val (desTurn c n) := by
  have hl := val_lt c
  rw [hc] at hl
  have e : val (desTurn c n) = val c % 2 ^ (28 - n) * 2 ^ n + val c / 2 ^ (28 - n) := by
    unfold desTurn
    rw [val_append, val_drop, val_take, hc, List.length_take, hc, Nat.min_eq_left (by omega)]
  rw [e]
  rcases (show n = 1 ∨ n = 2 by omega) with rfl | rfl
  · rw [or_low _ _ _ (by omega)]; omega
  · rw [or_low _ _ _ (by omega)]; omega
/-- The bits of one byte behind others. -/
theorem bits_snoc (bs : List UInt8) (b : UInt8) : val (bitsOfBytes true (bs ++ [b])) = val (bitsOfBytes true bs) * 256 + b.toNat := by
  have e : bitsOfBytes true (bs ++ [b]) = bitsOfBytes true bs ++ bitsOfBytes true [b] := by
    apply list_ext false
    · simp [bitsOfBytes_length, Nat.mul_add]
    · intro t ht
      rw [bitsOfBytes_length, List.length_append] at ht
      rw [bitsOfBytes_getD, bit_append]
      by_cases h : t < 8 * bs.length
      · rw [if_pos h, ← bitsOfBytes_getD, List.getD_eq_getElem?_getD, List.getD_eq_getElem?_getD, List.getElem?_append_left (by rw [bitsOfBytes_length]; exact h)]
      · rw [if_neg h, ← bitsOfBytes_getD, List.getD_eq_getElem?_getD, List.getD_eq_getElem?_getD, List.getElem?_append_right (by rw [bitsOfBytes_length]; omega), bitsOfBytes_length]
  rw [e, val_append, bitsOfBytes_length]
  have e2 : ∀ b : UInt8, val (bitsOfBytes true [b]) = b.toNat := by
    have : ∀ n : Fin 256, val (bitsOfBytes true [UInt8.ofNat n.val]) = n.val := by decide +kernel
    intro b
    have h := this ⟨b.toNat, b.toNat_lt⟩
    simpa using h
  rw [e2]; rfl
theorem byte_of (l : List Bool) (hl : l.length = 64) (i : Nat) (h : i < 8) : ((ofBits l).getD i 0).toNat = val l / 2 ^ (8 * (7 - i)) % 256 := by
  unfold ofBits
  rw [List.getD_eq_getElem?_getD, List.getElem?_map, List.getElem?_range (by omega)]
  show (UInt8.ofNat (num true (fun k => l.getD (8 * i + k) false) 8 8)).toNat = _
  rw [num_all true _ 8 (val l / 2 ^ (8 * (7 - i)) % 256) (by omega)]
  · simp
  · intro k hk
    rw [show (256 : Nat) = 2 ^ 8 by rfl, Nat.testBit_mod_two_pow, Nat.testBit_div_two_pow]
    have hp : place true 8 k = 7 - k := by unfold place; simp
    rw [hp, val_testBit l _ (by omega), hl]
    simp only [show 7 - k < 8 by omega, decide_true, Bool.true_and]
    congr 1; omega
/-- The table that puts bits back, the first n of them. -/
def backs : Nat → List Nat
  | 0 => List.replicate 64 0
  | n + 1 => (backs n).set (desIp.getD n 0 - 1) (n + 1)
theorem backs_length : ∀ n, (backs n).length = 64
  | 0 => by simp [backs]
  | n + 1 => by simp [backs, backs_length n]
theorem backs_at : ∀ t < 64, (backs 64).getD (desIp.getD t 0 - 1) 0 = t + 1 := by decide +kernel
theorem backs_range : ∀ t < 64, 1 ≤ (backs 64).getD t 0 ∧ (backs 64).getD t 0 ≤ 64 := by decide +kernel
theorem pick_backs (y : List Bool) : pick y (backs 64) = desPut y 64 := by
  apply list_ext false
  · rw [pick_length, backs_length, desPut_length]
  · intro j hj
    rw [pick_length, backs_length] at hj
    obtain ⟨t, ht, rfl⟩ := ip_all j hj
    rw [pick_at _ _ _ (by rw [backs_length]; exact hj), backs_at t ht, desPut_at y 64 (Nat.le_refl _) t ht, Nat.add_sub_cancel]
def expand : List Nat := (List.range 48).map fun t => (4 * (t / 6) + t % 6 + 31) % 32 + 1
theorem expand_length : expand.length = 48 := by simp [expand]
theorem expand_range : ∀ t < 48, 1 ≤ expand.getD t 0 ∧ expand.getD t 0 ≤ 32 := by decide +kernel
theorem expand_at (t : Nat) (h : t < 48) : expand.getD t 0 = (4 * (t / 6) + t % 6 + 31) % 32 + 1 := by
  unfold expand
  rw [List.getD_eq_getElem?_getD, List.getElem?_map, List.getElem?_range h]; rfl
theorem mixed_at (r k : List Bool) (i j : Nat) (hi : i < 8) (hj : j < 6) : (xors (pick r expand) k).getD (6 * i + j) false = desSix r k i j := by
  rw [xors_getD _ _ _ (by rw [pick_length, expand_length]; omega), pick_at _ _ _ (by rw [expand_length]; omega), expand_at _ (by omega)]
  unfold desSix
  rw [show (6 * i + j) / 6 = i by omega, show (6 * i + j) % 6 = j by omega, Nat.add_sub_cancel]
/-- Six bits of a row of 48 bits, as a number. -/
theorem six_of (g : List Bool) (hg : g.length = 48) (i : Nat) (hi : i < 8) :
    val g / 2 ^ (6 * (7 - i)) % 64 = 32 * (g.getD (6 * i) false).toNat + 16 * (g.getD (6 * i + 1) false).toNat + 8 * (g.getD (6 * i + 2) false).toNat + 4 * (g.getD (6 * i + 3) false).toNat + 2 * (g.getD (6 * i + 4) false).toNat + (g.getD (6 * i + 5) false).toNat := by
  have key : ∀ j, j < 6 → val g / 2 ^ (6 * (7 - i)) / 2 ^ (5 - j) % 2 = (g.getD (6 * i + j) false).toNat := by
    intro j hj
    have h := val_bit g (6 * i + j + 1) (by omega) (by omega)
    rw [hg] at h
    rw [Nat.div_div_eq_div_mul, ← Nat.pow_add, show 6 * (7 - i) + (5 - j) = 48 - (6 * i + j + 1) by omega]
    simpa using h
  have k0 := key 0 (by omega)
  have k1 := key 1 (by omega)
  have k2 := key 2 (by omega)
  have k3 := key 3 (by omega)
  have k4 := key 4 (by omega)
  have k5 := key 5 (by omega)
  simp only [Nat.sub_zero, Nat.reduceSub, Nat.reducePow, Nat.add_zero, Nat.div_one] at k0 k1 k2 k3 k4 k5
  omega
/-- The rows of S-box i, each of sixteen digits. -/
def rowNum (i row : Nat) : Nat := (List.range 16).foldl (fun a c => 16 * a + (desBox i).getD (16 * row + c) 0) 0
theorem rowNum_at : ∀ i < 8, ∀ row < 4, ∀ c < 16, rowNum i row / 2 ^ (4 * (15 - c)) % 16 = (desBox i).getD (16 * row + c) 0 := by decide +kernel
theorem rowNum_lt : ∀ i < 8, ∀ row < 4, rowNum i row < 18446744073709551616 := by decide +kernel
theorem val_nibble : ∀ s < 16, val (nibble s) = s := by decide +kernel
theorem boxes_lt : ∀ i < 8, ∀ t < 64, (desBox i).getD t 0 < 16 := by decide +kernel
theorem desAt_lt (r k : List Bool) (i : Nat) : desAt r k i < 64 := by
  unfold desAt
  have h := fun j => show (desSix r k i j).toNat ≤ 1 from Bool.toNat_le _
  have h0 := h 0
  have h1 := h 1
  have h2 := h 2
  have h3 := h 3
  have h4 := h 4
  have h5 := h 5
  omega
theorem desOuts_snoc (r k : List Bool) (i : Nat) : desOuts r k (i + 1) = desOuts r k i ++ nibble (desNum r k i) := by
  simp [desOuts, List.range_succ]
theorem val_outs (r k : List Bool) (i : Nat) (h : i < 8) : val (desOuts r k i) * 16 ||| desNum r k i = val (desOuts r k (i + 1)) := by
  have hn : desNum r k i < 16 := boxes_lt i h _ (desAt_lt r k i)
  rw [desOuts_snoc]
  conv => lhs; rw [← val_nibble _ hn]
  exact val_or (desOuts r k i) (nibble (desNum r k i))
theorem keyTable_is : ([57, 49, 41, 33, 25, 17, 9, 1, 58, 50, 42, 34, 26, 18, 10, 2, 59, 51, 43, 35, 27, 19, 11, 3, 60, 52, 44, 36, 63, 55, 47, 39, 31, 23, 15, 7, 62, 54, 46, 38, 30, 22, 14, 6, 61, 53, 45, 37, 29, 21, 13, 5, 28, 20, 12, 4] : List Nat).map (fun p => p - (p - 1) / 8) = desHalf false ++ desHalf true := by decide +kernel
theorem pick_append (b : List Bool) (p q : List Nat) : pick b (p ++ q) = pick b p ++ pick b q := by simp [pick]
end Pure
end Go.Proofs.YtkllaghfiofnjaaDoor
/- des: numbers of bytes, and bytes of numbers; the lowest bits; how far a round turns. -/
namespace Go.Proofs.YtkllaghfiofnjaaDoor
open Go.RowKit
theorem or_u64 (a b c : Nat) (h : a ||| b = c) (ha : a < 18446744073709551616) (hb : b < 18446744073709551616) : bits .or .u64 (a : Int) (b : Int) = (c : Int) := by rw [u64_or_nat a b ha hb, h]
theorem xor_u64 (a b c : Nat) (h : a ^^^ b = c) (ha : a < 18446744073709551616) (hb : b < 18446744073709551616) : bits .xor .u64 (a : Int) (b : Int) = (c : Int) := by rw [u64_xor_nat a b ha hb, h]
theorem number_step (bs : List UInt8) (k : Nat) (h : k < bs.length) : Pure.val (Pure.bitsOfBytes true (bs.take (k + 1))) = Pure.val (Pure.bitsOfBytes true (bs.take k)) * 256 + (bs.getD k 0).toNat := by
  rw [take_snoc bs 0 k h, Pure.bits_snoc]
theorem number_lt (bs : List UInt8) (k : Nat) (h : k < bs.length) (h8 : bs.length ≤ 8) : Pure.val (Pure.bitsOfBytes true (bs.take k)) < 72057594037927936 := by
  have h1 := Pure.val_lt (Pure.bitsOfBytes true (bs.take k))
  rw [Pure.bitsOfBytes_length, List.length_take] at h1
  have h2 : (2 : Nat) ^ (8 * min k bs.length) ≤ 2 ^ 56 := Nat.pow_le_pow_right (by omega) (by omega)
  omega
set_option maxHeartbeats 1000000 in
theorem numberOf_any (F : Nat → Prop) (x : Value) (bs : List UInt8) (w : World) (hr : Row w F 1 x bs.length (u8s bs)) (hl : bs.length ≤ 8) :
    Calls Tryd.prog 103 #[x] w fun e w' => e = .returned (.int .u64 ((Pure.val (Pure.bitsOfBytes true bs) : Nat) : Int)) ∧ Keeps nobody w w' := by
  obtain ⟨A, cA, rfl, hc⟩ := hr.form
  have HR := Lib.hid hr
  clear hr
  go_enter Tryd.func103, Tryd.ntmps103
  go_wp2_with fail
  go_loopw [3, 8] (fun v i wr => ∃ k : Nat, k ≤ bs.length ∧ i = .int .i64 (k : Int) ∧ v = .int .u64 ((Pure.val (Pure.bitsOfBytes true (bs.take k)) : Nat) : Int) ∧ Keeps nobody w wr) (fun _ i _ => bs.length - (intOf i).toNat)
  case atStart => exact ⟨0, by omega, rfl, by simp [Pure.bitsOfBytes, Pure.val], Keeps.refl _ w⟩
  case round =>
    obtain ⟨k, hk, rfl, rfl, hK⟩ := hrel
    have HK := Lib.hid hK
    by_cases hkl : k < bs.length
    · have hi0 : (0 : Int) ≤ (k : Int) := by omega
      have hi1 : (k : Int) < (bs.length : Int) := by omega
      obtain ⟨bx, ox, rfl, _, hcx⟩ := (HR.out.keeps hK (fun _ _ h => h)).cellAt (by omega)
      have cx := hcx k _ (u8s_at bs k hkl)
      have hs := number_step bs k hkl
      have hv := number_lt bs k hkl hl
      obtain ⟨V, hV⟩ : ∃ V, V = Pure.val (Pure.bitsOfBytes true (bs.take k)) := ⟨_, rfl⟩
      obtain ⟨X, hX⟩ : ∃ X, X = (bs.getD k 0).toNat := ⟨_, rfl⟩
      obtain ⟨V', hV'⟩ : ∃ V', V' = Pure.val (Pure.bitsOfBytes true (bs.take (k + 1))) := ⟨_, rfl⟩
      have hx : X < 256 := by rw [hX]; exact UInt8.toNat_lt _
      rw [← hV, ← hX, ← hV'] at hs
      rw [← hV] at hv ⊢
      rw [← hX] at cx
      have ho : bits .or .u64 ((V : Int) * 256) (X : Int) = (V' : Int) := by
        have h := or_u64 (V * 256) X V' (by rw [hs]; exact Pure.or_low V 8 X hx) (by omega) (by omega)
        simpa using h
      have HV' := Lib.hid hV'
      have HS := Lib.hid hs
      clear hV hX hs hV' hK hcx
      go_wp2_with fail
      go_roundw
      case rel => exact ⟨k + 1, by omega, by go_num, by rw [HV'.out], HK.out⟩
      case measure => simp [intOf]; omega
    · have hkk : k = bs.length := by omega
      subst hkk
      rw [List.take_length]
      clear hK hkl hk
      go_wp2
      go_ret
      exact ⟨rfl, HK.out⟩
/-- The lowest n bits by a mask. -/
theorem mask_u64 (v n : Nat) (hn : n ≤ 32) (hv : v < 18446744073709551616) : bits .and .u64 (v : Int) (IntKind.u64.wrap (IntKind.u64.wrap (2 ^ n) - 1)) = ((v % 2 ^ n : Nat) : Int) := by
  have h1 : (2 : Nat) ^ n ≤ 2 ^ 32 := Nat.pow_le_pow_right (by omega) hn
  have h0 := Nat.one_le_two_pow (n := n)
  have e1 : IntKind.u64.wrap (2 ^ n) = ((2 ^ n : Nat) : Int) := by
    rw [show ((2 : Int) ^ n) = ((2 ^ n : Nat) : Int) by simp]
    show ((2 ^ n : Nat) : Int) % 18446744073709551616 = _
    omega
  have e2 : IntKind.u64.wrap (((2 ^ n : Nat) : Int) - 1) = ((2 ^ n - 1 : Nat) : Int) := by
    show (((2 ^ n : Nat) : Int) - 1) % 18446744073709551616 = _
    omega
  rw [e1, e2, u64_and_nat _ _ hv (by omega), Nat.and_two_pow_sub_one_eq_mod]
theorem lowest_any (n : Nat) (v : Nat) (hn : 1 ≤ n) (hn2 : n ≤ 32) (hv : v < 18446744073709551616) (w : World) :
    Calls Tryd.prog 104 #[.int .i64 (n : Int), .int .u64 (v : Int)] w fun e w' => e = .returned (.int .u64 ((v % 2 ^ n : Nat) : Int)) ∧ ∃ q, w' = w.drewN q := by
  have hn0 : (0 : Int) ≤ (n : Int) := by omega
  go_enter Tryd.func104, Tryd.ntmps104
  go_wp2_with fail
  go_ret
  exact ⟨by rw [mask_u64 v n hn2 hv]; rfl, 0, rfl⟩
theorem turn_any2 (n : Nat) (h1 : 1 ≤ n) (hn : n ≤ 16) (w : World) :
    Calls Tryd.prog 117 #[.int .i64 (n : Int)] w fun e w' => e = .returned (.int .i64 ((Pure.desBy n : Nat) : Int)) ∧ ∃ q, w' = w.drewN q := by
  rcases (show n = 1 ∨ n = 2 ∨ n = 3 ∨ n = 4 ∨ n = 5 ∨ n = 6 ∨ n = 7 ∨ n = 8 ∨ n = 9 ∨ n = 10 ∨ n = 11 ∨ n = 12 ∨ n = 13 ∨ n = 14 ∨ n = 15 ∨ n = 16 by omega) with rfl | rfl | rfl | rfl | rfl | rfl | rfl | rfl | rfl | rfl | rfl | rfl | rfl | rfl | rfl | rfl
  all_goals
    go_enter Tryd.func117, Tryd.ntmps117
    go_wp2
    go_ret
    exact ⟨rfl, 0, rfl⟩
end Go.Proofs.YtkllaghfiofnjaaDoor
/- des: a register rotated; the bytes of a block; the function that picks bits by a table. -/
namespace Go.Proofs.YtkllaghfiofnjaaDoor
open Go.RowKit
set_option maxHeartbeats 1000000 in
theorem rotated_any (c : List Bool) (n : Nat) (hc : c.length = 28) (h1 : 1 ≤ n) (h2 : n ≤ 2) (w : World) :
    Calls Tryd.prog 118 #[.int .u64 ((Pure.val c : Nat) : Int), .int .i64 (n : Int)] w fun e w' => e = .returned (.int .u64 ((Pure.val (Pure.desTurn c n) : Nat) : Int)) ∧ ∃ q, w' = w.drewN q := by
  have hl := Pure.val_lt c
  rw [hc] at hl
  have ht := Pure.val_turn c n hc h1 h2
  obtain ⟨V, hV⟩ : ∃ V, V = Pure.val c := ⟨_, rfl⟩
  obtain ⟨T, hT⟩ : ∃ T, T = Pure.val (Pure.desTurn c n) := ⟨_, rfl⟩
  rw [← hV, ← hT] at ht
  rw [← hV] at hl
  rw [← hV, ← hT]
  clear hV hT hc
  obtain ⟨R, hR⟩ : ∃ R, R = V * 2 ^ n ||| V / 2 ^ (28 - n) := ⟨_, rfl⟩
  rw [← hR] at ht
  have hRl : R < 18446744073709551616 := by
    rw [hR]
    refine Nat.or_lt_two_pow (n := 64) ?_ ?_
    · rcases (show n = 1 ∨ n = 2 by omega) with rfl | rfl <;> omega
    · exact Nat.lt_of_le_of_lt (Nat.div_le_self _ _) (by omega)
  have hL : ∀ w, Calls Tryd.prog 104 #[.int .i64 28, .int .u64 (R : Int)] w fun e w' => e = .returned (.int .u64 ((R % 2 ^ 28 : Nat) : Int)) ∧ ∃ q, w' = w.drewN q := fun w => lowest_any 28 R (by omega) (by omega) hRl w
  rw [ht] at hL
  have HL := Lib.hid hL
  clear hL ht
  rcases (show n = 1 ∨ n = 2 by omega) with rfl | rfl
  · have ho : bits .or .u64 ((V : Int) * 2) ((V : Int) / 134217728) = (R : Int) := by
      have h := or_u64 (V * 2) (V / 134217728) R (by rw [hR]) (by omega) (by omega)
      simpa using h
    have e1 : IntKind.i64.wrap 27 = 27 := rfl
    have e2 : IntKind.u64.wrap ((V : Int) * 2) = (V : Int) * 2 := IntWalk.u64_in _ (by omega)
    clear hR
    go_enter Tryd.func118, Tryd.ntmps118
    go_wp2_with fail
    go_quiet (refine Calls.quiet_of (HL.out _))
    go_wp2
    go_ret
    exact ⟨rfl, _, rfl⟩
  · have ho : bits .or .u64 ((V : Int) * 4) ((V : Int) / 67108864) = (R : Int) := by
      have h := or_u64 (V * 4) (V / 67108864) R (by rw [hR]) (by omega) (by omega)
      simpa using h
    have e1 : IntKind.i64.wrap 26 = 26 := rfl
    have e2 : IntKind.u64.wrap ((V : Int) * 4) = (V : Int) * 4 := IntWalk.u64_in _ (by omega)
    clear hR
    go_enter Tryd.func118, Tryd.ntmps118
    go_wp2_with fail
    go_quiet (refine Calls.quiet_of (HL.out _))
    go_wp2
    go_ret
    exact ⟨rfl, _, rfl⟩
set_option maxHeartbeats 1000000 in
theorem bytesOf_any (l : List Bool) (hl : l.length = 64) (w : World) :
    Calls Tryd.prog 107 #[.int .u64 ((Pure.val l : Nat) : Int)] w fun e w' => ∃ u, e = .returned u ∧ w'.ownsRow w.heap.size 5 1 u 8 (u8s (Pure.ofBits l)) ∧ Keeps nobody w w' := by
  have hv := Pure.val_lt l
  rw [hl] at hv
  have hB := Pure.byte_of l hl
  have hN : (Pure.ofBits l).length = 8 := by rw [Pure.ofBits_length, hl]
  obtain ⟨V, hV⟩ : ∃ V, V = Pure.val l := ⟨_, rfl⟩
  rw [← hV] at hv hB ⊢
  obtain ⟨O, hO⟩ : ∃ O, O = Pure.ofBits l := ⟨_, rfl⟩
  rw [← hO] at hB hN ⊢
  clear hV hO hl
  obtain ⟨i0, hi0, hz0, hz1, hz2⟩ := info_parts u8_info
  go_enter Tryd.func107, Tryd.ntmps107
  go_wp2_with (at_make; refine stopHere ?_)
  unfold Hid
  refine wpList_make_full _ rfl _ _ 25 rfl w.heap.size 5 i0 _ 1 Tryd.underlying25 hi0 hz0 hz1 .i64 .i64 _ _ 8 rfl rfl (by omega) (by omega) (by rw [hz2]; omega) (by unfold maxLen; omega) (Nat.le_refl _) ?_
  intro w0 hown0 hg0
  rw [show (Value.int .u8 0).cells = #[.int .u8 0] from rfl, made_cells rfl] at hown0
  have HK0 := Lib.hid (show Keeps nobody w w0 from Keeps.new (Below.grown (Below.refl _ w) hg0 (Nat.le_refl _) (by simp)))
  have O0 := Lib.hid hown0
  have HB := Lib.hid hB
  clear hown0 hg0 hi0 hz0 hz1 hz2 hB
  go_wp2_with fail
  go_loopw [8] (fun i wr => ∃ k : Nat, k ≤ 8 ∧ i = .int .i64 (k : Int) ∧ wr.ownsRow w.heap.size 5 1 (.slice (some ⟨w.heap.size, 0, none⟩) 8 8) 8 (u8s (O.take k ++ List.replicate (8 - k) 0)) ∧ Keeps nobody w wr) (fun i _ => 8 - (intOf i).toNat)
  case atStart => exact ⟨0, by omega, rfl, by simpa using O0.out, HK0.out⟩
  case round =>
    obtain ⟨k, hk, rfl, hW, hK⟩ := hrel
    have HK := Lib.hid hK
    have HW := Lib.hid hW
    by_cases hkl : k < 8
    · have hi0 : (0 : Int) ≤ (k : Int) := by omega
      have hi1 : (k : Int) < 8 := by omega
      obtain ⟨s, hs⟩ : ∃ s, s = 8 * (7 - k) := ⟨_, rfl⟩
      have hb := HB.out k hkl
      rw [← hs] at hb
      obtain ⟨X, hX⟩ : ∃ X, X = O.getD k 0 := ⟨_, rfl⟩
      rw [← hX] at hb
      have e1 : 8 * (7 - (k : Int)) = (s : Int) := by omega
      have e2 : (V : Int) / 2 ^ s % 256 = (X.toNat : Int) := by
        rw [hb, Int.natCast_emod, Int.natCast_ediv, Int.natCast_pow]; rfl
      have hs0 : (0 : Int) ≤ (s : Int) := by omega
      have f1 := own_frozen hW k
      have c1 := own_at hW k (by simp; omega)
      clear hW hK hb
      have HX := Lib.hid hX
      clear hX hs
      have hw3 := own_set (k := k) HW.out X
      have e3 : (O.take k ++ List.replicate (8 - k) 0).set k X = O.take (k + 1) ++ List.replicate (8 - (k + 1)) 0 := by
        rw [set_next _ _ _ (by rw [List.length_take]; omega) hkl, take_snoc O 0 k (by omega), ← HX.out]
      rw [e3] at hw3
      have HW3 := Lib.hid hw3
      have HK3 := Lib.hid (HK.out.store w.heap.size k (fun h => absurd h (Nat.lt_irrefl _)) (.int .u8 X.toNat))
      clear hw3 e3
      go_wp2_with fail
      go_roundw
      case rel => exact ⟨k + 1, by omega, by go_num, HW3.out, HK3.out⟩
      case measure => simp [intOf]; omega
    · have hkk : k = 8 := by omega
      subst hkk
      clear hW hK hkl hk
      go_wp2
      go_ret
      refine ⟨_, rfl, ?_, HK.out⟩
      have h := HW.out
      rw [List.take_of_length_le (by omega)] at h
      simpa using h
/-- A function that picks bits by a table, of numbers of so many bits. -/
def Picks (w : World) (f : Value) (n : Nat) (ps : List Nat) : Prop :=
  ∃ a b u, f = .func (.func 114) #[] #[.pointer (some ⟨a, 0, none⟩), .pointer (some ⟨b, 0, none⟩)] ∧ w.cell? ⟨a, 0, none⟩ = some u ∧ w.cell? ⟨b, 0, none⟩ = some (.int .i64 (n : Int)) ∧ Row w (fun _ => True) 1 u ps.length (ints ps)
theorem cell_keeps {w w' : World} {b off : Nat} {u : Value} (h : w.cell? ⟨b, off, none⟩ = some u) (k : Keeps nobody w w') : w'.cell? ⟨b, off, none⟩ = some u :=
  (World.cell?_of_block (w := w) (a := ⟨b, off, none⟩) (k.block b (cell_lt h) (fun x => x))).trans h
theorem Picks.keeps {w w' : World} {f : Value} {n : Nat} {ps : List Nat} (h : Picks w f n ps) (k : Keeps nobody w w') : Picks w' f n ps := by
  obtain ⟨a, b, u, e, h1, h2, h3⟩ := h
  exact ⟨a, b, u, e, cell_keeps h1 k, cell_keeps h2 k, h3.keeps k (fun _ _ h => h)⟩
theorem picker_any (F : Nat → Prop) (n : Nat) (u : Value) (ps : List Nat) (w : World) (hu : Row w F 1 u ps.length (ints ps)) :
    Calls Tryd.prog 102 #[.int .i64 (n : Int), u] w fun e w' => ∃ f, e = .returned f ∧ Picks w' f n ps ∧ Keeps nobody w w' := by
  obtain ⟨A, cA, rfl, hc⟩ := hu.form
  have HU := Lib.hid hu
  have hmf : ∀ (fn : Fn) (first cap : Array Value) (w : World), (Instr.makeFunc fn first cap).run Tryd.prog w = .ok (.func fn first cap) w := fun _ _ _ _ => rfl
  clear hu
  go_enter Tryd.func102, Tryd.ntmps102
  go_wp2
  go_ret
  have HK := ((Keeps.refl nobody w).alloc (.cells #[.int .i64 (n : Int)] 3)).alloc (.cells #[.slice A ps.length cA] 86)
  refine ⟨_, rfl, ⟨_, _, _, rfl, ?_, ?_, (HU.out.keeps HK (fun _ _ h => h)).mono (fun _ _ => trivial)⟩, HK⟩
  · simp
  · simp
set_option maxHeartbeats 1000000 in
theorem picked_any (n : Nat) (f : Value) (ps : List Nat) (w : World) (hf : Picks w f n ps) (l : List Bool) (hl : l.length = n) (hn : n ≤ 64) (hp : ps.length ≤ 64) (hin : ∀ k, k < ps.length → 1 ≤ ps.getD k 0 ∧ ps.getD k 0 ≤ n) (a b : Nat)
    (he : f = .func (.func 114) #[] #[.pointer (some ⟨a, 0, none⟩), .pointer (some ⟨b, 0, none⟩)]) :
    Calls Tryd.prog 114 #[.int .u64 ((Pure.val l : Nat) : Int), .pointer (some ⟨a, 0, none⟩), .pointer (some ⟨b, 0, none⟩)] w fun e w' => e = .returned (.int .u64 ((Pure.val (Pure.pick l ps) : Nat) : Int)) ∧ ∃ q, w' = w.drewN q := by
  obtain ⟨a', b', u, e, h1, h2, h3⟩ := hf
  obtain ⟨rfl, rfl⟩ : a' = a ∧ b' = b := by
    rw [he] at e
    injection e with _ _ e
    simp at e
    exact ⟨e.1.symm, e.2.symm⟩
  clear he e
  obtain ⟨A, cA, rfl, hc⟩ := h3.form
  have HR := Lib.hid h3
  have HI := Lib.hid hin
  have HL := Lib.hid hl
  have HC1 := Lib.hid h1
  have HC2 := Lib.hid h2
  clear h3 hin hl h2
  go_enter Tryd.func114, Tryd.ntmps114
  go_wp2_with fail
  clear h1
  go_loopw [5, 10] (fun v i wr => ∃ k : Nat, k ≤ ps.length ∧ i = .int .i64 (k : Int) ∧ v = .int .u64 ((Pure.val (Pure.pick l (ps.take k)) : Nat) : Int) ∧ ∃ q, wr = w.drewN q) (fun _ i _ => ps.length - (intOf i).toNat)
  case atStart => exact ⟨0, by omega, rfl, by simp [Pure.pick, Pure.val], 0, rfl⟩
  case round =>
    obtain ⟨k, hk, rfl, rfl, q, hq⟩ := hrel
    have HQ := Lib.hid hq
    have hK := Keeps.of_drewN hq
    have HK := Lib.hid hK
    by_cases hkl : k < ps.length
    · have hi0 : (0 : Int) ≤ (k : Int) := by omega
      have hi1 : (k : Int) < (ps.length : Int) := by omega
      obtain ⟨bx, ox, rfl, _, hcx⟩ := (HR.out.keeps hK (fun _ _ h => h)).cellAt (by omega)
      have cx := hcx k _ (ints_at ps k hkl)
      have c2 := cell_keeps HC2.out hK
      obtain ⟨p1, p2⟩ := HI.out k hkl
      have hs : Pure.val (Pure.pick l (ps.take (k + 1))) = 2 * Pure.val (Pure.pick l (ps.take k)) + (l.getD (ps.getD k 0 - 1) false).toNat := by
        rw [Pure.pick_snoc l ps k hkl, Pure.val_snoc]
      have hv : Pure.val (Pure.pick l (ps.take k)) < 9223372036854775808 := by
        have h1 := Pure.val_lt (Pure.pick l (ps.take k))
        rw [Pure.pick_length, List.length_take] at h1
        have h2 : (2 : Nat) ^ (min k ps.length) ≤ 2 ^ 63 := Nat.pow_le_pow_right (by omega) (by omega)
        omega
      have hbit := Pure.val_bit l (ps.getD k 0) p1 (by rw [HL.out]; exact p2)
      have hvl := Pure.val_lt l
      rw [HL.out] at hbit hvl
      have hvl2 : Pure.val l < 18446744073709551616 := Nat.lt_of_lt_of_le hvl (Nat.pow_le_pow_right (n := 2) (by omega) hn)
      have hbl := Bool.toNat_le (l.getD (ps.getD k 0 - 1) false)
      obtain ⟨p, hp'⟩ : ∃ p, p = ps.getD k 0 := ⟨_, rfl⟩
      obtain ⟨B, hB⟩ : ∃ B, B = (l.getD (ps.getD k 0 - 1) false).toNat := ⟨_, rfl⟩
      obtain ⟨V, hV⟩ : ∃ V, V = Pure.val (Pure.pick l (ps.take k)) := ⟨_, rfl⟩
      obtain ⟨V', hV'⟩ : ∃ V', V' = Pure.val (Pure.pick l (ps.take (k + 1))) := ⟨_, rfl⟩
      rw [← hB] at hs hbit hbl
      rw [← hV, ← hV'] at hs
      rw [← hp'] at cx p1 p2 hbit
      rw [← hV] at hv ⊢
      obtain ⟨L, hL⟩ : ∃ L, L = Pure.val l := ⟨_, rfl⟩
      rw [← hL] at hbit hvl2 ⊢
      have e2 : bits .and .u64 ((L : Int) / 2 ^ (n - p)) 1 = (B : Int) := by
        have hle : L / 2 ^ (n - p) < 18446744073709551616 := Nat.lt_of_le_of_lt (Nat.div_le_self _ _) hvl2
        have h := u64_and_nat (L / 2 ^ (n - p)) 1 hle (by omega)
        rw [Nat.and_one_is_mod, hbit] at h
        rw [← h, Int.natCast_ediv, Int.natCast_pow]; rfl
      have e3 : bits .or .u64 ((V : Int) * 2) (B : Int) = (V' : Int) := by
        have h := or_u64 (V * 2) B V' (by rw [hs, Nat.mul_comm 2 V]; exact Pure.or_low V 1 B (by omega)) (by omega) (by omega)
        simpa using h
      have e4 : IntKind.u64.wrap ((V : Int) * 2) = (V : Int) * 2 := IntWalk.u64_in _ (by omega)
      have HV' := Lib.hid hV'
      clear hV hL hB hp' hs hV' hK hq hcx hvl hbit
      go_wp2_with fail
      go_roundw
      case rel => exact ⟨k + 1, by omega, by go_num, by rw [HV'.out], q, HQ.out⟩
      case measure => simp [intOf]; omega
    · have hkk : k = ps.length := by omega
      subst hkk
      rw [List.take_length]
      clear hK hkl hk
      go_wp2
      go_ret
      exact ⟨rfl, q, rfl⟩
end Go.Proofs.YtkllaghfiofnjaaDoor
/- des: the tables. -/
namespace Go.Proofs.YtkllaghfiofnjaaDoor
open Go.RowKit
theorem ip_get : ∀ k < 8, ∀ j < 8, Pure.desIp.getD (8 * k + j) 0 + 8 * j = Pure.desStarts.getD k 0 := by decide +kernel
theorem starts_lt : ∀ k < 8, Pure.desStarts.getD k 0 ≤ 64 := by decide +kernel
set_option maxHeartbeats 2000000 in
theorem initialTable_any (w : World) :
    Calls Tryd.prog 100 #[] w fun e w' => ∃ u, e = .returned u ∧ Row w' (fun _ => True) 1 u Pure.desIp.length (ints Pure.desIp) ∧ Keeps nobody w w' := by
  obtain ⟨T, hT⟩ : ∃ T, T = Pure.desIp := ⟨_, rfl⟩
  have hTl : T.length = 64 := by rw [hT]; exact Pure.ip_length
  have hTg : ∀ k < 8, ∀ j < 8, T.getD (8 * k + j) 0 + 8 * j = Pure.desStarts.getD k 0 := by rw [hT]; exact ip_get
  rw [← hT]
  clear hT
  have HT := Lib.hid hTl
  have HG := Lib.hid hTg
  clear hTl hTg
  obtain ⟨b, hb⟩ : ∃ b, b = w.heap.size := ⟨_, rfl⟩
  have HB := Lib.hid hb
  go_enter Tryd.func100, Tryd.ntmps100
  go_wp2_with fail
  rw [← hb]
  obtain ⟨w1, hw1⟩ : ∃ w1, w1 = w.alloc (.cells (ints Pure.desStarts).toArray 3) := ⟨_, rfl⟩
  have hw1' : w.alloc (.cells #[.int .i64 58, .int .i64 60, .int .i64 62, .int .i64 64, .int .i64 57, .int .i64 59, .int .i64 61, .int .i64 63] 3) = w1 := by rw [hw1]; rfl
  rw [hw1']
  have HS := Lib.hid (show Blk w1 b 3 (ints Pure.desStarts).toArray by rw [hw1, hb]; exact Blk.new w _ _)
  have HK1 := Lib.hid (show Keeps nobody w w1 by rw [hw1]; exact (Keeps.refl _ w).alloc _)
  have HZ := Lib.hid (show w1.heap.size = b + 1 by rw [hw1, hb]; simp)
  clear hw1 hw1' hb
  go_loopw [1, 7] (fun v i wr => ∃ k : Nat, k ≤ 8 ∧ i = .int .i64 (k : Int) ∧ wr.ownsRow (b + 1) 3 1 v (8 * k) (ints (T.take (8 * k))) ∧ Below (b + 1) w1 wr) (fun _ i _ => 8 - (intOf i).toNat)
  case atStart => exact ⟨0, by omega, rfl, World.ownsRow_nil _ _ _ _, Below.refl _ _⟩
  case round =>
    obtain ⟨k, hk, rfl, hW, hK⟩ := hrel
    have HW := Lib.hid hW
    have HK := Lib.hid hK
    obtain ⟨A2, c2, rfl⟩ := own_form hW
    by_cases hkl : k < 8
    · have hi0 : (0 : Int) ≤ (k : Int) := by omega
      have hi1 : (k : Int) < 8 := by omega
      obtain ⟨p, hp⟩ : ∃ p, p = Pure.desStarts.getD k 0 := ⟨_, rfl⟩
      have hp64 : p ≤ 64 := by rw [hp]; exact starts_lt k hkl
      have hBr := HS.out.below hK (by omega)
      have c0 : wr.cell? ⟨b, k, none⟩ = some (.int .i64 (p : Int)) := by
        rw [hBr.cell, hp, ← ints_at Pure.desStarts k (by simpa [Pure.desStarts] using hkl)]
        simp
      have HP := Lib.hid hp
      clear hW hK hBr hp
      go_wp2_with fail
      clear c0
      go_loopw [1, 11] (fun v i wi => ∃ j : Nat, j ≤ 8 ∧ i = .int .i64 (j : Int) ∧ wi.ownsRow (b + 1) 3 1 v (8 * k + j) (ints (T.take (8 * k + j))) ∧ Below (b + 1) w1 wi) (fun _ i _ => 8 - (intOf i).toNat)
      case atStart => exact ⟨0, by omega, rfl, HW.out, HK.out⟩
      case round =>
        clear HW HK
        obtain ⟨j, hj, rfl, hW, hK⟩ := hrel
        have HW := Lib.hid hW
        have HK := Lib.hid hK
        obtain ⟨A3, c3, rfl⟩ := own_form hW
        by_cases hjl : j < 8
        · have hj0 : (0 : Int) ≤ (j : Int) := by omega
          have hj1 : (j : Int) < 8 := by omega
          have hg := HG.out k hkl j hjl
          rw [← HP.out] at hg
          obtain ⟨m, hm⟩ : ∃ m, m = T.getD (8 * k + j) 0 := ⟨_, rfl⟩
          rw [← hm] at hg
          have e1 : (p : Int) - 8 * (j : Int) = (m : Int) := by omega
          have HM := Lib.hid hm
          have hsz := HK.out.size
          have hszb : b + 1 ≤ wr.heap.size := by have := HZ.out; omega
          clear hW hK hm hg
          go_wp2_with (at_builtin; refine stopHere ?_)
          unfold Hid
          have hl1 : (T.take (8 * k + j)).length = 8 * k + j := by rw [List.length_take, HT.out]; omega
          refine wp_append_int rfl (.tmp 14) (.tmp 19) rfl (b + 1) (.slice A3 (8 * k + j) c3) (8 * k + j) (T.take (8 * k + j)) hl1 rfl (own_grown HW.out (World.grownBy_alloc wr _ none) (by simp)) _ _ [m] rfl (irow_new wr [m] _ 1 rfl rfl (by simp)) (by simp; omega) (by simp; omega) ?_
          intro v3 w3 hown3 hg3 hat3
          have HB3 := Lib.hid (show Below (b + 1) w1 w3 from ((HK.out.alloc hszb _).grown hg3 (by simp; omega) (fun k hk => ownsRow_ge HW.out k hk)))
          have hown4 : w3.ownsRow (b + 1) 3 1 v3 (8 * k + j + 1) (ints (T.take (8 * k + j + 1))) := by
            have e1 : T.take (8 * k + j) ++ [m] = T.take (8 * k + j + 1) := by rw [take_snoc _ 0 (8 * k + j) (by rw [HT.out]; omega), HM.out]
            rw [e1] at hown3
            have e2 : (T.take (8 * k + j + 1)).length = 8 * k + j + 1 := by rw [← e1, List.length_append, hl1]; rfl
            rw [e2] at hown3
            exact hown3
          have HO3 := Lib.hid hown4
          clear hown3 hown4 hg3 hat3 hl1
          go_wp2_with fail
          go_roundw
          case rel => exact ⟨j + 1, by omega, by go_num, HO3.out, HB3.out⟩
          case measure => simp [intOf]; omega
        · have hjj : j = 8 := by omega
          subst hjj
          clear hW hK hjl hj
          go_wp2_with fail
          go_roundw
          case rel => exact ⟨k + 1, by omega, by go_num, HW.out, HK.out⟩
          case measure => simp [intOf]; omega
    · have hkk : k = 8 := by omega
      subst hkk
      clear hW hK hkl hk
      go_wp2
      go_ret
      have h := Row.of_own HW.out
      rw [List.take_of_length_le (by have := HT.out; omega)] at h
      have hz := HZ.out
      refine ⟨_, rfl, ?_, HK1.out.trans (Keeps.of_below (HK.out.mono (by omega)))⟩
      rw [HT.out]
      exact h.mono (fun _ _ => trivial)
set_option maxHeartbeats 2000000 in
theorem expansionTable_any (w : World) :
    Calls Tryd.prog 110 #[] w fun e w' => ∃ u, e = .returned u ∧ Row w' (fun _ => True) 1 u Pure.expand.length (ints Pure.expand) ∧ Keeps nobody w w' := by
  obtain ⟨T, hT⟩ : ∃ T, T = Pure.expand := ⟨_, rfl⟩
  have hTl : T.length = 48 := by rw [hT]; exact Pure.expand_length
  have hTg : ∀ k < 8, ∀ j < 6, T.getD (6 * k + j) 0 = (4 * k + j + 31) % 32 + 1 := by
    intro k hk j hj
    rw [hT, Pure.expand_at _ (by omega)]
    omega
  rw [← hT]
  clear hT
  have HT := Lib.hid hTl
  have HG := Lib.hid hTg
  clear hTl hTg
  obtain ⟨b, hb⟩ : ∃ b, b = w.heap.size := ⟨_, rfl⟩
  have HB := Lib.hid hb
  clear hb
  go_enter Tryd.func110, Tryd.ntmps110
  go_wp2_with fail
  go_loopw [1, 4] (fun v i wr => ∃ k : Nat, k ≤ 8 ∧ i = .int .i64 (k : Int) ∧ wr.ownsRow b 3 1 v (6 * k) (ints (T.take (6 * k))) ∧ Below b w wr) (fun _ i _ => 8 - (intOf i).toNat)
  case atStart => exact ⟨0, by omega, rfl, World.ownsRow_nil _ _ _ _, Below.refl _ _⟩
  case round =>
    obtain ⟨k, hk, rfl, hW, hK⟩ := hrel
    have HW := Lib.hid hW
    have HK := Lib.hid hK
    obtain ⟨A2, c2, rfl⟩ := own_form hW
    by_cases hkl : k < 8
    · have hi0 : (0 : Int) ≤ (k : Int) := by omega
      have hi1 : (k : Int) < 8 := by omega
      clear hW hK
      go_wp2_with fail
      go_loopw [1, 7] (fun v i wi => ∃ j : Nat, j ≤ 6 ∧ i = .int .i64 (j : Int) ∧ wi.ownsRow b 3 1 v (6 * k + j) (ints (T.take (6 * k + j))) ∧ Below b w wi) (fun _ i _ => 6 - (intOf i).toNat)
      case atStart => exact ⟨0, by omega, rfl, HW.out, HK.out⟩
      case round =>
        clear HW HK
        obtain ⟨j, hj, rfl, hW, hK⟩ := hrel
        have HW := Lib.hid hW
        have HK := Lib.hid hK
        obtain ⟨A3, c3, rfl⟩ := own_form hW
        by_cases hjl : j < 6
        · have hj0 : (0 : Int) ≤ (j : Int) := by omega
          have hj1 : (j : Int) < 6 := by omega
          have hg := HG.out k hkl j hjl
          obtain ⟨m, hm⟩ : ∃ m, m = T.getD (6 * k + j) 0 := ⟨_, rfl⟩
          rw [← hm] at hg
          obtain ⟨q, hq⟩ : ∃ q, q = 4 * k + j + 31 := ⟨_, rfl⟩
          have e0 : 4 * (k : Int) + (j : Int) + 32 - 1 = (q : Int) := by omega
          have e1 : (q : Int).tmod 32 = ((q % 32 : Nat) : Int) := by rw [Int.tmod_eq_emod_of_nonneg (by omega)]; rfl
          have e2 : (q : Int) % 32 + 1 = (m : Int) := by omega
          have HM := Lib.hid hm
          have hsz := HK.out.size
          have hszb : b ≤ wr.heap.size := by have := HB.out; omega
          clear hW hK hm hg hq
          go_wp2_with (at_builtin; refine stopHere ?_)
          unfold Hid
          have hl1 : (T.take (6 * k + j)).length = 6 * k + j := by rw [List.length_take, HT.out]; omega
          refine wp_append_int rfl (.tmp 10) (.tmp 19) rfl b (.slice A3 (6 * k + j) c3) (6 * k + j) (T.take (6 * k + j)) hl1 rfl (own_grown HW.out (World.grownBy_alloc wr _ none) (by simp)) _ _ [m] rfl (irow_new wr [m] _ 1 rfl rfl (by simp)) (by simp; omega) (by simp; omega) ?_
          intro v3 w3 hown3 hg3 hat3
          have HB3 := Lib.hid (show Below b w w3 from ((HK.out.alloc hszb _).grown hg3 (by simp; omega) (fun k hk => ownsRow_ge HW.out k hk)))
          have hown4 : w3.ownsRow b 3 1 v3 (6 * k + j + 1) (ints (T.take (6 * k + j + 1))) := by
            have e1 : T.take (6 * k + j) ++ [m] = T.take (6 * k + j + 1) := by rw [take_snoc _ 0 (6 * k + j) (by rw [HT.out]; omega), HM.out]
            rw [e1] at hown3
            have e2 : (T.take (6 * k + j + 1)).length = 6 * k + j + 1 := by rw [← e1, List.length_append, hl1]; rfl
            rw [e2] at hown3
            exact hown3
          have HO3 := Lib.hid hown4
          clear hown3 hown4 hg3 hat3 hl1
          go_wp2_with fail
          go_roundw
          case rel => exact ⟨j + 1, by omega, by go_num, HO3.out, HB3.out⟩
          case measure => simp [intOf]; omega
        · have hjj : j = 6 := by omega
          subst hjj
          clear hW hK hjl hj
          go_wp2_with fail
          go_roundw
          case rel => exact ⟨k + 1, by omega, by go_num, HW.out, HK.out⟩
          case measure => simp [intOf]; omega
    · have hkk : k = 8 := by omega
      subst hkk
      clear hW hK hkl hk
      go_wp2
      go_ret
      have h := Row.of_own HW.out
      rw [List.take_of_length_le (by have := HT.out; omega)] at h
      have hz := HB.out
      refine ⟨_, rfl, ?_, Keeps.of_below (by rw [← hz]; exact HK.out)⟩
      rw [HT.out]
      exact h.mono (fun _ _ => trivial)
theorem mixTable_any (w : World) :
    Calls Tryd.prog 111 #[] w fun e w' => ∃ u, e = .returned u ∧ Row w' (fun _ => True) 1 u Pure.desP.length (ints Pure.desP) ∧ Keeps nobody w w' := by
  go_enter Tryd.func111, Tryd.ntmps111
  go_wp2
  go_ret
  exact ⟨_, rfl, (irow_new w Pure.desP _ 32 rfl rfl (by decide)).mono (fun _ _ => trivial), (Keeps.refl _ w).alloc _⟩
set_option maxRecDepth 100000 in
theorem roundKeyTable_any (w : World) :
    Calls Tryd.prog 116 #[] w fun e w' => ∃ u, e = .returned u ∧ Row w' (fun _ => True) 1 u Pure.desPc2.length (ints Pure.desPc2) ∧ Keeps nobody w w' := by
  go_enter Tryd.func116, Tryd.ntmps116
  go_wp2
  go_ret
  exact ⟨_, rfl, (irow_new w Pure.desPc2 _ 48 rfl rfl (by decide)).mono (fun _ _ => trivial), (Keeps.refl _ w).alloc _⟩
end Go.Proofs.YtkllaghfiofnjaaDoor
