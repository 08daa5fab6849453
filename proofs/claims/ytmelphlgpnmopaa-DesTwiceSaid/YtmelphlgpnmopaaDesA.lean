/- The document's Des: bits as bytes; pick, bits, turn. -/
import Derived.Test.YtmelphlgpnmopaaInts
import Derived.Test.YtmelphlgpnmopaaDesLaws
import Derived.Test.YtmelphlgpnmopaaRef1D
import Derived.Test.YtmelphlgpnmopaaCopy
import Derived.Test.YtmelphlgpnmopaaLast
import Derived.Test.YtmelphlgpnmopaaLawL
namespace Go.Proofs.Ytmelphlgpnmopaa
open Go.RowKit
namespace Pure
/-- A bit as a byte; bits as bytes. -/
def bb1 (b : Bool) : UInt8 := if b then 1 else 0
def bb (l : List Bool) : List UInt8 := l.map bb1
theorem bb_length (l : List Bool) : (bb l).length = l.length := by simp [bb]
theorem bb_append (a b : List Bool) : bb (a ++ b) = bb a ++ bb b := by simp [bb]
theorem bb_take (a : List Bool) (n : Nat) : (bb a).take n = bb (a.take n) := by simp [bb, List.map_take]
theorem bb_drop (a : List Bool) (n : Nat) : (bb a).drop n = bb (a.drop n) := by simp [bb, List.map_drop]
theorem bb_getD (l : List Bool) (j : Nat) (h : j < l.length) : (bb l).getD j 0 = bb1 (l.getD j false) := by
  unfold bb
  rw [List.getD_eq_getElem?_getD, List.getElem?_map, List.getElem?_eq_getElem h, List.getD_eq_getElem?_getD, List.getElem?_eq_getElem h]
  rfl
theorem pick_snoc (b : List Bool) (ps : List Nat) (k : Nat) (h : k < ps.length) : pick b (ps.take (k + 1)) = pick b (ps.take k) ++ [b.getD (ps.getD k 0 - 1) false] := by
  have e : ps.take (k + 1) = ps.take k ++ [ps.getD k 0] := by
    rw [List.getD_eq_getElem?_getD, List.getElem?_eq_getElem h]
    exact (List.take_append_getElem h).symm
  rw [e]
  simp [pick]
end Pure
theorem bitsV_bb (l : List Bool) : bitsV l = u8s (Pure.bb l) := by
  show List.map bitV l = List.map _ (List.map Pure.bb1 l)
  rw [List.map_map]
  apply List.map_congr_left
  intro b _
  cases b <;> rfl
theorem own_quiet' {w w' : World} {base n : Nat} {u : Value} {e : TypeId} {l : List Value} (h : w.ownsRow base e 1 u n l) (k : Keeps nobody w w') : w'.ownsRow base e 1 u n l := ownsRow_keeps h k (fun _ _ h => h)
theorem ownsRow_up {w : World} {base base' : Nat} {e : TypeId} {size : Nat} {v : Value} {n : Nat} {xs : List Value} (h : w.ownsRow base e size v n xs) (hb : ∀ b, v.ownBlock = some b → base' ≤ b) : w.ownsRow base' e size v n xs := by
  obtain ⟨h1, h2⟩ := h
  refine ⟨h1, ?_⟩
  rcases h2 with h2 | ⟨g, cap, cur, rfl, hg, r⟩
  · exact .inl h2
  · exact .inr ⟨g, cap, cur, rfl, hb g rfl, r⟩
set_option maxRecDepth 100000 in
set_option maxHeartbeats 2000000 in
theorem pick_any (F G : Nat → Prop) (x y : Value) (b : List Bool) (ps : List Nat) (w : World) (hx : Row w F 1 x b.length (u8s (Pure.bb b))) (hy : Row w G 1 y ps.length (ints ps)) (hin : ∀ k, k < ps.length → 1 ≤ ps.getD k 0 ∧ ps.getD k 0 ≤ b.length) (hpl : ps.length ≤ 1000) (hbl : b.length ≤ 1000) :
    Calls Try.prog 19 #[x, y] w fun e w' => ∃ u, e = .returned u ∧ w'.ownsRow w.heap.size 5 1 u ps.length (u8s (Pure.bb (Pure.pick b ps))) ∧ Below w.heap.size w w' := by
  obtain ⟨A, cA, rfl, hc⟩ := hx.form
  obtain ⟨B, cB, rfl, hd⟩ := hy.form
  have HX := Lib.hid hx
  have HY := Lib.hid hy
  have HI := Lib.hid hin
  clear hx hy hin
  obtain ⟨N, hN⟩ : ∃ N, N = ps.length := ⟨_, rfl⟩
  rw [← hN] at hpl hd ⊢
  have HN := Lib.hid hN
  obtain ⟨M, hM⟩ : ∃ M, M = b.length := ⟨_, rfl⟩
  rw [← hM] at hbl hc ⊢
  have HM := Lib.hid hM
  clear hN hM
  go_enter Try.func19, Try.ntmps19
  go_wp2_with fail
  go_loopw [5, 6] (fun v i wr => ∃ k : Nat, k ≤ N ∧ i = .int .i64 (k : Int) ∧ wr.ownsRow w.heap.size 5 1 v k (u8s (Pure.bb (Pure.pick b (ps.take k)))) ∧ Below w.heap.size w wr) (fun _ i _ => N - (intOf i).toNat)
  case atStart => exact ⟨0, by omega, rfl, World.ownsRow_nil _ _ _ _, Below.refl _ w⟩
  case round =>
    obtain ⟨k, hk, rfl, hW, hK⟩ := hrel
    have HW := Lib.hid hW
    have HK := Lib.hid hK
    obtain ⟨A2, c2, rfl⟩ := own_form hW
    by_cases hkl : k < N
    · have hi0 : (0 : Int) ≤ (k : Int) := by omega
      have hi1 : (k : Int) < (N : Int) := by omega
      obtain ⟨by', oy, rfl, _, hcy⟩ := (HY.out.keeps (Keeps.new hK) (fun _ _ h => h)).cellAt (by have := HN.out; omega)
      have cy := hcy k _ (ints_at ps k (by have := HN.out; omega))
      obtain ⟨p1, p2⟩ := HI.out k (by have := HN.out; omega)
      obtain ⟨p, hp⟩ : ∃ p, p = ps.getD k 0 := ⟨_, rfl⟩
      rw [← hp] at cy p1 p2
      obtain ⟨q, hq⟩ : ∃ q, q = p - 1 := ⟨_, rfl⟩
      have hqI : (p : Int) - 1 = (q : Int) := by omega
      have hq0 : (0 : Int) ≤ (q : Int) := by omega
      have hq1 : (q : Int) < (M : Int) := by have := HM.out; omega
      obtain ⟨bx, ox, rfl, _, hcx⟩ := (HX.out.keeps (Keeps.new hK) (fun _ _ h => h)).cellAt (by have := HM.out; omega)
      have cx := hcx q _ (u8s_at (Pure.bb b) q (by rw [Pure.bb_length]; omega))
      rw [Pure.bb_getD _ _ (by have := HM.out; omega)] at cx
      obtain ⟨X, hX⟩ : ∃ X, X = Pure.bb1 (b.getD q false) := ⟨_, rfl⟩
      rw [← hX] at cx
      have HP := Lib.hid hp
      have HQ := Lib.hid hq
      have HXX := Lib.hid hX
      have hsz := HK.out.size
      have hwq : IntKind.i64.wrap (q : Int) = (q : Int) := IntWalk.i64_in _ (by omega)
      clear hW hK hcy hcx hp hq hX p1 p2
      go_wp2_with (at_builtin; refine stopHere ?_)
      unfold Hid
      have hplen : (Pure.bb (Pure.pick b (ps.take k))).length = k := by rw [Pure.bb_length, Pure.pick_length, List.length_take]; have := HN.out; omega
      refine wp_append_u8 rfl (.tmp 13) (.tmp 22) rfl w.heap.size (.slice A2 k c2) k (Pure.bb (Pure.pick b (ps.take k))) hplen rfl (own_grown HW.out (World.grownBy_alloc wr _ none) (by simp)) _ _ [X] rfl (row_new wr [X] _ 1 rfl rfl (by simp)) (by simp; omega) (by simp; omega) ?_
      intro v3 w3 hown3 hg3 hat3
      have HB3 := Lib.hid (show Below w.heap.size w w3 from ((HK.out.alloc hsz _).grown hg3 (by simp; omega) (fun k hk => ownsRow_ge HW.out k hk)))
      have hown4 : w3.ownsRow w.heap.size 5 1 v3 (k + 1) (u8s (Pure.bb (Pure.pick b (ps.take (k + 1))))) := by
        have e1 : Pure.bb (Pure.pick b (ps.take k)) ++ [X] = Pure.bb (Pure.pick b (ps.take (k + 1))) := by
          rw [Pure.pick_snoc b ps k (by have := HN.out; omega), Pure.bb_append, HXX.out, HQ.out, HP.out]
          rfl
        rw [e1] at hown3
        have e2 : (Pure.bb (Pure.pick b (ps.take (k + 1)))).length = k + 1 := by rw [← e1, List.length_append, hplen]; rfl
        rw [e2] at hown3
        exact hown3
      have HO3 := Lib.hid hown4
      clear hown3 hown4 hg3 hat3 hplen
      go_wp2_with fail
      go_roundw
      case rel => exact ⟨k + 1, by omega, by go_num, HO3.out, HB3.out⟩
      case measure => simp [intOf]; omega
    · have hkk : k = N := by omega
      subst hkk
      clear hW hK hkl hk
      go_wp2
      go_ret
      refine ⟨_, rfl, ?_, HK.out⟩
      have h := HW.out
      rw [List.take_of_length_le (by have := HN.out; omega)] at h
      exact h
theorem bits_any (F : Nat → Prop) (x : Value) (bs : List UInt8) (w : World) (hr : Row w F 1 x bs.length (u8s bs)) (hF : ∀ b, F b → b < w.heap.size) (hl : bs.length ≤ 1000) :
    Calls Try.prog 20 #[x] w fun e w' => ∃ u, e = .returned u ∧ w'.ownsRow w.heap.size 5 1 u (8 * bs.length) (u8s (Pure.bb (Pure.bitsOfBytes true bs))) ∧ Below w.heap.size w w' := by
  obtain ⟨A, cA, rfl, hc⟩ := hr.form
  have HO := Lib.hid (refOpen_any F _ true bs w hr hF (by omega))
  clear hr hF
  go_enter Try.func20, Try.ntmps20
  go_wp2_with fail
  refine HO.out.mono ?_
  rintro e w1 ⟨g, v, rfl, hg, hR, hv, hb⟩
  have hown := hR.own
  rw [bitsV_bb, Pure.bitsOfBytes_length] at hown
  have HOw := Lib.hid hown
  obtain ⟨A2, c2, rfl⟩ := own_form hown
  have c0 : w1.cell? ⟨g, 0, none⟩ = some (.slice A2 (8 * bs.length) c2) := by rw [hR.blk.cell]; rfl
  have HB := Lib.hid hb
  have HV := Lib.hid hv
  clear hR hv hb hown HO
  go_wp2_with fail
  go_ret
  refine ⟨_, rfl, ?_, HB.out⟩
  exact ownsRow_up HOw.out HV.out
/-- The places of C and of D in the key. -/
theorem half_getD (d : Bool) (k : Nat) (h : k < 28) : (Pure.desHalf d).getD k 0 = Pure.ofKey ((if d then Pure.pc1D else Pure.pc1C).getD k 0) := by
  unfold Pure.desHalf
  have hl : (if d then Pure.pc1D else Pure.pc1C).length = 28 := by cases d <;> rfl
  rw [List.getD_eq_getElem?_getD, List.getElem?_map, List.getElem?_eq_getElem (by omega), List.getD_eq_getElem?_getD, List.getElem?_eq_getElem (by omega)]
  rfl
theorem pc1_range (d : Bool) (k : Nat) (h : k < 28) : 1 ≤ (if d then Pure.pc1D else Pure.pc1C).getD k 0 ∧ (if d then Pure.pc1D else Pure.pc1C).getD k 0 ≤ 63 := by
  have : ∀ d : Bool, ∀ k < 28, 1 ≤ (if d then Pure.pc1D else Pure.pc1C).getD k 0 ∧ (if d then Pure.pc1D else Pure.pc1C).getD k 0 ≤ 63 := by decide
  exact this d k h
set_option maxRecDepth 100000 in
set_option maxHeartbeats 2000000 in
theorem half_any (d : Bool) (w : World) :
    Calls Try.prog 21 #[.bool d] w fun e w' => ∃ u, e = .returned u ∧ w'.ownsRow w.heap.size 3 1 u 28 (ints (Pure.desHalf d)) ∧ Below w.heap.size w w' := by
  obtain ⟨L, hL⟩ : ∃ L, L = if d then Pure.pc1D else Pure.pc1C := ⟨_, rfl⟩
  have hLl : L.length = 28 := by rw [hL]; cases d <;> rfl
  have hLr : ∀ k, k < 28 → 1 ≤ L.getD k 0 ∧ L.getD k 0 ≤ 63 := fun k hk => by rw [hL]; exact pc1_range d k hk
  have hHf : ∀ k, k < 28 → (Pure.desHalf d).getD k 0 = Pure.ofKey (L.getD k 0) := fun k hk => by rw [hL]; exact half_getD d k hk
  have hDl : (Pure.desHalf d).length = 28 := by cases d <;> rfl
  have HLL := Lib.hid hLl
  have HLR := Lib.hid hLr
  have HHF := Lib.hid hHf
  have HDL := Lib.hid hDl
  clear hLl hLr hHf hDl
  go_enter Try.func21, Try.ntmps21
  go_upto_region 2 with fail
  go_upto_if 7 with fail
  go_cut [3] (fun v wx => ∃ b, v = .slice (some ⟨b, 0, none⟩) 28 28 ∧ w.heap.size ≤ b ∧ Blk wx b 3 (ints L).toArray ∧ Below w.heap.size w wx)
  case first =>
    have b1 : Below w.heap.size w (w.alloc (.cells (ints Pure.pc1C).toArray 3)) := (Below.refl _ w).alloc (Nat.le_refl _) _
    have B1 := Lib.hid b1
    have HLd := Lib.hid hL
    clear b1 hL
    cases d
    · go_wp2_with fail
      go_meet
      exact ⟨w.heap.size, rfl, Nat.le_refl _, by rw [HLd.out]; exact Blk.new w _ _, B1.out⟩
    · go_wp2_with fail
      go_meet
      refine ⟨w.heap.size + 1, rfl, by omega, ?_, B1.out.alloc (by simp) _⟩
      rw [HLd.out]
      have := Blk.new (w.alloc (.cells (ints Pure.pc1C).toArray 3)) 3 (ints Pure.pc1D).toArray
      rw [World.size_alloc] at this
      exact this
  case rest =>
    obtain ⟨b, rfl, hbw, hB, hb⟩ := hcut
    have HB := Lib.hid hB
    have HBe := Lib.hid hb
    have HbL := Lib.hid hB.lt
    clear hB hb hL
    go_wp2_with fail
    go_loopw [4, 5] (fun v i wr => ∃ k : Nat, k ≤ 28 ∧ i = .int .i64 (k : Int) ∧ wr.ownsRow (b + 1) 3 1 v k (ints ((Pure.desHalf d).take k)) ∧ Below (b + 1) wc wr) (fun _ i _ => 28 - (intOf i).toNat)
    case atStart => exact ⟨0, by omega, rfl, World.ownsRow_nil _ _ _ _, Below.refl _ _⟩
    case round =>
      obtain ⟨k, hk, rfl, hW, hK⟩ := hrel
      have HW := Lib.hid hW
      have HK := Lib.hid hK
      obtain ⟨A2, c2, rfl⟩ := own_form hW
      by_cases hkl : k < 28
      · have hi0 : (0 : Int) ≤ (k : Int) := by omega
        have hi1 : (k : Int) < 28 := by omega
        obtain ⟨p1, p2⟩ := HLR.out k hkl
        obtain ⟨p, hp⟩ : ∃ p, p = L.getD k 0 := ⟨_, rfl⟩
        rw [← hp] at p1 p2
        have hBr := HB.out.below hK (by omega)
        have c0 : wr.cell? ⟨b, k, none⟩ = some (.int .i64 (p : Int)) := by
          rw [hBr.cell, hp, ← ints_at L k (by rw [HLL.out]; exact hkl)]
          simp
        obtain ⟨q, hq⟩ : ∃ q, q = p - 1 := ⟨_, rfl⟩
        have hqI : (p : Int) - 1 = (q : Int) := by omega
        obtain ⟨q8, hq8⟩ : ∃ q8, q8 = q / 8 := ⟨_, rfl⟩
        have hq8I : (q : Int) / 8 = (q8 : Int) := by omega
        obtain ⟨r8, hr8⟩ : ∃ r8, r8 = q % 8 := ⟨_, rfl⟩
        have hr8I : (q : Int) % 8 = (r8 : Int) := by omega
        have hq0 : (0 : Int) ≤ (q : Int) := by omega
        have hq1 : (q : Int) ≤ 62 := by omega
        have hq80 : (0 : Int) ≤ (q8 : Int) := by omega
        have hq81 : (q8 : Int) ≤ 8 := by omega
        have hr80 : (0 : Int) ≤ (r8 : Int) := by omega
        have hr81 : (r8 : Int) < 8 := by omega
        have hwq : IntKind.i64.wrap (q : Int) = (q : Int) := IntWalk.i64_in _ (by omega)
        have hwq8 : IntKind.i64.wrap (q8 : Int) = (q8 : Int) := IntWalk.i64_in _ (by omega)
        have hwr8 : IntKind.i64.wrap (r8 : Int) = (r8 : Int) := IntWalk.i64_in _ (by omega)
        obtain ⟨m1, hm1⟩ : ∃ m1, m1 = 7 * q8 := ⟨_, rfl⟩
        obtain ⟨m2, hm2⟩ : ∃ m2, m2 = m1 + r8 := ⟨_, rfl⟩
        obtain ⟨m3, hm3⟩ : ∃ m3, m3 = m2 + 1 := ⟨_, rfl⟩
        have htm : (q : Int).tmod 8 = (r8 : Int) := by rw [Int.tmod_eq_emod_of_nonneg (by omega)]; exact hr8I
        have hv1 : IntKind.i64.wrap (7 * (q8 : Int)) = (m1 : Int) := by rw [IntWalk.i64_in _ (by omega)]; omega
        have hv2 : IntKind.i64.wrap ((m1 : Int) + (r8 : Int)) = (m2 : Int) := by rw [IntWalk.i64_in _ (by omega)]; omega
        have hv3 : IntKind.i64.wrap ((m2 : Int) + 1) = (m3 : Int) := by rw [IntWalk.i64_in _ (by omega)]; omega
        have hnext : (Pure.desHalf d).getD k 0 = m3 := by rw [HHF.out k hkl, ← hp, hm3, hm2, hm1, hq8, hr8, hq]; rfl
        have HN := Lib.hid hnext
        have hsz := HK.out.size
        have HsL := Lib.hid (show b + 1 ≤ wr.heap.size by have := HbL.out; omega)
        clear hW hK hBr hp hq hq8 hr8 hnext p1 p2 hm1 hm2 hm3 hr8I
        go_upto_region 8 with fail
        refine wp_region_Z (fun w' => w'.cell? ⟨b, k, none⟩ = some (.int .i64 (p : Int))) 18 19 rfl (by kernel_rfl) c0 (fun hHeld => ?_)
        clear c0
        iterate 16
          refine wpAnyZ_next rfl (by kernel_rfl) (fun _ _ _ h => h) (Or.inl ⟨by rfl, by intro w hSw; go_simp; try with_reducible rfl⟩) hHeld.out ?_
          simp only [Act.put, List.setIfInBounds_toArray, Nat.reduceAdd, List.getElem_toArray, List.getElem_cons_succ, List.getElem_cons_zero, List.set_cons_succ, List.set_cons_zero]
        refine wpAnyZ_step (by kernel_rfl) rfl (fun K hK => ?_)
        go_simp
        refine hK.out _ _ (fun _ => cell_alloc (w := wr) hHeld.out) ?_
        obtain ⟨wb, hwb⟩ : ∃ wb, wb = (wr.alloc (.cells #[.int .i64 (m3 : Int)] 3)).drew := ⟨_, rfl⟩
        rw [← hwb]
        have hcb : wb.cell? ⟨b, k, none⟩ = some (.int .i64 (p : Int)) := by rw [hwb]; exact cell_alloc (w := wr) hHeld.out
        have hkb : Keeps nobody wr wb := by rw [hwb]; exact ((Keeps.refl _ wr).alloc _).drew
        have hrb : Row wb (fun x => x = wr.heap.size) 1 (.slice (some ⟨wr.heap.size, 0, none⟩) 1 1) 1 (ints [m3]) := by
          have := irow_new wr [m3] #[.int .i64 (m3 : Int)] 1 rfl rfl (by simp)
          rw [hwb]
          exact this.keeps (Keeps.refl nobody _).drew (fun _ _ h => h)
        have hzb : wr.heap.size ≤ wb.heap.size := hkb.size
        have HBb := Lib.hid (Below.quiet HK.out hkb HsL.out)
        clear hK K hHeld hwb
        simp only [Nat.reduceAdd]
        refine wpAnyZ_step (by kernel_rfl) rfl (fun K hK => ?_)
        rw [if_pos (by rfl)]
        have hl1 : ((Pure.desHalf d).take k).length = k := by rw [List.length_take, HDL.out]; omega
        refine wpo_append_int (.tmp 15) (.tmp 31) rfl (b + 1) (.slice A2 k c2) k ((Pure.desHalf d).take k) hl1 rfl (own_quiet' HW.out hkb) _ _ [m3] rfl hrb (by simp; omega) (by have := HsL.out; omega) ?_
        intro v3 w3 hown3 hg3 hat3
        have hc3 : w3.cell? ⟨b, k, none⟩ = some (.int .i64 (p : Int)) := by
          rw [← hcb]
          exact World.cell?_of_block (hg3.block b (cell_lt hcb) (fun e => by have := ownsRow_ge HW.out b e.symm; omega))
        have HB3 := Lib.hid (HBb.out.grown hg3 (by have := HsL.out; omega) (fun k hk => ownsRow_ge HW.out k hk))
        have hown4 : w3.ownsRow (b + 1) 3 1 v3 (k + 1) (ints ((Pure.desHalf d).take (k + 1))) := by
          have e1 : (Pure.desHalf d).take k ++ [m3] = (Pure.desHalf d).take (k + 1) := by rw [take_snoc _ 0 k (by rw [HDL.out]; exact hkl), HN.out]
          rw [e1] at hown3
          have e2 : ((Pure.desHalf d).take (k + 1)).length = k + 1 := by rw [← e1, List.length_append, hl1]; rfl
          rw [e2] at hown3
          exact hown3
        have HO3 := Lib.hid hown4
        clear hown3 hown4 hg3 hat3 hl1 hcb hkb hrb
        refine hK.out _ _ (fun _ => hc3) ?_
        clear hK K
        simp only [Nat.reduceAdd]
        refine wpAnyZ_step (by kernel_rfl) rfl (fun K hK => ?_)
        rw [if_pos (by rfl)]
        go_simp
        refine hK.out _ _ (fun h => absurd rfl h) ?_
        clear hK K hc3
        refine wpAnyZ_done (by kernel_rfl) ?_ _
        go_wp2_with fail
        go_roundw
        case rel => exact ⟨k + 1, by omega, by go_num, HO3.out, HB3.out⟩
        case measure => simp [intOf]; omega
      · have hkk : k = 28 := by omega
        subst hkk
        clear hW hK hkl hk
        go_wp2
        go_ret
        refine ⟨_, rfl, ?_, HBe.out.trans (HK.out.mono (by omega))⟩
        have h := HW.out
        rw [List.take_of_length_le (by have := HDL.out; omega)] at h
        exact ownsRow_base h (by omega)
end Go.Proofs.Ytmelphlgpnmopaa
