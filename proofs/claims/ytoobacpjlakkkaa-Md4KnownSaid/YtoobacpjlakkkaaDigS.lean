/- md4.Sum. -/
import Derived.Test.YtoobacpjlakkkaaDigP
import Derived.Test.YtoobacpjlakkkaaAppend
import Derived.Test.YtoobacpjlakkkaaLast
namespace Go.Proofs.Ytoobacpjlakkkaa
open Go.RowKit
theorem exec_load_row {P : Program} {o : Oper} {a : Act} {w : World} (ty : TypeId) (x : Operand) (ho : o.op = .load ty x)
    (g : Nat) (hx : a.eval x = .pointer (some ⟨g, 0, none⟩)) (t : TypeId) (cs : Array Value) (fr : Nat × Nat) (d : TypeDesc) (hg : w.heap[g]? = some (.cells cs t fr))
    (hu : P.underlying ty = some d) (hd : (match d with | .struct _ | .array _ _ => true | _ => false) = true) (hi : (P.info? ty).map (·.size) = some cs.size) :
    (execOp a.eval o).run P w = .ok (.value (.agg cs)) w := by
  unfold execOp
  simp only [ho, hx, Instr.loadAt, Instr.sureAddr, Sem.run_bind, Sem.run_pure, Result.andThen_ok, run_loadVar_row w g t ty cs fr d hg hu hd hi]

theorem cut_value (a : Option Addr) (c q m : Nat) : Value.slice (if c = q then a else Option.map (fun x => x.add q) a) m (c - q) = cutV a c q m := by
  unfold cutV
  by_cases h : c = q
  · rw [if_pos h, if_pos h, h, Nat.sub_self]
  · rw [if_neg h, if_neg h]
theorem words4' (v : Pure.W4) : (some 4 : Option Nat) = some (u32s v.list).toArray.size := rfl

set_option maxRecDepth 100000 in
set_option maxHeartbeats 4000000 in
theorem sum_any (F : Nat → Prop) (x : Value) (bs : List UInt8) (w : World) (hF : ∀ b, F b → b < w.heap.size) (hbig : bs.length ≤ 100000000) (hr : Row w F 1 x bs.length (u8s bs)) :
    Calls Try.prog 7 #[x] w
      fun e w' => ∃ u, e = .returned u ∧ w'.ownsRow w.heap.size 5 1 u 16 (u8s (Pure.md4 bs)) ∧ Below w.heap.size w w' := by
  obtain ⟨A, cA, rfl, hc⟩ := hr.form
  have HR := Lib.hid hr
  clear hr
  have hL0 : (0 : Int) ≤ (bs.length : Int) := by omega
  obtain ⟨L, hL⟩ : ∃ L, L = bs.length := ⟨_, rfl⟩
  obtain ⟨q, hq⟩ : ∃ q, q = 64 * (bs.length / 64) := ⟨_, rfl⟩
  rw [← hL]
  have hqL : ((L : Int) - (L : Int) % 64) = (q : Int) := by omega
  have HQ := Lib.hid hq
  have HL := Lib.hid hL
  have hL1 : (0 : Int) ≤ (L : Int) := by omega
  have hL2 : (L : Int) ≤ 100000000 := by omega
  have hcL : L ≤ cA := by omega
  have hqc : q ≤ cA := by omega
  have hqL2 : q ≤ L := by omega
  clear hq hL hL0 hbig hc
  go_enter Try.func7, Try.ntmps7
  go_upto_region 3 with fail
  obtain ⟨b0, hb0⟩ : ∃ b0, b0 = w.heap.size := ⟨_, rfl⟩
  obtain ⟨w1, hw1⟩ : ∃ w1, w1 = w.alloc (.cells (u32s Pure.md4Start.list).toArray 29) := ⟨_, rfl⟩
  have e1 : w.alloc (.cells #[.int .u32 1732584193, .int .u32 4023233417, .int .u32 2562383102, .int .u32 271733878] 29) = w1 := hw1.symm
  rw [e1, ← hb0]
  have h1 : Blk w1 b0 29 (u32s Pure.md4Start.list).toArray := by rw [hw1, hb0]; exact Blk.new w _ _
  have hk1 : Below w.heap.size w w1 := by rw [hw1]; exact Keeps.to_below ((Keeps.refl _ w).alloc _)
  have hs1 : w1.heap.size = b0 + 1 := by rw [hw1, hb0]; simp
  have H1 := Lib.hid h1
  have HK1 := Lib.hid hk1
  have HS1 := Lib.hid hs1
  have HB0 := Lib.hid hb0
  have HF := Lib.hid hF
  obtain ⟨st, hst⟩ : ∃ st, st = Pure.md4Start := ⟨_, rfl⟩
  rw [← hst] at H1 h1
  have HST := Lib.hid hst
  clear hw1 e1 hk1 hs1 hb0 hF hst
  refine wp_region_Z (fun w' => Blk w' b0 29 (u32s st.list).toArray) 5 6 rfl (by kernel_rfl) h1.drew (fun hHeld => ?_)
  clear h1
  refine wpAnyZ_next (v := .agg (u32s st.list).toArray) rfl (by kernel_rfl) (fun _ _ _ h => h) (Or.inl ⟨by rfl, fun w' hSw => exec_load_row 29 (.tmp 4) rfl b0 rfl 29 _ (0, 0) _ hSw Try.underlying29 rfl (by rw [state_info, words4])⟩) hHeld.out ?_
  simp only [Act.put, List.setIfInBounds_toArray, Nat.reduceAdd, List.getElem_toArray, List.getElem_cons_succ, List.getElem_cons_zero, List.set_cons_succ, List.set_cons_zero]
  iterate 3
    refine wpAnyZ_next rfl (by kernel_rfl) (fun _ _ _ h => h) (Or.inl ⟨by rfl, by intro w hSw; go_simp; try with_reducible rfl⟩) hHeld.out ?_
    simp only [Act.put, List.setIfInBounds_toArray, Nat.reduceAdd, List.getElem_toArray, List.getElem_cons_succ, List.getElem_cons_zero, List.set_cons_succ, List.set_cons_zero]
  refine wpAnyZ_step (by kernel_rfl) rfl (fun K hK => ?_)
  clear hHeld
  go_simp
  have hA1 := after_any F (.slice A q cA) (bs.take q) (bs.length / 64) (by rw [List.length_take]; have := HQ.out; omega) (by have := HL.out; omega) st w1.drew (fun b hb => Nat.lt_of_lt_of_le (HF.out b hb) HK1.out.size) (by
    have h2 := (HR.out.keeps (Keeps.new HK1.out) (fun _ _ h => h)).take1 q (by rw [← HL.out]; exact hqL2)
    rw [← List.map_take] at h2
    have e : (bs.take q).length = q := by rw [List.length_take]; have := HL.out; omega
    rw [e]
    exact h2)
  obtain ⟨s1, hs1⟩ : ∃ s1, s1 = Pure.md4Via st (bs.take q) (List.range (bs.length / 64)) := ⟨_, rfl⟩
  rw [← hs1] at hA1
  refine hA1.mono ?_
  rintro e w2 ⟨rfl, hb2⟩
  have hb2 : Below w1.heap.size w1 w2 := ⟨hb2.os, hb2.tape, hb2.output, hb2.size, hb2.block⟩
  have h2 := H1.out.below hb2 H1.out.lt
  have HS1' := Lib.hid hs1
  clear hs1 hA1
  refine hK.out _ _ (fun _ => h2) ?_
  clear hK K
  simp only [Nat.reduceAdd]
  refine wpAnyZ_step (by kernel_rfl) rfl (fun K hK => ?_)
  rw [if_pos (by rfl)]
  refine wp_store_row 29 (.tmp 4) (.tmp 19) rfl b0 _ rfl rfl 29 _ h2 (by rw [state_info, words4]) (by rw [words4, words4]) (all_words _) ?_
  obtain ⟨w3, hw3⟩ : ∃ w3, w3 = w2.setRow b0 (u32s s1.list).toArray := ⟨_, rfl⟩
  have h3 : Blk w3 b0 29 (u32s s1.list).toArray := by rw [hw3]; exact Blk.rowSet h2 _
  have hk3 : Below w.heap.size w w3 := by rw [hw3]; exact below_setRow (HK1.out.trans (hb2.mono (by have := HS1.out; have := HB0.out; omega))) (by have := HB0.out; omega) _
  have e3 : w2.setRow b0 (u32s s1.list).toArray = w3 := hw3.symm
  rw [e3]
  have H3 := Lib.hid h3
  have HK3 := Lib.hid hk3
  clear hw3 e3 h3 hk3 h2 hb2 H1 HK1 HS1
  refine hK.out _ _ (fun h => absurd rfl h) ?_
  clear hK K
  refine wpAnyZ_done (by kernel_rfl) ?_ _
  simp only [Act.put, List.setIfInBounds_toArray, Nat.reduceAdd, List.getElem_toArray, List.getElem_cons_succ, List.getElem_cons_zero, List.set_cons_succ, List.set_cons_zero]
  go_upto_region 4 with fail
  have h3 := H3.out
  refine wp_region_Z (fun w' => Blk w' b0 29 (u32s s1.list).toArray) 8 9 rfl (by kernel_rfl) h3.drew (fun hHeld => ?_)
  clear h3
  refine wpAnyZ_next (v := .agg (u32s s1.list).toArray) rfl (by kernel_rfl) (fun _ _ _ h => h) (Or.inl ⟨by rfl, fun w' hSw => exec_load_row 29 (.tmp 4) rfl b0 rfl 29 _ (0, 0) _ hSw Try.underlying29 rfl (by rw [state_info, words4])⟩) hHeld.out ?_
  simp only [Act.put, List.setIfInBounds_toArray, Nat.reduceAdd, List.getElem_toArray, List.getElem_cons_succ, List.getElem_cons_zero, List.set_cons_succ, List.set_cons_zero]
  iterate 2
    refine wpAnyZ_next rfl (by kernel_rfl) (fun _ _ _ h => h) (Or.inl ⟨by rfl, by intro w hSw; go_simp; try with_reducible rfl⟩) hHeld.out ?_
    simp only [Act.put, List.setIfInBounds_toArray, Nat.reduceAdd, List.getElem_toArray, List.getElem_cons_succ, List.getElem_cons_zero, List.set_cons_succ, List.set_cons_zero]
  refine wpAnyZ_next (v := cutV A cA q (L - q)) rfl (by kernel_rfl) (fun _ _ _ h => h) (Or.inl ⟨by rfl, by intro w hSw; go_simp; exact cut_value A cA q (L - q)⟩) hHeld.out ?_
  simp only [Act.put, List.setIfInBounds_toArray, Nat.reduceAdd, List.getElem_toArray, List.getElem_cons_succ, List.getElem_cons_zero, List.set_cons_succ, List.set_cons_zero]
  iterate 2
    refine wpAnyZ_next rfl (by kernel_rfl) (fun _ _ _ h => h) (Or.inl ⟨by rfl, by intro w hSw; go_simp; try with_reducible rfl⟩) hHeld.out ?_
    simp only [Act.put, List.setIfInBounds_toArray, Nat.reduceAdd, List.getElem_toArray, List.getElem_cons_succ, List.getElem_cons_zero, List.set_cons_succ, List.set_cons_zero]
  refine wpAnyZ_step (by kernel_rfl) rfl (fun K hK => ?_)
  clear hHeld
  go_simp
  have e5 : (bs.drop q).length = L - q := by rw [List.length_drop, HL.out]
  have hA2 := padded_any F (cutV A cA q (L - q)) (bs.drop q) L (by rw [e5]; have := HQ.out; have := HL.out; omega) (by omega) (by rw [e5]; have := HQ.out; have := HL.out; omega) w3.drew (by
    have h2 := (HR.out.keeps (Keeps.new HK3.out) (fun _ _ h => h)).cutV q (L - q) (by have := HL.out; omega)
    rw [List.take_of_length_le (by rw [e5]; omega), HL.out] at h2
    rw [e5]
    rw [HL.out]
    exact h2)
  obtain ⟨en, hen⟩ : ∃ en, en = Pure.endOf bs := ⟨_, rfl⟩
  have hen2 : bs.drop q ++ [128] ++ List.replicate (Pure.noughts (bs.drop q).length) 0 ++ Pure.lenBytes true L 8 = en := by rw [hen, HQ.out, HL.out]; rfl
  have hel : (bs.drop q).length + 1 + Pure.noughts (bs.drop q).length + 8 = en.length := by rw [← hen2]; simp [lenBytes_length]; omega
  rw [hen2, hel] at hA2
  have hem : en.length % 64 = 0 := by rw [hen]; exact Pure.endOf_length bs
  have hnn : Pure.noughts (bs.drop q).length < 64 := by unfold Pure.noughts; omega
  have hel2 : en.length ≤ 200000000 := by omega
  refine hA2.mono ?_
  rintro e w4 ⟨u4, rfl, hu4, hb4⟩
  have hb4 : Below w3.heap.size w3 w4 := ⟨hb4.os, hb4.tape, hb4.output, hb4.size, hb4.block⟩
  have hu4 : w4.ownsRow w3.heap.size 5 1 u4 en.length (u8s en) := hu4
  have h4 := H3.out.below hb4 H3.out.lt
  have HU4 := Lib.hid hu4
  have HEN := Lib.hid hen
  have HEM := Lib.hid hem
  have HK4 := Lib.hid (HK3.out.trans (hb4.mono HK3.out.size))
  clear hA2 hen hen2 hel hem hnn hu4 e5
  refine hK.out _ _ (fun _ => h4) ?_
  have H4 := Lib.hid h4
  clear hK K h4 hb4
  simp only [Nat.reduceAdd]
  refine wpAnyZ_step (by kernel_rfl) rfl (fun K hK => ?_)
  rw [if_pos (by rfl)]
  go_simp
  have hA1 := after_any (fun b => u4.ownBlock = some b) u4 en (en.length / 64) (by have := HEM.out; omega) (by omega) s1 w4 (fun b hb => ownsRow_lt HU4.out b hb) (Row.of_own HU4.out)
  obtain ⟨s2, hs2⟩ : ∃ s2, s2 = Pure.md4Via s1 en (List.range (en.length / 64)) := ⟨_, rfl⟩
  rw [← hs2] at hA1
  refine hA1.mono ?_
  rintro e w5 ⟨rfl, hb5⟩
  have h5 := H4.out.below hb5 H4.out.lt
  have HS2' := Lib.hid hs2
  clear hs2 hA1
  refine hK.out _ _ (fun _ => h5) ?_
  clear hK K
  simp only [Nat.reduceAdd]
  refine wpAnyZ_step (by kernel_rfl) rfl (fun K hK => ?_)
  rw [if_pos (by rfl)]
  refine wp_store_row 29 (.tmp 4) (.tmp 27) rfl b0 _ rfl rfl 29 _ h5 (by rw [state_info, words4]) (by rw [words4, words4]) (all_words _) ?_
  obtain ⟨w6, hw6⟩ : ∃ w6, w6 = w5.setRow b0 (u32s s2.list).toArray := ⟨_, rfl⟩
  have h6 : Blk w6 b0 29 (u32s s2.list).toArray := by rw [hw6]; exact Blk.rowSet h5 _
  have hk6 : Below w.heap.size w w6 := by rw [hw6]; exact below_setRow (HK4.out.trans (hb5.mono HK4.out.size)) (by have := HB0.out; omega) _
  have e6 : w5.setRow b0 (u32s s2.list).toArray = w6 := hw6.symm
  rw [e6]
  have hwant : Pure.md4 bs = Pure.outTo s2 4 := by
    unfold Pure.md4
    rw [Pure.md4_ends, ← HEN.out, ← HQ.out, ← HST.out, ← HS1'.out, ← HS2'.out]
    rfl
  have HW := Lib.hid hwant
  have H6 := Lib.hid h6
  have HK6 := Lib.hid hk6
  clear hw6 e6 h6 hk6 h5 hb5 H4 HK4 H3 HK3 HU4 HEN HEM HS1' HS2' HST hwant hel2
  refine hK.out _ _ (fun h => absurd rfl h) ?_
  clear hK K
  refine wpAnyZ_done (by kernel_rfl) ?_ _
  simp only [Act.put, List.setIfInBounds_toArray, Nat.reduceAdd, List.getElem_toArray, List.getElem_cons_succ, List.getElem_cons_zero, List.set_cons_succ, List.set_cons_zero]
  go_upto_region 6 with fail
  apply wp_region_lit
  refine wpList_load_row rfl 29 (.tmp 4) rfl b0 rfl 29 _ (0, 0) _ H6.out Try.underlying29 rfl (by rw [state_info, words4]) ?_
  simp only [Act.put, List.setIfInBounds_toArray, Nat.reduceAdd, List.getElem_toArray, List.getElem_cons_succ, List.getElem_cons_zero, List.set_cons_succ, List.set_cons_zero]
  go_wp2_with fail
  go_loopw [5, 29] (fun v i wr => ∃ k : Nat, k ≤ 4 ∧ i = .int .i64 (k : Int) ∧ wr.ownsRow w.heap.size 5 1 v (4 * k) (u8s (Pure.outTo s2 k)) ∧ Below w.heap.size w wr) (fun _ i _ => 4 - (intOf i).toNat)
  case atStart => exact ⟨0, by omega, rfl, World.ownsRow_nil _ _ _ _, HK6.out⟩
  case round =>
    clear H6 HK6
    obtain ⟨k, hk, rfl, hW, hK⟩ := hrel
    have HW1 := Lib.hid hW
    have HK := Lib.hid hK
    obtain ⟨A2, c2, rfl⟩ := own_form hW
    by_cases hkl : k < 4
    · have hi0 : (0 : Int) ≤ (k : Int) := by omega
      have hi1 : (k : Int) < 4 := by omega
      obtain ⟨y, hy⟩ : ∃ y : UInt32, y = s2.list.getD k 0 := ⟨_, rfl⟩
      have hix := fun W => run_index_state s2.list k y W hkl (by rw [hy, u32s_at s2.list k (by rw [Pure.W4.list_length]; omega)])
      have hyl := y.toNat_lt
      have hsp := split_any y.toNat 4 (by omega) (by omega) (by omega) wr
      have HSP := Lib.hid hsp
      have HY := Lib.hid hy
      have hmod : (y.toNat : Int) % 18446744073709551616 = (y.toNat : Int) := Int.emod_eq_of_lt (by omega) (by omega)
      clear hW hK hy hsp
      go_wp2_with (at_builtin; refine stopHere ?_)
      refine HSP.out.mono ?_
      rintro e w7 ⟨u7, rfl, hu7, hb7⟩
      have HU7 := Lib.hid hu7
      have hsz := HK.out.size
      have HO7 := Lib.hid (ownsRow_keeps HW1.out (Keeps.new hb7) (fun _ _ h => h))
      have HK7 := Lib.hid (HK.out.trans (hb7.mono hsz))
      have hsz7 := hb7.size
      clear hu7 hb7 HSP HW1 HK
      go_wp2_with (at_builtin; refine stopHere ?_)
      unfold Hid
      refine wp_append_u8 rfl (.tmp 32) (.tmp 35) rfl w.heap.size (.slice A2 (4 * k) c2) (4 * k) (Pure.outTo s2 k) (Pure.outTo_length _ _) rfl HO7.out _ u7 (Pure.bytesLow y.toNat 4) rfl (by rw [Pure.bytesLow_length]; exact Row.of_own HU7.out) (by rw [Pure.bytesLow_length]; omega) (by omega) ?_
      intro v3 w8 hown3 hg3 hat3
      have HK8 := Lib.hid (show Below w.heap.size w w8 from (HK7.out.grown hg3 (by omega) (fun k hk => ownsRow_ge HO7.out k hk)))
      have hown4 : w8.ownsRow w.heap.size 5 1 v3 (4 * (k + 1)) (u8s (Pure.outTo s2 (k + 1))) := by
        rw [Pure.outTo_succ s2 k hkl, ← HY.out]
        have e2 : (Pure.outTo s2 k ++ Pure.bytesLow y.toNat 4).length = 4 * (k + 1) := by rw [List.length_append, Pure.outTo_length, Pure.bytesLow_length]; omega
        rw [e2] at hown3
        exact hown3
      have HO8 := Lib.hid hown4
      clear hown3 hown4 hg3 hat3 HO7 HK7 HU7
      go_wp2_with fail
      go_roundw
      case rel => exact ⟨k + 1, by omega, by go_num, HO8.out, HK8.out⟩
      case measure => simp [intOf]; omega
    · have hkk : k = 4 := by omega
      subst hkk
      clear hW hK hkl hk
      go_wp2
      go_ret
      refine ⟨_, rfl, ?_, HK.out⟩
      rw [HW.out]
      exact HW1.out
end Go.Proofs.Ytoobacpjlakkkaa
