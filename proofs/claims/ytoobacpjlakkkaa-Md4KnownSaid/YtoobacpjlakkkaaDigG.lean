/- md4: the state behind some blocks. -/
import Derived.Test.YtoobacpjlakkkaaDigE
import Derived.Test.YtoobacpjlakkkaaDigF
import Derived.Test.YtoobacpjlakkkaaChunk
import Derived.Test.YtoobacpjlakkkaaCut
import Derived.Test.YtoobacpjlakkkaaRowIn
import Derived.Sort.CutIn
namespace Go.Proofs.Ytoobacpjlakkkaa
open Go.RowKit Go.Shelf
attribute [local go_sem] Oper.semAt_some
namespace Pure
/-- The sixteen words of a block. -/
def wordsOf (c : List UInt8) : List UInt32 := (List.range 16).map fun i => word ((c.drop (4 * i)).take 4) 0 4
/-- .. behind i of them, noughts then. -/
def wordsTo (c : List UInt8) (i : Nat) : List UInt32 := (List.range i).map (fun i => word ((c.drop (4 * i)).take 4) 0 4) ++ List.replicate (16 - i) 0
theorem wordsTo_zero (c : List UInt8) : wordsTo c 0 = List.replicate 16 0 := by simp [wordsTo]
theorem wordsTo_all (c : List UInt8) : wordsTo c 16 = wordsOf c := by simp [wordsTo, wordsOf]
theorem wordsTo_length (c : List UInt8) (i : Nat) (hi : i ≤ 16) : (wordsTo c i).length = 16 := by simp [wordsTo]; omega
theorem wordsOf_length (c : List UInt8) : (wordsOf c).length = 16 := by simp [wordsOf]
theorem wordsTo_succ (c : List UInt8) (i : Nat) (hi : i < 16) : (wordsTo c i).set i (word ((c.drop (4 * i)).take 4) 0 4) = wordsTo c (i + 1) := by
  unfold wordsTo
  have e : 16 - i = (16 - (i + 1)) + 1 := by omega
  rw [List.range_succ, List.map_append, List.set_append_right _ _ (by simp)]
  simp only [List.length_map, List.length_range, Nat.sub_self, List.map_cons, List.map_nil]
  rw [e, List.replicate_succ, List.set_cons_zero, List.append_assoc]
  rfl
/-- The bytes of block k. -/
def blockOf (m : List UInt8) (k : Nat) : List UInt8 := (m.drop (64 * k)).take 64
theorem blockOf_length (m : List UInt8) (k N : Nat) (hm : m.length = 64 * N) (hk : k < N) : (blockOf m k).length = 64 := by simp [blockOf]; omega
/-- The state that the blocks ks turn h into. -/
def md4Via (h : W4) (m : List UInt8) (ks : List Nat) : W4 := ks.foldl (fun s k => md4Blk (wordsOf (blockOf m k)) s) h
theorem md4Via_snoc (h : W4) (m : List UInt8) (ks : List Nat) (k : Nat) : md4Via h m (ks ++ [k]) = md4Blk (wordsOf (blockOf m k)) (md4Via h m ks) := by simp [md4Via]
end Pure
theorem words4 (v : Pure.W4) : (u32s v.list).toArray.size = 4 := rfl
/-- A piece of 64 bytes. -/
theorem row_piece {w : World} {b off : Nat} {bs : List UInt8} {N : Nat} (hN : bs.length = 64 * N) (hc : ∀ j u, (u8s bs)[j]? = some u → w.cell? ⟨b, off + j, none⟩ = some u) (k : Nat) (hk : k < N) :
    Row w (fun x => x = b) 1 (.slice (some ⟨b, off + 64 * k, none⟩) 64 64) 64 (u8s (Pure.blockOf bs k)) := by
  refine ⟨by rw [List.length_map, Pure.blockOf_length bs k N hN hk], by unfold maxLen; omega, _, 64, rfl, Nat.le_refl _, by simp, fun _ => ⟨b, _, rfl, rfl, fun j u hu => ?_⟩⟩
  have hj : j < 64 := by
    have := (List.getElem?_eq_some_iff.1 hu).1
    rw [List.length_map, Pure.blockOf_length bs k N hN hk] at this
    exact this
  have := hc (64 * k + j) u (by
    rw [← hu]
    unfold Pure.blockOf
    rw [List.getElem?_map, List.getElem?_map, List.getElem?_take, if_pos hj, List.getElem?_drop])
  rwa [← Nat.add_assoc] at this
set_option maxRecDepth 100000 in
set_option maxHeartbeats 4000000 in
theorem after_any (F : Nat → Prop) (x : Value) (bs : List UInt8) (N : Nat) (hN : bs.length = 64 * N) (hbig : N ≤ 10000000) (h : Pure.W4) (w : World) (hF : ∀ b, F b → b < w.heap.size) (hr : Row w F 1 x bs.length (u8s bs)) :
    Calls Try.prog 10 #[warr h.list, x] w
      fun e w' => e = .returned (warr (Pure.md4Via h bs (List.range N)).list) ∧ Below w.heap.size w w' := by
  obtain ⟨A, cA, rfl, hc⟩ := hr.form
  have HR := Lib.hid hr
  clear hr
  refine callsIn_wide (n := 3).1 ?_
  refine callsIn_of_wp_marks Try.func10 rfl trivial ?_ rfl
  simp only [Try.ntmps10, List.size_toArray, List.length_cons, List.length_nil, Nat.reduceAdd, Nat.reduceSub, Array.replicate_succ, Array.replicate_zero, List.push_toArray, List.append_toArray, List.nil_append, List.cons_append]
  gi_wp2_with (refine ⟨trivial, ?_⟩; gi_at_call 15; refine (callsIn_wide.2 (chunk_any _ _ _ _)).mono ?_; rintro e w1 ⟨rfl, rfl⟩)
  obtain ⟨b, off, hA⟩ : ∃ b off, 0 < N → A = some ⟨b, off, none⟩ ∧ F b ∧ ∀ j u, (u8s bs)[j]? = some u → w.cell? ⟨b, off + j, none⟩ = some u := by
    rcases Nat.eq_zero_or_pos N with h0 | h0
    · exact ⟨0, 0, fun h => by omega⟩
    · obtain ⟨_, _, A', c', e, _, _, h5⟩ := HR.out
      injection e with e1 _ e3
      subst e1 e3
      obtain ⟨b, off, e, hf, hcs⟩ := h5 (by omega)
      exact ⟨b, off, fun _ => ⟨e, hf, hcs⟩⟩
  obtain ⟨b0, hb0⟩ : ∃ b0, b0 = w.heap.size := ⟨_, rfl⟩
  obtain ⟨w1, hw1⟩ : ∃ w1, w1 = (((w.alloc (.cells (u32s h.list).toArray 29)).alloc (.cells #[.int .u32 0, .int .u32 0, .int .u32 0, .int .u32 0] 29)).alloc (.cells #[.slice A (64 * N) cA] 24)).alloc (.cells #[.int .i64 64] 3) := ⟨_, rfl⟩
  rw [← hw1, ← hb0]
  have h1 : Blk w1 b0 29 (u32s h.list).toArray := by rw [hw1, hb0]; exact (((Blk.new w _ _).alloc _).alloc _).alloc _
  have h2 : Blk w1 (b0 + 1) 29 (u32s [0, 0, 0, 0]).toArray := by
    rw [hw1, hb0]
    have := Blk.new (w.alloc (.cells (u32s h.list).toArray 29)) 29 (u32s [0, 0, 0, 0]).toArray
    rw [World.size_alloc] at this
    exact (this.alloc _).alloc _
  have h3 : Boxed w1 (b0 + 1 + 1) 24 (.slice A (64 * N) cA) := by
    rw [hw1, hb0]
    have := Boxed.new ((w.alloc (.cells (u32s h.list).toArray 29)).alloc (.cells #[.int .u32 0, .int .u32 0, .int .u32 0, .int .u32 0] 29)) 24 (.slice A (64 * N) cA)
    rw [World.size_alloc, World.size_alloc] at this
    exact this.alloc _
  have h4 : Boxed w1 (b0 + 1 + 1 + 1) 3 (.int .i64 64) := by
    rw [hw1, hb0]
    have := Boxed.new (((w.alloc (.cells (u32s h.list).toArray 29)).alloc (.cells #[.int .u32 0, .int .u32 0, .int .u32 0, .int .u32 0] 29)).alloc (.cells #[.slice A (64 * N) cA] 24)) 3 (.int .i64 64)
    rw [World.size_alloc, World.size_alloc, World.size_alloc] at this
    exact this
  have hs1 : w1.heap.size = b0 + 1 + 1 + 1 + 1 := by rw [hw1, hb0]; simp
  have hk1 : Below w.heap.size w w1 := by rw [hw1]; exact Keeps.to_below (((((Keeps.refl _ w).alloc _).alloc _).alloc _).alloc _)
  have hcN : 64 * N ≤ cA := by omega
  clear hw1
  refine wpIn_rangeFunc_ownG rfl (by omega) (gf := 19) (lb := #[.pointer (some ⟨b0 + 1 + 1, 0, none⟩), .pointer (some ⟨b0 + 1 + 1 + 1, 0, none⟩)]) rfl trivial (enters_of Try.func19 (by kernel_rfl) rfl)
    (chunk_stops _ (by omega) w1 (b0 + 1 + 1) (b0 + 1 + 1 + 1) b0 (by omega) (by omega) (by omega) (by omega) A b off cA N (fun h => (hA h).1) hcN (by omega) h3 h4)
    keptBut_t (keptBut_kb (by omega)) (Below.refl _ _) (fun _ => rfl)
    (fun pre W => (Blk W b0 29 (u32s (Pure.md4Via h bs (pre.map (·.1))).list).toArray ∧ Blk W (b0 + 1) 29 (u32s [0, 0, 0, 0]).toArray) ∧ (Below w.heap.size w W ∧ w1.heap.size ≤ W.heap.size))
    (fun _ _ _ => False)
    (OwnFrom.and (OwnFrom.and (ownFrom_blk (by omega) _) (ownFrom_blk (by omega) _)) (ownFrom_under (by omega) (by omega)))
    (fun _ _ _ _ _ hs _ _ => hs)
    ⟨⟨h1, h2⟩, ⟨hk1, by omega⟩⟩
    (fun x => { tmps := #[warr h.list, .slice A (64 * N) cA, .pointer (some ⟨b0, 0, none⟩), undef, .pointer (some ⟨b0 + 1, 0, none⟩), .slice (some ⟨b, off + 64 * x.1, none⟩) 64 64, undef, undef, .slice A (64 * N) cA,
        .func (.func 19) #[] #[.pointer (some ⟨b0 + 1 + 1, 0, none⟩), .pointer (some ⟨b0 + 1 + 1 + 1, 0, none⟩)], .slice (some ⟨b, off + 64 * x.1, none⟩) 64 64,
        undef, undef, undef, undef, undef, undef, undef, undef, undef, undef, undef, undef, undef, undef, undef, undef, undef, undef], defers := [] }) ?assign ?body ?done ?stop
  case assign =>
    intro l x W K hK
    clear hb0
    gi_wp2
    exact hK
  case stop =>
    rintro D c pre W _ _ h _
    exact h.elim
  case done =>
    rintro D ys W hD hys ⟨⟨hS, hR⟩, ⟨hB, hsz⟩⟩ hK
    rw [hys] at hS
    have HB0 := Lib.hid hb0
    clear hb0 h1 h2 h3 h4 hA
    gi_upto_region 10 with fail
    apply wpIn_region_lit
    refine wpListIn_load_row rfl 29 (.tmp 2) rfl b0 rfl 29 _ (0, 0) _ hS Try.underlying29 rfl (by rw [state_info, words4]) ?_
    refine wpListIn_store_row rfl 29 (.tmp 4) (.tmp 28) rfl (b0 + 1) _ rfl rfl 29 _ hR (by rw [state_info, words4]) (by rw [words4]; rfl) (all_words _) ?_
    obtain ⟨w9, hw9⟩ : ∃ w9, w9 = W.setRow (b0 + 1) (u32s (Pure.md4Via h bs (List.range N)).list).toArray := ⟨_, rfl⟩
    have hb9 : Blk w9 (b0 + 1) 29 (u32s (Pure.md4Via h bs (List.range N)).list).toArray := by rw [hw9]; exact Blk.rowSet hR _
    have hk9 : Below w.heap.size w w9 := by rw [hw9]; exact below_setRow hB (by have := HB0.out; omega) _
    have hD9 : w9.heap[D]? = some (.deferred (some [])) := by rw [hw9, setRow_other _ _ _ _ (by omega)]; exact hK
    have hDs : w.heap.size ≤ D := by have := HB0.out; omega
    have hDb : D ≠ b0 + 1 := by omega
    rw [← hw9]
    clear hw9 hS hR hB hK
    gi_wp2
    refine ⟨by simp, .inl ⟨_, _, rfl, run_takeDeferred hD9, ?_⟩⟩
    have hb10 : Blk (w9.putObj D (.deferred none)) (b0 + 1) 29 (u32s (Pure.md4Via h bs (List.range N)).list).toArray := (World.putObj_heap_other (by omega)).trans hb9
    exact ⟨_, results_cell_row rfl _ _ (b0 + 1) 29 _ (0, 0) _ rfl hb10 Try.underlying29 rfl (by rw [state_info, words4]), rfl, hk9.trans (belowK_b (w := w) (Nat.le_refl _) w9 D _ _ hDs hD9 rfl rfl)⟩
  case body =>
    rintro l pre x W ⟨⟨hS, hR⟩, ⟨hB, hsz⟩⟩ hlen
    obtain ⟨hAe, hFb, hcs⟩ := hA (by have := x.2; omega)
    have hPc := row_piece (w := W) hN (fun j u hu => (hB.cell (p := ⟨b, off + j, none⟩) (hF b hFb)).trans (hcs j u hu)) x.1 x.2
    have hbw := hF b hFb
    obtain ⟨c, hcd⟩ : ∃ c, c = Pure.blockOf bs x.1 := ⟨_, rfl⟩
    have hcl : c.length = 64 := by rw [hcd]; exact Pure.blockOf_length bs x.1 N hN x.2
    obtain ⟨o, ho⟩ : ∃ o, o = off + 64 * x.1 := ⟨_, rfl⟩
    rw [← hcd, ← ho] at hPc
    rw [← ho]
    have HB0 := Lib.hid hb0
    have HPc := Lib.hid hPc
    have HCl := Lib.hid hcl
    have HCd := Lib.hid hcd
    have HN := Lib.hid hN
    clear hb0 h1 h2 h3 h4 hA hcs hPc hcl hcd ho hN hAe
    gi_upto_region 4 with fail
    obtain ⟨bx, hbx⟩ : ∃ bx, bx = W.heap.size := ⟨_, rfl⟩
    obtain ⟨w2, hw2⟩ : ∃ w2, w2 = W.alloc (.cells (u32s (List.replicate 16 0)).toArray 43) := ⟨_, rfl⟩
    have e2 : W.alloc (.cells #[.int .u32 0, .int .u32 0, .int .u32 0, .int .u32 0, .int .u32 0, .int .u32 0, .int .u32 0, .int .u32 0, .int .u32 0, .int .u32 0, .int .u32 0, .int .u32 0, .int .u32 0, .int .u32 0, .int .u32 0, .int .u32 0] 43) = w2 := hw2.symm
    rw [e2, ← hbx]
    have hX : Blk w2 bx 43 (u32s (Pure.wordsTo c 0)).toArray := by rw [hw2, hbx, Pure.wordsTo_zero]; exact Blk.new W _ _
    have hk2 : Below W.heap.size W w2 := by rw [hw2]; exact Keeps.to_below ((Keeps.refl _ W).alloc _)
    have hs2 : w2.heap.size = bx + 1 := by rw [hw2, hbx]; simp
    clear hw2 e2
    have HX := Lib.hid hX
    have HK2 := Lib.hid hk2
    have HS2 := Lib.hid hs2
    have HBx := Lib.hid hbx
    clear hX hk2 hs2 hbx
    gi_wp2
    gi_loopw [11] (fun i wr => ∃ q : Nat, q ≤ 16 ∧ i = .int .i64 (q : Int) ∧ Blk wr bx 43 (u32s (Pure.wordsTo c q)).toArray ∧ Below W.heap.size W wr) (fun i _ => 16 - (intOf i).toNat)
    case atStart => exact ⟨0, by omega, rfl, HX.out, HK2.out⟩
    case round =>
      clear HX HK2 HS2
      obtain ⟨q, hq, rfl, hX, hK⟩ := hrel
      by_cases hql : q < 16
      · have hP := HPc.out.cellsOf (w' := wr) (fun b' off' u hb' hu => (hK.cell (p := ⟨b', off', none⟩) (cell_lt hu)).trans hu)
        have HP := Lib.hid hP
        have k0 : wr.cell? ⟨bx, q, none⟩ = some (.int .u32 ((Pure.wordsTo c q).getD q 0).toNat) := by rw [hX.cell, ← u32s_at _ q (by rw [Pure.wordsTo_length _ _ hq]; omega)]; simp
        obtain ⟨y, hy⟩ : ∃ y, y = (Pure.wordsTo c q).getD q 0 := ⟨_, rfl⟩
        rw [← hy] at k0
        have f0 : wr.frozen? ⟨bx, q, none⟩ = false := hX.frozen q
        have HX := Lib.hid hX
        have HK := Lib.hid hK
        have hl4 : ((c.drop (4 * q)).take 4).length = 4 := by have := HCl.out; simp; omega
        have hJ := join_any (fun x => x = b) (.slice (some ⟨b, o + 4 * q, none⟩) 4 (64 - 4 * q)) ((c.drop (4 * q)).take 4) (by omega) wr (by
          have := HP.out.cut1 (4 * q) 4 (by omega)
          rw [← List.map_drop, ← List.map_take] at this
          rw [hl4]
          simpa [addr_add] using this)
        rw [hl4] at hJ
        obtain ⟨X, hX1⟩ : ∃ X, X = Pure.word ((c.drop (4 * q)).take 4) 0 4 := ⟨_, rfl⟩
        rw [← hX1] at hJ
        have HJ := Lib.hid hJ
        have HX1 := Lib.hid hX1
        have e4 : 4 * (q + 1) - 4 * q = 4 := by omega
        clear hX hK hP hy hl4 hJ hX1
        gi_wp2
        rw [e4]
        refine ⟨trivial, (CallsIn.inRound l (callsIn_wide.2 HJ.out)).mono ?_⟩
        rintro e w3 ⟨rfl, rfl⟩
        gi_wp2
        go_roundw
        case rel =>
          refine ⟨q + 1, by omega, by go_num, ?_, ?_⟩
          · rw [← Pure.wordsTo_succ c q hql, ← HX1.out, ← u32s_set]
            exact HX.out.set q _
          · exact HK.out.setCell (p := ⟨bx, q, none⟩) (by have := HBx.out; show W.heap.size ≤ bx; omega) _
        case measure => simp [intOf]; omega
      · have hqq : q = 16 := by omega
        subst hqq
        rw [Pure.wordsTo_all] at hX
        have HX := Lib.hid hX
        have HK := Lib.hid hK
        clear hX hK hql hq
        gi_upto_region 9 with fail
        apply wpIn_region_lit
        have hK := HK.out
        have hS' := hS.below HK.out hS.lt
        have hR' := hR.below HK.out hR.lt
        refine wpListIn_load_row rfl 29 (.tmp 2) rfl b0 rfl 29 _ (0, 0) _ hS' Try.underlying29 rfl (by rw [state_info, words4]) ?_
        refine wpListIn_load_row rfl 43 (.tmp 6) rfl bx rfl 43 _ (0, 0) _ HX.out Try.underlying43 rfl (by rw [words_info]; simp [Pure.wordsOf_length]) ?_
        have hJ := block_any (Pure.wordsOf c) (Pure.wordsOf_length c) (Pure.md4Via h bs (pre.map (·.1))) wr
        obtain ⟨T, hT⟩ : ∃ T, T = Pure.md4Blk (Pure.wordsOf c) (Pure.md4Via h bs (pre.map (·.1))) := ⟨_, rfl⟩
        rw [← hT] at hJ
        have HT := Lib.hid hT
        have HJ := Lib.hid hJ
        obtain ⟨S, hS⟩ : ∃ S, S = Pure.md4Via h bs (pre.map (·.1)) := ⟨_, rfl⟩
        rw [← hS] at HJ hS' ⊢
        have HS := Lib.hid hS
        clear hJ hS hT
        gi_wp2
        refine ⟨trivial, (CallsIn.inRound l (callsIn_wide.2 HJ.out)).mono ?_⟩
        rintro e w3 ⟨rfl, hb3⟩
        have hB3 := hK.trans (hb3.mono hK.size)
        have hs3 := hS'.below hb3 hS'.lt
        have hr3 := hR'.below hb3 hR'.lt
        rename_i hKK
        refine hKK _ _ ?_
        refine wpListIn_store_row rfl 29 (.tmp 2) (.tmp 27) rfl b0 _ rfl rfl 29 _ hs3 (by rw [state_info, words4]) (by rw [words4, words4]) (all_words _) ?_
        obtain ⟨w9, hw9⟩ : ∃ w9, w9 = w3.setRow b0 (u32s T.list).toArray := ⟨_, rfl⟩
        have hb9 : Blk w9 b0 29 (u32s T.list).toArray := by rw [hw9]; exact Blk.rowSet hs3 _
        have hr9 : Blk w9 (b0 + 1) 29 (u32s [0, 0, 0, 0]).toArray := by rw [hw9]; exact (setRow_other w3 b0 (b0 + 1) _ (by omega)).trans hr3
        have hk9 : Below w.heap.size w w9 := by rw [hw9]; exact below_setRow (hB.trans (hB3.mono (by have := HB0.out; omega))) (by have := HB0.out; omega) _
        have hkf : KeepsFrom w1.heap.size W w9 := by
          rw [hw9]
          refine ⟨by simpa using hB3.size, fun k o hBk hk _ => ?_⟩
          exact (setRow_other w3 b0 k _ (by omega)).trans ((hB3.block k (Array.getElem?_eq_some_iff.1 hk).1).trans hk)
        have hkp : KeptBut w1.heap.size b0 W w9 := by
          rw [hw9]
          exact fun k hk hs => (setRow_other w3 b0 k _ hs).trans (hB3.block k (by omega))
        have hz9 : w1.heap.size ≤ w9.heap.size := Nat.le_trans hsz hkf.size
        have hin : (pre ++ [x]).map (·.1) = pre.map (·.1) ++ [x.1] := by simp
        have e9 : w3.setRow b0 (u32s T.list).toArray = w9 := hw9.symm
        rw [e9]
        clear hw9 e9 hs3 hr3 hb3 hB3 hS' hR' hKK hS hR hs1
        gi_wp2
        refine ⟨hkf, hkp, ⟨?_, hr9⟩, hk9, hz9⟩
        rw [hin, Pure.md4Via_snoc, ← HCd.out, ← HT.out]
        exact hb9
end Go.Proofs.Ytoobacpjlakkkaa
