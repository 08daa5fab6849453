/- Contracts of the document's own bits: Out. -/
import Derived.Test.YtmelphlgpnmopaaRef1E
namespace Go.Proofs.Ytmelphlgpnmopaa
open Go.RowKit

set_option maxHeartbeats 2000000 in
theorem refOut_any (g : Nat) (v : Value) (high : Bool) (l : List Bool) (at_ : Nat) (bs : List UInt8) (w : World) (h : RefO w g v high l at_)
    (hl : l.length ≤ 1099511000000) (hbs : l ++ List.replicate (Pure.pad l.length) false = Pure.bitsOfBytes high bs) :
    Calls Try.prog 25 #[.pointer (some ⟨g, 0, none⟩)] w fun e w' => ∃ u, e = .returned u ∧
      w'.ownsRow w.heap.size 5 1 u bs.length (u8s bs) ∧ Below w.heap.size w w' := by
  have c2 : w.cell? ⟨g, 2, none⟩ = some (.bool high) := by rw [h.blk.cell]; rfl
  obtain ⟨Ar, cr, rfl⟩ := own_form h.own
  have H := Lib.hid h
  have HBS := Lib.hid hbs
  have hgl := h.blk.lt
  have hbl : 8 * bs.length ≤ 1099511000008 := by have := congrArg List.length hbs; rw [Pure.bitsOfBytes_length] at this; simp at this; unfold Pure.pad at this; omega
  clear h hbs
  have hst : RefO (w.alloc (.cells #[.slice none 0 0, .int .i64 (0 : Nat), .bool high] 56)) w.heap.size (.slice none 0 0) high [] 0 :=
    ⟨Blk.new w _ _, ⟨by simp, .inl ⟨rfl, rfl⟩⟩, by simp⟩
  have hob : Below w.heap.size w (w.alloc (.cells #[.slice none 0 0, .int .i64 (0 : Nat), .bool high] 56)) := (Below.refl _ _).alloc (Nat.le_refl _) _
  have hsz : (w.alloc (.cells #[.slice none 0 0, .int .i64 (0 : Nat), .bool high] 56)).heap.size = w.heap.size + 1 := by simp
  have OB := Lib.hid hob
  have ST := Lib.hid hst
  clear hst hob
  go_enter Try.func25, Try.ntmps25
  go_wp2_with fail
  clear hsz
  have hcw := H.out.keeps (Keeps.new OB.out) (fun _ _ h => h)
  have c0 : (w.alloc (.cells #[.slice none 0 0, .int .i64 0, .bool high] 56)).cell? ⟨g, 0, none⟩ = some (.slice Ar l.length cr) := hcw.blk.cell 0
  have cx0 : (w.alloc (.cells #[.slice none 0 0, .int .i64 0, .bool high] 56)).cell? ⟨w.heap.size, 0, none⟩ = some (.slice none 0 0) := ST.out.blk.cell 0
  have hro := Lib.hid hcw.own
  have hll : l.length ≤ 1099511000000 := hl
  have hgw := hcw.blk
  have GW := Lib.hid hgw
  clear hcw hgw
  obtain ⟨W, hW⟩ : ∃ W, W = w.alloc (.cells #[.slice none 0 0, .int .i64 0, .bool high] 56) := ⟨_, rfl⟩
  have hW2 : W = w.alloc (.cells #[.slice none 0 0, .int .i64 (0 : Nat), .bool high] 56) := hW
  rw [← hW] at c0 cx0 ⊢
  rw [← hW2] at ST OB hro GW
  clear hW hW2 c2
  have c2 : W.cell? ⟨w.heap.size, 2, none⟩ = some (.bool high) := by rw [ST.out.blk.cell]; rfl
  obtain ⟨i0, hi0, hz0, hz1, hz2⟩ := info_parts u8_info
  refine wp_region_Z (fun w' => w'.cell? ⟨g, 0, none⟩ = some (.slice Ar l.length cr) ∧ w'.cell? ⟨w.heap.size, 0, none⟩ = some (.slice none 0 0)) 12 13 rfl (by kernel_rfl) ⟨c0, cx0⟩ (fun hHeld => ?_)
  iterate 9
    refine wpAnyZ_next rfl (by kernel_rfl) (fun _ _ _ h => h) (Or.inl ⟨by rfl, by intro w hSw; obtain ⟨s0, s1⟩ := hSw; go_simp; try with_reducible rfl⟩) hHeld.out ?_
    simp only [Act.put, List.setIfInBounds_toArray, Nat.reduceAdd, List.getElem_toArray, List.getElem_cons_succ, List.getElem_cons_zero, List.set_cons_succ, List.set_cons_zero]
  refine wpAnyZ_step (by kernel_rfl) rfl (fun K hK => ?_)
  rw [if_pos (by rfl)]
  refine wp_append_row (.tmp 16) (.tmp 20) _ rfl 0 5 i0 _ 1 1 Try.underlying23 hi0 hz0 hz1 hz2 rfl (by omega) (.slice none 0 0) 0 []
    rfl ST.out.own.drew (fun q => Value.ownBlock (.slice Ar l.length cr) = some q) _ l.length (bitsV l) rfl (Row.of_own hro.out.drew) (bitsV_one l) (by simp only [maxLen]; omega) (by omega) (by omega) ?_
  intro v3 w3 hown3 hg3 hat3
  obtain ⟨A3, c3, hv3⟩ := own_form hown3
  subst hv3
  have hg3' : W.grownBy w3 (Value.ownBlock (.slice none 0 0)) := ⟨hg3.os, hg3.tape, hg3.output, hg3.size, hg3.block⟩
  have hnew := RWrote.append (w := W) (v := .slice none 0 0) (news := l) ST.out (Keeps.refl _ _) (fun _ h => .inl h) (Keeps.refl nobody W) (by simpa using hown3) hg3' hat3 (by simp; omega)
  have hb3 := ST.out.blk.grown hg3' (fun e => by cases e)
  have hx3 := GW.out.grown hg3' (fun e => by cases e)
  have d0 : w3.cell? ⟨g, 0, none⟩ = some (.slice Ar l.length cr) := by rw [hx3.cell]; rfl
  have d1 : w3.cell? ⟨w.heap.size, 0, none⟩ = some (.slice none 0 0) := by rw [hb3.cell]; rfl
  have f3 : w3.frozen? ⟨w.heap.size, 0, none⟩ = false := hb3.frozen 0
  have HN := Lib.hid hnew
  have hHeld3 := Lib.hid (And.intro d0 d1)
  refine hK.out _ _ (fun _ => hHeld3.out) ?_
  clear hK K hHeld hnew hown3 hg3 hat3 hg3' hb3 hx3 hi0 hz0 hz1 hz2 c0 cx0
  simp only [Act.put, List.setIfInBounds_toArray, Nat.reduceAdd]
  iterate 2
    refine wpAnyZ_next rfl (by kernel_rfl) (fun _ _ _ h => h) (Or.inl ⟨by rfl, by intro w hSw; obtain ⟨s0, s1⟩ := hSw; go_simp; try with_reducible rfl⟩) hHeld3.out ?_
    simp only [Act.put, List.setIfInBounds_toArray, Nat.reduceAdd, List.getElem_toArray, List.getElem_cons_succ, List.getElem_cons_zero, List.set_cons_succ, List.set_cons_zero]
  refine wpAnyZ_step (by kernel_rfl) rfl (fun K hK => ?_)
  clear hHeld3 d0
  go_simp
  refine hK.out _ _ (fun h => absurd rfl h) ?_
  refine wpAnyZ_done (by kernel_rfl) ?_ _
  clear hK K
  rw [List.nil_append] at HN
  simp only [Nat.zero_add] at HN ⊢
  obtain ⟨w4, hw4⟩ : ∃ w4, w4 = w3.setCell ⟨w.heap.size, 0, none⟩ (.slice A3 l.length c3) := ⟨_, rfl⟩
  rw [← hw4] at HN ⊢
  clear hw4 d1 f3
  obtain ⟨v4, h4, k4, hv4⟩ := HN.out
  have H4 := Lib.hid h4
  have hc4 := h4.blk
  clear h4 HN
  go_wp2_with fail
  refine (refFill_any w.heap.size v4 high l 0 w4 H4.out (by omega)).mono ?_
  rintro e w5 ⟨rfl, v5, h5, k5, hv5⟩
  rw [HBS.out] at h5
  have B5 := Lib.hid (Below.keeps (Below.keeps OB.out k4 OB.out.size (fun i hi => by rcases hi with rfl | hi; exact Nat.le_refl _; cases hi)) k5 (Nat.le_trans OB.out.size k4.size) (fun i hi => by
    rcases hi with rfl | hi
    · exact Nat.le_refl _
    · rcases hv4 i hi with h | h
      · cases h
      · exact Nat.le_trans OB.out.size h))
  have hgw5 := h5.blk.lt
  have H5 := Lib.hid h5
  have hl8 := Pure.bitsOfBytes_length high bs
  obtain ⟨A5, c5, hv5'⟩ := own_form h5.own
  obtain ⟨N, hN⟩ : ∃ N, N = (Pure.bitsOfBytes high bs).length := ⟨_, rfl⟩
  rw [← hN] at hv5'
  subst hv5'
  have hq : (N : Int) / 8 = bs.length := by omega
  have c05 : w5.cell? ⟨w.heap.size, 0, none⟩ = some (.slice A5 N c5) := by rw [h5.blk.cell]; rfl
  clear h5 k4 hv4 k5 hv5 hN hl8 H4 OB ST hc4
  go_wp2_with fail
  refine (refBytes_ok w.heap.size _ high bs 0 bs.length w5 H5.out (by omega)).mono ?_
  rintro e w6 ⟨u, rfl, h6, hown6, hk6⟩
  have hown6' : w6.ownsRow w.heap.size 5 1 u bs.length (u8s bs) := by
    have := ownsRow_base hown6 (base' := w.heap.size) (by have := B5.out.size; omega)
    simpa using this
  have O6 := Lib.hid hown6'
  have B6 := Lib.hid (Below.keeps B5.out hk6 B5.out.size (fun i hi => by have hi : i = w.heap.size := hi; omega))
  clear hown6 hown6' h6 hk6 hq c05
  go_wp2
  go_ret
  exact ⟨_, rfl, O6.out, B6.out⟩
end Go.Proofs.Ytmelphlgpnmopaa
