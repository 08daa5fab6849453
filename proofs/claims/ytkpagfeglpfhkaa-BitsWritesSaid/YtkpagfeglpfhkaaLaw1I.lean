/- The walk of the law BitsWrites. -/
import Derived.Test.YtkpagfeglpfhkaaLaw1F
import Derived.Test.YtkpagfeglpfhkaaRef1F
namespace Go.Proofs.Ytkpagfeglpfhkaa
open Go.RowKit

/-- A writer and the document's bits, with the same bits, apart from one another. -/
structure BothW (w wr : World) (g1 : Nat) (v1 : Value) (g2 : Nat) (v2 : Value) (high : Bool) (l : List Bool) (bs : List UInt8) (free : Nat) : Prop where
  r : WObj wr g1 v1 high l bs free
  m : RefO wr g2 v2 high l 0
  below : Below w.heap.size w wr
  own1 : ∀ q, fw g1 v1 q → w.heap.size ≤ q
  own2 : ∀ q, fw0 g2 v2 q → w.heap.size ≤ q
  apart : ∀ q, fw g1 v1 q → ¬ fw0 g2 v2 q
theorem fw0_lt {w : World} {g : Nat} {v : Value} {high : Bool} {l : List Bool} {at_ : Nat} (h : RefO w g v high l at_) (b : Nat) (hb : fw0 g v b) : b < w.heap.size := by
  rcases hb with rfl | hb
  · exact h.blk.lt
  · exact ownsRow_lt h.own b hb
section
variable {w wr w2 w3 : World} {g1 g2 : Nat} {v1 v2 : Value} {high : Bool} {l l2 : List Bool} {bs : List UInt8} {free : Nat}
theorem BothW.quiet (h : BothW w wr g1 v1 g2 v2 high l bs free) (hk : Keeps nobody wr w2) : BothW w w2 g1 v1 g2 v2 high l bs free :=
  ⟨h.r.keeps hk (fun _ _ h => h), h.m.keeps hk (fun _ _ h => h), Below.quiet h.below hk h.below.size, h.own1, h.own2, h.apart⟩
theorem BothW.mid (h : BothW w wr g1 v1 g2 v2 high l bs free) (hw : Wrote wr g1 v1 high l2 w2) : RefO w2 g2 v2 high l 0 ∧ Below w.heap.size w w2 := by
  obtain ⟨_, _, _, _, hk, _⟩ := hw
  exact ⟨h.m.keeps hk (fun q hq e => h.apart q e hq), Below.keeps h.below hk h.below.size h.own1⟩
theorem BothW.step (h : BothW w wr g1 v1 g2 v2 high l bs free) (hw : Wrote wr g1 v1 high l2 w2) (hr : RWrote w2 g2 v2 high l2 0 w3) : ∃ v1' bs' free' v2', BothW w w3 g1 v1' g2 v2' high l2 bs' free' := by
  obtain ⟨v1', bs', free', ho, hk, hv⟩ := hw
  obtain ⟨v2', ho2, hk2, hv2⟩ := hr
  have hs1 := h.below.size
  have hs2 := hk.size
  have hA : ∀ q, fw g1 v1' q → fw g1 v1 q ∨ wr.heap.size ≤ q := fun q hq => by
    rcases hq with rfl | hq
    · exact .inl (.inl rfl)
    · rcases hv q hq with h | h
      · exact .inl (.inr h)
      · exact .inr h
  have hB : ∀ q, fw0 g2 v2' q → fw0 g2 v2 q ∨ w2.heap.size ≤ q := fun q hq => by
    rcases hq with rfl | hq
    · exact .inl (.inl rfl)
    · rcases hv2 q hq with h | h
      · exact .inl (.inr h)
      · exact .inr h
  have hAp : ∀ q, fw g1 v1' q → ¬ fw0 g2 v2 q := fun q hq hq2 => by
    rcases hA q hq with h1 | h1
    · exact h.apart q h1 hq2
    · have := fw0_lt h.m q hq2
      omega
  refine ⟨v1', bs', free', v2', ho.keeps hk2 hAp, ho2, Below.keeps (Below.keeps h.below hk hs1 h.own1) hk2 (by omega) h.own2, fun q hq => ?_, fun q hq => ?_, fun q hq hq2 => ?_⟩
  · rcases hA q hq with h1 | h1
    · exact h.own1 q h1
    · omega
  · rcases hB q hq with h1 | h1
    · exact h.own2 q h1
    · omega
  · rcases hB q hq2 with h1 | h1
    · exact hAp q hq h1
    · have := fw_lt ho q hq
      omega
end

set_option maxRecDepth 100000 in
set_option maxHeartbeats 4000000 in
theorem bitsWrites_walk (a0 : Bool) (a1 : Option Addr) (len1 cap1 : Nat) (w : World) (w1 : IsStructs w [.int .i64, .int .i64, .int .i64, .row .u8] a1 len1 cap1) :
    Calls Try.prog 5 #[.bool a0, .slice a1 len1 cap1] w fun e w' => e = .returned (.bool true) ∧ Below w.heap.size w w' := by
  obtain ⟨ds, hds⟩ := deeds_of w1
  have D0 := Lib.hid hds
  have hcnt := hds.count
  have hmost := hds.most
  have hfits := hds.fits
  unfold maxLen at hmost
  clear hds w1
  subst hcnt
  go_enter Try.func5, Try.ntmps5
  go_wp2_with fail
  refine (awake_any w).mono ?_
  rintro e wa ⟨rfl, hb0⟩
  have BA := Lib.hid hb0
  have D1 := Lib.hid (D0.out.keeps (Keeps.new hb0) (fun _ _ h => h))
  clear hb0
  go_wp2_with fail
  refine (room_any _ _ _ _ ds wa D1.out).mono ?_
  rintro e wb ⟨rfl, rfl⟩
  by_cases hroom : roomB ds = false
  · rw [hroom]
    clear hroom
    go_wp2
    go_ret
    exact ⟨rfl, BA.out⟩
  · have hroom' : roomB ds = true := by simpa using hroom
    have hrm : ds.length ≤ 100 ∧ ∀ d ∈ ds, d.bs.length ≤ 50 := by
      unfold roomB at hroom'
      simp only [Bool.and_eq_true, decide_eq_true_eq, List.all_eq_true] at hroom'
      exact hroom'
    have h100 := hrm.1
    have H50 := Lib.hid hrm.2
    rw [hroom']
    clear hroom hroom' hrm
    go_wp2_with fail
    refine (newWriter_ok a0 wa).mono ?_
    rintro e w1 ⟨g1, rfl, hg1, hr1, hb1⟩
    have R1 := Lib.hid hr1
    have hg1' : w.heap.size ≤ g1 := Nat.le_trans BA.out.size hg1
    have B1 := Lib.hid (BA.out.trans (hb1.mono BA.out.size))
    have hst : RefO (w1.alloc (.cells #[.slice none 0 0, .int .i64 (0 : Nat), .bool a0] 46)) w1.heap.size (.slice none 0 0) a0 [] 0 :=
      ⟨Blk.new w1 _ _, ⟨by simp, .inl ⟨rfl, rfl⟩⟩, by simp⟩
    have hk0 := (Keeps.refl nobody w1).alloc (.cells #[.slice none 0 0, .int .i64 (0 : Nat), .bool a0] 46)
    have hboth : BothW w (w1.alloc (.cells #[.slice none 0 0, .int .i64 (0 : Nat), .bool a0] 46)) g1 (.slice none 0 0) w1.heap.size (.slice none 0 0) a0 [] [] 0 :=
      ⟨R1.out.keeps hk0 (fun _ _ h => h), hst, Below.quiet B1.out hk0 B1.out.size, (fun q hq => by rcases hq with rfl | hq; exact hg1'; cases hq), (fun q hq => by rcases hq with rfl | hq; exact B1.out.size; cases hq),
        fun q hq hq2 => by
          rcases hq with rfl | hq
          · rcases hq2 with h | h
            · have := R1.out.blk.lt; omega
            · cases h
          · cases hq⟩
    have HB := Lib.hid hboth
    clear hr1 hb1 hg1 D1 BA R1 B1 hst hk0 hboth
    go_wp2_with fail
    go_loopw [7] (fun i wr => ∃ k : Nat, k ≤ ds.length ∧ i = .int .i64 k ∧ ∃ v1 v2 l bs free, l.length ≤ 1000 * k ∧ BothW w wr g1 v1 w1.heap.size v2 a0 l bs free) (fun i _ => ds.length - (intOf i).toNat)
    case atStart => exact ⟨0, by omega, rfl, _, _, _, _, _, by simp, HB.out⟩
    case round =>
      obtain ⟨k, hk, rfl, v1, v2, l, bs, free, hll, hbo⟩ := hrel
      have BO := Lib.hid hbo
      clear hbo HB
      by_cases hlt : k < ds.length
      · obtain ⟨d, hd⟩ : ∃ d, ds[k]? = some d := ⟨_, List.getElem?_eq_getElem hlt⟩
        obtain ⟨b, off, rfl, hbw, hcell⟩ := (D0.out.keeps (Keeps.new BO.out.below) (fun _ _ h => h)).cells k d hd
        have c0 : wr.cell? ⟨b, off + k * 4, none⟩ = some (.int .i64 d.act) := hcell 0 _ rfl
        have c1 : wr.cell? ⟨b, off + k * 4 + 1, none⟩ = some (.int .i64 d.x) := hcell 1 _ rfl
        have c2 : wr.cell? ⟨b, off + k * 4 + 2, none⟩ = some (.int .i64 d.n) := hcell 2 _ rfl
        obtain ⟨⟨ha1, ha2⟩, ⟨hx1, hx2⟩, hn1, hn2⟩ := D0.out.fit k d hd
        have hk0 : (0 : Int) ≤ (k : Int) := by omega
        have hk1 : (k : Int) < (ds.length : Int) := by omega
        have hb50 := H50.out d (List.mem_of_getElem? hd)
        have HD := Lib.hid hd
        have HC := Lib.hid hcell
        clear hcell hd
        go_upto_block 2 with fail
        go_cut [8] (fun s wx => s = .bool true ∧ ∃ v1 v2 l bs free, l.length ≤ 1000 * (k + 1) ∧ BothW w wx g1 v1 w1.heap.size v2 a0 l bs free)
        case first =>
          by_cases h5 : d.act ≤ 5
          · -- Put
            go_wp2_with fail
            refine wp_region_Z (fun w' => w'.cell? ⟨b, off + k * 4 + 1, none⟩ = some (.int .i64 d.x) ∧ w'.cell? ⟨b, off + k * 4 + 2, none⟩ = some (.int .i64 d.n)) 11 13 rfl (by kernel_rfl) ⟨c1, c2⟩ (fun hHeld => ?_)
            iterate 11
              refine wpAnyZ_next rfl (by kernel_rfl) (fun _ _ _ h => h) (Or.inl ⟨by rfl, by intro w hSw; obtain ⟨s0, s1⟩ := hSw; go_simp; try with_reducible rfl⟩) hHeld.out ?_
              simp only [Act.put, List.setIfInBounds_toArray, Nat.reduceAdd, List.getElem_toArray, List.getElem_cons_succ, List.getElem_cons_zero, List.set_cons_succ, List.set_cons_zero]
            refine wpAnyZ_step (by kernel_rfl) rfl (fun K hK => ?_)
            clear hHeld
            go_simp
            by_cases hbad : d.n < 0 ∨ 32 < d.n ∨ d.x < 0 ∨ 2 ^ d.n.toNat ≤ d.x
            · refine (put_no g1 v1 a0 l bs free d.x d.n wr.drew (BO.out.r.keeps (Keeps.refl nobody wr).drew (fun _ _ h => h)) hbad).mono ?_
              rintro e w2 ⟨rfl, rfl⟩
              refine hK.out _ _ (fun h => absurd rfl h) ?_
              clear hK K
              simp only [Nat.reduceAdd]
              refine wpAnyZ_step (by kernel_rfl) rfl (fun K hK => ?_)
              go_simp
              refine hK.out _ _ (fun _ => ⟨c1, c2⟩) ?_
              refine wpAnyZ_done (by kernel_rfl) ?_ _
              clear hK K
              have B2 := Lib.hid (BO.out.quiet (Keeps.refl nobody wr).drew)
              have c1 : wr.drew.cell? ⟨b, off + k * 4 + 1, none⟩ = some (.int .i64 d.x) := c1
              have c2 : wr.drew.cell? ⟨b, off + k * 4 + 2, none⟩ = some (.int .i64 d.n) := c2
              obtain ⟨w2, hw2⟩ : ∃ w2, w2 = wr.drew := ⟨_, rfl⟩
              rw [← hw2] at c1 c2 B2 ⊢
              have HBAD := Lib.hid hbad
              clear hw2 hbad
              go_wp2_with fail
              refine wp_region_Z (fun w' => w'.cell? ⟨b, off + k * 4 + 1, none⟩ = some (.int .i64 d.x) ∧ w'.cell? ⟨b, off + k * 4 + 2, none⟩ = some (.int .i64 d.n)) 14 15 rfl (by kernel_rfl) ⟨c1, c2⟩ (fun hHeld => ?_)
              iterate 12
                refine wpAnyZ_next rfl (by kernel_rfl) (fun _ _ _ h => h) (Or.inl ⟨by rfl, by intro w hSw; obtain ⟨s0, s1⟩ := hSw; go_simp; try with_reducible rfl⟩) hHeld.out ?_
                simp only [Act.put, List.setIfInBounds_toArray, Nat.reduceAdd, List.getElem_toArray, List.getElem_cons_succ, List.getElem_cons_zero, List.set_cons_succ, List.set_cons_zero]
              refine wpAnyZ_step (by kernel_rfl) rfl (fun K hK => ?_)
              clear hHeld
              go_simp
              refine (refPut_no w1.heap.size d.x d.n w2.drew HBAD.out).mono ?_
              rintro e w3 ⟨rfl, rfl⟩
              refine hK.out _ _ (fun _ => ⟨c1, c2⟩) ?_
              clear hK K
              simp only [Nat.reduceAdd]
              refine wpAnyZ_step (by kernel_rfl) rfl (fun K hK => ?_)
              go_simp
              refine hK.out _ _ (fun _ => ⟨c1, c2⟩) ?_
              clear hK K
              simp only [Nat.reduceAdd]
              refine wpAnyZ_step (by kernel_rfl) rfl (fun K hK => ?_)
              go_simp
              refine hK.out _ _ (fun h => absurd rfl h) ?_
              clear hK K
              refine wpAnyZ_done (by kernel_rfl) ?_ _
              go_wp2
              go_meet
              exact ⟨rfl, v1, v2, l, bs, free, by omega, B2.out.quiet (Keeps.refl nobody w2).drew⟩
            · obtain ⟨N, hN⟩ := Int.eq_ofNat_of_zero_le (show 0 ≤ d.n by omega)
              obtain ⟨X, hX⟩ := Int.eq_ofNat_of_zero_le (show 0 ≤ d.x by omega)
              have hN32 : N ≤ 32 := by omega
              have hXN : X < 2 ^ N := by
                have : ¬ 2 ^ d.n.toNat ≤ d.x := by omega
                rw [hN, hX] at this
                have e2 : ((2 ^ N : Nat) : Int) = (2 : Int) ^ N := by simp
                simp only [Int.toNat_natCast] at this
                omega
              have HXN := Lib.hid hXN
              have HPut := put_ok g1 v1 a0 l bs free X N wr.drew (BO.out.r.keeps (Keeps.refl nobody wr).drew (fun _ _ h => h)) hN32 HXN.out (by omega)
              rw [← hN, ← hX] at HPut
              have HNN := Lib.hid hN
              have HXX := Lib.hid hX
              clear hbad hN hX hXN
              refine HPut.mono ?_
              clear HPut
              rintro e w2 ⟨rfl, hw2⟩
              have BD := BO.out.quiet (Keeps.refl nobody wr).drew
              have M2 := Lib.hid (BD.mid hw2)
              have W2 := Lib.hid hw2
              have HBD := Lib.hid BD
              refine hK.out _ _ (fun h => absurd rfl h) ?_
              clear hK K
              simp only [Nat.reduceAdd]
              refine wpAnyZ_step (by kernel_rfl) rfl (fun K hK => ?_)
              go_simp
              have c1' : w2.cell? ⟨b, off + k * 4 + 1, none⟩ = some (.int .i64 d.x) := by
                obtain ⟨_, _, _, _, hk2, _⟩ := W2.out
                exact (World.cell?_of_block (w := wr.drew) (a := ⟨b, off + k * 4 + 1, none⟩) (hk2.block b (cell_lt c1) (fun hf => by have := HBD.out.own1 b hf; omega))).trans c1
              have c2' : w2.cell? ⟨b, off + k * 4 + 2, none⟩ = some (.int .i64 d.n) := by
                obtain ⟨_, _, _, _, hk2, _⟩ := W2.out
                exact (World.cell?_of_block (w := wr.drew) (a := ⟨b, off + k * 4 + 2, none⟩) (hk2.block b (cell_lt c2) (fun hf => by have := HBD.out.own1 b hf; omega))).trans c2
              refine hK.out _ _ (fun _ => ⟨c1', c2'⟩) ?_
              refine wpAnyZ_done (by kernel_rfl) ?_ _
              clear hK K c0 c1 c2 BD hw2
              go_wp2_with fail
              refine wp_region_Z (fun w' => w'.cell? ⟨b, off + k * 4 + 1, none⟩ = some (.int .i64 d.x) ∧ w'.cell? ⟨b, off + k * 4 + 2, none⟩ = some (.int .i64 d.n)) 14 15 rfl (by kernel_rfl) ⟨c1', c2'⟩ (fun hHeld => ?_)
              iterate 12
                refine wpAnyZ_next rfl (by kernel_rfl) (fun _ _ _ h => h) (Or.inl ⟨by rfl, by intro w hSw; obtain ⟨s0, s1⟩ := hSw; go_simp; try with_reducible rfl⟩) hHeld.out ?_
                simp only [Act.put, List.setIfInBounds_toArray, Nat.reduceAdd, List.getElem_toArray, List.getElem_cons_succ, List.getElem_cons_zero, List.set_cons_succ, List.set_cons_zero]
              refine wpAnyZ_step (by kernel_rfl) rfl (fun K hK => ?_)
              clear hHeld
              go_simp
              have HPut := refPut_ok w1.heap.size v2 a0 l 0 X N w2.drew (M2.out.1.keeps (Keeps.refl nobody w2).drew (fun _ _ h => h)) hN32 HXN.out (by omega)
              rw [← HNN.out, ← HXX.out] at HPut
              refine HPut.mono ?_
              clear HPut
              rintro e w3 ⟨rfl, hw3⟩
              have hw3' : RWrote w2 w1.heap.size v2 a0 (l ++ Pure.bitsOf a0 N X) 0 w3 := by
                obtain ⟨v', h1, h2, h3⟩ := hw3
                exact ⟨v', h1, (Keeps.refl _ w2).drew.trans h2, h3⟩
              have W3 := Lib.hid (HBD.out.step W2.out hw3')
              have d1 : w3.cell? ⟨b, off + k * 4 + 1, none⟩ = some (.int .i64 d.x) := by
                obtain ⟨_, _, hk2, _⟩ := hw3'
                exact (World.cell?_of_block (w := w2) (a := ⟨b, off + k * 4 + 1, none⟩) (hk2.block b (cell_lt c1') (fun hf => by have := HBD.out.own2 b hf; omega))).trans c1'
              have d2 : w3.cell? ⟨b, off + k * 4 + 2, none⟩ = some (.int .i64 d.n) := by
                obtain ⟨_, _, hk2, _⟩ := hw3'
                exact (World.cell?_of_block (w := w2) (a := ⟨b, off + k * 4 + 2, none⟩) (hk2.block b (cell_lt c2') (fun hf => by have := HBD.out.own2 b hf; omega))).trans c2'
              refine hK.out _ _ (fun _ => ⟨d1, d2⟩) ?_
              clear hK K hw3 hw3' c1' c2'
              simp only [Nat.reduceAdd]
              refine wpAnyZ_step (by kernel_rfl) rfl (fun K hK => ?_)
              go_simp
              refine hK.out _ _ (fun _ => ⟨d1, d2⟩) ?_
              clear hK K
              simp only [Nat.reduceAdd]
              refine wpAnyZ_step (by kernel_rfl) rfl (fun K hK => ?_)
              go_simp
              refine hK.out _ _ (fun h => absurd rfl h) ?_
              clear hK K d1 d2
              refine wpAnyZ_done (by kernel_rfl) ?_ _
              go_wp2
              go_meet
              obtain ⟨v1', bs', free', v2', hfin⟩ := W3.out
              exact ⟨rfl, v1', v2', _, bs', free', by rw [List.length_append, Pure.bitsOf_length]; omega, hfin⟩
          · by_cases h6 : d.act = 6
            · -- Align
              have h6b : (d.act == 6) = true := by rw [beq_iff_eq]; exact h6
              clear h6
              go_wp2_with fail
              refine (walign_any g1 v1 a0 l bs free wr BO.out.r).mono ?_
              rintro e w2 ⟨rfl, ho2, hk2⟩
              have hpad := Pure.packs_pad BO.out.r.packs BO.out.r.rest
              have hw2 : Wrote wr g1 v1 a0 (l ++ List.replicate free false) w2 := ⟨v1, bs, 0, ho2, hk2.mono (fun _ h => .inl h), fun _ h => .inl h⟩
              have M2 := Lib.hid (BO.out.mid hw2)
              have W2 := Lib.hid hw2
              have HP := Lib.hid hpad
              have hf7 := BO.out.r.rest
              clear ho2 hk2 hw2 hpad c0 c1 c2 h6b
              go_wp2_with fail
              refine (refFill_any w1.heap.size v2 a0 l 0 w2 M2.out.1 (by omega)).mono ?_
              rintro e w3 ⟨rfl, hw3⟩
              rw [HP.out] at hw3
              have W3 := Lib.hid (BO.out.step W2.out hw3)
              clear hw3
              go_wp2
              go_meet
              obtain ⟨v1', bs', free', v2', hfin⟩ := W3.out
              exact ⟨rfl, v1', v2', _, bs', free', by rw [List.length_append, List.length_replicate]; omega, hfin⟩
            · -- Add
              have h6b : (d.act == 6) = false := by rw [beq_eq_false_iff_ne]; exact h6
              have hrow := D0.out.row k d HD.out
              obtain ⟨Ad, cd, hdv, _⟩ := hrow.form
              have c3 : wr.cell? ⟨b, off + k * 4 + 3, none⟩ = some d.v := HC.out 3 _ rfl
              rw [hdv] at c3 hrow
              have HRow := Lib.hid hrow
              have hpad := Pure.packs_pad BO.out.r.packs BO.out.r.rest
              have HP := Lib.hid hpad
              have hf7 := BO.out.r.rest
              clear hrow hdv h6 hpad
              go_wp2_with fail
              refine (add_any (fun b => b < w.heap.size) g1 v1 (.slice Ad d.bs.length cd) a0 l bs d.bs free wr BO.out.r (HRow.out.keeps (Keeps.new BO.out.below) (fun _ _ h => h)) (fun q hq e => by have := BO.out.own1 g1 (.inl rfl); omega) (by omega) (by omega)).mono ?_
              rintro e w2 ⟨rfl, hw2⟩
              have M2 := Lib.hid (BO.out.mid hw2)
              have W2 := Lib.hid hw2
              have c3' : w2.cell? ⟨b, off + k * 4 + 3, none⟩ = some (.slice Ad d.bs.length cd) := by
                obtain ⟨_, _, _, _, hk2, _⟩ := hw2
                exact (World.cell?_of_block (w := wr) (a := ⟨b, off + k * 4 + 3, none⟩) (hk2.block b (cell_lt c3) (fun hf => by have := BO.out.own1 b hf; omega))).trans c3
              clear hw2 c0 c1 c2 c3 h6b
              go_wp2_with fail
              refine (refAdd_any (fun b => b < w.heap.size) w1.heap.size v2 (.slice Ad d.bs.length cd) a0 l 0 d.bs w2 M2.out.1 (HRow.out.keeps (Keeps.new M2.out.2) (fun _ _ h => h)) (fun q hq => ⟨Nat.lt_of_lt_of_le hq M2.out.2.size, fun hf => by have := BO.out.own2 q hf; omega⟩) (by omega) (by omega)).mono ?_
              rintro e w3 ⟨rfl, hw3⟩
              rw [HP.out] at hw3
              have W3 := Lib.hid (BO.out.step W2.out hw3)
              clear hw3 c3'
              go_wp2
              go_meet
              obtain ⟨v1', bs', free', v2', hfin⟩ := W3.out
              exact ⟨rfl, v1', v2', _, bs', free', by rw [List.length_append, List.length_append, List.length_replicate, Pure.bitsOfBytes_length]; omega, hfin⟩
        case rest =>
          obtain ⟨rfl, v1, v2, l, bs, free, hll2, hbo⟩ := hcut
          have B2 := Lib.hid hbo
          clear hbo c0 c1 c2 HC BO hll
          obtain ⟨A2, cc2, hv2⟩ := own_form B2.out.m.own
          subst hv2
          have m0 : wc.cell? ⟨w1.heap.size, 0, none⟩ = some (.slice A2 l.length cc2) := by rw [B2.out.m.blk.cell]; rfl
          have hll3 : l.length ≤ 100000 := by omega
          have hfill : l ++ List.replicate (Pure.pad l.length) false = Pure.bitsOfBytes a0 bs := by
            rw [Pure.packs_pad B2.out.r.packs B2.out.r.rest]
            exact (Pure.packs_whole B2.out.r.packs.align).symm
          have HFI := Lib.hid hfill
          clear hfill
          go_upto_region 21 with fail
          have hne : ((l.length : Int) != (l.length : Int)) = false := by simp
          refine wp_region_Z (fun w' => w'.cell? ⟨w1.heap.size, 0, none⟩ = some (.slice A2 l.length cc2)) 19 20 rfl (by kernel_rfl) m0 (fun hHeld => ?_)
          refine wpAnyZ_take (i := 0) rfl (by kernel_rfl) (fun _ _ _ h => h) (Or.inl ⟨by rfl, by intro w hSw; have s0 := hSw; go_simp; try with_reducible rfl⟩) hHeld.out ?_
          simp only [Act.put, List.setIfInBounds_toArray, Nat.reduceAdd, List.getElem_toArray, List.getElem_cons_succ, List.getElem_cons_zero, List.set_cons_succ, List.set_cons_zero]
          refine wpAnyZ_take (i := 1) rfl (by kernel_rfl) (fun _ _ _ h => h) (Or.inl ⟨by rfl, by intro w hSw; have s0 := hSw; go_simp; try with_reducible rfl⟩) hHeld.out ?_
          simp only [Act.put, List.setIfInBounds_toArray, Nat.reduceAdd, List.getElem_toArray, List.getElem_cons_succ, List.getElem_cons_zero, List.set_cons_succ, List.set_cons_zero]
          refine wpAnyZ_take (i := 2) rfl (by kernel_rfl) (fun _ _ _ h => h) (Or.inl ⟨by rfl, by intro w hSw; have s0 := hSw; go_simp; try with_reducible rfl⟩) hHeld.out ?_
          simp only [Act.put, List.setIfInBounds_toArray, Nat.reduceAdd, List.getElem_toArray, List.getElem_cons_succ, List.getElem_cons_zero, List.set_cons_succ, List.set_cons_zero]
          refine wpAnyZ_take (i := 3) rfl (by kernel_rfl) (fun _ _ _ h => h) (Or.inl ⟨by rfl, by intro w hSw; have s0 := hSw; go_simp; try with_reducible rfl⟩) hHeld.out ?_
          simp only [Act.put, List.setIfInBounds_toArray, Nat.reduceAdd, List.getElem_toArray, List.getElem_cons_succ, List.getElem_cons_zero, List.set_cons_succ, List.set_cons_zero]
          refine wpAnyZ_take (i := 5) rfl (by kernel_rfl) (fun _ _ _ h => h) (Or.inl ⟨by rfl, by intro w hSw; have s0 := hSw; go_simp; try with_reducible rfl⟩) hHeld.out ?_
          simp only [Act.put, List.setIfInBounds_toArray, Nat.reduceAdd, List.getElem_toArray, List.getElem_cons_succ, List.getElem_cons_zero, List.set_cons_succ, List.set_cons_zero]
          refine wpAnyZ_take (i := 6) rfl (by kernel_rfl) (fun _ _ _ h => h) (Or.inl ⟨by rfl, by intro w hSw; have s0 := hSw; go_simp; try with_reducible rfl⟩) hHeld.out ?_
          simp only [Act.put, List.setIfInBounds_toArray, Nat.reduceAdd, List.getElem_toArray, List.getElem_cons_succ, List.getElem_cons_zero, List.set_cons_succ, List.set_cons_zero]
          refine wpAnyZ_take (i := 7) rfl (by kernel_rfl) (fun _ _ _ h => h) (Or.inl ⟨by rfl, by intro w hSw; have s0 := hSw; go_simp; try with_reducible rfl⟩) hHeld.out ?_
          simp only [Act.put, List.setIfInBounds_toArray, Nat.reduceAdd, List.getElem_toArray, List.getElem_cons_succ, List.getElem_cons_zero, List.set_cons_succ, List.set_cons_zero]
          refine wpAnyZ_take (i := 8) rfl (by kernel_rfl) (fun _ _ _ h => h) (Or.inl ⟨by rfl, by intro w hSw; have s0 := hSw; go_simp; try with_reducible rfl⟩) hHeld.out ?_
          simp only [Act.put, List.setIfInBounds_toArray, Nat.reduceAdd, List.getElem_toArray, List.getElem_cons_succ, List.getElem_cons_zero, List.set_cons_succ, List.set_cons_zero]
          refine wpAnyZ_take (i := 9) rfl (by kernel_rfl) (fun _ _ _ h => h) (Or.inl ⟨by rfl, by intro w hSw; have s0 := hSw; go_simp; try with_reducible rfl⟩) hHeld.out ?_
          simp only [Act.put, List.setIfInBounds_toArray, Nat.reduceAdd, List.getElem_toArray, List.getElem_cons_succ, List.getElem_cons_zero, List.set_cons_succ, List.set_cons_zero]
          refine wpAnyZ_one (i := 4) (by kernel_rfl) rfl (fun K hK => ?_)
          clear hHeld
          go_simp
          refine (len_any g1 v1 a0 l bs free wc.drew (B2.out.r.keeps (Keeps.refl nobody wc).drew (fun _ _ h => h)) (by omega)).mono ?_
          rintro e w5 ⟨rfl, n5, hw5⟩
          have K5 := Lib.hid ((Keeps.refl nobody wc).drew.trans (Keeps.of_drewN hw5))
          have B5 := Lib.hid (B2.out.quiet K5.out)
          have m5 : w5.cell? ⟨w1.heap.size, 0, none⟩ = some (.slice A2 l.length cc2) := by rw [B5.out.m.blk.cell]; rfl
          have hHeld5 := Lib.hid m5
          refine hK.out _ _ (fun _ => hHeld5.out) ?_
          clear hK K hw5 m0
          try simp only [Act.put, List.setIfInBounds_toArray, Nat.reduceAdd, List.getElem_toArray, List.getElem_cons_succ, List.getElem_cons_zero, List.set_cons_succ, List.set_cons_zero]
          refine wpAnyZ_take (i := 10) rfl (by kernel_rfl) (fun _ _ _ h => h) (Or.inl ⟨by rfl, by intro w hSw; have s0 := hSw; go_simp; try with_reducible rfl⟩) hHeld5.out ?_
          simp only [Act.put, List.setIfInBounds_toArray, Nat.reduceAdd, List.getElem_toArray, List.getElem_cons_succ, List.getElem_cons_zero, List.set_cons_succ, List.set_cons_zero]
          refine wpAnyZ_take (i := 11) rfl (by kernel_rfl) (fun _ _ _ h => h) (Or.inl ⟨by rfl, by intro w hSw; have s0 := hSw; go_simp; try with_reducible rfl⟩) hHeld5.out ?_
          simp only [Act.put, List.setIfInBounds_toArray, Nat.reduceAdd, List.getElem_toArray, List.getElem_cons_succ, List.getElem_cons_zero, List.set_cons_succ, List.set_cons_zero]
          refine wpAnyZ_take (i := 12) rfl (by kernel_rfl) (fun _ _ _ h => h) (Or.inl ⟨by rfl, by intro w hSw; have s0 := hSw; go_simp; try with_reducible rfl⟩) hHeld5.out ?_
          simp only [Act.put, List.setIfInBounds_toArray, Nat.reduceAdd, List.getElem_toArray, List.getElem_cons_succ, List.getElem_cons_zero, List.set_cons_succ, List.set_cons_zero]
          refine wpAnyZ_take (i := 13) rfl (by kernel_rfl) (fun _ _ _ h => h) (Or.inl ⟨by rfl, by intro w hSw; have s0 := hSw; go_simp; try with_reducible rfl⟩) hHeld5.out ?_
          simp only [Act.put, List.setIfInBounds_toArray, Nat.reduceAdd, List.getElem_toArray, List.getElem_cons_succ, List.getElem_cons_zero, List.set_cons_succ, List.set_cons_zero]
          refine wpAnyZ_take (i := 15) rfl (by kernel_rfl) (fun _ _ _ h => h) (Or.inl ⟨by rfl, by intro w hSw; have s0 := hSw; go_simp; try with_reducible rfl⟩) hHeld5.out ?_
          simp only [Act.put, List.setIfInBounds_toArray, Nat.reduceAdd, List.getElem_toArray, List.getElem_cons_succ, List.getElem_cons_zero, List.set_cons_succ, List.set_cons_zero]
          refine wpAnyZ_one (i := 14) (by kernel_rfl) rfl (fun K hK => ?_)
          clear hHeld5
          go_simp
          refine (wbytes_any g1 v1 a0 l bs free w5 B5.out.r (by omega)).mono ?_
          rintro e w6 ⟨u6, rfl, hown6, hb6⟩
          have K6 := Lib.hid (K5.out.trans (Keeps.new hb6))
          have B6 := Lib.hid (B2.out.quiet K6.out)
          have O6 := Lib.hid hown6
          have m6 : w6.cell? ⟨w1.heap.size, 0, none⟩ = some (.slice A2 l.length cc2) := by rw [B6.out.m.blk.cell]; rfl
          have hHeld6 := Lib.hid m6
          refine hK.out _ _ (fun _ => hHeld6.out) ?_
          clear hK K hown6 hb6 m5
          try simp only [Act.put, List.setIfInBounds_toArray, Nat.reduceAdd, List.getElem_toArray, List.getElem_cons_succ, List.getElem_cons_zero, List.set_cons_succ, List.set_cons_zero]
          refine wpAnyZ_one (i := 16) (by kernel_rfl) rfl (fun K hK => ?_)
          clear hHeld6
          go_simp
          refine (refOut_any w1.heap.size _ a0 l 0 bs w6 B6.out.m (by omega) HFI.out).mono ?_
          rintro e w7 ⟨u7, rfl, hown7, hb7⟩
          have K7 := Lib.hid (K6.out.trans (Keeps.new hb7))
          have B7 := Lib.hid (B2.out.quiet K7.out)
          have O7 := Lib.hid hown7
          have O6' := Lib.hid (ownsRow_keeps O6.out (Keeps.new hb7) (fun _ _ h => h))
          have m7 : w7.cell? ⟨w1.heap.size, 0, none⟩ = some (.slice A2 l.length cc2) := by rw [B7.out.m.blk.cell]; rfl
          have hHeld7 := Lib.hid m7
          refine hK.out _ _ (fun _ => hHeld7.out) ?_
          clear hK K hown7 hb7 m6
          try simp only [Act.put, List.setIfInBounds_toArray, Nat.reduceAdd, List.getElem_toArray, List.getElem_cons_succ, List.getElem_cons_zero, List.set_cons_succ, List.set_cons_zero]
          refine wpAnyZ_one (i := 17) (by kernel_rfl) rfl (fun K hK => ?_)
          clear hHeld7
          go_simp
          refine (same_any _ _ u6 u7 bs bs w7 (Row.of_own O6'.out) (Row.of_own O7.out)).mono ?_
          rintro e w8 ⟨rfl, hk8⟩
          have B8 := Lib.hid (B7.out.quiet hk8)
          have m8 : w8.cell? ⟨w1.heap.size, 0, none⟩ = some (.slice A2 l.length cc2) := by rw [B8.out.m.blk.cell]; rfl
          have hHeld8 := Lib.hid m8
          have hss : decide (bs = bs) = true := by simp
          rw [hss]
          refine hK.out _ _ (fun _ => hHeld8.out) ?_
          clear hK K hk8 m7 hss
          try simp only [Act.put, List.setIfInBounds_toArray, Nat.reduceAdd, List.getElem_toArray, List.getElem_cons_succ, List.getElem_cons_zero, List.set_cons_succ, List.set_cons_zero]
          refine wpAnyZ_take (i := 18) rfl (by kernel_rfl) (fun _ _ _ h => h) (Or.inl ⟨by rfl, by intro w hSw; have s0 := hSw; go_simp; try with_reducible rfl⟩) hHeld8.out ?_
          simp only [Act.put, List.setIfInBounds_toArray, Nat.reduceAdd, List.getElem_toArray, List.getElem_cons_succ, List.getElem_cons_zero, List.set_cons_succ, List.set_cons_zero]
          refine wpAnyZ_one (i := 19) (by kernel_rfl) rfl (fun K hK => ?_)
          go_simp
          refine hK.out _ _ (fun h => absurd rfl h) ?_
          refine wpAnyZ_done (by kernel_rfl) ?_ _
          clear hK K hHeld8 m8
          go_wp2
          go_roundw
          case rel => exact ⟨k + 1, by omega, by go_num, v1, _, l, bs, free, by omega, B8.out⟩
          case measure => simp [intOf]; omega
      · go_wp2
        go_ret
        exact ⟨rfl, BO.out.below⟩
end Go.Proofs.Ytkpagfeglpfhkaa
