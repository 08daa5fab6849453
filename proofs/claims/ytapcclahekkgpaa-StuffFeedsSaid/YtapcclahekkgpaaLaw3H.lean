/- The walk of the law StuffFeeds. -/
import Derived.Test.YtapcclahekkgpaaStuffL
import Derived.Test.YtapcclahekkgpaaStuffM
import Derived.Test.YtapcclahekkgpaaStuffN
import Derived.Test.YtapcclahekkgpaaLaw3C
namespace Go.Proofs.Ytapcclahekkgpaa
open Go.RowKit

/-- All that came in the first k parts. -/
def firstParts (ps : List (Value × List UInt8)) (k : Nat) : List UInt8 := (ps.take k).flatMap Prod.snd
theorem feeds_last (a most k : Nat) (h : 1 ≤ most) : ((⟨a, most, [], false, k⟩ : Pure.DF).feed [32, 126]).2 = [[32]] := by
  have h2 : Pure.mapd a 32 = false := by simp [Pure.mapd]
  have h3 : ¬ most < 1 := by omega
  simp [Pure.DF.feed_cons, Pure.DF.feed_nil, Pure.DF.step, h2, Pure.DF.keep, Pure.DF.told, Pure.DF.bad, h3]
theorem firstParts_succ (ps : List (Value × List UInt8)) (k : Nat) (h : k < ps.length) : firstParts ps (k + 1) = firstParts ps k ++ ps[k].2 := by
  unfold firstParts
  rw [List.take_succ_eq_append_getElem h, List.flatMap_append]
  simp
theorem firstParts_length (ps : List (Value × List UInt8)) (n : Nat) (h : ∀ p ∈ ps, p.2.length ≤ n) : ∀ k, k ≤ ps.length → (firstParts ps k).length ≤ n * k
  | 0, _ => by simp [firstParts]
  | k + 1, hk => by
    rw [firstParts_succ ps k (by omega), List.length_append]
    have h1 := firstParts_length ps n h k (by omega)
    have h2 := h ps[k] (List.getElem_mem (by omega))
    rw [Nat.mul_succ]
    omega

set_option maxRecDepth 100000 in
set_option maxHeartbeats 8000000 in
theorem stuffFeeds_walk (a0 a1 : Int) (a2 : Option Addr) (len2 cap2 : Nat) (w : World) (w0 : (Lit.int .u32 a0).wf = true) (w1 : (Lit.int .i64 a1).wf = true) (w2 : IsStructs w [.row .u8] a2 len2 cap2) :
    Calls Try.prog 4 #[.int .u32 a0, .int .i64 a1, .slice a2 len2 cap2] w fun e w' => e = .returned (.bool true) ∧ Below w.heap.size w w' := by
  obtain ⟨ps, hpl, hfr⟩ := frows_of w2
  obtain ⟨m, rfl⟩ : ∃ m : Nat, a0 = m := ⟨a0.toNat, by have := u32_of_wf w0; omega⟩
  have hm : m < 4294967296 := by have := u32_of_wf w0; omega
  obtain ⟨hm1, hm2⟩ := i64_of_wf w1
  obtain ⟨N, hN⟩ : ∃ N, N = ps.length := ⟨_, rfl⟩
  have HN := Lib.hid hN
  rw [← hpl, ← hN] at hfr ⊢
  have hmax := hfr.out.2.1
  unfold maxLen at hmax
  have hmax2 : N ≤ 9223372036854775807 := by rw [hN]; omega
  have FR := Lib.hid hfr
  have HW := Lib.hid (awake_any w)
  clear hfr w0 w1 w2 hpl hN hmax
  go_enter Try.func4, Try.ntmps4
  go_wp2_with fail
  refine HW.out.mono ?_
  rintro e wa ⟨rfl, hba⟩
  have BA := Lib.hid hba
  have HS : Calls Try.prog 17 #[.slice a2 N cap2, .int .i64 300] wa _ := small_any _ _ ps 300 wa (FR.out.keeps (Keeps.new hba) (fun _ _ h => h)) (by omega)
  have HSS := Lib.hid HS
  clear hba HW HS
  go_wp2_with fail
  refine HSS.out.mono ?_
  rintro e w' ⟨rfl, rfl⟩
  cases hsm : Pure.small ps 300
  · go_wp2
    go_ret
    exact ⟨rfl, BA.out⟩
  · unfold Pure.small at hsm
    rw [Bool.and_eq_true, decide_eq_true_eq, List.all_eq_true] at hsm
    have hN40 : N ≤ 40 := by rw [HN.out]; exact hsm.1
    have hsmall : ∀ p ∈ ps, p.2.length ≤ 300 := fun p hp => by simpa using hsm.2 p hp
    have SM := Lib.hid hsmall
    clear hsm hsmall HSS
    by_cases hbad : a1 < 1 ∨ 4096 < a1
    · have HNN := Lib.hid (new_bad m a1 wa hbad)
      by_cases h1 : a1 < 1
      · clear hbad
        go_wp2_with (go_at_call 12; refine HNN.out.mono ?_; rintro e w' ⟨rfl, rfl⟩)
        go_ret
        exact ⟨rfl, BA.out⟩
      · have h2 : a1 > 4096 := by omega
        clear hbad
        go_wp2_with (go_at_call 12; refine HNN.out.mono ?_; rintro e w' ⟨rfl, rfl⟩)
        go_ret
        exact ⟨rfl, BA.out⟩
    · obtain ⟨n, rfl⟩ : ∃ n : Nat, a1 = n := ⟨a1.toNat, by omega⟩
      have hn1 : 1 ≤ n := by omega
      have hn2 : n ≤ 4096 := by omega
      have c1 : ¬ (n : Int) < 1 := by omega
      have c2 : ¬ (n : Int) > 4096 := by omega
      have HNN := Lib.hid (new_any m n wa hn1 hn2 hm)
      clear hbad hm1 hm2
      go_wp2_with fail
      refine HNN.out.mono ?_
      rintro e wb ⟨rfl, hd1, hb1⟩
      have S1 := Lib.hid (Sit.new BA.out hd1 hb1)
      obtain ⟨g, hg⟩ : ∃ g, g = wa.heap.size := ⟨_, rfl⟩
      rw [← hg] at S1 ⊢
      have hcells : Blk (wb.alloc (.cells #[.int .u32 m, .int .i64 n, .slice none 0 0, .bool false, .int .i64 0] 37)) wb.heap.size 37 #[.int .u32 m, .int .i64 n, .slice none 0 0, .bool false, .int .i64 0] := Blk.new wb _ _
      have P1 := Lib.hid (show Pair w (wb.alloc (.cells #[.int .u32 m, .int .i64 n, .slice none 0 0, .bool false, .int .i64 0] 37)) g (.slice none 0 0) ⟨m, n, [], false, 0⟩ wb.heap.size (.slice none 0 0) ⟨m, n, [], false, 0⟩ from
        ⟨S1.out.alloc _, ⟨hcells, ⟨by simp, .inl ⟨rfl, rfl⟩⟩, hm, hn1, hn2⟩, S1.out.le, fun b hb => by simp [Value.ownBlock] at hb, fun b hb => by simp [Value.ownBlock] at hb⟩)
      obtain ⟨gm, hgm⟩ : ∃ gm, gm = wb.heap.size := ⟨_, rfl⟩
      rw [← hgm] at P1
      clear hd1 hb1 hg hcells S1 HNN c1 c2
      go_wp2_with fail
      rw [← hgm]
      obtain ⟨wz, hwz⟩ : ∃ wz, wz = wb.alloc (.cells #[.int .u32 m, .int .i64 n, .slice none 0 0, .bool false, .int .i64 0] 37) := ⟨_, rfl⟩
      rw [← hwz] at P1 ⊢
      clear hgm hwz
      go_loopw [10] (fun i wr => ∃ k : Nat, k ≤ N ∧ i = .int .i64 k ∧ ∃ cv mv, Pair w wr g cv ((⟨m, n, [], false, 0⟩ : Pure.DF).feed (firstParts ps k)).1 gm mv ((⟨m, n, [], false, 0⟩ : Pure.DF).feed (firstParts ps k)).1) (fun i _ => N - (intOf i).toNat)
      case atStart => exact ⟨0, by omega, rfl, _, _, by simpa [firstParts, Pure.DF.feed_nil] using P1.out⟩
      case round =>
        obtain ⟨k, hk, rfl, cv, mv, hP⟩ := hrel
        have P2 := Lib.hid hP
        clear hP P1
        by_cases hkN : k < N
        · have hkp : k < ps.length := by have := HN.out; omega
          obtain ⟨p, o, rfl, hpF, hcx⟩ := (by have := FR.out.out; rw [← HN.out] at this; exact this : Row w (fun b => b < w.heap.size) 1 (.slice a2 N cap2) N (ps.map Prod.fst)).cellAt (by omega)
          have c0 := hcx k ps[k].1 (by simp [hkp])
          have hp := FR.out.rows ps[k] (List.getElem_mem hkp)
          obtain ⟨A1, n1, hA1, _⟩ := hp.form
          obtain ⟨f, hf⟩ : ∃ f, f = ps[k].2 := ⟨_, rfl⟩
          have hfl : f.length ≤ 300 := by rw [hf]; exact SM.out _ (List.getElem_mem hkp)
          rw [← hf] at hA1 hp
          rw [hA1] at c0 hp
          obtain ⟨d, hd⟩ : ∃ d, d = ((⟨m, n, [], false, 0⟩ : Pure.DF).feed (firstParts ps k)).1 := ⟨_, rfl⟩
          have hnear := Pure.DF.feed_near (firstParts ps k) ⟨m, n, [], false, 0⟩
          have hfpl := firstParts_length ps 300 SM.out k (by omega)
          have hnext : ((⟨m, n, [], false, 0⟩ : Pure.DF).feed (firstParts ps (k + 1))).1 = (d.feed f).1 := by
            rw [firstParts_succ ps k hkp, ← hf, Pure.DF.feed_append, ← hd]
          rw [← hd] at P2 hnear
          have hdd : d.dropped ≤ 12000 := by have := hnear.hi; simp at this; omega
          have hdf : d.frame.length ≤ 12000 := by have := hnear.frame; simp at this; omega
          have hD2 : (d.feed f).1.dropped ≤ 13000 := by have := (Pure.DF.feed_near f d).hi; omega
          have NX := Lib.hid hnext
          have HR := Lib.hid hp
          have CE := Lib.hid c0
          have hi0 : (0 : Int) ≤ (k : Int) := by omega
          have hi1 : (k : Int) < (N : Int) := by omega
          have hne : (((d.feed f).1.dropped : Int) != ((d.feed f).1.dropped : Int)) = false := by simp
          have P3 := Lib.hid (P2.out.quiet (Keeps.refl nobody wr).drew)
          have hcell : ∀ w' : World, Below w.heap.size w w' → w'.cell? ⟨p, o + k, none⟩ = some (.slice A1 f.length n1) := fun _ hb => (hb.cell (p := ⟨p, o + k, none⟩) hpF).trans CE.out
          have HCELL := Lib.hid hcell
          have h0 := hcell _ P3.out.sit.below
          have HF := Lib.hid (feed_any _ _ _ _ _ f _ P3.out.sit.obj (P3.out.sit.row HR.out) (fun b hb => P3.out.sit.apart0 b hb) (by omega) (by omega))
          clear hcx hp hA1 hf hd hnear hfpl hnext c0 hcell P2
          go_upto_region 14 with fail
          refine wp_region_Z (fun w' => w'.cell? ⟨p, o + k, none⟩ = some (.slice A1 f.length n1)) 38 39 rfl (by kernel_rfl) h0 (fun hHeld => ?_)
          refine wpAnyZ_take (i := 0) rfl (by kernel_rfl) (fun _ _ _ h => h) (Or.inl ⟨by rfl, by intro w hSw; have s0 := hSw; go_simp; try with_reducible rfl⟩) hHeld.out ?_
          simp only [Act.put, List.setIfInBounds_toArray, Nat.reduceAdd, List.getElem_toArray, List.getElem_cons_succ, List.getElem_cons_zero, List.set_cons_succ, List.set_cons_zero]
          refine wpAnyZ_take (i := 1) rfl (by kernel_rfl) (fun _ _ _ h => h) (Or.inl ⟨by rfl, by intro w hSw; have s0 := hSw; go_simp; try with_reducible rfl⟩) hHeld.out ?_
          simp only [Act.put, List.setIfInBounds_toArray, Nat.reduceAdd, List.getElem_toArray, List.getElem_cons_succ, List.getElem_cons_zero, List.set_cons_succ, List.set_cons_zero]
          refine wpAnyZ_take (i := 2) rfl (by kernel_rfl) (fun _ _ _ h => h) (Or.inl ⟨by rfl, by intro w hSw; have s0 := hSw; go_simp; try with_reducible rfl⟩) hHeld.out ?_
          simp only [Act.put, List.setIfInBounds_toArray, Nat.reduceAdd, List.getElem_toArray, List.getElem_cons_succ, List.getElem_cons_zero, List.set_cons_succ, List.set_cons_zero]
          refine wpAnyZ_take (i := 3) rfl (by kernel_rfl) (fun _ _ _ h => h) (Or.inl ⟨by rfl, by intro w hSw; have s0 := hSw; go_simp; try with_reducible rfl⟩) hHeld.out ?_
          simp only [Act.put, List.setIfInBounds_toArray, Nat.reduceAdd, List.getElem_toArray, List.getElem_cons_succ, List.getElem_cons_zero, List.set_cons_succ, List.set_cons_zero]
          refine wpAnyZ_take (i := 4) rfl (by kernel_rfl) (fun _ _ _ h => h) (Or.inl ⟨by rfl, by intro w hSw; have s0 := hSw; go_simp; try with_reducible rfl⟩) hHeld.out ?_
          simp only [Act.put, List.setIfInBounds_toArray, Nat.reduceAdd, List.getElem_toArray, List.getElem_cons_succ, List.getElem_cons_zero, List.set_cons_succ, List.set_cons_zero]
          refine wpAnyZ_take (i := 6) rfl (by kernel_rfl) (fun _ _ _ h => h) (Or.inl ⟨by rfl, by intro w hSw; have s0 := hSw; go_simp; try with_reducible rfl⟩) hHeld.out ?_
          simp only [Act.put, List.setIfInBounds_toArray, Nat.reduceAdd, List.getElem_toArray, List.getElem_cons_succ, List.getElem_cons_zero, List.set_cons_succ, List.set_cons_zero]
          refine wpAnyZ_take (i := 7) rfl (by kernel_rfl) (fun _ _ _ h => h) (Or.inl ⟨by rfl, by intro w hSw; have s0 := hSw; go_simp; try with_reducible rfl⟩) hHeld.out ?_
          simp only [Act.put, List.setIfInBounds_toArray, Nat.reduceAdd, List.getElem_toArray, List.getElem_cons_succ, List.getElem_cons_zero, List.set_cons_succ, List.set_cons_zero]
          refine wpAnyZ_take (i := 8) rfl (by kernel_rfl) (fun _ _ _ h => h) (Or.inl ⟨by rfl, by intro w hSw; have s0 := hSw; go_simp; try with_reducible rfl⟩) hHeld.out ?_
          simp only [Act.put, List.setIfInBounds_toArray, Nat.reduceAdd, List.getElem_toArray, List.getElem_cons_succ, List.getElem_cons_zero, List.set_cons_succ, List.set_cons_zero]
          refine wpAnyZ_take (i := 9) rfl (by kernel_rfl) (fun _ _ _ h => h) (Or.inl ⟨by rfl, by intro w hSw; have s0 := hSw; go_simp; try with_reducible rfl⟩) hHeld.out ?_
          simp only [Act.put, List.setIfInBounds_toArray, Nat.reduceAdd, List.getElem_toArray, List.getElem_cons_succ, List.getElem_cons_zero, List.set_cons_succ, List.set_cons_zero]
          refine wpAnyZ_take (i := 10) rfl (by kernel_rfl) (fun _ _ _ h => h) (Or.inl ⟨by rfl, by intro w hSw; have s0 := hSw; go_simp; try with_reducible rfl⟩) hHeld.out ?_
          simp only [Act.put, List.setIfInBounds_toArray, Nat.reduceAdd, List.getElem_toArray, List.getElem_cons_succ, List.getElem_cons_zero, List.set_cons_succ, List.set_cons_zero]
          refine wpAnyZ_one (i := 5) (by kernel_rfl) rfl (fun K hK => ?_)
          go_simp
          refine HF.out.mono ?_
          rintro e w1 ⟨x, cv2, px, rfl, hpx, hat⟩
          have P4 := Lib.hid (P3.out.fedD hat)
          have AT := Lib.hid hat
          have PX := Lib.hid hpx
          obtain ⟨AX, cX, rfl⟩ := told_len hat.told
          have m1 := Lib.hid (HCELL.out _ P4.out.sit.below)
          refine hK.out _ _ (fun _ => m1.out) ?_
          clear hK K hHeld hat hpx HF h0
          try simp only [Act.put, List.setIfInBounds_toArray, Nat.reduceAdd, List.getElem_toArray, List.getElem_cons_succ, List.getElem_cons_zero, List.set_cons_succ, List.set_cons_zero]
          have HF := Lib.hid (rfeed_any _ _ _ _ _ f _ P4.out.ref (P4.out.sit.row HR.out) (fun b hb => P4.out.aside b hb) (by omega) (by omega) (by omega))
          refine wpAnyZ_one (i := 11) (by kernel_rfl) rfl (fun K hK => ?_)
          go_simp
          refine HF.out.mono ?_
          rintro e w2 ⟨y, mv2, py, rfl, hpy, hat⟩
          have P5 := Lib.hid (P4.out.fedM hat)
          have TX := P3.out.toldM AT.out hat
          obtain ⟨AY, cY, rfl⟩ := told_len hat.told
          have FX := Lib.hid (frames_true _ _ _ _ px py _ TX.frow hat.told.frow (by rw [PX.out, hpy]))
          have m2 := Lib.hid (HCELL.out _ P5.out.sit.below)
          refine hK.out _ _ (fun _ => m2.out) ?_
          clear hK K m1 hat hpy HF P3 AT TX
          try simp only [Act.put, List.setIfInBounds_toArray, Nat.reduceAdd, List.getElem_toArray, List.getElem_cons_succ, List.getElem_cons_zero, List.set_cons_succ, List.set_cons_zero]
          refine wpAnyZ_one (i := 12) (by kernel_rfl) rfl (fun K hK => ?_)
          go_simp
          refine FX.out.mono ?_
          rintro e w3 ⟨rfl, hk3⟩
          have P6 := Lib.hid (P5.out.quiet hk3)
          have m3 := Lib.hid (HCELL.out _ P6.out.sit.below)
          refine hK.out _ _ (fun _ => m3.out) ?_
          clear hK K m2 FX hk3 P4 P5
          try simp only [Act.put, List.setIfInBounds_toArray, Nat.reduceAdd, List.getElem_toArray, List.getElem_cons_succ, List.getElem_cons_zero, List.set_cons_succ, List.set_cons_zero]
          refine wpAnyZ_take (i := 13) rfl (by kernel_rfl) (fun _ _ _ h => h) (Or.inl ⟨by rfl, by intro w hSw; have s0 := hSw; go_simp; try with_reducible rfl⟩) m3.out ?_
          simp only [Act.put, List.setIfInBounds_toArray, Nat.reduceAdd, List.getElem_toArray, List.getElem_cons_succ, List.getElem_cons_zero, List.set_cons_succ, List.set_cons_zero]
          refine wpAnyZ_take (i := 14) rfl (by kernel_rfl) (fun _ _ _ h => h) (Or.inl ⟨by rfl, by intro w hSw; have s0 := hSw; go_simp; try with_reducible rfl⟩) m3.out ?_
          simp only [Act.put, List.setIfInBounds_toArray, Nat.reduceAdd, List.getElem_toArray, List.getElem_cons_succ, List.getElem_cons_zero, List.set_cons_succ, List.set_cons_zero]
          refine wpAnyZ_take (i := 15) rfl (by kernel_rfl) (fun _ _ _ h => h) (Or.inl ⟨by rfl, by intro w hSw; have s0 := hSw; go_simp; try with_reducible rfl⟩) m3.out ?_
          simp only [Act.put, List.setIfInBounds_toArray, Nat.reduceAdd, List.getElem_toArray, List.getElem_cons_succ, List.getElem_cons_zero, List.set_cons_succ, List.set_cons_zero]
          refine wpAnyZ_take (i := 17) rfl (by kernel_rfl) (fun _ _ _ h => h) (Or.inl ⟨by rfl, by intro w hSw; have s0 := hSw; go_simp; try with_reducible rfl⟩) m3.out ?_
          simp only [Act.put, List.setIfInBounds_toArray, Nat.reduceAdd, List.getElem_toArray, List.getElem_cons_succ, List.getElem_cons_zero, List.set_cons_succ, List.set_cons_zero]
          refine wpAnyZ_take (i := 18) rfl (by kernel_rfl) (fun _ _ _ h => h) (Or.inl ⟨by rfl, by intro w hSw; have s0 := hSw; go_simp; try with_reducible rfl⟩) m3.out ?_
          simp only [Act.put, List.setIfInBounds_toArray, Nat.reduceAdd, List.getElem_toArray, List.getElem_cons_succ, List.getElem_cons_zero, List.set_cons_succ, List.set_cons_zero]
          refine wpAnyZ_take (i := 19) rfl (by kernel_rfl) (fun _ _ _ h => h) (Or.inl ⟨by rfl, by intro w hSw; have s0 := hSw; go_simp; try with_reducible rfl⟩) m3.out ?_
          simp only [Act.put, List.setIfInBounds_toArray, Nat.reduceAdd, List.getElem_toArray, List.getElem_cons_succ, List.getElem_cons_zero, List.set_cons_succ, List.set_cons_zero]
          have HD := Lib.hid (dropped_any _ _ _ w3 P6.out.sit.obj)
          have c4 : w3.cell? ⟨gm, 4, none⟩ = some (.int .i64 (d.feed f).1.dropped) := by rw [P6.out.ref.blk.cell]; rfl
          have HS := Lib.hid (stuff_any _ _ f m w3 (P6.out.sit.row HR.out) (by omega) hm)
          refine wpAnyZ_two (i := 16) (j := 20) (by kernel_rfl) rfl rfl (fun K hK => ?_) (fun K hK => ?_)
          · go_simp
            refine HD.out.mono ?_
            rintro e w' ⟨rfl, rfl⟩
            refine hK.out _ _ (fun _ => m3.out) ?_
            clear hK K
            try simp only [Act.put, List.setIfInBounds_toArray, Nat.reduceAdd, List.getElem_toArray, List.getElem_cons_succ, List.getElem_cons_zero, List.set_cons_succ, List.set_cons_zero]
            refine wpAnyZ_one (i := 20) (by kernel_rfl) rfl (fun K hK => ?_)
            go_simp
            refine hK.out _ _ (fun _ => m3.out) ?_
            clear hK K
            try simp only [Act.put, List.setIfInBounds_toArray, Nat.reduceAdd, List.getElem_toArray, List.getElem_cons_succ, List.getElem_cons_zero, List.set_cons_succ, List.set_cons_zero]
            refine wpAnyZ_take (i := 21) rfl (by kernel_rfl) (fun _ _ _ h => h) (Or.inl ⟨by rfl, by intro w hSw; have s0 := hSw; go_simp; try with_reducible rfl⟩) m3.out ?_
            simp only [Act.put, List.setIfInBounds_toArray, Nat.reduceAdd, List.getElem_toArray, List.getElem_cons_succ, List.getElem_cons_zero, List.set_cons_succ, List.set_cons_zero]
            refine wpAnyZ_take (i := 22) rfl (by kernel_rfl) (fun _ _ _ h => h) (Or.inl ⟨by rfl, by intro w hSw; have s0 := hSw; go_simp; try with_reducible rfl⟩) m3.out ?_
            simp only [Act.put, List.setIfInBounds_toArray, Nat.reduceAdd, List.getElem_toArray, List.getElem_cons_succ, List.getElem_cons_zero, List.set_cons_succ, List.set_cons_zero]
            refine wpAnyZ_take (i := 23) rfl (by kernel_rfl) (fun _ _ _ h => h) (Or.inl ⟨by rfl, by intro w hSw; have s0 := hSw; go_simp; try with_reducible rfl⟩) m3.out ?_
            simp only [Act.put, List.setIfInBounds_toArray, Nat.reduceAdd, List.getElem_toArray, List.getElem_cons_succ, List.getElem_cons_zero, List.set_cons_succ, List.set_cons_zero]
            refine wpAnyZ_take (i := 24) rfl (by kernel_rfl) (fun _ _ _ h => h) (Or.inl ⟨by rfl, by intro w hSw; have s0 := hSw; go_simp; try with_reducible rfl⟩) m3.out ?_
            simp only [Act.put, List.setIfInBounds_toArray, Nat.reduceAdd, List.getElem_toArray, List.getElem_cons_succ, List.getElem_cons_zero, List.set_cons_succ, List.set_cons_zero]
            refine wpAnyZ_take (i := 25) rfl (by kernel_rfl) (fun _ _ _ h => h) (Or.inl ⟨by rfl, by intro w hSw; have s0 := hSw; go_simp; try with_reducible rfl⟩) m3.out ?_
            simp only [Act.put, List.setIfInBounds_toArray, Nat.reduceAdd, List.getElem_toArray, List.getElem_cons_succ, List.getElem_cons_zero, List.set_cons_succ, List.set_cons_zero]
            refine wpAnyZ_take (i := 26) rfl (by kernel_rfl) (fun _ _ _ h => h) (Or.inl ⟨by rfl, by intro w hSw; have s0 := hSw; go_simp; try with_reducible rfl⟩) m3.out ?_
            simp only [Act.put, List.setIfInBounds_toArray, Nat.reduceAdd, List.getElem_toArray, List.getElem_cons_succ, List.getElem_cons_zero, List.set_cons_succ, List.set_cons_zero]
            refine wpAnyZ_take (i := 27) rfl (by kernel_rfl) (fun _ _ _ h => h) (Or.inl ⟨by rfl, by intro w hSw; have s0 := hSw; go_simp; try with_reducible rfl⟩) m3.out ?_
            simp only [Act.put, List.setIfInBounds_toArray, Nat.reduceAdd, List.getElem_toArray, List.getElem_cons_succ, List.getElem_cons_zero, List.set_cons_succ, List.set_cons_zero]
            refine wpAnyZ_take (i := 28) rfl (by kernel_rfl) (fun _ _ _ h => h) (Or.inl ⟨by rfl, by intro w hSw; have s0 := hSw; go_simp; try with_reducible rfl⟩) m3.out ?_
            simp only [Act.put, List.setIfInBounds_toArray, Nat.reduceAdd, List.getElem_toArray, List.getElem_cons_succ, List.getElem_cons_zero, List.set_cons_succ, List.set_cons_zero]
            refine wpAnyZ_take (i := 30) rfl (by kernel_rfl) (fun _ _ _ h => h) (Or.inl ⟨by rfl, by intro w hSw; have s0 := hSw; go_simp; try with_reducible rfl⟩) m3.out ?_
            simp only [Act.put, List.setIfInBounds_toArray, Nat.reduceAdd, List.getElem_toArray, List.getElem_cons_succ, List.getElem_cons_zero, List.set_cons_succ, List.set_cons_zero]
            refine wpAnyZ_take (i := 31) rfl (by kernel_rfl) (fun _ _ _ h => h) (Or.inl ⟨by rfl, by intro w hSw; have s0 := hSw; go_simp; try with_reducible rfl⟩) m3.out ?_
            simp only [Act.put, List.setIfInBounds_toArray, Nat.reduceAdd, List.getElem_toArray, List.getElem_cons_succ, List.getElem_cons_zero, List.set_cons_succ, List.set_cons_zero]
            refine wpAnyZ_take (i := 32) rfl (by kernel_rfl) (fun _ _ _ h => h) (Or.inl ⟨by rfl, by intro w hSw; have s0 := hSw; go_simp; try with_reducible rfl⟩) m3.out ?_
            simp only [Act.put, List.setIfInBounds_toArray, Nat.reduceAdd, List.getElem_toArray, List.getElem_cons_succ, List.getElem_cons_zero, List.set_cons_succ, List.set_cons_zero]
            refine wpAnyZ_take (i := 33) rfl (by kernel_rfl) (fun _ _ _ h => h) (Or.inl ⟨by rfl, by intro w hSw; have s0 := hSw; go_simp; try with_reducible rfl⟩) m3.out ?_
            simp only [Act.put, List.setIfInBounds_toArray, Nat.reduceAdd, List.getElem_toArray, List.getElem_cons_succ, List.getElem_cons_zero, List.set_cons_succ, List.set_cons_zero]
            refine wpAnyZ_take (i := 34) rfl (by kernel_rfl) (fun _ _ _ h => h) (Or.inl ⟨by rfl, by intro w hSw; have s0 := hSw; go_simp; try with_reducible rfl⟩) m3.out ?_
            simp only [Act.put, List.setIfInBounds_toArray, Nat.reduceAdd, List.getElem_toArray, List.getElem_cons_succ, List.getElem_cons_zero, List.set_cons_succ, List.set_cons_zero]
            refine wpAnyZ_one (i := 29) (by kernel_rfl) rfl (fun K hK => ?_)
            go_simp
            refine HS.out.mono ?_
            rintro e w4 ⟨u, rfl, hu, hb4⟩
            obtain ⟨A4, c4', rfl⟩ := own_form hu
            have P7 := Lib.hid (P6.out.more hb4)
            have U4 := Lib.hid hu
            have HS2 := Lib.hid (rstuff_any _ _ f m w4 (P7.out.sit.row HR.out) (by omega) hm)
            have m4 := Lib.hid (HCELL.out _ P7.out.sit.below)
            refine hK.out _ _ (fun _ => m4.out) ?_
            clear hK K m3 hu hb4 HS P6
            try simp only [Act.put, List.setIfInBounds_toArray, Nat.reduceAdd, List.getElem_toArray, List.getElem_cons_succ, List.getElem_cons_zero, List.set_cons_succ, List.set_cons_zero]
            refine wpAnyZ_one (i := 35) (by kernel_rfl) rfl (fun K hK => ?_)
            go_simp
            refine HS2.out.mono ?_
            rintro e w5 ⟨u, rfl, hu, hb5⟩
            obtain ⟨A5, c5', rfl⟩ := own_form hu
            have P8 := Lib.hid (P7.out.more hb5)
            have HSA := same_any _ _ _ _ (Pure.stuff m f) (Pure.stuff m f) w5 (Row.of_own (ownsRow_keeps U4.out (Keeps.new hb5) (fun _ _ h => h))) (Row.of_own hu)
            rw [decide_eq_true rfl] at HSA
            have HS3 := Lib.hid HSA
            have m5 := Lib.hid (HCELL.out _ P8.out.sit.below)
            refine hK.out _ _ (fun _ => m5.out) ?_
            clear hK K m4 hu hb5 HS2 P7 HSA U4
            try simp only [Act.put, List.setIfInBounds_toArray, Nat.reduceAdd, List.getElem_toArray, List.getElem_cons_succ, List.getElem_cons_zero, List.set_cons_succ, List.set_cons_zero]
            refine wpAnyZ_one (i := 36) (by kernel_rfl) rfl (fun K hK => ?_)
            go_simp
            refine HS3.out.mono ?_
            rintro e w6 ⟨rfl, hk6⟩
            have P9 := Lib.hid (P8.out.quiet hk6)
            have m6 := Lib.hid (HCELL.out _ P9.out.sit.below)
            refine hK.out _ _ (fun _ => m6.out) ?_
            clear hK K m5 hk6 HS3 P8
            try simp only [Act.put, List.setIfInBounds_toArray, Nat.reduceAdd, List.getElem_toArray, List.getElem_cons_succ, List.getElem_cons_zero, List.set_cons_succ, List.set_cons_zero]
            refine wpAnyZ_take (i := 37) rfl (by kernel_rfl) (fun _ _ _ h => h) (Or.inl ⟨by rfl, by intro w hSw; have s0 := hSw; go_simp; try with_reducible rfl⟩) m6.out ?_
            simp only [Act.put, List.setIfInBounds_toArray, Nat.reduceAdd, List.getElem_toArray, List.getElem_cons_succ, List.getElem_cons_zero, List.set_cons_succ, List.set_cons_zero]
            refine wpAnyZ_one (i := 38) (by kernel_rfl) rfl (fun K hK => ?_)
            go_simp
            refine hK.out _ _ (fun h => absurd rfl h) ?_
            refine wpAnyZ_done (by kernel_rfl) ?_ _
            clear hK K m6 hne
            go_wp2
            go_roundw
            case rel => exact ⟨k + 1, by omega, by go_num, cv2, mv2, by rw [NX.out]; exact P9.out⟩
            case measure => simp [intOf]; omega
          · go_simp
            refine hK.out _ _ (fun _ => m3.out) ?_
            clear hK K
            try simp only [Act.put, List.setIfInBounds_toArray, Nat.reduceAdd, List.getElem_toArray, List.getElem_cons_succ, List.getElem_cons_zero, List.set_cons_succ, List.set_cons_zero]
            refine wpAnyZ_one (i := 16) (by kernel_rfl) rfl (fun K hK => ?_)
            go_simp
            refine HD.out.mono ?_
            rintro e w' ⟨rfl, rfl⟩
            refine hK.out _ _ (fun _ => m3.out) ?_
            clear hK K
            try simp only [Act.put, List.setIfInBounds_toArray, Nat.reduceAdd, List.getElem_toArray, List.getElem_cons_succ, List.getElem_cons_zero, List.set_cons_succ, List.set_cons_zero]
            refine wpAnyZ_take (i := 21) rfl (by kernel_rfl) (fun _ _ _ h => h) (Or.inl ⟨by rfl, by intro w hSw; have s0 := hSw; go_simp; try with_reducible rfl⟩) m3.out ?_
            simp only [Act.put, List.setIfInBounds_toArray, Nat.reduceAdd, List.getElem_toArray, List.getElem_cons_succ, List.getElem_cons_zero, List.set_cons_succ, List.set_cons_zero]
            refine wpAnyZ_take (i := 22) rfl (by kernel_rfl) (fun _ _ _ h => h) (Or.inl ⟨by rfl, by intro w hSw; have s0 := hSw; go_simp; try with_reducible rfl⟩) m3.out ?_
            simp only [Act.put, List.setIfInBounds_toArray, Nat.reduceAdd, List.getElem_toArray, List.getElem_cons_succ, List.getElem_cons_zero, List.set_cons_succ, List.set_cons_zero]
            refine wpAnyZ_take (i := 23) rfl (by kernel_rfl) (fun _ _ _ h => h) (Or.inl ⟨by rfl, by intro w hSw; have s0 := hSw; go_simp; try with_reducible rfl⟩) m3.out ?_
            simp only [Act.put, List.setIfInBounds_toArray, Nat.reduceAdd, List.getElem_toArray, List.getElem_cons_succ, List.getElem_cons_zero, List.set_cons_succ, List.set_cons_zero]
            refine wpAnyZ_take (i := 24) rfl (by kernel_rfl) (fun _ _ _ h => h) (Or.inl ⟨by rfl, by intro w hSw; have s0 := hSw; go_simp; try with_reducible rfl⟩) m3.out ?_
            simp only [Act.put, List.setIfInBounds_toArray, Nat.reduceAdd, List.getElem_toArray, List.getElem_cons_succ, List.getElem_cons_zero, List.set_cons_succ, List.set_cons_zero]
            refine wpAnyZ_take (i := 25) rfl (by kernel_rfl) (fun _ _ _ h => h) (Or.inl ⟨by rfl, by intro w hSw; have s0 := hSw; go_simp; try with_reducible rfl⟩) m3.out ?_
            simp only [Act.put, List.setIfInBounds_toArray, Nat.reduceAdd, List.getElem_toArray, List.getElem_cons_succ, List.getElem_cons_zero, List.set_cons_succ, List.set_cons_zero]
            refine wpAnyZ_take (i := 26) rfl (by kernel_rfl) (fun _ _ _ h => h) (Or.inl ⟨by rfl, by intro w hSw; have s0 := hSw; go_simp; try with_reducible rfl⟩) m3.out ?_
            simp only [Act.put, List.setIfInBounds_toArray, Nat.reduceAdd, List.getElem_toArray, List.getElem_cons_succ, List.getElem_cons_zero, List.set_cons_succ, List.set_cons_zero]
            refine wpAnyZ_take (i := 27) rfl (by kernel_rfl) (fun _ _ _ h => h) (Or.inl ⟨by rfl, by intro w hSw; have s0 := hSw; go_simp; try with_reducible rfl⟩) m3.out ?_
            simp only [Act.put, List.setIfInBounds_toArray, Nat.reduceAdd, List.getElem_toArray, List.getElem_cons_succ, List.getElem_cons_zero, List.set_cons_succ, List.set_cons_zero]
            refine wpAnyZ_take (i := 28) rfl (by kernel_rfl) (fun _ _ _ h => h) (Or.inl ⟨by rfl, by intro w hSw; have s0 := hSw; go_simp; try with_reducible rfl⟩) m3.out ?_
            simp only [Act.put, List.setIfInBounds_toArray, Nat.reduceAdd, List.getElem_toArray, List.getElem_cons_succ, List.getElem_cons_zero, List.set_cons_succ, List.set_cons_zero]
            refine wpAnyZ_take (i := 30) rfl (by kernel_rfl) (fun _ _ _ h => h) (Or.inl ⟨by rfl, by intro w hSw; have s0 := hSw; go_simp; try with_reducible rfl⟩) m3.out ?_
            simp only [Act.put, List.setIfInBounds_toArray, Nat.reduceAdd, List.getElem_toArray, List.getElem_cons_succ, List.getElem_cons_zero, List.set_cons_succ, List.set_cons_zero]
            refine wpAnyZ_take (i := 31) rfl (by kernel_rfl) (fun _ _ _ h => h) (Or.inl ⟨by rfl, by intro w hSw; have s0 := hSw; go_simp; try with_reducible rfl⟩) m3.out ?_
            simp only [Act.put, List.setIfInBounds_toArray, Nat.reduceAdd, List.getElem_toArray, List.getElem_cons_succ, List.getElem_cons_zero, List.set_cons_succ, List.set_cons_zero]
            refine wpAnyZ_take (i := 32) rfl (by kernel_rfl) (fun _ _ _ h => h) (Or.inl ⟨by rfl, by intro w hSw; have s0 := hSw; go_simp; try with_reducible rfl⟩) m3.out ?_
            simp only [Act.put, List.setIfInBounds_toArray, Nat.reduceAdd, List.getElem_toArray, List.getElem_cons_succ, List.getElem_cons_zero, List.set_cons_succ, List.set_cons_zero]
            refine wpAnyZ_take (i := 33) rfl (by kernel_rfl) (fun _ _ _ h => h) (Or.inl ⟨by rfl, by intro w hSw; have s0 := hSw; go_simp; try with_reducible rfl⟩) m3.out ?_
            simp only [Act.put, List.setIfInBounds_toArray, Nat.reduceAdd, List.getElem_toArray, List.getElem_cons_succ, List.getElem_cons_zero, List.set_cons_succ, List.set_cons_zero]
            refine wpAnyZ_take (i := 34) rfl (by kernel_rfl) (fun _ _ _ h => h) (Or.inl ⟨by rfl, by intro w hSw; have s0 := hSw; go_simp; try with_reducible rfl⟩) m3.out ?_
            simp only [Act.put, List.setIfInBounds_toArray, Nat.reduceAdd, List.getElem_toArray, List.getElem_cons_succ, List.getElem_cons_zero, List.set_cons_succ, List.set_cons_zero]
            refine wpAnyZ_one (i := 29) (by kernel_rfl) rfl (fun K hK => ?_)
            go_simp
            refine HS.out.mono ?_
            rintro e w4 ⟨u, rfl, hu, hb4⟩
            obtain ⟨A4, c4', rfl⟩ := own_form hu
            have P7 := Lib.hid (P6.out.more hb4)
            have U4 := Lib.hid hu
            have HS2 := Lib.hid (rstuff_any _ _ f m w4 (P7.out.sit.row HR.out) (by omega) hm)
            have m4 := Lib.hid (HCELL.out _ P7.out.sit.below)
            refine hK.out _ _ (fun _ => m4.out) ?_
            clear hK K m3 hu hb4 HS P6
            try simp only [Act.put, List.setIfInBounds_toArray, Nat.reduceAdd, List.getElem_toArray, List.getElem_cons_succ, List.getElem_cons_zero, List.set_cons_succ, List.set_cons_zero]
            refine wpAnyZ_one (i := 35) (by kernel_rfl) rfl (fun K hK => ?_)
            go_simp
            refine HS2.out.mono ?_
            rintro e w5 ⟨u, rfl, hu, hb5⟩
            obtain ⟨A5, c5', rfl⟩ := own_form hu
            have P8 := Lib.hid (P7.out.more hb5)
            have HSA := same_any _ _ _ _ (Pure.stuff m f) (Pure.stuff m f) w5 (Row.of_own (ownsRow_keeps U4.out (Keeps.new hb5) (fun _ _ h => h))) (Row.of_own hu)
            rw [decide_eq_true rfl] at HSA
            have HS3 := Lib.hid HSA
            have m5 := Lib.hid (HCELL.out _ P8.out.sit.below)
            refine hK.out _ _ (fun _ => m5.out) ?_
            clear hK K m4 hu hb5 HS2 P7 HSA U4
            try simp only [Act.put, List.setIfInBounds_toArray, Nat.reduceAdd, List.getElem_toArray, List.getElem_cons_succ, List.getElem_cons_zero, List.set_cons_succ, List.set_cons_zero]
            refine wpAnyZ_one (i := 36) (by kernel_rfl) rfl (fun K hK => ?_)
            go_simp
            refine HS3.out.mono ?_
            rintro e w6 ⟨rfl, hk6⟩
            have P9 := Lib.hid (P8.out.quiet hk6)
            have m6 := Lib.hid (HCELL.out _ P9.out.sit.below)
            refine hK.out _ _ (fun _ => m6.out) ?_
            clear hK K m5 hk6 HS3 P8
            try simp only [Act.put, List.setIfInBounds_toArray, Nat.reduceAdd, List.getElem_toArray, List.getElem_cons_succ, List.getElem_cons_zero, List.set_cons_succ, List.set_cons_zero]
            refine wpAnyZ_take (i := 37) rfl (by kernel_rfl) (fun _ _ _ h => h) (Or.inl ⟨by rfl, by intro w hSw; have s0 := hSw; go_simp; try with_reducible rfl⟩) m6.out ?_
            simp only [Act.put, List.setIfInBounds_toArray, Nat.reduceAdd, List.getElem_toArray, List.getElem_cons_succ, List.getElem_cons_zero, List.set_cons_succ, List.set_cons_zero]
            refine wpAnyZ_one (i := 38) (by kernel_rfl) rfl (fun K hK => ?_)
            go_simp
            refine hK.out _ _ (fun h => absurd rfl h) ?_
            refine wpAnyZ_done (by kernel_rfl) ?_ _
            clear hK K m6 hne
            go_wp2
            go_roundw
            case rel => exact ⟨k + 1, by omega, by go_num, cv2, mv2, by rw [NX.out]; exact P9.out⟩
            case measure => simp [intOf]; omega
        · have HRS := Lib.hid (reset_any _ _ _ m wr P2.out.sit.obj hm)
          have hnear := (Pure.DF.feed_near (firstParts ps k) ⟨m, n, [], false, 0⟩)
          have hmost := hnear.most
          have hfpl := firstParts_length ps 300 SM.out k (by have := HN.out; omega)
          obtain ⟨d, hd⟩ : ∃ d, d = ((⟨m, n, [], false, 0⟩ : Pure.DF).feed (firstParts ps k)).1 := ⟨_, rfl⟩
          rw [← hd] at P2 HRS hmost hnear
          have hdd : d.dropped ≤ 12000 := by have := hnear.hi; simp at this; omega
          clear hd hnear hfpl
          go_wp2_with fail
          refine HRS.out.mono ?_
          rintro e w1 ⟨rfl, hd1, hk1⟩
          have P3 := Lib.hid (P2.out.store hd1 hk1)
          clear hd1 hk1 HRS P2
          have hg1 : g < w1.heap.size := P3.out.sit.obj.lt
          have NF := Lib.hid (fun (b : Nat) (hb : w1.heap.size ≤ b) => P3.out.sit.apart b hb)
          have P4 := Lib.hid (P3.out.quiet (Keeps.refl nobody w1).drew)
          have c4 : w1.drew.cell? ⟨gm, 4, none⟩ = some (.int .i64 d.dropped) := by rw [P4.out.ref.blk.cell]; rfl
          have hbeq : ((d.dropped : Int) == (d.dropped : Int)) = true := by simp
          have HD := Lib.hid (dropped_any _ _ _ _ P4.out.sit.obj)
          have hlt4 : w1.heap.size ≤ w1.drew.heap.size := Nat.le_refl _
          have FL := Lib.hid (feeds_last m d.most d.dropped (by omega))
          obtain ⟨w4, hw4⟩ : ∃ w4, w4 = w1.drew := ⟨_, rfl⟩
          go_upto_region 17 with fail
          refine wp_region_Z (fun w' => w'.cell? ⟨gm, 4, none⟩ = some (.int .i64 d.dropped)) 15 16 rfl (by kernel_rfl) c4 (fun hHeld => ?_)
          rw [← hw4] at P4 HD hlt4 c4 hHeld ⊢
          clear hw4 P3
          refine wpAnyZ_take (i := 0) rfl (by kernel_rfl) (fun _ _ _ h => h) (Or.inl ⟨by rfl, by intro w hSw; have s0 := hSw; go_simp; try with_reducible rfl⟩) hHeld.out ?_
          simp only [Act.put, List.setIfInBounds_toArray, Nat.reduceAdd, List.getElem_toArray, List.getElem_cons_succ, List.getElem_cons_zero, List.set_cons_succ, List.set_cons_zero]
          refine wpAnyZ_take (i := 2) rfl (by kernel_rfl) (fun _ _ _ h => h) (Or.inl ⟨by rfl, by intro w hSw; have s0 := hSw; go_simp; try with_reducible rfl⟩) hHeld.out ?_
          simp only [Act.put, List.setIfInBounds_toArray, Nat.reduceAdd, List.getElem_toArray, List.getElem_cons_succ, List.getElem_cons_zero, List.set_cons_succ, List.set_cons_zero]
          refine wpAnyZ_take (i := 3) rfl (by kernel_rfl) (fun _ _ _ h => h) (Or.inl ⟨by rfl, by intro w hSw; have s0 := hSw; go_simp; try with_reducible rfl⟩) hHeld.out ?_
          simp only [Act.put, List.setIfInBounds_toArray, Nat.reduceAdd, List.getElem_toArray, List.getElem_cons_succ, List.getElem_cons_zero, List.set_cons_succ, List.set_cons_zero]
          refine wpAnyZ_take (i := 4) rfl (by kernel_rfl) (fun _ _ _ h => h) (Or.inl ⟨by rfl, by intro w hSw; have s0 := hSw; go_simp; try with_reducible rfl⟩) hHeld.out ?_
          simp only [Act.put, List.setIfInBounds_toArray, Nat.reduceAdd, List.getElem_toArray, List.getElem_cons_succ, List.getElem_cons_zero, List.set_cons_succ, List.set_cons_zero]
          refine wpAnyZ_take (i := 5) rfl (by kernel_rfl) (fun _ _ _ h => h) (Or.inl ⟨by rfl, by intro w hSw; have s0 := hSw; go_simp; try with_reducible rfl⟩) hHeld.out ?_
          simp only [Act.put, List.setIfInBounds_toArray, Nat.reduceAdd, List.getElem_toArray, List.getElem_cons_succ, List.getElem_cons_zero, List.set_cons_succ, List.set_cons_zero]
          refine wpAnyZ_one (i := 1) (by kernel_rfl) rfl (fun K hK => ?_)
          go_simp
          refine HD.out.mono ?_
          rintro e w' ⟨rfl, rfl⟩
          refine hK.out _ _ (fun _ => hHeld.out) ?_
          clear hK K HD
          try simp only [Act.put, List.setIfInBounds_toArray, Nat.reduceAdd, List.getElem_toArray, List.getElem_cons_succ, List.getElem_cons_zero, List.set_cons_succ, List.set_cons_zero]
          refine wpAnyZ_take (i := 6) rfl (by kernel_rfl) (fun _ _ _ h => h) (Or.inl ⟨by rfl, by intro w hSw; have s0 := hSw; go_simp; try with_reducible rfl⟩) hHeld.out ?_
          simp only [Act.put, List.setIfInBounds_toArray, Nat.reduceAdd, List.getElem_toArray, List.getElem_cons_succ, List.getElem_cons_zero, List.set_cons_succ, List.set_cons_zero]
          refine wpAnyZ_take (i := 7) rfl (by kernel_rfl) (fun _ _ _ h => h) (Or.inl ⟨by rfl, by intro w hSw; have s0 := hSw; go_simp; try with_reducible rfl⟩) hHeld.out ?_
          simp only [Act.put, List.setIfInBounds_toArray, Nat.reduceAdd, List.getElem_toArray, List.getElem_cons_succ, List.getElem_cons_zero, List.set_cons_succ, List.set_cons_zero]
          refine wpAnyZ_take (i := 8) rfl (by kernel_rfl) (fun _ _ _ h => h) (Or.inl ⟨by rfl, by intro w hSw; have s0 := hSw; go_simp; try with_reducible rfl⟩) hHeld.out ?_
          simp only [Act.put, List.setIfInBounds_toArray, Nat.reduceAdd, List.getElem_toArray, List.getElem_cons_succ, List.getElem_cons_zero, List.set_cons_succ, List.set_cons_zero]
          clear hHeld c4 hbeq
          refine wpAnyZ_two (i := 9) (j := 11) (by kernel_rfl) rfl rfl (fun K hK => ?_) (fun K hK => ?_)
          · go_simp
            have P5a := P4.out.alloc (.cells #[.int .u8 32, .int .u8 126] 5)
            have R9a := (row_new w4 [32, 126] #[.int .u8 32, .int .u8 126] 2 rfl rfl (by simp)).mono (G := fun b => w1.heap.size ≤ b) (fun b hb => by rw [hb]; exact hlt4)
            have hlt5 : w1.heap.size ≤ (w4.alloc (.cells #[.int .u8 32, .int .u8 126] 5)).heap.size := by have := hlt4; simp; omega
            obtain ⟨w5, hw5⟩ : ∃ w5, w5 = w4.alloc (.cells #[.int .u8 32, .int .u8 126] 5) := ⟨_, rfl⟩
            rw [← hw5] at P5a hlt5 R9a ⊢
            have P5 := Lib.hid P5a
            have R9_5 := Lib.hid R9a
            refine hK.out _ _ (fun _ => by rw [P5.out.ref.blk.cell]; rfl) ?_
            clear hK K hw5 P5a R9a
            try simp only [Act.put, List.setIfInBounds_toArray, Nat.reduceAdd, List.getElem_toArray, List.getElem_cons_succ, List.getElem_cons_zero, List.set_cons_succ, List.set_cons_zero]
            refine wpAnyZ_two (i := 10) (j := 11) (by kernel_rfl) rfl rfl (fun K hK => ?_) (fun K hK => ?_)
            · go_simp
              have HF : Calls Try.prog 14 #[.pointer (some ⟨g, 0, none⟩), .slice (some ⟨w4.heap.size, 0, none⟩) 2 2] w5 _ := feed_any _ _ _ _ _ [32, 126] w5 P5.out.sit.obj R9_5.out NF.out (by simp; omega) (by simp)
              refine HF.mono ?_
              rintro e w6 ⟨x, cv2, px, rfl, hpx, hat⟩
              rw [FL.out] at hpx
              have PX := Lib.hid hpx
              obtain ⟨AX, cX, rfl⟩ := told_len hat.told
              have P6 := Lib.hid (P5.out.fedD hat)
              have TX_6 := Lib.hid (hat.told)
              have hlt6 : w1.heap.size ≤ w6.heap.size := Nat.le_trans hlt5 hat.keep.size
              refine hK.out _ _ (fun _ => by rw [P6.out.ref.blk.cell]; rfl) ?_
              clear hK K hpx hat HF
              try simp only [Act.put, List.setIfInBounds_toArray, Nat.reduceAdd, List.getElem_toArray, List.getElem_cons_succ, List.getElem_cons_zero, List.set_cons_succ, List.set_cons_zero]
              refine wpAnyZ_one (i := 11) (by kernel_rfl) rfl (fun K hK => ?_)
              go_simp
              have P7a := P6.out.alloc (.cells #[.int .u8 32] 5)
              have R11a := (row_new w6 [32] #[.int .u8 32] 1 rfl rfl (by simp)).mono (G := fun b => w1.heap.size ≤ b) (fun b hb => by rw [hb]; exact hlt6)
              have TXa := TX_6.out.keeps ((Keeps.refl nobody w6).alloc (.cells #[.int .u8 32] 5)) (fun _ _ h => h) (fun _ _ _ _ h => h)
              have hlt7 : w1.heap.size ≤ (w6.alloc (.cells #[.int .u8 32] 5)).heap.size := by have := hlt6; simp; omega
              obtain ⟨w7, hw7⟩ : ∃ w7, w7 = w6.alloc (.cells #[.int .u8 32] 5) := ⟨_, rfl⟩
              rw [← hw7] at P7a hlt7 R11a TXa ⊢
              have P7 := Lib.hid P7a
              have R11_7 := Lib.hid R11a
              have TX_7 := Lib.hid TXa
              refine hK.out _ _ (fun _ => by rw [P7.out.ref.blk.cell]; rfl) ?_
              clear hK K hw7 P7a R11a TXa
              try simp only [Act.put, List.setIfInBounds_toArray, Nat.reduceAdd, List.getElem_toArray, List.getElem_cons_succ, List.getElem_cons_zero, List.set_cons_succ, List.set_cons_zero]
              refine wpAnyZ_one (i := 12) (by kernel_rfl) rfl (fun K hK => ?_)
              go_simp
              have P8a := P7.out.alloc (.cells #[.slice (some ⟨w6.heap.size, 0, none⟩) 1 1] 28)
              have F12a := frow_new w7 (fun b => w1.heap.size ≤ b) [(.slice (some ⟨w6.heap.size, 0, none⟩) 1 1, [32])] #[.slice (some ⟨w6.heap.size, 0, none⟩) 1 1] 1 rfl rfl (by simp) (by simpa using R11_7.out)
              have TXa := TX_7.out.keeps ((Keeps.refl nobody w7).alloc (.cells #[.slice (some ⟨w6.heap.size, 0, none⟩) 1 1] 28)) (fun _ _ h => h) (fun _ _ _ _ h => h)
              have hlt8 : w1.heap.size ≤ (w7.alloc (.cells #[.slice (some ⟨w6.heap.size, 0, none⟩) 1 1] 28)).heap.size := by have := hlt7; simp; omega
              obtain ⟨w8, hw8⟩ : ∃ w8, w8 = w7.alloc (.cells #[.slice (some ⟨w6.heap.size, 0, none⟩) 1 1] 28) := ⟨_, rfl⟩
              rw [← hw8] at P8a hlt8 F12a TXa ⊢
              have P8 := Lib.hid P8a
              have F12_8 := Lib.hid F12a
              have TX_8 := Lib.hid TXa
              refine hK.out _ _ (fun _ => by rw [P8.out.ref.blk.cell]; rfl) ?_
              clear hK K hw8 P8a F12a TXa
              try simp only [Act.put, List.setIfInBounds_toArray, Nat.reduceAdd, List.getElem_toArray, List.getElem_cons_succ, List.getElem_cons_zero, List.set_cons_succ, List.set_cons_zero]
              have FX := Lib.hid (frames_true _ _ _ _ px [(.slice (some ⟨w6.heap.size, 0, none⟩) 1 1, [32])] w8 TX_8.out.frow F12_8.out (by rw [PX.out]; rfl))
              refine wpAnyZ_one (i := 13) (by kernel_rfl) rfl (fun K hK => ?_)
              go_simp
              refine FX.out.mono ?_
              rintro e w99 ⟨rfl, hk9⟩
              have P99 := Lib.hid (P8.out.quiet hk9)
              have hd99 := Lib.hid (show w99.cell? ⟨gm, 4, none⟩ = some (.int .i64 d.dropped) by rw [P99.out.ref.blk.cell]; rfl)
              refine hK.out _ _ (fun _ => hd99.out) ?_
              clear hK K hk9 FX
              try simp only [Act.put, List.setIfInBounds_toArray, Nat.reduceAdd, List.getElem_toArray, List.getElem_cons_succ, List.getElem_cons_zero, List.set_cons_succ, List.set_cons_zero]
              refine wpAnyZ_take (i := 14) rfl (by kernel_rfl) (fun _ _ _ h => h) (Or.inl ⟨by rfl, by intro w hSw; have s0 := hSw; go_simp; try with_reducible rfl⟩) hd99.out ?_
              simp only [Act.put, List.setIfInBounds_toArray, Nat.reduceAdd, List.getElem_toArray, List.getElem_cons_succ, List.getElem_cons_zero, List.set_cons_succ, List.set_cons_zero]
              refine wpAnyZ_one (i := 15) (by kernel_rfl) rfl (fun K hK => ?_)
              go_simp
              refine hK.out _ _ (fun h => absurd rfl h) ?_
              refine wpAnyZ_done (by kernel_rfl) ?_ _
              clear hK K hd99
              go_wp2
              go_ret
              exact ⟨rfl, P99.out.sit.below⟩
            · go_simp
              have P9a := P5.out.alloc (.cells #[.int .u8 32] 5)
              have R11a := (row_new w5 [32] #[.int .u8 32] 1 rfl rfl (by simp)).mono (G := fun b => w1.heap.size ≤ b) (fun b hb => by rw [hb]; exact hlt5)
              have R9a := R9_5.out.keeps ((Keeps.refl nobody w5).alloc (.cells #[.int .u8 32] 5)) (fun _ _ h => h)
              have hlt9 : w1.heap.size ≤ (w5.alloc (.cells #[.int .u8 32] 5)).heap.size := by have := hlt5; simp; omega
              obtain ⟨w9, hw9⟩ : ∃ w9, w9 = w5.alloc (.cells #[.int .u8 32] 5) := ⟨_, rfl⟩
              rw [← hw9] at P9a hlt9 R9a R11a ⊢
              have P9 := Lib.hid P9a
              have R9_9 := Lib.hid R9a
              have R11_9 := Lib.hid R11a
              refine hK.out _ _ (fun _ => by rw [P9.out.ref.blk.cell]; rfl) ?_
              clear hK K hw9 P9a R9a R11a
              try simp only [Act.put, List.setIfInBounds_toArray, Nat.reduceAdd, List.getElem_toArray, List.getElem_cons_succ, List.getElem_cons_zero, List.set_cons_succ, List.set_cons_zero]
              refine wpAnyZ_two (i := 10) (j := 12) (by kernel_rfl) rfl rfl (fun K hK => ?_) (fun K hK => ?_)
              · go_simp
                have HF : Calls Try.prog 14 #[.pointer (some ⟨g, 0, none⟩), .slice (some ⟨w4.heap.size, 0, none⟩) 2 2] w9 _ := feed_any _ _ _ _ _ [32, 126] w9 P9.out.sit.obj R9_9.out NF.out (by simp; omega) (by simp)
                refine HF.mono ?_
                rintro e w10 ⟨x, cv2, px, rfl, hpx, hat⟩
                rw [FL.out] at hpx
                have PX := Lib.hid hpx
                obtain ⟨AX, cX, rfl⟩ := told_len hat.told
                have P10 := Lib.hid (P9.out.fedD hat)
                have TX_10 := Lib.hid (hat.told)
                have hlt10 : w1.heap.size ≤ w10.heap.size := Nat.le_trans hlt9 hat.keep.size
                have R11_10 := Lib.hid (R11_9.out.keeps hat.keep NF.out)
                refine hK.out _ _ (fun _ => by rw [P10.out.ref.blk.cell]; rfl) ?_
                clear hK K hpx hat HF
                try simp only [Act.put, List.setIfInBounds_toArray, Nat.reduceAdd, List.getElem_toArray, List.getElem_cons_succ, List.getElem_cons_zero, List.set_cons_succ, List.set_cons_zero]
                refine wpAnyZ_one (i := 12) (by kernel_rfl) rfl (fun K hK => ?_)
                go_simp
                have P11a := P10.out.alloc (.cells #[.slice (some ⟨w5.heap.size, 0, none⟩) 1 1] 28)
                have F12a := frow_new w10 (fun b => w1.heap.size ≤ b) [(.slice (some ⟨w5.heap.size, 0, none⟩) 1 1, [32])] #[.slice (some ⟨w5.heap.size, 0, none⟩) 1 1] 1 rfl rfl (by simp) (by simpa using R11_10.out)
                have TXa := TX_10.out.keeps ((Keeps.refl nobody w10).alloc (.cells #[.slice (some ⟨w5.heap.size, 0, none⟩) 1 1] 28)) (fun _ _ h => h) (fun _ _ _ _ h => h)
                have hlt11 : w1.heap.size ≤ (w10.alloc (.cells #[.slice (some ⟨w5.heap.size, 0, none⟩) 1 1] 28)).heap.size := by have := hlt10; simp; omega
                obtain ⟨w11, hw11⟩ : ∃ w11, w11 = w10.alloc (.cells #[.slice (some ⟨w5.heap.size, 0, none⟩) 1 1] 28) := ⟨_, rfl⟩
                rw [← hw11] at P11a hlt11 F12a TXa ⊢
                have P11 := Lib.hid P11a
                have F12_11 := Lib.hid F12a
                have TX_11 := Lib.hid TXa
                refine hK.out _ _ (fun _ => by rw [P11.out.ref.blk.cell]; rfl) ?_
                clear hK K hw11 P11a F12a TXa
                try simp only [Act.put, List.setIfInBounds_toArray, Nat.reduceAdd, List.getElem_toArray, List.getElem_cons_succ, List.getElem_cons_zero, List.set_cons_succ, List.set_cons_zero]
                have FX := Lib.hid (frames_true _ _ _ _ px [(.slice (some ⟨w5.heap.size, 0, none⟩) 1 1, [32])] w11 TX_11.out.frow F12_11.out (by rw [PX.out]; rfl))
                refine wpAnyZ_one (i := 13) (by kernel_rfl) rfl (fun K hK => ?_)
                go_simp
                refine FX.out.mono ?_
                rintro e w99 ⟨rfl, hk9⟩
                have P99 := Lib.hid (P11.out.quiet hk9)
                have hd99 := Lib.hid (show w99.cell? ⟨gm, 4, none⟩ = some (.int .i64 d.dropped) by rw [P99.out.ref.blk.cell]; rfl)
                refine hK.out _ _ (fun _ => hd99.out) ?_
                clear hK K hk9 FX
                try simp only [Act.put, List.setIfInBounds_toArray, Nat.reduceAdd, List.getElem_toArray, List.getElem_cons_succ, List.getElem_cons_zero, List.set_cons_succ, List.set_cons_zero]
                refine wpAnyZ_take (i := 14) rfl (by kernel_rfl) (fun _ _ _ h => h) (Or.inl ⟨by rfl, by intro w hSw; have s0 := hSw; go_simp; try with_reducible rfl⟩) hd99.out ?_
                simp only [Act.put, List.setIfInBounds_toArray, Nat.reduceAdd, List.getElem_toArray, List.getElem_cons_succ, List.getElem_cons_zero, List.set_cons_succ, List.set_cons_zero]
                refine wpAnyZ_one (i := 15) (by kernel_rfl) rfl (fun K hK => ?_)
                go_simp
                refine hK.out _ _ (fun h => absurd rfl h) ?_
                refine wpAnyZ_done (by kernel_rfl) ?_ _
                clear hK K hd99
                go_wp2
                go_ret
                exact ⟨rfl, P99.out.sit.below⟩
              · go_simp
                have P12a := P9.out.alloc (.cells #[.slice (some ⟨w5.heap.size, 0, none⟩) 1 1] 28)
                have F12a := frow_new w9 (fun b => w1.heap.size ≤ b) [(.slice (some ⟨w5.heap.size, 0, none⟩) 1 1, [32])] #[.slice (some ⟨w5.heap.size, 0, none⟩) 1 1] 1 rfl rfl (by simp) (by simpa using R11_9.out)
                have R9a := R9_9.out.keeps ((Keeps.refl nobody w9).alloc (.cells #[.slice (some ⟨w5.heap.size, 0, none⟩) 1 1] 28)) (fun _ _ h => h)
                have hlt12 : w1.heap.size ≤ (w9.alloc (.cells #[.slice (some ⟨w5.heap.size, 0, none⟩) 1 1] 28)).heap.size := by have := hlt9; simp; omega
                obtain ⟨w12, hw12⟩ : ∃ w12, w12 = w9.alloc (.cells #[.slice (some ⟨w5.heap.size, 0, none⟩) 1 1] 28) := ⟨_, rfl⟩
                rw [← hw12] at P12a hlt12 R9a F12a ⊢
                have P12 := Lib.hid P12a
                have R9_12 := Lib.hid R9a
                have F12_12 := Lib.hid F12a
                refine hK.out _ _ (fun _ => by rw [P12.out.ref.blk.cell]; rfl) ?_
                clear hK K hw12 P12a R9a F12a
                try simp only [Act.put, List.setIfInBounds_toArray, Nat.reduceAdd, List.getElem_toArray, List.getElem_cons_succ, List.getElem_cons_zero, List.set_cons_succ, List.set_cons_zero]
                refine wpAnyZ_one (i := 10) (by kernel_rfl) rfl (fun K hK => ?_)
                go_simp
                have HF : Calls Try.prog 14 #[.pointer (some ⟨g, 0, none⟩), .slice (some ⟨w4.heap.size, 0, none⟩) 2 2] w12 _ := feed_any _ _ _ _ _ [32, 126] w12 P12.out.sit.obj R9_12.out NF.out (by simp; omega) (by simp)
                refine HF.mono ?_
                rintro e w13 ⟨x, cv2, px, rfl, hpx, hat⟩
                rw [FL.out] at hpx
                have PX := Lib.hid hpx
                obtain ⟨AX, cX, rfl⟩ := told_len hat.told
                have P13 := Lib.hid (P12.out.fedD hat)
                have TX_13 := Lib.hid (hat.told)
                have hlt13 : w1.heap.size ≤ w13.heap.size := Nat.le_trans hlt12 hat.keep.size
                have F12_13 := Lib.hid (F12_12.out.keeps hat.keep (fun b hb => NF.out b (by rcases hb with rfl | h <;> first | exact hlt9 | exact h)))
                refine hK.out _ _ (fun _ => by rw [P13.out.ref.blk.cell]; rfl) ?_
                clear hK K hpx hat HF
                try simp only [Act.put, List.setIfInBounds_toArray, Nat.reduceAdd, List.getElem_toArray, List.getElem_cons_succ, List.getElem_cons_zero, List.set_cons_succ, List.set_cons_zero]
                have FX := Lib.hid (frames_true _ _ _ _ px [(.slice (some ⟨w5.heap.size, 0, none⟩) 1 1, [32])] w13 TX_13.out.frow F12_13.out (by rw [PX.out]; rfl))
                refine wpAnyZ_one (i := 13) (by kernel_rfl) rfl (fun K hK => ?_)
                go_simp
                refine FX.out.mono ?_
                rintro e w99 ⟨rfl, hk9⟩
                have P99 := Lib.hid (P13.out.quiet hk9)
                have hd99 := Lib.hid (show w99.cell? ⟨gm, 4, none⟩ = some (.int .i64 d.dropped) by rw [P99.out.ref.blk.cell]; rfl)
                refine hK.out _ _ (fun _ => hd99.out) ?_
                clear hK K hk9 FX
                try simp only [Act.put, List.setIfInBounds_toArray, Nat.reduceAdd, List.getElem_toArray, List.getElem_cons_succ, List.getElem_cons_zero, List.set_cons_succ, List.set_cons_zero]
                refine wpAnyZ_take (i := 14) rfl (by kernel_rfl) (fun _ _ _ h => h) (Or.inl ⟨by rfl, by intro w hSw; have s0 := hSw; go_simp; try with_reducible rfl⟩) hd99.out ?_
                simp only [Act.put, List.setIfInBounds_toArray, Nat.reduceAdd, List.getElem_toArray, List.getElem_cons_succ, List.getElem_cons_zero, List.set_cons_succ, List.set_cons_zero]
                refine wpAnyZ_one (i := 15) (by kernel_rfl) rfl (fun K hK => ?_)
                go_simp
                refine hK.out _ _ (fun h => absurd rfl h) ?_
                refine wpAnyZ_done (by kernel_rfl) ?_ _
                clear hK K hd99
                go_wp2
                go_ret
                exact ⟨rfl, P99.out.sit.below⟩
          · go_simp
            have P14a := P4.out.alloc (.cells #[.int .u8 32] 5)
            have R11a := (row_new w4 [32] #[.int .u8 32] 1 rfl rfl (by simp)).mono (G := fun b => w1.heap.size ≤ b) (fun b hb => by rw [hb]; exact hlt4)
            have hlt14 : w1.heap.size ≤ (w4.alloc (.cells #[.int .u8 32] 5)).heap.size := by have := hlt4; simp; omega
            obtain ⟨w14, hw14⟩ : ∃ w14, w14 = w4.alloc (.cells #[.int .u8 32] 5) := ⟨_, rfl⟩
            rw [← hw14] at P14a hlt14 R11a ⊢
            have P14 := Lib.hid P14a
            have R11_14 := Lib.hid R11a
            refine hK.out _ _ (fun _ => by rw [P14.out.ref.blk.cell]; rfl) ?_
            clear hK K hw14 P14a R11a
            try simp only [Act.put, List.setIfInBounds_toArray, Nat.reduceAdd, List.getElem_toArray, List.getElem_cons_succ, List.getElem_cons_zero, List.set_cons_succ, List.set_cons_zero]
            refine wpAnyZ_two (i := 9) (j := 12) (by kernel_rfl) rfl rfl (fun K hK => ?_) (fun K hK => ?_)
            · go_simp
              have P15a := P14.out.alloc (.cells #[.int .u8 32, .int .u8 126] 5)
              have R9a := (row_new w14 [32, 126] #[.int .u8 32, .int .u8 126] 2 rfl rfl (by simp)).mono (G := fun b => w1.heap.size ≤ b) (fun b hb => by rw [hb]; exact hlt14)
              have R11a := R11_14.out.keeps ((Keeps.refl nobody w14).alloc (.cells #[.int .u8 32, .int .u8 126] 5)) (fun _ _ h => h)
              have hlt15 : w1.heap.size ≤ (w14.alloc (.cells #[.int .u8 32, .int .u8 126] 5)).heap.size := by have := hlt14; simp; omega
              obtain ⟨w15, hw15⟩ : ∃ w15, w15 = w14.alloc (.cells #[.int .u8 32, .int .u8 126] 5) := ⟨_, rfl⟩
              rw [← hw15] at P15a hlt15 R9a R11a ⊢
              have P15 := Lib.hid P15a
              have R9_15 := Lib.hid R9a
              have R11_15 := Lib.hid R11a
              refine hK.out _ _ (fun _ => by rw [P15.out.ref.blk.cell]; rfl) ?_
              clear hK K hw15 P15a R9a R11a
              try simp only [Act.put, List.setIfInBounds_toArray, Nat.reduceAdd, List.getElem_toArray, List.getElem_cons_succ, List.getElem_cons_zero, List.set_cons_succ, List.set_cons_zero]
              refine wpAnyZ_two (i := 10) (j := 12) (by kernel_rfl) rfl rfl (fun K hK => ?_) (fun K hK => ?_)
              · go_simp
                have HF : Calls Try.prog 14 #[.pointer (some ⟨g, 0, none⟩), .slice (some ⟨w14.heap.size, 0, none⟩) 2 2] w15 _ := feed_any _ _ _ _ _ [32, 126] w15 P15.out.sit.obj R9_15.out NF.out (by simp; omega) (by simp)
                refine HF.mono ?_
                rintro e w16 ⟨x, cv2, px, rfl, hpx, hat⟩
                rw [FL.out] at hpx
                have PX := Lib.hid hpx
                obtain ⟨AX, cX, rfl⟩ := told_len hat.told
                have P16 := Lib.hid (P15.out.fedD hat)
                have TX_16 := Lib.hid (hat.told)
                have hlt16 : w1.heap.size ≤ w16.heap.size := Nat.le_trans hlt15 hat.keep.size
                have R11_16 := Lib.hid (R11_15.out.keeps hat.keep NF.out)
                refine hK.out _ _ (fun _ => by rw [P16.out.ref.blk.cell]; rfl) ?_
                clear hK K hpx hat HF
                try simp only [Act.put, List.setIfInBounds_toArray, Nat.reduceAdd, List.getElem_toArray, List.getElem_cons_succ, List.getElem_cons_zero, List.set_cons_succ, List.set_cons_zero]
                refine wpAnyZ_one (i := 12) (by kernel_rfl) rfl (fun K hK => ?_)
                go_simp
                have P17a := P16.out.alloc (.cells #[.slice (some ⟨w4.heap.size, 0, none⟩) 1 1] 28)
                have F12a := frow_new w16 (fun b => w1.heap.size ≤ b) [(.slice (some ⟨w4.heap.size, 0, none⟩) 1 1, [32])] #[.slice (some ⟨w4.heap.size, 0, none⟩) 1 1] 1 rfl rfl (by simp) (by simpa using R11_16.out)
                have TXa := TX_16.out.keeps ((Keeps.refl nobody w16).alloc (.cells #[.slice (some ⟨w4.heap.size, 0, none⟩) 1 1] 28)) (fun _ _ h => h) (fun _ _ _ _ h => h)
                have hlt17 : w1.heap.size ≤ (w16.alloc (.cells #[.slice (some ⟨w4.heap.size, 0, none⟩) 1 1] 28)).heap.size := by have := hlt16; simp; omega
                obtain ⟨w17, hw17⟩ : ∃ w17, w17 = w16.alloc (.cells #[.slice (some ⟨w4.heap.size, 0, none⟩) 1 1] 28) := ⟨_, rfl⟩
                rw [← hw17] at P17a hlt17 F12a TXa ⊢
                have P17 := Lib.hid P17a
                have F12_17 := Lib.hid F12a
                have TX_17 := Lib.hid TXa
                refine hK.out _ _ (fun _ => by rw [P17.out.ref.blk.cell]; rfl) ?_
                clear hK K hw17 P17a F12a TXa
                try simp only [Act.put, List.setIfInBounds_toArray, Nat.reduceAdd, List.getElem_toArray, List.getElem_cons_succ, List.getElem_cons_zero, List.set_cons_succ, List.set_cons_zero]
                have FX := Lib.hid (frames_true _ _ _ _ px [(.slice (some ⟨w4.heap.size, 0, none⟩) 1 1, [32])] w17 TX_17.out.frow F12_17.out (by rw [PX.out]; rfl))
                refine wpAnyZ_one (i := 13) (by kernel_rfl) rfl (fun K hK => ?_)
                go_simp
                refine FX.out.mono ?_
                rintro e w99 ⟨rfl, hk9⟩
                have P99 := Lib.hid (P17.out.quiet hk9)
                have hd99 := Lib.hid (show w99.cell? ⟨gm, 4, none⟩ = some (.int .i64 d.dropped) by rw [P99.out.ref.blk.cell]; rfl)
                refine hK.out _ _ (fun _ => hd99.out) ?_
                clear hK K hk9 FX
                try simp only [Act.put, List.setIfInBounds_toArray, Nat.reduceAdd, List.getElem_toArray, List.getElem_cons_succ, List.getElem_cons_zero, List.set_cons_succ, List.set_cons_zero]
                refine wpAnyZ_take (i := 14) rfl (by kernel_rfl) (fun _ _ _ h => h) (Or.inl ⟨by rfl, by intro w hSw; have s0 := hSw; go_simp; try with_reducible rfl⟩) hd99.out ?_
                simp only [Act.put, List.setIfInBounds_toArray, Nat.reduceAdd, List.getElem_toArray, List.getElem_cons_succ, List.getElem_cons_zero, List.set_cons_succ, List.set_cons_zero]
                refine wpAnyZ_one (i := 15) (by kernel_rfl) rfl (fun K hK => ?_)
                go_simp
                refine hK.out _ _ (fun h => absurd rfl h) ?_
                refine wpAnyZ_done (by kernel_rfl) ?_ _
                clear hK K hd99
                go_wp2
                go_ret
                exact ⟨rfl, P99.out.sit.below⟩
              · go_simp
                have P18a := P15.out.alloc (.cells #[.slice (some ⟨w4.heap.size, 0, none⟩) 1 1] 28)
                have F12a := frow_new w15 (fun b => w1.heap.size ≤ b) [(.slice (some ⟨w4.heap.size, 0, none⟩) 1 1, [32])] #[.slice (some ⟨w4.heap.size, 0, none⟩) 1 1] 1 rfl rfl (by simp) (by simpa using R11_15.out)
                have R9a := R9_15.out.keeps ((Keeps.refl nobody w15).alloc (.cells #[.slice (some ⟨w4.heap.size, 0, none⟩) 1 1] 28)) (fun _ _ h => h)
                have hlt18 : w1.heap.size ≤ (w15.alloc (.cells #[.slice (some ⟨w4.heap.size, 0, none⟩) 1 1] 28)).heap.size := by have := hlt15; simp; omega
                obtain ⟨w18, hw18⟩ : ∃ w18, w18 = w15.alloc (.cells #[.slice (some ⟨w4.heap.size, 0, none⟩) 1 1] 28) := ⟨_, rfl⟩
                rw [← hw18] at P18a hlt18 R9a F12a ⊢
                have P18 := Lib.hid P18a
                have R9_18 := Lib.hid R9a
                have F12_18 := Lib.hid F12a
                refine hK.out _ _ (fun _ => by rw [P18.out.ref.blk.cell]; rfl) ?_
                clear hK K hw18 P18a R9a F12a
                try simp only [Act.put, List.setIfInBounds_toArray, Nat.reduceAdd, List.getElem_toArray, List.getElem_cons_succ, List.getElem_cons_zero, List.set_cons_succ, List.set_cons_zero]
                refine wpAnyZ_one (i := 10) (by kernel_rfl) rfl (fun K hK => ?_)
                go_simp
                have HF : Calls Try.prog 14 #[.pointer (some ⟨g, 0, none⟩), .slice (some ⟨w14.heap.size, 0, none⟩) 2 2] w18 _ := feed_any _ _ _ _ _ [32, 126] w18 P18.out.sit.obj R9_18.out NF.out (by simp; omega) (by simp)
                refine HF.mono ?_
                rintro e w19 ⟨x, cv2, px, rfl, hpx, hat⟩
                rw [FL.out] at hpx
                have PX := Lib.hid hpx
                obtain ⟨AX, cX, rfl⟩ := told_len hat.told
                have P19 := Lib.hid (P18.out.fedD hat)
                have TX_19 := Lib.hid (hat.told)
                have hlt19 : w1.heap.size ≤ w19.heap.size := Nat.le_trans hlt18 hat.keep.size
                have F12_19 := Lib.hid (F12_18.out.keeps hat.keep (fun b hb => NF.out b (by rcases hb with rfl | h <;> first | exact hlt15 | exact h)))
                refine hK.out _ _ (fun _ => by rw [P19.out.ref.blk.cell]; rfl) ?_
                clear hK K hpx hat HF
                try simp only [Act.put, List.setIfInBounds_toArray, Nat.reduceAdd, List.getElem_toArray, List.getElem_cons_succ, List.getElem_cons_zero, List.set_cons_succ, List.set_cons_zero]
                have FX := Lib.hid (frames_true _ _ _ _ px [(.slice (some ⟨w4.heap.size, 0, none⟩) 1 1, [32])] w19 TX_19.out.frow F12_19.out (by rw [PX.out]; rfl))
                refine wpAnyZ_one (i := 13) (by kernel_rfl) rfl (fun K hK => ?_)
                go_simp
                refine FX.out.mono ?_
                rintro e w99 ⟨rfl, hk9⟩
                have P99 := Lib.hid (P19.out.quiet hk9)
                have hd99 := Lib.hid (show w99.cell? ⟨gm, 4, none⟩ = some (.int .i64 d.dropped) by rw [P99.out.ref.blk.cell]; rfl)
                refine hK.out _ _ (fun _ => hd99.out) ?_
                clear hK K hk9 FX
                try simp only [Act.put, List.setIfInBounds_toArray, Nat.reduceAdd, List.getElem_toArray, List.getElem_cons_succ, List.getElem_cons_zero, List.set_cons_succ, List.set_cons_zero]
                refine wpAnyZ_take (i := 14) rfl (by kernel_rfl) (fun _ _ _ h => h) (Or.inl ⟨by rfl, by intro w hSw; have s0 := hSw; go_simp; try with_reducible rfl⟩) hd99.out ?_
                simp only [Act.put, List.setIfInBounds_toArray, Nat.reduceAdd, List.getElem_toArray, List.getElem_cons_succ, List.getElem_cons_zero, List.set_cons_succ, List.set_cons_zero]
                refine wpAnyZ_one (i := 15) (by kernel_rfl) rfl (fun K hK => ?_)
                go_simp
                refine hK.out _ _ (fun h => absurd rfl h) ?_
                refine wpAnyZ_done (by kernel_rfl) ?_ _
                clear hK K hd99
                go_wp2
                go_ret
                exact ⟨rfl, P99.out.sit.below⟩
            · go_simp
              have P20a := P14.out.alloc (.cells #[.slice (some ⟨w4.heap.size, 0, none⟩) 1 1] 28)
              have F12a := frow_new w14 (fun b => w1.heap.size ≤ b) [(.slice (some ⟨w4.heap.size, 0, none⟩) 1 1, [32])] #[.slice (some ⟨w4.heap.size, 0, none⟩) 1 1] 1 rfl rfl (by simp) (by simpa using R11_14.out)
              have hlt20 : w1.heap.size ≤ (w14.alloc (.cells #[.slice (some ⟨w4.heap.size, 0, none⟩) 1 1] 28)).heap.size := by have := hlt14; simp; omega
              obtain ⟨w20, hw20⟩ : ∃ w20, w20 = w14.alloc (.cells #[.slice (some ⟨w4.heap.size, 0, none⟩) 1 1] 28) := ⟨_, rfl⟩
              rw [← hw20] at P20a hlt20 F12a ⊢
              have P20 := Lib.hid P20a
              have F12_20 := Lib.hid F12a
              refine hK.out _ _ (fun _ => by rw [P20.out.ref.blk.cell]; rfl) ?_
              clear hK K hw20 P20a F12a
              try simp only [Act.put, List.setIfInBounds_toArray, Nat.reduceAdd, List.getElem_toArray, List.getElem_cons_succ, List.getElem_cons_zero, List.set_cons_succ, List.set_cons_zero]
              refine wpAnyZ_one (i := 9) (by kernel_rfl) rfl (fun K hK => ?_)
              go_simp
              have P21a := P20.out.alloc (.cells #[.int .u8 32, .int .u8 126] 5)
              have R9a := (row_new w20 [32, 126] #[.int .u8 32, .int .u8 126] 2 rfl rfl (by simp)).mono (G := fun b => w1.heap.size ≤ b) (fun b hb => by rw [hb]; exact hlt20)
              have F12a := F12_20.out.keeps ((Keeps.refl nobody w20).alloc (.cells #[.int .u8 32, .int .u8 126] 5)) (fun _ _ h => h)
              have hlt21 : w1.heap.size ≤ (w20.alloc (.cells #[.int .u8 32, .int .u8 126] 5)).heap.size := by have := hlt20; simp; omega
              obtain ⟨w21, hw21⟩ : ∃ w21, w21 = w20.alloc (.cells #[.int .u8 32, .int .u8 126] 5) := ⟨_, rfl⟩
              rw [← hw21] at P21a hlt21 R9a F12a ⊢
              have P21 := Lib.hid P21a
              have R9_21 := Lib.hid R9a
              have F12_21 := Lib.hid F12a
              refine hK.out _ _ (fun _ => by rw [P21.out.ref.blk.cell]; rfl) ?_
              clear hK K hw21 P21a R9a F12a
              try simp only [Act.put, List.setIfInBounds_toArray, Nat.reduceAdd, List.getElem_toArray, List.getElem_cons_succ, List.getElem_cons_zero, List.set_cons_succ, List.set_cons_zero]
              refine wpAnyZ_one (i := 10) (by kernel_rfl) rfl (fun K hK => ?_)
              go_simp
              have HF : Calls Try.prog 14 #[.pointer (some ⟨g, 0, none⟩), .slice (some ⟨w20.heap.size, 0, none⟩) 2 2] w21 _ := feed_any _ _ _ _ _ [32, 126] w21 P21.out.sit.obj R9_21.out NF.out (by simp; omega) (by simp)
              refine HF.mono ?_
              rintro e w22 ⟨x, cv2, px, rfl, hpx, hat⟩
              rw [FL.out] at hpx
              have PX := Lib.hid hpx
              obtain ⟨AX, cX, rfl⟩ := told_len hat.told
              have P22 := Lib.hid (P21.out.fedD hat)
              have TX_22 := Lib.hid (hat.told)
              have hlt22 : w1.heap.size ≤ w22.heap.size := Nat.le_trans hlt21 hat.keep.size
              have F12_22 := Lib.hid (F12_21.out.keeps hat.keep (fun b hb => NF.out b (by rcases hb with rfl | h <;> first | exact hlt14 | exact h)))
              refine hK.out _ _ (fun _ => by rw [P22.out.ref.blk.cell]; rfl) ?_
              clear hK K hpx hat HF
              try simp only [Act.put, List.setIfInBounds_toArray, Nat.reduceAdd, List.getElem_toArray, List.getElem_cons_succ, List.getElem_cons_zero, List.set_cons_succ, List.set_cons_zero]
              have FX := Lib.hid (frames_true _ _ _ _ px [(.slice (some ⟨w4.heap.size, 0, none⟩) 1 1, [32])] w22 TX_22.out.frow F12_22.out (by rw [PX.out]; rfl))
              refine wpAnyZ_one (i := 13) (by kernel_rfl) rfl (fun K hK => ?_)
              go_simp
              refine FX.out.mono ?_
              rintro e w99 ⟨rfl, hk9⟩
              have P99 := Lib.hid (P22.out.quiet hk9)
              have hd99 := Lib.hid (show w99.cell? ⟨gm, 4, none⟩ = some (.int .i64 d.dropped) by rw [P99.out.ref.blk.cell]; rfl)
              refine hK.out _ _ (fun _ => hd99.out) ?_
              clear hK K hk9 FX
              try simp only [Act.put, List.setIfInBounds_toArray, Nat.reduceAdd, List.getElem_toArray, List.getElem_cons_succ, List.getElem_cons_zero, List.set_cons_succ, List.set_cons_zero]
              refine wpAnyZ_take (i := 14) rfl (by kernel_rfl) (fun _ _ _ h => h) (Or.inl ⟨by rfl, by intro w hSw; have s0 := hSw; go_simp; try with_reducible rfl⟩) hd99.out ?_
              simp only [Act.put, List.setIfInBounds_toArray, Nat.reduceAdd, List.getElem_toArray, List.getElem_cons_succ, List.getElem_cons_zero, List.set_cons_succ, List.set_cons_zero]
              refine wpAnyZ_one (i := 15) (by kernel_rfl) rfl (fun K hK => ?_)
              go_simp
              refine hK.out _ _ (fun h => absurd rfl h) ?_
              refine wpAnyZ_done (by kernel_rfl) ?_ _
              clear hK K hd99
              go_wp2
              go_ret
              exact ⟨rfl, P99.out.sit.below⟩
end Go.Proofs.Ytapcclahekkgpaa
