/- Package packet's reader: option. -/
import Derived.Test.YtaalbjbocbagcaaDoorPktE
import Derived.Test.YtaalbjbocbagcaaDoorIs
import Derived.Test.YtaalbjbocbagcaaDoorOptD
namespace Go.Proofs.YtaalbjbocbagcaaDoor
open Go.RowKit
namespace Pure
theorem told_option (b : List UInt8) (h : 2 ≤ b.length) : told 2 1 b = (b.getD 1 0).toNat := by
  match b, h with
  | a :: b :: l, _ => simp [told, num]
theorem next_option {b : List UInt8} : nextErr 2 1 b = 0 ↔ ¬ (b.length < 2 ∨ (b.getD 1 0).toNat < 2 ∨ b.length < (b.getD 1 0).toNat) := by
  unfold nextErr
  by_cases h1 : b.length < 2
  · rw [if_pos h1]
    exact ⟨fun h => by omega, fun h => absurd (Or.inl h1) h⟩
  · rw [if_neg h1, told_option b (by omega)]
    generalize (b.getD 1 0).toNat = n
    split
    · exact ⟨fun h => by omega, fun h => by omega⟩
    · split
      · exact ⟨fun h => by omega, fun h => by omega⟩
      · exact ⟨fun h => by omega, fun h => rfl⟩
theorem next_ways (size len : Nat) (b : List UInt8) : nextErr size len b = 0 ∨ nextErr size len b = 2 ∨ nextErr size len b = 4 := by
  unfold nextErr
  split
  · exact .inr (.inl rfl)
  · split
    · exact .inr (.inr rfl)
    · split
      · exact .inr (.inl rfl)
      · exact .inl rfl
end Pure
theorem opt_size : (Tryd.prog.info? 36).map (·.size) = some 2 := by kernel_rfl
set_option maxRecDepth 100000 in
set_option maxHeartbeats 4000000 in
theorem option_bad (F : Nat → Prop) (g : Nat) (bs : List UInt8) (w : World) (hrd : Rd w F g bs) (hF : ∀ b, F b → b ≠ g) (h0 : Pure.nextErr 2 1 bs ≠ 0) :
    Calls Tryd.prog 35 #[.pointer (some ⟨g, 0, none⟩)] w fun e w' => ∃ b, e = .returned (.tuple #[optV (.slice none 0 0, (0, [])), .iface 73 (.pointer (some ⟨b, 0, none⟩))]) ∧ ErrIs w' (.iface 73 (.pointer (some ⟨b, 0, none⟩))) 4 ∧ Keeps (only g) w w' := by
  have hgl : g < w.heap.size := by obtain ⟨v, hb, _⟩ := hrd; exact hb.lt
  have HI := Lib.hid opt_size
  obtain ⟨p, hp⟩ : ∃ p, p = w.heap.size := ⟨_, rfl⟩
  go_enter Tryd.func35, Tryd.ntmps35
  go_upto_region 1 with fail
  rw [← hp]
  generalize hw1 : w.alloc _ = w1
  have hB : Blk w1 p 36 #[.int .i64 0, .slice none 0 0] := by rw [← hw1, hp]; exact Blk.new w _ _
  have HK := Lib.hid (show Keeps nobody w w1 by rw [← hw1]; exact (Keeps.refl _ w).alloc _)
  have HG := Lib.hid hp
  have HN := Lib.hid (next_any F g 2 1 bs w1 (hrd.keeps HK.out (fun h => h) (fun _ _ h => h)) hF (by omega) (by omega) (by omega) (by omega))
  have HB := Lib.hid hB
  clear hw1 hp hB hrd hF
  go_wp2_with fail
  refine HN.out.mono ?_
  rintro e w2 ⟨a, b, u, rfl, hu, hk2, hok⟩
  have hgp : p ≠ g := by have := HG.out; omega
  have HB2 := Lib.hid (HB.out.keeps hk2 (fun h => hgp h))
  have HK2 := Lib.hid ((HK.out.mono (T := only g) (fun i h => h.elim)).trans hk2)
  have HIs := Lib.hid (is_any u (Pure.nextErr 2 1 bs) 2 w2 hu (by omega))
  obtain ⟨fb, rfl⟩ := err_form hu h0
  rcases (Pure.next_ways 2 1 bs).resolve_left h0 with h2 | h4
  · rw [h2] at HIs
    have HIs := Lib.hid (show _ from HIs.out)
    rw [show decide (2 = 2) = true from rfl] at HIs
    have HO := Lib.hid (fun s => of_any s 4 w2 (by omega))
    clear hu hok hk2 HN
    go_wp2_with fail
    refine HIs.out.mono ?_
    rintro e w3 ⟨rfl, rfl⟩
    go_wp2_with fail
    refine (HO.out _).mono ?_
    rintro e w3 ⟨u, rfl, hu, hb3⟩
    have hk3 := Keeps.new hb3
    obtain ⟨fb, rfl⟩ := err_form hu (by omega)
    have HU := Lib.hid hu
    have HB3 := Lib.hid (HB2.out.keeps hk3 (fun h => h))
    have HK3 := Lib.hid (HK2.out.trans (hk3.mono (T := only g) (fun i h => h.elim)))
    clear hu hk3 hb3 HO
    have z0 : w3.cell? ⟨p, 0, none⟩ = some (.int .i64 0) := by rw [HB3.out.cell]; rfl
    have z1 : w3.cell? ⟨p, 1, none⟩ = some (.slice none 0 0) := by rw [HB3.out.cell]; rfl
    have y0 := HB3.out.frozen 0
    have y1 := HB3.out.frozen 1
    have HZS := Lib.hid ((HB3.out.set 0 (.int .i64 0)).set 1 (.slice none 0 0))
    have HKS := Lib.hid ((HK3.out.store p 0 (fun h => by have := HG.out; omega) (.int .i64 0)).store p 1 (fun h => by have := HG.out; omega) (.slice none 0 0))
    have HKF := Lib.hid (((Keeps.refl (only p) w3).store p 0 (fun _ => rfl) (.int .i64 0)).store p 1 (fun _ => rfl) (.slice none 0 0))
    have HZ := Lib.hid (show ∀ n : Int, n ≠ 0 → w3.cell? ⟨p, 1, none⟩ ≠ some (.int .i64 n) from fun n _ e => by
      rw [z1] at e
      injection e with e
      cases e)
    go_wp2
    refine bodyPost_ret (results_row_tmp rfl _ _ p 36 _ (0, 0) _ rfl HZS.out Tryd.underlying36 rfl (by rw [HI.out]; rfl)) rfl ?_
    exact ⟨_, rfl, HU.out.far HKF.out HZ.out, HKS.out⟩
  · rw [h4] at HIs hu
    rw [show decide (4 = 2) = false from rfl] at HIs
    have HU := Lib.hid hu
    clear hu hok hk2 HN
    have z0 : w2.cell? ⟨p, 0, none⟩ = some (.int .i64 0) := by rw [HB2.out.cell]; rfl
    have z1 : w2.cell? ⟨p, 1, none⟩ = some (.slice none 0 0) := by rw [HB2.out.cell]; rfl
    have y0 := HB2.out.frozen 0
    have y1 := HB2.out.frozen 1
    have HZS := Lib.hid ((HB2.out.set 0 (.int .i64 0)).set 1 (.slice none 0 0))
    have HKS := Lib.hid ((HK2.out.store p 0 (fun h => by have := HG.out; omega) (.int .i64 0)).store p 1 (fun h => by have := HG.out; omega) (.slice none 0 0))
    have HKF := Lib.hid (((Keeps.refl (only p) w2).store p 0 (fun _ => rfl) (.int .i64 0)).store p 1 (fun _ => rfl) (.slice none 0 0))
    have HZ := Lib.hid (show ∀ n : Int, n ≠ 0 → w2.cell? ⟨p, 1, none⟩ ≠ some (.int .i64 n) from fun n _ e => by
      rw [z1] at e
      injection e with e
      cases e)
    go_wp2_with fail
    refine HIs.out.mono ?_
    rintro e w3 ⟨rfl, rfl⟩
    go_wp2
    refine bodyPost_ret (results_row_tmp rfl _ _ p 36 _ (0, 0) _ rfl HZS.out Tryd.underlying36 rfl (by rw [HI.out]; rfl)) rfl ?_
    exact ⟨_, rfl, HU.out.far HKF.out HZ.out, HKS.out⟩
set_option maxRecDepth 100000 in
set_option maxHeartbeats 4000000 in
theorem option_ok (F : Nat → Prop) (g n B0 : Nat) (bs : List UInt8) (w : World) (hrd : Rd w F g bs) (hF : ∀ b, F b → b ≠ g) (hFl : ∀ b, F b → b < w.heap.size) (h0 : Pure.nextErr 2 1 bs = 0) (hn : n = (bs.getD 1 0).toNat) (hB0 : B0 = (bs.getD 0 0).toNat) :
    Calls Tryd.prog 35 #[.pointer (some ⟨g, 0, none⟩)] w fun e w' => ∃ A c, e = .returned (.tuple #[.agg #[.int .i64 B0, .slice A ((bs.drop 2).take (n - 2)).length c], .nilIface]) ∧
      w'.ownsRow w.heap.size 5 1 (.slice A ((bs.drop 2).take (n - 2)).length c) ((bs.drop 2).take (n - 2)).length (u8s ((bs.drop 2).take (n - 2))) ∧ Rd w' F g (bs.drop n) ∧ Keeps (only g) w w' := by
  obtain ⟨D, hD⟩ : ∃ D, D = (bs.drop 2).take (n - 2) := ⟨_, rfl⟩
  rw [← hD]
  have HFl := Lib.hid hFl
  clear hFl
  have hgl : g < w.heap.size := by obtain ⟨v, hb, _⟩ := hrd; exact hb.lt
  have HI := Lib.hid opt_size
  obtain ⟨p, hp⟩ : ∃ p, p = w.heap.size := ⟨_, rfl⟩
  go_enter Tryd.func35, Tryd.ntmps35
  go_upto_region 1 with fail
  rw [← hp]
  generalize hw1 : w.alloc _ = w1
  have hB : Blk w1 p 36 #[.int .i64 0, .slice none 0 0] := by rw [← hw1, hp]; exact Blk.new w _ _
  have HK := Lib.hid (show Keeps nobody w w1 by rw [← hw1]; exact (Keeps.refl _ w).alloc _)
  have HG := Lib.hid hp
  have HN := Lib.hid (next_any F g 2 1 bs w1 (hrd.keeps HK.out (fun h => h) (fun _ _ h => h)) hF (by omega) (by omega) (by omega) (by omega))
  have HB := Lib.hid hB
  clear hw1 hp hB hrd hF
  go_wp2_with fail
  refine HN.out.mono ?_
  rintro e w2 ⟨a, b, u, rfl, hu, hk2, hok⟩
  have hgp : p ≠ g := by have := HG.out; omega
  have HB2 := Lib.hid (HB.out.keeps hk2 (fun h => hgp h))
  have HK2 := Lib.hid ((HK.out.mono (T := only g) (fun i h => h.elim)).trans hk2)
  have HIs := Lib.hid (is_any u 0 2 w2 (by rw [← h0]; exact hu) (by omega))
  rw [show decide (0 = 2) = false from rfl] at HIs
  obtain rfl := err_nil (by rw [← h0]; exact hu)
  obtain ⟨ha, hb, hrd2⟩ := hok h0
  have hno := Pure.next_option.1 h0
  have n2 : 2 ≤ bs.length := by omega
  rw [Pure.told_option bs n2, ← hn] at hb hrd2
  rw [← hn] at hno
  rw [← hD] at hb
  have hdl : D.length = n - 2 := by rw [hD, List.length_take, List.length_drop]; omega
  have hnb := (bs.getD 1 0).toNat_lt
  have HD2 := Lib.hid (show D.length ≤ 255 by omega)
  rw [← hdl] at hb
  obtain ⟨A, cA, rfl, _⟩ := ha.form
  obtain ⟨B, cB, rfl, _⟩ := hb.form
  have HBR := Lib.hid hb
  have HRd := Lib.hid hrd2
  obtain ⟨bx, ox, rfl, hFb, hcx⟩ := ha.cellAt (by omega)
  have b0 := hcx 0 _ (u8s_at (bs.take 2) 0 (by rw [List.length_take]; omega))
  rw [Pure.getD_take _ _ _ (by omega), Nat.add_zero, ← hB0] at b0
  have l0 := (bs.getD 0 0).toNat_lt
  rw [← hB0] at l0
  have v0 : IntKind.i64.wrap (B0 : Int) = (B0 : Int) := IntWalk.i64_in _ (by omega)
  have hpx : bx ≠ p := fun e => by have h1 := HFl.out bx hFb; have h2 := HG.out; omega
  have hpb : p < w2.heap.size := HB2.out.lt
  clear ha hb hu hok hk2 HN hrd2 hno n2 hdl hD hn hB0 hcx h0 hnb
  go_wp2_with fail
  refine HIs.out.mono ?_
  rintro e w3 ⟨rfl, rfl⟩
  go_upto_region 6 with fail
  refine wp_region_Z (fun w' => w'.cell? ⟨bx, ox, none⟩ = some (.int .u8 B0)) 8 9 rfl (by kernel_rfl) b0 (fun hHeld => ?_)
  refine wpAnyZ_take (i := 0) rfl (by kernel_rfl) (fun _ _ _ h => h) (Or.inl ⟨by rfl, by intro w hSw; go_simp; try with_reducible rfl⟩) hHeld.out ?_
  simp only [Act.put, List.setIfInBounds_toArray, Nat.reduceAdd, List.getElem_toArray, List.getElem_cons_succ, List.getElem_cons_zero, List.set_cons_succ, List.set_cons_zero]
  refine wpAnyZ_take (i := 1) rfl (by kernel_rfl) (fun _ _ _ h => h) (Or.inl ⟨by rfl, by intro w hSw; go_simp; try with_reducible rfl⟩) hHeld.out ?_
  simp only [Act.put, List.setIfInBounds_toArray, Nat.reduceAdd, List.getElem_toArray, List.getElem_cons_succ, List.getElem_cons_zero, List.set_cons_succ, List.set_cons_zero]
  refine wpAnyZ_take (i := 2) rfl (by kernel_rfl) (fun _ _ _ h => h) (Or.inl ⟨by rfl, by intro w hSw; go_simp; try with_reducible rfl⟩) hHeld.out ?_
  simp only [Act.put, List.setIfInBounds_toArray, Nat.reduceAdd, List.getElem_toArray, List.getElem_cons_succ, List.getElem_cons_zero, List.set_cons_succ, List.set_cons_zero]
  refine wpAnyZ_take (i := 3) rfl (by kernel_rfl) (fun _ _ _ h => h) (Or.inl ⟨by rfl, by intro w hSw; go_simp; try with_reducible rfl⟩) hHeld.out ?_
  simp only [Act.put, List.setIfInBounds_toArray, Nat.reduceAdd, List.getElem_toArray, List.getElem_cons_succ, List.getElem_cons_zero, List.set_cons_succ, List.set_cons_zero]
  refine wpAnyZ_take (i := 4) rfl (by kernel_rfl) (fun _ _ _ h => h) (Or.inl ⟨by rfl, by intro w hSw; go_simp; try with_reducible rfl⟩) hHeld.out ?_
  simp only [Act.put, List.setIfInBounds_toArray, Nat.reduceAdd, List.getElem_toArray, List.getElem_cons_succ, List.getElem_cons_zero, List.set_cons_succ, List.set_cons_zero]
  refine wpAnyZ_one (i := 5) (by kernel_rfl) rfl (fun K hK => ?_)
  go_simp
  have hwd : Keeps nobody w2 w2.drew := (Keeps.refl _ w2).drew
  refine (bclone_any F (.slice B D.length cB) D.length D w2.drew (HBR.out.keeps hwd (fun _ _ h => h)) (by have := HD2.out; omega)).mono ?_
  rintro e w3 ⟨u, rfl, hu, hb3⟩
  have hk3 : Keeps nobody w2 w3 := Keeps.new ⟨hb3.os, hb3.tape, hb3.output, hb3.size, hb3.block⟩
  have hu : w3.ownsRow w2.heap.size 5 1 u D.length (u8s D) := hu
  have HH3 := Lib.hid (cell_quiet hHeld.out (w := w2) hk3)
  refine hK.out _ _ (fun _ => HH3.out) ?_
  clear hK K hHeld
  obtain ⟨A3, c3, rfl⟩ := own_form hu
  have HU3 := Lib.hid hu
  have HB3 := Lib.hid (HB2.out.keeps hk3 (fun x => x))
  have HK3 := Lib.hid (HK2.out.trans (hk3.mono (T := only g) (fun i h => h.elim)))
  have HRd3 := Lib.hid (HRd.out.keeps hk3 (fun h => h) (fun _ _ h => h))
  clear hu hb3 hk3 hwd
  refine wpAnyZ_take (i := 6) rfl (by kernel_rfl) (fun _ _ _ h => h) (Or.inl ⟨by rfl, by intro w hSw; go_simp; try with_reducible rfl⟩) HH3.out ?_
  simp only [Act.put, List.setIfInBounds_toArray, Nat.reduceAdd, List.getElem_toArray, List.getElem_cons_succ, List.getElem_cons_zero, List.set_cons_succ, List.set_cons_zero]
  refine wpAnyZ_one (i := 7) (by kernel_rfl) rfl (fun K hK => ?_)
  rw [if_pos (by rfl)]
  refine wp_store_row 36 (.tmp 2) (.tmp 28) rfl p _ rfl rfl 36 _ HB3.out (by rw [HI.out]; rfl) rfl (by simp [Value.oneCell']) ?_
  obtain ⟨w4, hw4⟩ : ∃ w4, w4 = w3.setRow p #[.int .i64 (B0 : Int), .slice A3 D.length c3] := ⟨_, rfl⟩
  have hb4 : Blk w4 p 36 #[.int .i64 (B0 : Int), .slice A3 D.length c3] := by rw [hw4]; exact Blk.rowSet HB3.out _
  have hkg : Keeps (only p) w3 w4 := by rw [hw4]; exact (Keeps.refl (only p) w3).rowSet (fun _ => rfl) _
  have hk4 : Keeps (only g) w w4 := by rw [hw4]; exact HK3.out.rowSet (fun h => by have := HG.out; omega) _
  have HU4 := Lib.hid (ownsRow_base (base' := w.heap.size) (ownsRow_keeps HU3.out hkg (fun b hb hs => by have h1 := ownsRow_ge HU3.out b hb; have h2 : b = p := hs; omega)) HK2.out.size)
  have HRd4 := Lib.hid (HRd3.out.keeps hkg (fun h => hgp h.symm) (fun b hb hs => by have h1 := HFl.out b hb; have h2 : b = p := hs; have := HG.out; omega))
  have HB4 := Lib.hid hb4
  have HK4 := Lib.hid hk4
  have s4 : w4.cell? ⟨bx, ox, none⟩ = some (.int .u8 B0) :=
    (World.cell?_of_block (w := w3) (a := ⟨bx, ox, none⟩) (hkg.block bx (cell_lt HH3.out) (fun h => hpx h))).trans HH3.out
  have HS4 := Lib.hid s4
  refine hK.out _ _ (fun _ => ?_) ?_
  · rw [← hw4]; exact HS4.out
  rw [← hw4]
  simp only [Act.put]
  clear hK K hw4 hb4 hkg hk4 s4
  refine wpAnyZ_one (i := 8) (by kernel_rfl) rfl (fun K hK => ?_)
  go_simp
  refine hK.out _ _ (fun _ => HS4.out) ?_
  clear hK K
  refine wpAnyZ_done (by kernel_rfl) ?_ _
  go_wp2_with fail
  refine bodyPost_ret (results_row_tmp rfl _ _ p 36 _ (0, 0) _ rfl HB4.out Tryd.underlying36 rfl (by rw [HI.out]; rfl)) rfl ?_
  exact ⟨A3, c3, rfl, HU4.out, HRd4.out, HK4.out⟩
end Go.Proofs.YtaalbjbocbagcaaDoor
