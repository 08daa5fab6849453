/- Package packet's reader: packet. -/
import Derived.Test.YtaalbjbocbagcaaDoorRdNext
import Derived.Test.YtaalbjbocbagcaaDoorBytesC
import Derived.Test.YtaalbjbocbagcaaDoorPktB
namespace Go.Proofs.YtaalbjbocbagcaaDoor
open Go.RowKit
namespace Pure
theorem told_packet (b : List UInt8) (h : 4 ≤ b.length) : told 4 2 b = stated b := by
  match b, h with
  | a :: b :: c :: d :: l, _ => simp [told, stated, num]
theorem decode_bad {b : List UInt8} (h : nextErr 4 2 b ≠ 0) : decode b = (nextErr 4 2 b, noPkt) := by
  unfold nextErr at *
  by_cases h1 : b.length < 4
  · rw [if_pos h1]; exact decode_short h1
  · rw [if_neg h1] at h ⊢
    rw [told_packet b (by omega)] at *
    by_cases h2 : stated b < 4
    · rw [if_pos h2]; exact decode_form h1 h2
    · rw [if_neg h2] at h ⊢
      by_cases h3 : b.length < stated b
      · rw [if_pos h3]; exact decode_cut h1 h2 h3
      · rw [if_neg h3] at h; exact absurd rfl h
theorem next_packet {b : List UInt8} (h : nextErr 4 2 b = 0) : 4 ≤ b.length ∧ told 4 2 b = stated b ∧ 4 ≤ stated b ∧ stated b ≤ b.length := by
  unfold nextErr at h
  by_cases h1 : b.length < 4
  · rw [if_pos h1] at h; cases h
  · rw [if_neg h1] at h
    have e := told_packet b (by omega)
    rw [e] at h
    by_cases h2 : stated b < 4
    · rw [if_pos h2] at h; cases h
    · rw [if_neg h2] at h
      by_cases h3 : b.length < stated b
      · rw [if_pos h3] at h; cases h
      · exact ⟨by omega, e, by omega, by omega⟩
theorem getD_take (b : List UInt8) (n i : Nat) (h : i < n) : (b.take n).getD i 0 = b.getD i 0 := by
  simp [List.getD_eq_getElem?_getD, List.getElem?_take, h]
end Pure
theorem err_form {w : World} {v : Value} {k : Nat} (h : ErrIs w v k) (hk : k ≠ 0) : ∃ b, v = .iface 73 (.pointer (some ⟨b, 0, none⟩)) := by
  rcases h with ⟨_, h⟩ | ⟨_, b, h, _⟩
  · exact absurd h hk
  · exact ⟨b, h⟩
theorem err_nil {w : World} {v : Value} (h : ErrIs w v 0) : v = .nilIface := by
  rcases h with ⟨h, _⟩ | ⟨h, _⟩
  · exact h
  · exact absurd rfl h
theorem ErrIs.far {w w' : World} {v : Value} {k p : Nat} (h : ErrIs w v k) (hk : Keeps (only p) w w') (hz : ∀ n : Int, n ≠ 0 → w.cell? ⟨p, 1, none⟩ ≠ some (.int .i64 n)) : ErrIs w' v k := by
  rcases h with h | ⟨h1, b, h2, h3⟩
  · exact .inl h
  · have hb : b ≠ p := fun e => hz k (by omega) (e ▸ h3)
    exact .inr ⟨h1, b, h2, (World.cell?_of_block (w := w) (a := ⟨b, 1, none⟩) (hk.block b (cell_lt h3) (fun e => hb e))).trans h3⟩
set_option maxRecDepth 100000 in
set_option maxHeartbeats 4000000 in
theorem packet_any (F : Nat → Prop) (g : Nat) (bs : List UInt8) (w : World) (hrd : Rd w F g bs) (hF : ∀ b, F b → b ≠ g) (hFl : ∀ b, F b → b < w.heap.size) :
    Calls Tryd.prog 28 #[.pointer (some ⟨g, 0, none⟩)] w fun e w' => ∃ u v, e = .returned (.tuple #[pktV (Pure.decode bs).2 u, v]) ∧ ErrIs w' v (Pure.decode bs).1 ∧
      Row w' (fun b => w.heap.size ≤ b) 1 u (Pure.decode bs).2.data.length (u8s (Pure.decode bs).2.data) ∧ Keeps (only g) w w' := by
  have hgl : g < w.heap.size := by obtain ⟨v, hb, _⟩ := hrd; exact hb.lt
  have HF := Lib.hid hF
  have HFl := Lib.hid hFl
  have HI := Lib.hid pkt_info
  obtain ⟨p, hp⟩ : ∃ p, p = w.heap.size := ⟨_, rfl⟩
  go_enter Tryd.func28, Tryd.ntmps28
  go_upto_region 1 with fail
  rw [← hp]
  generalize hw1 : w.alloc _ = w1
  have hB : Blk w1 p 28 #[.int .i64 0, .int .i64 0, .slice none 0 0] := by rw [← hw1, hp]; exact Blk.new w _ _
  have HK := Lib.hid (show Keeps nobody w w1 by rw [← hw1]; exact (Keeps.refl _ w).alloc _)
  have HG := Lib.hid hp
  have HN := Lib.hid (next_any F g 4 2 bs w1 (hrd.keeps HK.out (fun h => h) (fun _ _ h => h)) hF (by omega) (by omega) (by omega) (by omega))
  have HB := Lib.hid hB
  clear hw1 hp hB hrd hF hFl
  go_wp2_with fail
  refine HN.out.mono ?_
  rintro e w2 ⟨a, b, u, rfl, hu, hk2, hok⟩
  have hgp : p ≠ g := by have := HG.out; omega
  have HB2 := Lib.hid (HB.out.keeps hk2 (fun h => hgp h))
  have hk02 := (HK.out.mono (T := only g) (fun i h => h.elim)).trans hk2
  have HK2 := Lib.hid hk02
  have z0 : w2.cell? ⟨p, 0, none⟩ = some (.int .i64 0) := by rw [HB2.out.cell]; rfl
  have z1 : w2.cell? ⟨p, 1, none⟩ = some (.int .i64 0) := by rw [HB2.out.cell]; rfl
  have z2 : w2.cell? ⟨p, 2, none⟩ = some (.slice none 0 0) := by rw [HB2.out.cell]; rfl
  have y0 := HB2.out.frozen 0
  have y1 := HB2.out.frozen 1
  have y2 := HB2.out.frozen 2
  have HZS := Lib.hid (((HB2.out.set 0 (.int .i64 0)).set 1 (.int .i64 0)).set 2 (.slice none 0 0))
  have HKS := Lib.hid (((HK2.out.store p 0 (fun h => by have := HG.out; omega) (.int .i64 0)).store p 1 (fun h => by have := HG.out; omega) (.int .i64 0)).store p 2 (fun h => by have := HG.out; omega) (.slice none 0 0))
  by_cases h0 : Pure.nextErr 4 2 bs = 0
  · obtain rfl := err_nil (by rw [← h0]; exact hu)
    obtain ⟨ha, hb, _⟩ := hok h0
    obtain ⟨n4, htd, n1, n2⟩ := Pure.next_packet h0
    rw [htd] at hb
    have dlong := fun h => Pure.decode_long (b := bs) (by omega) (by omega) (by omega) h
    have dok := fun h => Pure.decode_ok (b := bs) (by omega) (by omega) (by omega) h
    obtain ⟨n, hn⟩ : ∃ n, n = Pure.stated bs := ⟨_, rfl⟩
    rw [← hn] at hb dlong dok n1 n2
    obtain ⟨m, hmn⟩ : ∃ m, m = n - 4 := ⟨_, rfl⟩
    rw [← hmn] at hb dok
    obtain ⟨A, cA, rfl, _⟩ := ha.form
    obtain ⟨B, cB, rfl, _⟩ := hb.form
    have hm := hb.2.1
    unfold maxLen at hm
    have HBR := Lib.hid hb
    have HZ := Lib.hid (fun (W : World) (h : Keeps nobody w2 W) => (show ∀ n : Int, n ≠ 0 → W.cell? ⟨p, 1, none⟩ ≠ some (.int .i64 n) from fun n hn e => by
      rw [cell_quiet z1 h] at e
      injection e with e
      injection e with _ e
      exact hn e.symm))
    have HDL := Lib.hid dlong
    have HDO := Lib.hid dok
    have hm4 : m + 4 = n := by omega
    have HMN := Lib.hid hmn
    clear hmn
    by_cases h7 : 1500 < n
    · have HD := Lib.hid (HDL.out h7)
      have d0 : decide ((1496 : Int) < (m : Int)) = true := decide_eq_true (by omega)
      have d1 : decide (1496 < m) = true := decide_eq_true (by omega)
      have HO := Lib.hid (fun s => of_any s 3 w2 (by omega))
      clear ha hb hu hok hk2 hk02 HN dlong dok htd hn HDL HDO hm4
      go_wp2_with fail
      refine (HO.out _).mono ?_
      rintro e w3 ⟨u, rfl, hu, hb3⟩
      have hk3 := Keeps.new hb3
      have HZ3 := Lib.hid (HZ.out w3 hk3)
      obtain ⟨fb, rfl⟩ := err_form hu (by omega)
      have HU := Lib.hid hu
      have HB3 := Lib.hid (HB2.out.keeps hk3 (fun h => h))
      have HK3 := Lib.hid (HK2.out.trans (hk3.mono (T := only g) (fun i h => h.elim)))
      clear z0 z1 z2 y0 y1 y2 HZS HKS hu hk3 hb3
      have z0 : w3.cell? ⟨p, 0, none⟩ = some (.int .i64 0) := by rw [HB3.out.cell]; rfl
      have z1 : w3.cell? ⟨p, 1, none⟩ = some (.int .i64 0) := by rw [HB3.out.cell]; rfl
      have z2 : w3.cell? ⟨p, 2, none⟩ = some (.slice none 0 0) := by rw [HB3.out.cell]; rfl
      have y0 := HB3.out.frozen 0
      have y1 := HB3.out.frozen 1
      have y2 := HB3.out.frozen 2
      have HZS := Lib.hid (((HB3.out.set 0 (.int .i64 0)).set 1 (.int .i64 0)).set 2 (.slice none 0 0))
      have HKS := Lib.hid (((HK3.out.store p 0 (fun h => by have := HG.out; omega) (.int .i64 0)).store p 1 (fun h => by have := HG.out; omega) (.int .i64 0)).store p 2 (fun h => by have := HG.out; omega) (.slice none 0 0))
      have HK4 := Lib.hid ((((Keeps.refl (only p) w3).store p 0 (fun _ => rfl) (.int .i64 0)).store p 1 (fun _ => rfl) (.int .i64 0)).store p 2 (fun _ => rfl) (.slice none 0 0))
      go_wp2
      refine bodyPost_ret (results_row_tmp rfl _ _ p 28 _ (0, 0) _ rfl HZS.out Tryd.underlying28 rfl (by rw [HI.out]; rfl)) rfl ?_
      exact ⟨.slice none 0 0, _, by rw [HD.out]; rfl, by rw [HD.out]; exact HU.out.far HK4.out HZ3.out, by rw [HD.out]; exact Row.nil _ _ _, HKS.out⟩
    · have HD := Lib.hid (HDO.out h7)
      have d0 : decide ((1496 : Int) < (m : Int)) = false := decide_eq_false (by omega)
      have d1 : decide (1496 < m) = false := decide_eq_false (by omega)
      obtain ⟨bx, ox, rfl, hFb, hcx⟩ := ha.cellAt (by omega)
      have b0 := hcx 0 _ (u8s_at (bs.take 4) 0 (by rw [List.length_take]; omega))
      have b1 := hcx 1 _ (u8s_at (bs.take 4) 1 (by rw [List.length_take]; omega))
      rw [Pure.getD_take _ _ _ (by omega)] at b0 b1
      rw [Nat.add_zero] at b0
      have l0 := (bs.getD 0 0).toNat_lt
      have l1 := (bs.getD 1 0).toNat_lt
      obtain ⟨B0, hB0⟩ : ∃ b, b = (bs.getD 0 0).toNat := ⟨_, rfl⟩
      obtain ⟨B1, hB1⟩ : ∃ b, b = (bs.getD 1 0).toNat := ⟨_, rfl⟩
      rw [← hB0] at b0 l0 HD
      rw [← hB1] at b1 l1 HD
      have v0 : IntKind.i64.wrap (B0 : Int) = (B0 : Int) := IntWalk.i64_in _ (by omega)
      have v1 : IntKind.i64.wrap (B1 : Int) = (B1 : Int) := IntWalk.i64_in _ (by omega)
      obtain ⟨D, hD⟩ : ∃ D, D = (bs.drop 4).take m := ⟨_, rfl⟩
      have hdl : D.length = m := by rw [hD, List.length_take, List.length_drop]; omega
      rw [← hD] at HD HBR
      have hpx : bx ≠ p := fun e => by have h1 := HFl.out bx hFb; have h2 := HG.out; omega
      have hpb : p < w2.heap.size := HB2.out.lt
      have HM3 := Lib.hid (show m ≤ 1496 by omega)
      clear ha hb hu hok hk2 hk02 HN dlong dok htd hn HDL HDO hm4 hcx hB0 hB1 hD z0 z1 z2 y0 y1 y2 HZS HKS
      go_upto_region 6 with fail
      refine wp_region_Z (fun w' => w'.cell? ⟨bx, ox, none⟩ = some (.int .u8 B0) ∧ w'.cell? ⟨bx, ox + 1, none⟩ = some (.int .u8 B1)) 12 13 rfl (by kernel_rfl) ⟨b0, b1⟩ (fun hHeld => ?_)
      refine wpAnyZ_take (i := 0) rfl (by kernel_rfl) (fun _ _ _ h => h) (Or.inl ⟨by rfl, by intro w hSw; obtain ⟨s0, s1⟩ := hSw; go_simp; try with_reducible rfl⟩) hHeld.out ?_
      simp only [Act.put, List.setIfInBounds_toArray, Nat.reduceAdd, List.getElem_toArray, List.getElem_cons_succ, List.getElem_cons_zero, List.set_cons_succ, List.set_cons_zero]
      refine wpAnyZ_take (i := 1) rfl (by kernel_rfl) (fun _ _ _ h => h) (Or.inl ⟨by rfl, by intro w hSw; obtain ⟨s0, s1⟩ := hSw; go_simp; try with_reducible rfl⟩) hHeld.out ?_
      simp only [Act.put, List.setIfInBounds_toArray, Nat.reduceAdd, List.getElem_toArray, List.getElem_cons_succ, List.getElem_cons_zero, List.set_cons_succ, List.set_cons_zero]
      refine wpAnyZ_take (i := 2) rfl (by kernel_rfl) (fun _ _ _ h => h) (Or.inl ⟨by rfl, by intro w hSw; obtain ⟨s0, s1⟩ := hSw; go_simp; try with_reducible rfl⟩) hHeld.out ?_
      simp only [Act.put, List.setIfInBounds_toArray, Nat.reduceAdd, List.getElem_toArray, List.getElem_cons_succ, List.getElem_cons_zero, List.set_cons_succ, List.set_cons_zero]
      refine wpAnyZ_take (i := 3) rfl (by kernel_rfl) (fun _ _ _ h => h) (Or.inl ⟨by rfl, by intro w hSw; obtain ⟨s0, s1⟩ := hSw; go_simp; try with_reducible rfl⟩) hHeld.out ?_
      simp only [Act.put, List.setIfInBounds_toArray, Nat.reduceAdd, List.getElem_toArray, List.getElem_cons_succ, List.getElem_cons_zero, List.set_cons_succ, List.set_cons_zero]
      refine wpAnyZ_take (i := 4) rfl (by kernel_rfl) (fun _ _ _ h => h) (Or.inl ⟨by rfl, by intro w hSw; obtain ⟨s0, s1⟩ := hSw; go_simp; try with_reducible rfl⟩) hHeld.out ?_
      simp only [Act.put, List.setIfInBounds_toArray, Nat.reduceAdd, List.getElem_toArray, List.getElem_cons_succ, List.getElem_cons_zero, List.set_cons_succ, List.set_cons_zero]
      refine wpAnyZ_take (i := 5) rfl (by kernel_rfl) (fun _ _ _ h => h) (Or.inl ⟨by rfl, by intro w hSw; obtain ⟨s0, s1⟩ := hSw; go_simp; try with_reducible rfl⟩) hHeld.out ?_
      simp only [Act.put, List.setIfInBounds_toArray, Nat.reduceAdd, List.getElem_toArray, List.getElem_cons_succ, List.getElem_cons_zero, List.set_cons_succ, List.set_cons_zero]
      refine wpAnyZ_take (i := 6) rfl (by kernel_rfl) (fun _ _ _ h => h) (Or.inl ⟨by rfl, by intro w hSw; obtain ⟨s0, s1⟩ := hSw; go_simp; try with_reducible rfl⟩) hHeld.out ?_
      simp only [Act.put, List.setIfInBounds_toArray, Nat.reduceAdd, List.getElem_toArray, List.getElem_cons_succ, List.getElem_cons_zero, List.set_cons_succ, List.set_cons_zero]
      refine wpAnyZ_take (i := 7) rfl (by kernel_rfl) (fun _ _ _ h => h) (Or.inl ⟨by rfl, by intro w hSw; obtain ⟨s0, s1⟩ := hSw; go_simp; try with_reducible rfl⟩) hHeld.out ?_
      simp only [Act.put, List.setIfInBounds_toArray, Nat.reduceAdd, List.getElem_toArray, List.getElem_cons_succ, List.getElem_cons_zero, List.set_cons_succ, List.set_cons_zero]
      refine wpAnyZ_take (i := 8) rfl (by kernel_rfl) (fun _ _ _ h => h) (Or.inl ⟨by rfl, by intro w hSw; obtain ⟨s0, s1⟩ := hSw; go_simp; try with_reducible rfl⟩) hHeld.out ?_
      simp only [Act.put, List.setIfInBounds_toArray, Nat.reduceAdd, List.getElem_toArray, List.getElem_cons_succ, List.getElem_cons_zero, List.set_cons_succ, List.set_cons_zero]
      refine wpAnyZ_one (i := 9) (by kernel_rfl) rfl (fun K hK => ?_)
      go_simp
      have hwd : Keeps nobody w2 w2.drew := (Keeps.refl _ w2).drew
      refine (bclone_any F (.slice B m cB) m D w2.drew (HBR.out.keeps hwd (fun _ _ h => h)) (by have := HM3.out; omega)).mono ?_
      rintro e w3 ⟨u, rfl, hu, hb3⟩
      have hk3 : Keeps nobody w2 w3 := Keeps.new ⟨hb3.os, hb3.tape, hb3.output, hb3.size, hb3.block⟩
      have hu : w3.ownsRow w2.heap.size 5 1 u m (u8s D) := hu
      have HH3 := Lib.hid (And.intro (cell_quiet hHeld.out.1 (w := w2) hk3) (cell_quiet hHeld.out.2 (w := w2) hk3))
      refine hK.out _ _ (fun _ => HH3.out) ?_
      clear hK K hHeld
      obtain ⟨A3, c3, rfl⟩ := own_form hu
      have HU3 := Lib.hid (Row.of_own hu)
      have hge := fun b hb => ownsRow_ge hu b hb
      have HGE := Lib.hid hge
      have HB3 := Lib.hid (HB2.out.keeps hk3 (fun x => x))
      have HK3 := Lib.hid (HK2.out.trans (hk3.mono (T := only g) (fun i h => h.elim)))
      clear hu hb3 hk3 hwd hge
      refine wpAnyZ_take (i := 10) rfl (by kernel_rfl) (fun _ _ _ h => h) (Or.inl ⟨by rfl, by intro w hSw; go_simp; try with_reducible rfl⟩) HH3.out ?_
      simp only [Act.put, List.setIfInBounds_toArray, Nat.reduceAdd, List.getElem_toArray, List.getElem_cons_succ, List.getElem_cons_zero, List.set_cons_succ, List.set_cons_zero]
      refine wpAnyZ_one (i := 11) (by kernel_rfl) rfl (fun K hK => ?_)
      rw [if_pos (by rfl)]
      refine wp_store_row 28 (.tmp 2) (.tmp 32) rfl p _ rfl rfl 28 _ HB3.out (by rw [HI.out]; rfl) rfl (by simp [Value.oneCell']) ?_
      obtain ⟨w4, hw4⟩ : ∃ w4, w4 = w3.setRow p #[.int .i64 (B0 : Int), .int .i64 (B1 : Int), .slice A3 m c3] := ⟨_, rfl⟩
      have hb4 : Blk w4 p 28 #[.int .i64 (B0 : Int), .int .i64 (B1 : Int), .slice A3 m c3] := by rw [hw4]; exact Blk.rowSet HB3.out _
      have hkg : Keeps (only p) w3 w4 := by rw [hw4]; exact (Keeps.refl (only p) w3).rowSet (fun _ => rfl) _
      have hk4 : Keeps (only g) w w4 := by rw [hw4]; exact HK3.out.rowSet (fun h => by have := HG.out; omega) _
      have hu4 : Row w4 (fun b => w.heap.size ≤ b) 1 (.slice A3 m c3) m (u8s D) := by
        exact (HU3.out.keeps hkg (fun b hb hs => by have h1 := HGE.out b hb; have h2 : b = p := hs; omega)).mono (G := fun b => w.heap.size ≤ b) (fun b hb => Nat.le_trans HK2.out.size (HGE.out b hb))
      have HU4 := Lib.hid hu4
      have HB4 := Lib.hid hb4
      have HK4 := Lib.hid hk4
      have s4 : w4.cell? ⟨bx, ox, none⟩ = some (.int .u8 B0) ∧ w4.cell? ⟨bx, ox + 1, none⟩ = some (.int .u8 B1) :=
        ⟨(World.cell?_of_block (w := w3) (a := ⟨bx, ox, none⟩) (hkg.block bx (cell_lt HH3.out.1) (fun h => hpx h))).trans HH3.out.1, (World.cell?_of_block (w := w3) (a := ⟨bx, ox + 1, none⟩) (hkg.block bx (cell_lt HH3.out.2) (fun h => hpx h))).trans HH3.out.2⟩
      have HS4 := Lib.hid s4
      refine hK.out _ _ (fun _ => ?_) ?_
      · rw [← hw4]; exact HS4.out
      rw [← hw4]
      simp only [Act.put]
      clear hK K hw4 hb4 hkg hk4 hu4 s4
      refine wpAnyZ_one (i := 12) (by kernel_rfl) rfl (fun K hK => ?_)
      go_simp
      refine hK.out _ _ (fun _ => HS4.out) ?_
      clear hK K
      refine wpAnyZ_done (by kernel_rfl) ?_ _
      go_wp2_with fail
      refine bodyPost_ret (results_row_tmp rfl _ _ p 28 _ (0, 0) _ rfl HB4.out Tryd.underlying28 rfl (by rw [HI.out]; rfl)) rfl ?_
      refine ⟨.slice A3 m c3, .nilIface, by rw [HD.out]; rfl, by rw [HD.out]; exact .inl ⟨rfl, rfl⟩, ?_, HK4.out⟩
      rw [HD.out]
      show Row w4 _ 1 _ D.length (u8s D)
      rw [hdl]
      exact HU4.out
  · have HD := Lib.hid (Pure.decode_bad h0)
    obtain ⟨fb, rfl⟩ := err_form hu h0
    have HU := Lib.hid hu
    have hz : ∀ n : Int, n ≠ 0 → w2.cell? ⟨p, 1, none⟩ ≠ some (.int .i64 n) := fun n hn e => by
      rw [z1] at e
      injection e with e
      injection e with _ e
      exact hn e.symm
    have HZ := Lib.hid hz
    have HK3 := Lib.hid ((((Keeps.refl (only p) w2).store p 0 (fun _ => rfl) (.int .i64 0)).store p 1 (fun _ => rfl) (.int .i64 0)).store p 2 (fun _ => rfl) (.slice none 0 0))
    clear hu hok hk2 hk02 HN hz
    go_wp2
    refine bodyPost_ret (results_row_tmp rfl _ _ p 28 _ (0, 0) _ rfl HZS.out Tryd.underlying28 rfl (by rw [HI.out]; rfl)) rfl ?_
    exact ⟨.slice none 0 0, _, by rw [HD.out]; rfl, by rw [HD.out]; exact HU.out.far HK3.out HZ.out, by rw [HD.out]; exact Row.nil _ _ _, HKS.out⟩
end Go.Proofs.YtaalbjbocbagcaaDoor
