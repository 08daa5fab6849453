/- Package nego: heed, of an answer. -/
import Derived.Test.YtjomcffhbaplcaaGreatDoorQ38
namespace Go.Proofs.YtjomcffhbaplcaaGreatDoor
open Go.RowKit
set_option maxRecDepth 100000 in
set_option maxHeartbeats 4000000 in
theorem heed_ack (R : Nat → Prop) (g : Nat) (f : NF) (n : Pure.Neg) (pi : Int) (pd : List UInt8) (DA : Option Addr) (dc : Nat) (uv : Value) (w : World) (h : NObj w g R f n) :
    Calls Tryz.prog 42 #[.pointer (some ⟨g, 0, none⟩), pktV ⟨2, pi, pd⟩ (.slice DA pd.length dc), uv] w fun e w' => Heeded w g R f ⟨2, pi, pd⟩ (.slice DA pd.length dc) (8, { n with waits := false, acked := (Pure.split n.ours).2 }, ⟨⟨2, pi, pd⟩, 0, []⟩) e w' := by
  have HI := Lib.hid cause_info
  obtain ⟨w1, hw1, hP, hO, hC, hk1⟩ := three_new w #[.int .i64 2, .int .i64 pi, .slice DA pd.length dc] #[.int .i64 0, .int .i64 0, .slice none 0 0, .int .i64 0, .slice none 0 0] #[.int .i64 2, .int .i64 pi, .slice DA pd.length dc, .int .i64 0, .slice none 0 0] 40 82 82
  obtain ⟨rp, hrp⟩ : ∃ q, q = w.heap.size := ⟨_, rfl⟩
  rw [← hrp] at hP hO hC
  have hgl := h.blk.lt
  have hml := Blk.lt h.mach
  have H1 := Lib.hid (h.keeps hk1 (fun h => h) (fun h => h) (fun _ _ h => h))
  have HP := Lib.hid hP
  have HO := Lib.hid hO
  have HC := Lib.hid hC
  have HK1 := Lib.hid hk1
  have HRL := Lib.hid (show ∀ b, R b → b < rp by rw [hrp]; exact h.lt)
  have HGL := Lib.hid (show g < rp by omega)
  have HML := Lib.hid (show f.gm < rp by omega)
  have HRP := Lib.hid (show w.heap.size = rp from hrp.symm)
  have HKZ0 := Lib.hid (Keeps.refl nobody w1)
  have HQ0 := Lib.hid (show w1.cell? ⟨rp, 0, none⟩ = some (.int .i64 2) by rw [hP.cell]; rfl)
  have q0 : w1.cell? ⟨rp, 0, none⟩ = some (.int .i64 2) := by rw [hP.cell]; rfl
  go_enter Tryz.func42, Tryz.ntmps42
  go_upto_region 2 with fail
  rw [← hrp]
  rw [← hw1]
  clear hw1 hP hO hC hk1 hgl hml hrp h
  go_wp2_with fail
  refine wp_region_Z (fun w' => (Blk w' (rp + 1 + 1) 82 #[.int .i64 2, .int .i64 pi, .slice DA pd.length dc, .int .i64 0, .slice none 0 0]) ∧ w'.cell? ⟨rp, 0, none⟩ = some (.int .i64 2)) 7 8 rfl (by kernel_rfl) ⟨HC.out, HQ0.out⟩ (fun hHeld => ?_)
  have HSW := hHeld
  clear hHeld
  have HK0d := Lib.hid (HKZ0.out.drew)
  refine wpAnyZ_take (i := 0) rfl (by kernel_rfl) (fun _ _ _ h => h) (Or.inl ⟨by rfl, by intro w hSw; skip; go_simp; try with_reducible rfl⟩) HSW.out ?_
  simp only [Act.put, List.setIfInBounds_toArray, List.getElem_toArray, List.getElem_cons_zero, List.set_cons_succ, List.set_cons_zero]
  refine wpAnyZ_take (i := 1) rfl (by kernel_rfl) (fun _ _ _ h => h) (Or.inl ⟨by rfl, by intro w hSw; skip; go_simp; try with_reducible rfl⟩) HSW.out ?_
  simp only [Act.put, List.setIfInBounds_toArray, List.getElem_toArray, List.getElem_cons_succ, List.getElem_cons_zero, List.set_cons_succ, List.set_cons_zero]
  refine wpAnyZ_take (i := 2) rfl (by kernel_rfl) (fun _ _ _ h => h) (Or.inl ⟨by rfl, by intro w hSw; have s0 := hSw.2; go_simp; try with_reducible rfl⟩) HSW.out ?_
  simp only [Act.put, List.setIfInBounds_toArray, List.getElem_toArray, List.getElem_cons_succ, List.getElem_cons_zero, List.set_cons_succ, List.set_cons_zero]
  refine wpAnyZ_take (i := 3) rfl (by kernel_rfl) (fun _ _ _ h => h) (Or.inl ⟨by rfl, by intro w hSw; skip; go_simp; try with_reducible rfl⟩) HSW.out ?_
  simp only [Act.put, List.setIfInBounds_toArray, List.getElem_toArray, List.getElem_cons_succ, List.getElem_cons_zero, List.set_cons_succ, List.set_cons_zero]
  refine wpAnyZ_take (i := 5) rfl (by kernel_rfl) (fun _ _ _ h => h) (Or.inl ⟨by rfl, by intro w hSw; have s0 : w.cell? ⟨rp + 1 + 1, 0, none⟩ = some (.int .i64 2) := (by rw [Blk.cell hSw.1]; rfl); have s1 : w.cell? ⟨rp + 1 + 1, 1, none⟩ = some (.int .i64 pi) := (by rw [Blk.cell hSw.1]; rfl); have s2 : w.cell? ⟨rp + 1 + 1, 2, none⟩ = some (.slice DA pd.length dc) := (by rw [Blk.cell hSw.1]; rfl); have s3 : w.cell? ⟨rp + 1 + 1, 3, none⟩ = some (.int .i64 0) := (by rw [Blk.cell hSw.1]; rfl); have s4 : w.cell? ⟨rp + 1 + 1, 4, none⟩ = some (.slice none 0 0) := (by rw [Blk.cell hSw.1]; rfl); go_simp; try with_reducible rfl⟩) HSW.out ?_
  simp only [Act.put, List.setIfInBounds_toArray, List.getElem_toArray, List.getElem_cons_succ, List.getElem_cons_zero, List.set_cons_succ, List.set_cons_zero]
  refine wpAnyZ_one (i := 4) (by kernel_rfl) rfl (fun K hK => ?_)
  try rw [if_pos (by rfl)]
  go_simp
  refine (settle_ack R g f n uv _ (H1.out.keeps HK0d.out (fun h => h) (fun h => h) (fun _ _ h => h))).mono ?_
  rintro e w2 ⟨rfl, hst⟩
  have hk2 : Keeps (only g) w1.drew w2 := hst.keeps
  have HST := Lib.hid hst
  have HK2 := Lib.hid hk2
  have HS2 := Lib.hid (And.intro (HSW.out.1.keeps hk2 (fun e => by have e : rp + 1 + 1 = g := e; have := HGL.out; omega)) (cell_far hk2 (show rp ≠ g by have := HGL.out; omega) HSW.out.2))
  have HO2 := Lib.hid ((HO.out.keeps HK0d.out (fun h => h)).keeps hk2 (fun e => by have e : rp + 1 = g := e; have := HGL.out; omega))
  clear hst hk2
  refine hK.out _ _ (fun _ => HS2.out) ?_
  clear hK K
  try simp only [Act.put, List.setIfInBounds_toArray, Nat.reduceAdd, List.getElem_toArray, List.getElem_cons_succ, List.getElem_cons_zero, List.set_cons_succ, List.set_cons_zero]
  refine wpAnyZ_take (i := 6) rfl (by kernel_rfl) (fun _ _ _ h => h) (Or.inl ⟨by rfl, by intro w hSw; skip; go_simp; try with_reducible rfl⟩) HS2.out ?_
  simp only [Act.put, List.setIfInBounds_toArray, List.getElem_toArray, List.getElem_cons_succ, List.getElem_cons_zero, List.set_cons_succ, List.set_cons_zero]
  have hOz := HO2.out
  have y0 : w2.cell? ⟨rp + 1, 0, none⟩ = some (.int .i64 0) := by rw [hOz.cell]; rfl
  have v0 := hOz.frozen 0
  have y1 : w2.cell? ⟨rp + 1, 1, none⟩ = some (.int .i64 0) := by rw [hOz.cell]; rfl
  have v1 := hOz.frozen 1
  have y2 : w2.cell? ⟨rp + 1, 2, none⟩ = some (.slice none 0 0) := by rw [hOz.cell]; rfl
  have v2 := hOz.frozen 2
  have y3 : w2.cell? ⟨rp + 1, 3, none⟩ = some (.int .i64 0) := by rw [hOz.cell]; rfl
  have v3 := hOz.frozen 3
  have y4 : w2.cell? ⟨rp + 1, 4, none⟩ = some (.slice none 0 0) := by rw [hOz.cell]; rfl
  have v4 := hOz.frozen 4
  have HZ := Lib.hid (((((hOz.set 0 (.int .i64 2)).set 1 (.int .i64 pi)).set 2 (.slice DA pd.length dc)).set 3 (.int .i64 0)).set 4 (.slice none 0 0))
  have HKR := Lib.hid (((((((Keeps.refl (only (rp + 1)) w2).put 0 (.int .i64 2)).put 1 (.int .i64 pi)).put 2 (.slice DA pd.length dc)).put 3 (.int .i64 0)).put 4 (.slice none 0 0)))
  clear hOz
  refine wpAnyZ_one (i := 7) (by kernel_rfl) rfl (fun K hK => ?_)
  go_simp
  refine hK.out _ _ (fun h => absurd rfl h) ?_
  clear hK K
  refine wpAnyZ_done (by kernel_rfl) ?_ _
  go_wp2_with fail
  refine bodyPost_ret (results_tmp_row rfl _ _ (rp + 1) 82 _ (0, 0) _ rfl HZ.out Tryz.underlying82 rfl (by rw [HI.out]; rfl)) rfl ?_
  obtain ⟨f', hn', hgm', hk'⟩ := HST.out
  have hpg : rp + 1 ≠ g := by have := HGL.out; omega
  have hpm : rp + 1 ≠ f'.gm := by rw [hgm']; have := HML.out; omega
  refine ⟨_, [], f', Later w1.drew w2 R, rfl, ORow.nil _ _, rfl, ⟨by simp, by simp⟩, hn'.keeps HKR.out (fun e => hpg (by have e : g = rp + 1 := e; exact e.symm)) (fun e => hpm (by have e : f'.gm = rp + 1 := e; exact e.symm)) (fun b hb e => ?_), hgm', fun b hb => hb.1.imp (fun h => h) (fun h => Nat.le_trans (HK1.out.trans HK0d.out).size h), (((HK1.out.trans HK0d.out).mono (fun _ h => h.elim)).trans hk').trans' HKR.out (fun i hi hl => by have e : i = rp + 1 := hi; have := HRP.out; omega)⟩
  have e : b = rp + 1 := e
  subst e
  rcases hb.1 with hb | hb
  · have := HRL.out _ hb; omega
  · have := HO.out.lt; have := HK0d.out.size; omega
set_option maxRecDepth 100000 in
set_option maxHeartbeats 4000000 in
theorem heed_nak (R : Nat → Prop) (g : Nat) (f : NF) (n : Pure.Neg) (Fz : Nat → Prop) (zs : List (Value × Pure.Opt)) (pi : Int) (pd : List UInt8) (DA : Option Addr) (dc : Nat) (uv : Value) (w : World) (h : NObj w g R f n) (hz : ORow w Fz uv zs) (hfz : Pure.Fine (optsOf zs)) (hFz : ∀ b, Fz b → b ≠ g) :
    Calls Tryz.prog 42 #[.pointer (some ⟨g, 0, none⟩), pktV ⟨3, pi, pd⟩ (.slice DA pd.length dc), uv] w fun e w' => Heeded w g R f ⟨3, pi, pd⟩ (.slice DA pd.length dc) (9, { n with waits := false, request := Pure.naked n.rules n.request (optsOf zs) }, ⟨⟨3, pi, pd⟩, 0, []⟩) e w' := by
  have HUZ := Lib.hid hz
  have HFN := Lib.hid hfz
  have HFZ := Lib.hid hFz
  obtain ⟨UA, uc, rfl, _⟩ := hz.form
  clear hz hfz hFz
  have HI := Lib.hid cause_info
  obtain ⟨w1, hw1, hP, hO, hC, hk1⟩ := three_new w #[.int .i64 3, .int .i64 pi, .slice DA pd.length dc] #[.int .i64 0, .int .i64 0, .slice none 0 0, .int .i64 0, .slice none 0 0] #[.int .i64 3, .int .i64 pi, .slice DA pd.length dc, .int .i64 0, .slice none 0 0] 40 82 82
  obtain ⟨rp, hrp⟩ : ∃ q, q = w.heap.size := ⟨_, rfl⟩
  rw [← hrp] at hP hO hC
  have hgl := h.blk.lt
  have hml := Blk.lt h.mach
  have H1 := Lib.hid (h.keeps hk1 (fun h => h) (fun h => h) (fun _ _ h => h))
  have HP := Lib.hid hP
  have HO := Lib.hid hO
  have HC := Lib.hid hC
  have HK1 := Lib.hid hk1
  have HRL := Lib.hid (show ∀ b, R b → b < rp by rw [hrp]; exact h.lt)
  have HGL := Lib.hid (show g < rp by omega)
  have HML := Lib.hid (show f.gm < rp by omega)
  have HRP := Lib.hid (show w.heap.size = rp from hrp.symm)
  have HKZ0 := Lib.hid (Keeps.refl nobody w1)
  have HQ0 := Lib.hid (show w1.cell? ⟨rp, 0, none⟩ = some (.int .i64 3) by rw [hP.cell]; rfl)
  have q0 : w1.cell? ⟨rp, 0, none⟩ = some (.int .i64 3) := by rw [hP.cell]; rfl
  go_enter Tryz.func42, Tryz.ntmps42
  go_upto_region 2 with fail
  rw [← hrp]
  rw [← hw1]
  clear hw1 hP hO hC hk1 hgl hml hrp h
  go_wp2_with fail
  refine wp_region_Z (fun w' => (Blk w' (rp + 1 + 1) 82 #[.int .i64 3, .int .i64 pi, .slice DA pd.length dc, .int .i64 0, .slice none 0 0]) ∧ w'.cell? ⟨rp, 0, none⟩ = some (.int .i64 3)) 7 8 rfl (by kernel_rfl) ⟨HC.out, HQ0.out⟩ (fun hHeld => ?_)
  have HSW := hHeld
  clear hHeld
  have HK0d := Lib.hid (HKZ0.out.drew)
  refine wpAnyZ_take (i := 0) rfl (by kernel_rfl) (fun _ _ _ h => h) (Or.inl ⟨by rfl, by intro w hSw; skip; go_simp; try with_reducible rfl⟩) HSW.out ?_
  simp only [Act.put, List.setIfInBounds_toArray, List.getElem_toArray, List.getElem_cons_zero, List.set_cons_succ, List.set_cons_zero]
  refine wpAnyZ_take (i := 1) rfl (by kernel_rfl) (fun _ _ _ h => h) (Or.inl ⟨by rfl, by intro w hSw; skip; go_simp; try with_reducible rfl⟩) HSW.out ?_
  simp only [Act.put, List.setIfInBounds_toArray, List.getElem_toArray, List.getElem_cons_succ, List.getElem_cons_zero, List.set_cons_succ, List.set_cons_zero]
  refine wpAnyZ_take (i := 2) rfl (by kernel_rfl) (fun _ _ _ h => h) (Or.inl ⟨by rfl, by intro w hSw; have s0 := hSw.2; go_simp; try with_reducible rfl⟩) HSW.out ?_
  simp only [Act.put, List.setIfInBounds_toArray, List.getElem_toArray, List.getElem_cons_succ, List.getElem_cons_zero, List.set_cons_succ, List.set_cons_zero]
  refine wpAnyZ_take (i := 3) rfl (by kernel_rfl) (fun _ _ _ h => h) (Or.inl ⟨by rfl, by intro w hSw; skip; go_simp; try with_reducible rfl⟩) HSW.out ?_
  simp only [Act.put, List.setIfInBounds_toArray, List.getElem_toArray, List.getElem_cons_succ, List.getElem_cons_zero, List.set_cons_succ, List.set_cons_zero]
  refine wpAnyZ_take (i := 5) rfl (by kernel_rfl) (fun _ _ _ h => h) (Or.inl ⟨by rfl, by intro w hSw; have s0 : w.cell? ⟨rp + 1 + 1, 0, none⟩ = some (.int .i64 3) := (by rw [Blk.cell hSw.1]; rfl); have s1 : w.cell? ⟨rp + 1 + 1, 1, none⟩ = some (.int .i64 pi) := (by rw [Blk.cell hSw.1]; rfl); have s2 : w.cell? ⟨rp + 1 + 1, 2, none⟩ = some (.slice DA pd.length dc) := (by rw [Blk.cell hSw.1]; rfl); have s3 : w.cell? ⟨rp + 1 + 1, 3, none⟩ = some (.int .i64 0) := (by rw [Blk.cell hSw.1]; rfl); have s4 : w.cell? ⟨rp + 1 + 1, 4, none⟩ = some (.slice none 0 0) := (by rw [Blk.cell hSw.1]; rfl); go_simp; try with_reducible rfl⟩) HSW.out ?_
  simp only [Act.put, List.setIfInBounds_toArray, List.getElem_toArray, List.getElem_cons_succ, List.getElem_cons_zero, List.set_cons_succ, List.set_cons_zero]
  refine wpAnyZ_one (i := 4) (by kernel_rfl) rfl (fun K hK => ?_)
  try rw [if_pos (by rfl)]
  go_simp
  refine (settle_nak R Fz g f n _ zs _ (H1.out.keeps HK0d.out (fun h => h) (fun h => h) (fun _ _ h => h)) ((HUZ.out.keeps HK1.out (fun _ _ h => h)).keeps HK0d.out (fun _ _ h => h)) HFN.out HFZ.out).mono ?_
  rintro e w2 ⟨rfl, hst⟩
  have hk2 : Keeps (only g) w1.drew w2 := hst.keeps
  have HST := Lib.hid hst
  have HK2 := Lib.hid hk2
  have HS2 := Lib.hid (And.intro (HSW.out.1.keeps hk2 (fun e => by have e : rp + 1 + 1 = g := e; have := HGL.out; omega)) (cell_far hk2 (show rp ≠ g by have := HGL.out; omega) HSW.out.2))
  have HO2 := Lib.hid ((HO.out.keeps HK0d.out (fun h => h)).keeps hk2 (fun e => by have e : rp + 1 = g := e; have := HGL.out; omega))
  clear hst hk2
  refine hK.out _ _ (fun _ => HS2.out) ?_
  clear hK K
  try simp only [Act.put, List.setIfInBounds_toArray, Nat.reduceAdd, List.getElem_toArray, List.getElem_cons_succ, List.getElem_cons_zero, List.set_cons_succ, List.set_cons_zero]
  refine wpAnyZ_take (i := 6) rfl (by kernel_rfl) (fun _ _ _ h => h) (Or.inl ⟨by rfl, by intro w hSw; skip; go_simp; try with_reducible rfl⟩) HS2.out ?_
  simp only [Act.put, List.setIfInBounds_toArray, List.getElem_toArray, List.getElem_cons_succ, List.getElem_cons_zero, List.set_cons_succ, List.set_cons_zero]
  have hOz := HO2.out
  have y0 : w2.cell? ⟨rp + 1, 0, none⟩ = some (.int .i64 0) := by rw [hOz.cell]; rfl
  have v0 := hOz.frozen 0
  have y1 : w2.cell? ⟨rp + 1, 1, none⟩ = some (.int .i64 0) := by rw [hOz.cell]; rfl
  have v1 := hOz.frozen 1
  have y2 : w2.cell? ⟨rp + 1, 2, none⟩ = some (.slice none 0 0) := by rw [hOz.cell]; rfl
  have v2 := hOz.frozen 2
  have y3 : w2.cell? ⟨rp + 1, 3, none⟩ = some (.int .i64 0) := by rw [hOz.cell]; rfl
  have v3 := hOz.frozen 3
  have y4 : w2.cell? ⟨rp + 1, 4, none⟩ = some (.slice none 0 0) := by rw [hOz.cell]; rfl
  have v4 := hOz.frozen 4
  have HZ := Lib.hid (((((hOz.set 0 (.int .i64 3)).set 1 (.int .i64 pi)).set 2 (.slice DA pd.length dc)).set 3 (.int .i64 0)).set 4 (.slice none 0 0))
  have HKR := Lib.hid (((((((Keeps.refl (only (rp + 1)) w2).put 0 (.int .i64 3)).put 1 (.int .i64 pi)).put 2 (.slice DA pd.length dc)).put 3 (.int .i64 0)).put 4 (.slice none 0 0)))
  clear hOz
  refine wpAnyZ_one (i := 7) (by kernel_rfl) rfl (fun K hK => ?_)
  go_simp
  refine hK.out _ _ (fun h => absurd rfl h) ?_
  clear hK K
  refine wpAnyZ_done (by kernel_rfl) ?_ _
  go_wp2_with fail
  refine bodyPost_ret (results_tmp_row rfl _ _ (rp + 1) 82 _ (0, 0) _ rfl HZ.out Tryz.underlying82 rfl (by rw [HI.out]; rfl)) rfl ?_
  obtain ⟨f', hn', hgm', hk'⟩ := HST.out
  have hpg : rp + 1 ≠ g := by have := HGL.out; omega
  have hpm : rp + 1 ≠ f'.gm := by rw [hgm']; have := HML.out; omega
  refine ⟨_, [], f', Later w1.drew w2 R, rfl, ORow.nil _ _, rfl, ⟨by simp, by simp⟩, hn'.keeps HKR.out (fun e => hpg (by have e : g = rp + 1 := e; exact e.symm)) (fun e => hpm (by have e : f'.gm = rp + 1 := e; exact e.symm)) (fun b hb e => ?_), hgm', fun b hb => hb.1.imp (fun h => h) (fun h => Nat.le_trans (HK1.out.trans HK0d.out).size h), (((HK1.out.trans HK0d.out).mono (fun _ h => h.elim)).trans hk').trans' HKR.out (fun i hi hl => by have e : i = rp + 1 := hi; have := HRP.out; omega)⟩
  have e : b = rp + 1 := e
  subst e
  rcases hb.1 with hb | hb
  · have := HRL.out _ hb; omega
  · have := HO.out.lt; have := HK0d.out.size; omega
set_option maxRecDepth 100000 in
set_option maxHeartbeats 4000000 in
theorem heed_rej (R : Nat → Prop) (g : Nat) (f : NF) (n : Pure.Neg) (Fz : Nat → Prop) (zs : List (Value × Pure.Opt)) (pi : Int) (pd : List UInt8) (DA : Option Addr) (dc : Nat) (uv : Value) (w : World) (h : NObj w g R f n) (hz : ORow w Fz uv zs) (hfz : Pure.Fine (optsOf zs)) (hFz : ∀ b, Fz b → b ≠ g) :
    Calls Tryz.prog 42 #[.pointer (some ⟨g, 0, none⟩), pktV ⟨4, pi, pd⟩ (.slice DA pd.length dc), uv] w fun e w' => Heeded w g R f ⟨4, pi, pd⟩ (.slice DA pd.length dc) (9, { n with waits := false, request := Pure.left n.rules n.request (optsOf zs) }, ⟨⟨4, pi, pd⟩, 0, []⟩) e w' := by
  have HUZ := Lib.hid hz
  have HFN := Lib.hid hfz
  have HFZ := Lib.hid hFz
  obtain ⟨UA, uc, rfl, _⟩ := hz.form
  clear hz hfz hFz
  have HI := Lib.hid cause_info
  obtain ⟨w1, hw1, hP, hO, hC, hk1⟩ := three_new w #[.int .i64 4, .int .i64 pi, .slice DA pd.length dc] #[.int .i64 0, .int .i64 0, .slice none 0 0, .int .i64 0, .slice none 0 0] #[.int .i64 4, .int .i64 pi, .slice DA pd.length dc, .int .i64 0, .slice none 0 0] 40 82 82
  obtain ⟨rp, hrp⟩ : ∃ q, q = w.heap.size := ⟨_, rfl⟩
  rw [← hrp] at hP hO hC
  have hgl := h.blk.lt
  have hml := Blk.lt h.mach
  have H1 := Lib.hid (h.keeps hk1 (fun h => h) (fun h => h) (fun _ _ h => h))
  have HP := Lib.hid hP
  have HO := Lib.hid hO
  have HC := Lib.hid hC
  have HK1 := Lib.hid hk1
  have HRL := Lib.hid (show ∀ b, R b → b < rp by rw [hrp]; exact h.lt)
  have HGL := Lib.hid (show g < rp by omega)
  have HML := Lib.hid (show f.gm < rp by omega)
  have HRP := Lib.hid (show w.heap.size = rp from hrp.symm)
  have HKZ0 := Lib.hid (Keeps.refl nobody w1)
  have HQ0 := Lib.hid (show w1.cell? ⟨rp, 0, none⟩ = some (.int .i64 4) by rw [hP.cell]; rfl)
  have q0 : w1.cell? ⟨rp, 0, none⟩ = some (.int .i64 4) := by rw [hP.cell]; rfl
  go_enter Tryz.func42, Tryz.ntmps42
  go_upto_region 2 with fail
  rw [← hrp]
  rw [← hw1]
  clear hw1 hP hO hC hk1 hgl hml hrp h
  go_wp2_with fail
  refine wp_region_Z (fun w' => (Blk w' (rp + 1 + 1) 82 #[.int .i64 4, .int .i64 pi, .slice DA pd.length dc, .int .i64 0, .slice none 0 0]) ∧ w'.cell? ⟨rp, 0, none⟩ = some (.int .i64 4)) 7 8 rfl (by kernel_rfl) ⟨HC.out, HQ0.out⟩ (fun hHeld => ?_)
  have HSW := hHeld
  clear hHeld
  have HK0d := Lib.hid (HKZ0.out.drew)
  refine wpAnyZ_take (i := 0) rfl (by kernel_rfl) (fun _ _ _ h => h) (Or.inl ⟨by rfl, by intro w hSw; skip; go_simp; try with_reducible rfl⟩) HSW.out ?_
  simp only [Act.put, List.setIfInBounds_toArray, List.getElem_toArray, List.getElem_cons_zero, List.set_cons_succ, List.set_cons_zero]
  refine wpAnyZ_take (i := 1) rfl (by kernel_rfl) (fun _ _ _ h => h) (Or.inl ⟨by rfl, by intro w hSw; skip; go_simp; try with_reducible rfl⟩) HSW.out ?_
  simp only [Act.put, List.setIfInBounds_toArray, List.getElem_toArray, List.getElem_cons_succ, List.getElem_cons_zero, List.set_cons_succ, List.set_cons_zero]
  refine wpAnyZ_take (i := 2) rfl (by kernel_rfl) (fun _ _ _ h => h) (Or.inl ⟨by rfl, by intro w hSw; have s0 := hSw.2; go_simp; try with_reducible rfl⟩) HSW.out ?_
  simp only [Act.put, List.setIfInBounds_toArray, List.getElem_toArray, List.getElem_cons_succ, List.getElem_cons_zero, List.set_cons_succ, List.set_cons_zero]
  refine wpAnyZ_take (i := 3) rfl (by kernel_rfl) (fun _ _ _ h => h) (Or.inl ⟨by rfl, by intro w hSw; skip; go_simp; try with_reducible rfl⟩) HSW.out ?_
  simp only [Act.put, List.setIfInBounds_toArray, List.getElem_toArray, List.getElem_cons_succ, List.getElem_cons_zero, List.set_cons_succ, List.set_cons_zero]
  refine wpAnyZ_take (i := 5) rfl (by kernel_rfl) (fun _ _ _ h => h) (Or.inl ⟨by rfl, by intro w hSw; have s0 : w.cell? ⟨rp + 1 + 1, 0, none⟩ = some (.int .i64 4) := (by rw [Blk.cell hSw.1]; rfl); have s1 : w.cell? ⟨rp + 1 + 1, 1, none⟩ = some (.int .i64 pi) := (by rw [Blk.cell hSw.1]; rfl); have s2 : w.cell? ⟨rp + 1 + 1, 2, none⟩ = some (.slice DA pd.length dc) := (by rw [Blk.cell hSw.1]; rfl); have s3 : w.cell? ⟨rp + 1 + 1, 3, none⟩ = some (.int .i64 0) := (by rw [Blk.cell hSw.1]; rfl); have s4 : w.cell? ⟨rp + 1 + 1, 4, none⟩ = some (.slice none 0 0) := (by rw [Blk.cell hSw.1]; rfl); go_simp; try with_reducible rfl⟩) HSW.out ?_
  simp only [Act.put, List.setIfInBounds_toArray, List.getElem_toArray, List.getElem_cons_succ, List.getElem_cons_zero, List.set_cons_succ, List.set_cons_zero]
  refine wpAnyZ_one (i := 4) (by kernel_rfl) rfl (fun K hK => ?_)
  try rw [if_pos (by rfl)]
  go_simp
  refine (settle_rej R Fz g f n _ zs _ (H1.out.keeps HK0d.out (fun h => h) (fun h => h) (fun _ _ h => h)) ((HUZ.out.keeps HK1.out (fun _ _ h => h)).keeps HK0d.out (fun _ _ h => h)) HFN.out HFZ.out).mono ?_
  rintro e w2 ⟨rfl, hst⟩
  have hk2 : Keeps (only g) w1.drew w2 := hst.keeps
  have HST := Lib.hid hst
  have HK2 := Lib.hid hk2
  have HS2 := Lib.hid (And.intro (HSW.out.1.keeps hk2 (fun e => by have e : rp + 1 + 1 = g := e; have := HGL.out; omega)) (cell_far hk2 (show rp ≠ g by have := HGL.out; omega) HSW.out.2))
  have HO2 := Lib.hid ((HO.out.keeps HK0d.out (fun h => h)).keeps hk2 (fun e => by have e : rp + 1 = g := e; have := HGL.out; omega))
  clear hst hk2
  refine hK.out _ _ (fun _ => HS2.out) ?_
  clear hK K
  try simp only [Act.put, List.setIfInBounds_toArray, Nat.reduceAdd, List.getElem_toArray, List.getElem_cons_succ, List.getElem_cons_zero, List.set_cons_succ, List.set_cons_zero]
  refine wpAnyZ_take (i := 6) rfl (by kernel_rfl) (fun _ _ _ h => h) (Or.inl ⟨by rfl, by intro w hSw; skip; go_simp; try with_reducible rfl⟩) HS2.out ?_
  simp only [Act.put, List.setIfInBounds_toArray, List.getElem_toArray, List.getElem_cons_succ, List.getElem_cons_zero, List.set_cons_succ, List.set_cons_zero]
  have hOz := HO2.out
  have y0 : w2.cell? ⟨rp + 1, 0, none⟩ = some (.int .i64 0) := by rw [hOz.cell]; rfl
  have v0 := hOz.frozen 0
  have y1 : w2.cell? ⟨rp + 1, 1, none⟩ = some (.int .i64 0) := by rw [hOz.cell]; rfl
  have v1 := hOz.frozen 1
  have y2 : w2.cell? ⟨rp + 1, 2, none⟩ = some (.slice none 0 0) := by rw [hOz.cell]; rfl
  have v2 := hOz.frozen 2
  have y3 : w2.cell? ⟨rp + 1, 3, none⟩ = some (.int .i64 0) := by rw [hOz.cell]; rfl
  have v3 := hOz.frozen 3
  have y4 : w2.cell? ⟨rp + 1, 4, none⟩ = some (.slice none 0 0) := by rw [hOz.cell]; rfl
  have v4 := hOz.frozen 4
  have HZ := Lib.hid (((((hOz.set 0 (.int .i64 4)).set 1 (.int .i64 pi)).set 2 (.slice DA pd.length dc)).set 3 (.int .i64 0)).set 4 (.slice none 0 0))
  have HKR := Lib.hid (((((((Keeps.refl (only (rp + 1)) w2).put 0 (.int .i64 4)).put 1 (.int .i64 pi)).put 2 (.slice DA pd.length dc)).put 3 (.int .i64 0)).put 4 (.slice none 0 0)))
  clear hOz
  refine wpAnyZ_one (i := 7) (by kernel_rfl) rfl (fun K hK => ?_)
  go_simp
  refine hK.out _ _ (fun h => absurd rfl h) ?_
  clear hK K
  refine wpAnyZ_done (by kernel_rfl) ?_ _
  go_wp2_with fail
  refine bodyPost_ret (results_tmp_row rfl _ _ (rp + 1) 82 _ (0, 0) _ rfl HZ.out Tryz.underlying82 rfl (by rw [HI.out]; rfl)) rfl ?_
  obtain ⟨f', hn', hgm', hk'⟩ := HST.out
  have hpg : rp + 1 ≠ g := by have := HGL.out; omega
  have hpm : rp + 1 ≠ f'.gm := by rw [hgm']; have := HML.out; omega
  refine ⟨_, [], f', Later w1.drew w2 R, rfl, ORow.nil _ _, rfl, ⟨by simp, by simp⟩, hn'.keeps HKR.out (fun e => hpg (by have e : g = rp + 1 := e; exact e.symm)) (fun e => hpm (by have e : f'.gm = rp + 1 := e; exact e.symm)) (fun b hb e => ?_), hgm', fun b hb => hb.1.imp (fun h => h) (fun h => Nat.le_trans (HK1.out.trans HK0d.out).size h), (((HK1.out.trans HK0d.out).mono (fun _ h => h.elim)).trans hk').trans' HKR.out (fun i hi hl => by have e : i = rp + 1 := hi; have := HRP.out; omega)⟩
  have e : b = rp + 1 := e
  subst e
  rcases hb.1 with hb | hb
  · have := HRL.out _ hb; omega
  · have := HO.out.lt; have := HK0d.out.size; omega
end Go.Proofs.YtjomcffhbaplcaaGreatDoor
