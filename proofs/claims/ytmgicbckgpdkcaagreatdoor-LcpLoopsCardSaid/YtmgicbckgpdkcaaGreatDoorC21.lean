/- Package nego: heed, of an answer. -/
import Derived.PinnedBridge
import Derived.Lay
import Derived.LaidMore
import Derived.Lib.LaidU8T
import Derived.Stop.LaidErr
import Derived.Test.YtmgicbckgpdkcaaGreatDoorC20
namespace Go.Proofs.YtmgicbckgpdkcaaGreatDoor
set_option maxRecDepth 100000
set_option maxHeartbeats 4000000
open _root_.Go.Lib renaming hid → xhd
open List renaming setIfInBounds_toArray → xqA, getElem_toArray → xqB, getElem_cons_succ → xqC, getElem_cons_zero → xqD, set_cons_succ → xqE, set_cons_zero → xqF
open Go.RowKit
theorem heed_ack (R : Nat → Prop) (g : Nat) (f : NF) (n : Pure.Neg) (pi : Int) (pd : List UInt8) (DA : Option Addr) (dc : Nat) (uv : Value) (w : World) (h : NObj w g R f n) :
  Calls Tryz.prog 133 #[.pointer (some ⟨g, 0, none⟩), pktV ⟨2, pi, pd⟩ (.slice DA pd.length dc), uv] w fun e w' => y4g w g R f ⟨2, pi, pd⟩ (.slice DA pd.length dc) (8, { n with waits := false, acked := (Pure.split n.ours).2 }, ⟨⟨2, pi, pd⟩, 0, []⟩) e w' := by
 have HI := xhd y2h
 obtain ⟨w1, hw1, hP, hO, hC, hk1⟩ := y37 w #[.int .i64 2, .int .i64 pi, .slice DA pd.length dc] #[.int .i64 0, .int .i64 0, .slice none 0 0, .int .i64 0, .slice none 0 0] #[.int .i64 2, .int .i64 pi, .slice DA pd.length dc, .int .i64 0, .slice none 0 0] 56 180 180
 obtain ⟨rp, hrp⟩ : ∃ q, q = w.heap.size := ⟨_, rfl⟩
 rw [← hrp] at hP hO hC
 have hgl := h.blk.lt
 have hml := Blk.lt h.mach
 have H1 := xhd (h.keeps hk1 (fun h => h) (fun h => h) (fun _ _ h => h))
 have HP := xhd hP
 have HO := xhd hO
 have HC := xhd hC
 have HK1 := xhd hk1
 have HRL := xhd (show ∀ b, R b → b < rp by rw [hrp]; exact h.lt)
 have HGL := xhd (show g < rp by omega)
 have HML := xhd (show f.gm < rp by omega)
 have HRP := xhd (show w.heap.size = rp from hrp.symm)
 have HKZ0 := xhd (Keeps.refl y01 w1)
 have HQ0 := xhd (show w1.cell? ⟨rp, 0, none⟩ = some (.int .i64 2) by rw [hP.cell]; rfl)
 have q0 : w1.cell? ⟨rp, 0, none⟩ = some (.int .i64 2) := by rw [hP.cell]; rfl
 go_enter Tryz.func133, Tryz.ntmps133
 go_upto_region 2 with fail
 rw [← hrp]
 rw [← hw1]
 clear hw1 hP hO hC hk1 hgl hml hrp h
 go_wp2_with fail
 refine y0b (fun w' => (Blk w' (rp + 1 + 1) 180 #[.int .i64 2, .int .i64 pi, .slice DA pd.length dc, .int .i64 0, .slice none 0 0]) ∧ w'.cell? ⟨rp, 0, none⟩ = some (.int .i64 2)) 7 8 rfl (by kernel_rfl) ⟨HC.out, HQ0.out⟩ (fun hHeld => ?_)
 have HSW := hHeld
 clear hHeld
 have HK0d := xhd (HKZ0.out.drew)
 refine y00 (i := 0) rfl (by kernel_rfl) (fun _ _ _ h => h) (Or.inl ⟨by rfl, by intro w hSw; skip; go_simp; try with_reducible rfl⟩) HSW.out ?_
 simp only [Act.put, xqA, xqB, xqD, xqE, xqF]
 refine y00 (i := 1) rfl (by kernel_rfl) (fun _ _ _ h => h) (Or.inl ⟨by rfl, by intro w hSw; skip; go_simp; try with_reducible rfl⟩) HSW.out ?_
 simp only [Act.put, xqA, xqB, xqC, xqD, xqE, xqF]
 refine y00 (i := 2) rfl (by kernel_rfl) (fun _ _ _ h => h) (Or.inl ⟨by rfl, by intro w hSw; have s0 := hSw.2; go_simp; try with_reducible rfl⟩) HSW.out ?_
 simp only [Act.put, xqA, xqB, xqC, xqD, xqE, xqF]
 refine y00 (i := 3) rfl (by kernel_rfl) (fun _ _ _ h => h) (Or.inl ⟨by rfl, by intro w hSw; skip; go_simp; try with_reducible rfl⟩) HSW.out ?_
 simp only [Act.put, xqA, xqB, xqC, xqD, xqE, xqF]
 refine y00 (i := 5) rfl (by kernel_rfl) (fun _ _ _ h => h) (Or.inl ⟨by rfl, by intro w hSw; have s0 : w.cell? ⟨rp + 1 + 1, 0, none⟩ = some (.int .i64 2) := (by rw [Blk.cell hSw.1]; rfl); have s1 : w.cell? ⟨rp + 1 + 1, 1, none⟩ = some (.int .i64 pi) := (by rw [Blk.cell hSw.1]; rfl); have s2 : w.cell? ⟨rp + 1 + 1, 2, none⟩ = some (.slice DA pd.length dc) := (by rw [Blk.cell hSw.1]; rfl); have s3 : w.cell? ⟨rp + 1 + 1, 3, none⟩ = some (.int .i64 0) := (by rw [Blk.cell hSw.1]; rfl); have s4 : w.cell? ⟨rp + 1 + 1, 4, none⟩ = some (.slice none 0 0) := (by rw [Blk.cell hSw.1]; rfl); go_simp; try with_reducible rfl⟩) HSW.out ?_
 simp only [Act.put, xqA, xqB, xqC, xqD, xqE, xqF]
 refine y03 (i := 4) (by kernel_rfl) rfl (fun K hK => ?_)
 try rw [if_pos (by rfl)]
 go_simp
 refine (settle_ack R g f n uv _ (H1.out.keeps HK0d.out (fun h => h) (fun h => h) (fun _ _ h => h))).mono ?_
 rintro e w2 ⟨rfl, hst⟩
 have hk2 : Keeps (only g) w1.drew w2 := hst.keeps
 have HST := xhd hst
 have HK2 := xhd hk2
 have HS2 := xhd (And.intro (HSW.out.1.keeps hk2 (fun e => by have e : rp + 1 + 1 = g := e; have := HGL.out; omega)) (y49 hk2 (show rp ≠ g by have := HGL.out; omega) HSW.out.2))
 have HO2 := xhd ((HO.out.keeps HK0d.out (fun h => h)).keeps hk2 (fun e => by have e : rp + 1 = g := e; have := HGL.out; omega))
 clear hst hk2
 refine hK.out _ _ (fun _ => HS2.out) ?_
 clear hK K
 try simp only [Act.put, xqA, Nat.reduceAdd, xqB, xqC, xqD, xqE, xqF]
 refine y00 (i := 6) rfl (by kernel_rfl) (fun _ _ _ h => h) (Or.inl ⟨by rfl, by intro w hSw; skip; go_simp; try with_reducible rfl⟩) HS2.out ?_
 simp only [Act.put, xqA, xqB, xqC, xqD, xqE, xqF]
 have hOz := HO2.out
 have y0 : w2.cell? ⟨rp + 1, 0, none⟩ = some (.int .i64 0) := by rw [hOz.cell]; rfl
 have v0 := hOz.frozen 0
 have y1 : w2.cell? ⟨rp + 1, 1, none⟩ = some (.int .i64 0) := by rw [hOz.cell]; rfl
 have v1 := hOz.frozen 1
 have y2 : w2.cell? ⟨rp + 1, 2, none⟩ = some (.slice none 0 0) := by rw [hOz.cell]; rfl
 have v2 := hOz.frozen 2
 have y3 : w2.cell? ⟨rp + 1, 3, none⟩ = some (.int .i64 0) := by rw [hOz.cell]; rfl
 have v3 := hOz.frozen 3
 have y4 : w2.cell? ⟨rp + 1, 4, none⟩ = some (.slice none 0 0) := by rw [hOz.cell]; rfl
 have v4 := hOz.frozen 4
 have HZ := xhd (((((hOz.set 0 (.int .i64 2)).set 1 (.int .i64 pi)).set 2 (.slice DA pd.length dc)).set 3 (.int .i64 0)).set 4 (.slice none 0 0))
 have HKR := xhd (((((((Keeps.refl (only (rp + 1)) w2).put 0 (.int .i64 2)).put 1 (.int .i64 pi)).put 2 (.slice DA pd.length dc)).put 3 (.int .i64 0)).put 4 (.slice none 0 0)))
 clear hOz
 refine y03 (i := 7) (by kernel_rfl) rfl (fun K hK => ?_)
 go_simp
 refine hK.out _ _ (fun h => absurd rfl h) ?_
 clear hK K
 refine y09 (by kernel_rfl) ?_ _
 go_wp2_with fail
 refine bodyPost_ret (y1h rfl _ _ (rp + 1) 180 _ (0, 0) _ rfl HZ.out Tryz.underlying180 rfl (by rw [HI.out]; rfl)) rfl ?_
 obtain ⟨f', hn', hgm', hk'⟩ := HST.out
 have hpg : rp + 1 ≠ g := by have := HGL.out; omega
 have hpm : rp + 1 ≠ f'.gm := by rw [hgm']; have := HML.out; omega
 refine ⟨_, [], f', y1c w1.drew w2 R, rfl, ORow.nil _ _, rfl, ⟨by simp, by simp⟩, hn'.keeps HKR.out (fun e => hpg (by have e : g = rp + 1 := e; exact e.symm)) (fun e => hpm (by have e : f'.gm = rp + 1 := e; exact e.symm)) (fun b hb e => ?_), hgm', fun b hb => hb.1.imp (fun h => h) (fun h => Nat.le_trans (HK1.out.trans HK0d.out).size h), (((HK1.out.trans HK0d.out).mono (fun _ h => h.elim)).trans hk').trans' HKR.out (fun i hi hl => by have e : i = rp + 1 := hi; have := HRP.out; omega)⟩
 have e : b = rp + 1 := e
 subst e
 rcases hb.1 with hb | hb
 ·have := HRL.out _ hb; omega
 ·have := HO.out.lt; have := HK0d.out.size; omega
theorem heed_nak (R : Nat → Prop) (g : Nat) (f : NF) (n : Pure.Neg) (Fz : Nat → Prop) (zs : List (Value × Pure.Opt)) (pi : Int) (pd : List UInt8) (DA : Option Addr) (dc : Nat) (uv : Value) (w : World) (h : NObj w g R f n) (hz : ORow w Fz uv zs) (hfz : Pure.Fine (y02 zs)) (hFz : ∀ b, Fz b → b ≠ g) :
  Calls Tryz.prog 133 #[.pointer (some ⟨g, 0, none⟩), pktV ⟨3, pi, pd⟩ (.slice DA pd.length dc), uv] w fun e w' => y4g w g R f ⟨3, pi, pd⟩ (.slice DA pd.length dc) (9, { n with waits := false, request := Pure.naked n.rules n.request (y02 zs) }, ⟨⟨3, pi, pd⟩, 0, []⟩) e w' := by
 have HUZ := xhd hz
 have HFN := xhd hfz
 have HFZ := xhd hFz
 obtain ⟨UA, uc, rfl, _⟩ := hz.form
 clear hz hfz hFz
 have HI := xhd y2h
 obtain ⟨w1, hw1, hP, hO, hC, hk1⟩ := y37 w #[.int .i64 3, .int .i64 pi, .slice DA pd.length dc] #[.int .i64 0, .int .i64 0, .slice none 0 0, .int .i64 0, .slice none 0 0] #[.int .i64 3, .int .i64 pi, .slice DA pd.length dc, .int .i64 0, .slice none 0 0] 56 180 180
 obtain ⟨rp, hrp⟩ : ∃ q, q = w.heap.size := ⟨_, rfl⟩
 rw [← hrp] at hP hO hC
 have hgl := h.blk.lt
 have hml := Blk.lt h.mach
 have H1 := xhd (h.keeps hk1 (fun h => h) (fun h => h) (fun _ _ h => h))
 have HP := xhd hP
 have HO := xhd hO
 have HC := xhd hC
 have HK1 := xhd hk1
 have HRL := xhd (show ∀ b, R b → b < rp by rw [hrp]; exact h.lt)
 have HGL := xhd (show g < rp by omega)
 have HML := xhd (show f.gm < rp by omega)
 have HRP := xhd (show w.heap.size = rp from hrp.symm)
 have HKZ0 := xhd (Keeps.refl y01 w1)
 have HQ0 := xhd (show w1.cell? ⟨rp, 0, none⟩ = some (.int .i64 3) by rw [hP.cell]; rfl)
 have q0 : w1.cell? ⟨rp, 0, none⟩ = some (.int .i64 3) := by rw [hP.cell]; rfl
 go_enter Tryz.func133, Tryz.ntmps133
 go_upto_region 2 with fail
 rw [← hrp]
 rw [← hw1]
 clear hw1 hP hO hC hk1 hgl hml hrp h
 go_wp2_with fail
 refine y0b (fun w' => (Blk w' (rp + 1 + 1) 180 #[.int .i64 3, .int .i64 pi, .slice DA pd.length dc, .int .i64 0, .slice none 0 0]) ∧ w'.cell? ⟨rp, 0, none⟩ = some (.int .i64 3)) 7 8 rfl (by kernel_rfl) ⟨HC.out, HQ0.out⟩ (fun hHeld => ?_)
 have HSW := hHeld
 clear hHeld
 have HK0d := xhd (HKZ0.out.drew)
 refine y00 (i := 0) rfl (by kernel_rfl) (fun _ _ _ h => h) (Or.inl ⟨by rfl, by intro w hSw; skip; go_simp; try with_reducible rfl⟩) HSW.out ?_
 simp only [Act.put, xqA, xqB, xqD, xqE, xqF]
 refine y00 (i := 1) rfl (by kernel_rfl) (fun _ _ _ h => h) (Or.inl ⟨by rfl, by intro w hSw; skip; go_simp; try with_reducible rfl⟩) HSW.out ?_
 simp only [Act.put, xqA, xqB, xqC, xqD, xqE, xqF]
 refine y00 (i := 2) rfl (by kernel_rfl) (fun _ _ _ h => h) (Or.inl ⟨by rfl, by intro w hSw; have s0 := hSw.2; go_simp; try with_reducible rfl⟩) HSW.out ?_
 simp only [Act.put, xqA, xqB, xqC, xqD, xqE, xqF]
 refine y00 (i := 3) rfl (by kernel_rfl) (fun _ _ _ h => h) (Or.inl ⟨by rfl, by intro w hSw; skip; go_simp; try with_reducible rfl⟩) HSW.out ?_
 simp only [Act.put, xqA, xqB, xqC, xqD, xqE, xqF]
 refine y00 (i := 5) rfl (by kernel_rfl) (fun _ _ _ h => h) (Or.inl ⟨by rfl, by intro w hSw; have s0 : w.cell? ⟨rp + 1 + 1, 0, none⟩ = some (.int .i64 3) := (by rw [Blk.cell hSw.1]; rfl); have s1 : w.cell? ⟨rp + 1 + 1, 1, none⟩ = some (.int .i64 pi) := (by rw [Blk.cell hSw.1]; rfl); have s2 : w.cell? ⟨rp + 1 + 1, 2, none⟩ = some (.slice DA pd.length dc) := (by rw [Blk.cell hSw.1]; rfl); have s3 : w.cell? ⟨rp + 1 + 1, 3, none⟩ = some (.int .i64 0) := (by rw [Blk.cell hSw.1]; rfl); have s4 : w.cell? ⟨rp + 1 + 1, 4, none⟩ = some (.slice none 0 0) := (by rw [Blk.cell hSw.1]; rfl); go_simp; try with_reducible rfl⟩) HSW.out ?_
 simp only [Act.put, xqA, xqB, xqC, xqD, xqE, xqF]
 refine y03 (i := 4) (by kernel_rfl) rfl (fun K hK => ?_)
 try rw [if_pos (by rfl)]
 go_simp
 refine (settle_nak R Fz g f n _ zs _ (H1.out.keeps HK0d.out (fun h => h) (fun h => h) (fun _ _ h => h)) ((HUZ.out.keeps HK1.out (fun _ _ h => h)).keeps HK0d.out (fun _ _ h => h)) HFN.out HFZ.out).mono ?_
 rintro e w2 ⟨rfl, hst⟩
 have hk2 : Keeps (only g) w1.drew w2 := hst.keeps
 have HST := xhd hst
 have HK2 := xhd hk2
 have HS2 := xhd (And.intro (HSW.out.1.keeps hk2 (fun e => by have e : rp + 1 + 1 = g := e; have := HGL.out; omega)) (y49 hk2 (show rp ≠ g by have := HGL.out; omega) HSW.out.2))
 have HO2 := xhd ((HO.out.keeps HK0d.out (fun h => h)).keeps hk2 (fun e => by have e : rp + 1 = g := e; have := HGL.out; omega))
 clear hst hk2
 refine hK.out _ _ (fun _ => HS2.out) ?_
 clear hK K
 try simp only [Act.put, xqA, Nat.reduceAdd, xqB, xqC, xqD, xqE, xqF]
 refine y00 (i := 6) rfl (by kernel_rfl) (fun _ _ _ h => h) (Or.inl ⟨by rfl, by intro w hSw; skip; go_simp; try with_reducible rfl⟩) HS2.out ?_
 simp only [Act.put, xqA, xqB, xqC, xqD, xqE, xqF]
 have hOz := HO2.out
 have y0 : w2.cell? ⟨rp + 1, 0, none⟩ = some (.int .i64 0) := by rw [hOz.cell]; rfl
 have v0 := hOz.frozen 0
 have y1 : w2.cell? ⟨rp + 1, 1, none⟩ = some (.int .i64 0) := by rw [hOz.cell]; rfl
 have v1 := hOz.frozen 1
 have y2 : w2.cell? ⟨rp + 1, 2, none⟩ = some (.slice none 0 0) := by rw [hOz.cell]; rfl
 have v2 := hOz.frozen 2
 have y3 : w2.cell? ⟨rp + 1, 3, none⟩ = some (.int .i64 0) := by rw [hOz.cell]; rfl
 have v3 := hOz.frozen 3
 have y4 : w2.cell? ⟨rp + 1, 4, none⟩ = some (.slice none 0 0) := by rw [hOz.cell]; rfl
 have v4 := hOz.frozen 4
 have HZ := xhd (((((hOz.set 0 (.int .i64 3)).set 1 (.int .i64 pi)).set 2 (.slice DA pd.length dc)).set 3 (.int .i64 0)).set 4 (.slice none 0 0))
 have HKR := xhd (((((((Keeps.refl (only (rp + 1)) w2).put 0 (.int .i64 3)).put 1 (.int .i64 pi)).put 2 (.slice DA pd.length dc)).put 3 (.int .i64 0)).put 4 (.slice none 0 0)))
 clear hOz
 refine y03 (i := 7) (by kernel_rfl) rfl (fun K hK => ?_)
 go_simp
 refine hK.out _ _ (fun h => absurd rfl h) ?_
 clear hK K
 refine y09 (by kernel_rfl) ?_ _
 go_wp2_with fail
 refine bodyPost_ret (y1h rfl _ _ (rp + 1) 180 _ (0, 0) _ rfl HZ.out Tryz.underlying180 rfl (by rw [HI.out]; rfl)) rfl ?_
 obtain ⟨f', hn', hgm', hk'⟩ := HST.out
 have hpg : rp + 1 ≠ g := by have := HGL.out; omega
 have hpm : rp + 1 ≠ f'.gm := by rw [hgm']; have := HML.out; omega
 refine ⟨_, [], f', y1c w1.drew w2 R, rfl, ORow.nil _ _, rfl, ⟨by simp, by simp⟩, hn'.keeps HKR.out (fun e => hpg (by have e : g = rp + 1 := e; exact e.symm)) (fun e => hpm (by have e : f'.gm = rp + 1 := e; exact e.symm)) (fun b hb e => ?_), hgm', fun b hb => hb.1.imp (fun h => h) (fun h => Nat.le_trans (HK1.out.trans HK0d.out).size h), (((HK1.out.trans HK0d.out).mono (fun _ h => h.elim)).trans hk').trans' HKR.out (fun i hi hl => by have e : i = rp + 1 := hi; have := HRP.out; omega)⟩
 have e : b = rp + 1 := e
 subst e
 rcases hb.1 with hb | hb
 ·have := HRL.out _ hb; omega
 ·have := HO.out.lt; have := HK0d.out.size; omega
theorem heed_rej (R : Nat → Prop) (g : Nat) (f : NF) (n : Pure.Neg) (Fz : Nat → Prop) (zs : List (Value × Pure.Opt)) (pi : Int) (pd : List UInt8) (DA : Option Addr) (dc : Nat) (uv : Value) (w : World) (h : NObj w g R f n) (hz : ORow w Fz uv zs) (hfz : Pure.Fine (y02 zs)) (hFz : ∀ b, Fz b → b ≠ g) :
  Calls Tryz.prog 133 #[.pointer (some ⟨g, 0, none⟩), pktV ⟨4, pi, pd⟩ (.slice DA pd.length dc), uv] w fun e w' => y4g w g R f ⟨4, pi, pd⟩ (.slice DA pd.length dc) (9, { n with waits := false, request := Pure.left n.rules n.request (y02 zs) }, ⟨⟨4, pi, pd⟩, 0, []⟩) e w' := by
 have HUZ := xhd hz
 have HFN := xhd hfz
 have HFZ := xhd hFz
 obtain ⟨UA, uc, rfl, _⟩ := hz.form
 clear hz hfz hFz
 have HI := xhd y2h
 obtain ⟨w1, hw1, hP, hO, hC, hk1⟩ := y37 w #[.int .i64 4, .int .i64 pi, .slice DA pd.length dc] #[.int .i64 0, .int .i64 0, .slice none 0 0, .int .i64 0, .slice none 0 0] #[.int .i64 4, .int .i64 pi, .slice DA pd.length dc, .int .i64 0, .slice none 0 0] 56 180 180
 obtain ⟨rp, hrp⟩ : ∃ q, q = w.heap.size := ⟨_, rfl⟩
 rw [← hrp] at hP hO hC
 have hgl := h.blk.lt
 have hml := Blk.lt h.mach
 have H1 := xhd (h.keeps hk1 (fun h => h) (fun h => h) (fun _ _ h => h))
 have HP := xhd hP
 have HO := xhd hO
 have HC := xhd hC
 have HK1 := xhd hk1
 have HRL := xhd (show ∀ b, R b → b < rp by rw [hrp]; exact h.lt)
 have HGL := xhd (show g < rp by omega)
 have HML := xhd (show f.gm < rp by omega)
 have HRP := xhd (show w.heap.size = rp from hrp.symm)
 have HKZ0 := xhd (Keeps.refl y01 w1)
 have HQ0 := xhd (show w1.cell? ⟨rp, 0, none⟩ = some (.int .i64 4) by rw [hP.cell]; rfl)
 have q0 : w1.cell? ⟨rp, 0, none⟩ = some (.int .i64 4) := by rw [hP.cell]; rfl
 go_enter Tryz.func133, Tryz.ntmps133
 go_upto_region 2 with fail
 rw [← hrp]
 rw [← hw1]
 clear hw1 hP hO hC hk1 hgl hml hrp h
 go_wp2_with fail
 refine y0b (fun w' => (Blk w' (rp + 1 + 1) 180 #[.int .i64 4, .int .i64 pi, .slice DA pd.length dc, .int .i64 0, .slice none 0 0]) ∧ w'.cell? ⟨rp, 0, none⟩ = some (.int .i64 4)) 7 8 rfl (by kernel_rfl) ⟨HC.out, HQ0.out⟩ (fun hHeld => ?_)
 have HSW := hHeld
 clear hHeld
 have HK0d := xhd (HKZ0.out.drew)
 refine y00 (i := 0) rfl (by kernel_rfl) (fun _ _ _ h => h) (Or.inl ⟨by rfl, by intro w hSw; skip; go_simp; try with_reducible rfl⟩) HSW.out ?_
 simp only [Act.put, xqA, xqB, xqD, xqE, xqF]
 refine y00 (i := 1) rfl (by kernel_rfl) (fun _ _ _ h => h) (Or.inl ⟨by rfl, by intro w hSw; skip; go_simp; try with_reducible rfl⟩) HSW.out ?_
 simp only [Act.put, xqA, xqB, xqC, xqD, xqE, xqF]
 refine y00 (i := 2) rfl (by kernel_rfl) (fun _ _ _ h => h) (Or.inl ⟨by rfl, by intro w hSw; have s0 := hSw.2; go_simp; try with_reducible rfl⟩) HSW.out ?_
 simp only [Act.put, xqA, xqB, xqC, xqD, xqE, xqF]
 refine y00 (i := 3) rfl (by kernel_rfl) (fun _ _ _ h => h) (Or.inl ⟨by rfl, by intro w hSw; skip; go_simp; try with_reducible rfl⟩) HSW.out ?_
 simp only [Act.put, xqA, xqB, xqC, xqD, xqE, xqF]
 refine y00 (i := 5) rfl (by kernel_rfl) (fun _ _ _ h => h) (Or.inl ⟨by rfl, by intro w hSw; have s0 : w.cell? ⟨rp + 1 + 1, 0, none⟩ = some (.int .i64 4) := (by rw [Blk.cell hSw.1]; rfl); have s1 : w.cell? ⟨rp + 1 + 1, 1, none⟩ = some (.int .i64 pi) := (by rw [Blk.cell hSw.1]; rfl); have s2 : w.cell? ⟨rp + 1 + 1, 2, none⟩ = some (.slice DA pd.length dc) := (by rw [Blk.cell hSw.1]; rfl); have s3 : w.cell? ⟨rp + 1 + 1, 3, none⟩ = some (.int .i64 0) := (by rw [Blk.cell hSw.1]; rfl); have s4 : w.cell? ⟨rp + 1 + 1, 4, none⟩ = some (.slice none 0 0) := (by rw [Blk.cell hSw.1]; rfl); go_simp; try with_reducible rfl⟩) HSW.out ?_
 simp only [Act.put, xqA, xqB, xqC, xqD, xqE, xqF]
 refine y03 (i := 4) (by kernel_rfl) rfl (fun K hK => ?_)
 try rw [if_pos (by rfl)]
 go_simp
 refine (settle_rej R Fz g f n _ zs _ (H1.out.keeps HK0d.out (fun h => h) (fun h => h) (fun _ _ h => h)) ((HUZ.out.keeps HK1.out (fun _ _ h => h)).keeps HK0d.out (fun _ _ h => h)) HFN.out HFZ.out).mono ?_
 rintro e w2 ⟨rfl, hst⟩
 have hk2 : Keeps (only g) w1.drew w2 := hst.keeps
 have HST := xhd hst
 have HK2 := xhd hk2
 have HS2 := xhd (And.intro (HSW.out.1.keeps hk2 (fun e => by have e : rp + 1 + 1 = g := e; have := HGL.out; omega)) (y49 hk2 (show rp ≠ g by have := HGL.out; omega) HSW.out.2))
 have HO2 := xhd ((HO.out.keeps HK0d.out (fun h => h)).keeps hk2 (fun e => by have e : rp + 1 = g := e; have := HGL.out; omega))
 clear hst hk2
 refine hK.out _ _ (fun _ => HS2.out) ?_
 clear hK K
 try simp only [Act.put, xqA, Nat.reduceAdd, xqB, xqC, xqD, xqE, xqF]
 refine y00 (i := 6) rfl (by kernel_rfl) (fun _ _ _ h => h) (Or.inl ⟨by rfl, by intro w hSw; skip; go_simp; try with_reducible rfl⟩) HS2.out ?_
 simp only [Act.put, xqA, xqB, xqC, xqD, xqE, xqF]
 have hOz := HO2.out
 have y0 : w2.cell? ⟨rp + 1, 0, none⟩ = some (.int .i64 0) := by rw [hOz.cell]; rfl
 have v0 := hOz.frozen 0
 have y1 : w2.cell? ⟨rp + 1, 1, none⟩ = some (.int .i64 0) := by rw [hOz.cell]; rfl
 have v1 := hOz.frozen 1
 have y2 : w2.cell? ⟨rp + 1, 2, none⟩ = some (.slice none 0 0) := by rw [hOz.cell]; rfl
 have v2 := hOz.frozen 2
 have y3 : w2.cell? ⟨rp + 1, 3, none⟩ = some (.int .i64 0) := by rw [hOz.cell]; rfl
 have v3 := hOz.frozen 3
 have y4 : w2.cell? ⟨rp + 1, 4, none⟩ = some (.slice none 0 0) := by rw [hOz.cell]; rfl
 have v4 := hOz.frozen 4
 have HZ := xhd (((((hOz.set 0 (.int .i64 4)).set 1 (.int .i64 pi)).set 2 (.slice DA pd.length dc)).set 3 (.int .i64 0)).set 4 (.slice none 0 0))
 have HKR := xhd (((((((Keeps.refl (only (rp + 1)) w2).put 0 (.int .i64 4)).put 1 (.int .i64 pi)).put 2 (.slice DA pd.length dc)).put 3 (.int .i64 0)).put 4 (.slice none 0 0)))
 clear hOz
 refine y03 (i := 7) (by kernel_rfl) rfl (fun K hK => ?_)
 go_simp
 refine hK.out _ _ (fun h => absurd rfl h) ?_
 clear hK K
 refine y09 (by kernel_rfl) ?_ _
 go_wp2_with fail
 refine bodyPost_ret (y1h rfl _ _ (rp + 1) 180 _ (0, 0) _ rfl HZ.out Tryz.underlying180 rfl (by rw [HI.out]; rfl)) rfl ?_
 obtain ⟨f', hn', hgm', hk'⟩ := HST.out
 have hpg : rp + 1 ≠ g := by have := HGL.out; omega
 have hpm : rp + 1 ≠ f'.gm := by rw [hgm']; have := HML.out; omega
 refine ⟨_, [], f', y1c w1.drew w2 R, rfl, ORow.nil _ _, rfl, ⟨by simp, by simp⟩, hn'.keeps HKR.out (fun e => hpg (by have e : g = rp + 1 := e; exact e.symm)) (fun e => hpm (by have e : f'.gm = rp + 1 := e; exact e.symm)) (fun b hb e => ?_), hgm', fun b hb => hb.1.imp (fun h => h) (fun h => Nat.le_trans (HK1.out.trans HK0d.out).size h), (((HK1.out.trans HK0d.out).mono (fun _ h => h.elim)).trans hk').trans' HKR.out (fun i hi hl => by have e : i = rp + 1 := hi; have := HRP.out; omega)⟩
 have e : b = rp + 1 := e
 subst e
 rcases hb.1 with hb | hb
 ·have := HRL.out _ hb; omega
 ·have := HO.out.lt; have := HK0d.out.size; omega
open Go.RowKit Go.Extern.Stop Go.Stop Go.Extern
def y2d (w : World) (a : Addr) : Prop := w.cell? ⟨0, 0, none⟩ = some (.iface 324 (.pointer (some a)))
def Sent (w : World) : Prop := ∃ a, y2d w a
theorem y2d.lt {w : World} {a : Addr} (h : y2d w a) : 0 < w.heap.size := y0x h
theorem y2d.keeps {w w' : World} {S : Nat → Prop} {a : Addr} (h : y2d w a) (k : Keeps S w w') (hS : ¬ S 0) : y2d w' a :=
 (World.cell?_of_block (w := w) (a := ⟨0, 0, none⟩) (k.block _ h.lt hS)).trans h
theorem Sent.lt {w : World} (h : Sent w) : 0 < w.heap.size := by obtain ⟨a, h⟩ := h; exact h.lt
theorem Sent.keeps {w w' : World} {S : Nat → Prop} (h : Sent w) (k : Keeps S w w') (hS : ¬ S 0) : Sent w' := by obtain ⟨a, h⟩ := h; exact ⟨a, h.keeps k hS⟩
theorem dr_comp : ∃ i, Tryz.prog.info? 324 = some i ∧ i.comparable = true := by
 have h : ((Tryz.prog.info? 324).map (·.comparable)) = some true := by kernel_rfl
 cases hi : Tryz.prog.info? 324 with
 | none => rw [hi] at h; cases h
 | some i => rw [hi] at h; exact ⟨i, rfl, by simpa using h⟩
theorem dr_elem : ∃ j, Tryz.prog.info? 344 = some j := by
 have h : ((Tryz.prog.info? 344).map (·.comparable)).isSome = true := by kernel_rfl
 cases hi : Tryz.prog.info? 344 with
 | none => rw [hi] at h; cases h
 | some i => exact ⟨i, rfl⟩
theorem dr_same (a : Addr) (w : World) : (binOp .eql 158 (.iface 324 (.pointer (some a))) (.iface 324 (.pointer (some a)))).run Tryz.prog w = .ok (.bool true) w := by
 obtain ⟨i, h1, h2⟩ := dr_comp
 obtain ⟨j, h3⟩ := dr_elem
 exact run_eql_iface_ptr_same (w := w) a Tryz.underlying158 Tryz.underlying324 h1 h2 h3
theorem dr_unlike (b : Nat) (a : Addr) (w : World) : (binOp .eql 158 (.iface 218 (.pointer (some ⟨b, 0, none⟩))) (.iface 324 (.pointer (some a)))).run Tryz.prog w = .ok (.bool false) w :=
 run_eql_iface_types (P := Tryz.prog) 218 324 (.pointer (some ⟨b, 0, none⟩)) (.pointer (some a)) Tryz.underlying158 (by decide) w
theorem dr_typeOf (v : Value) (w : World) : (ReflectliteType.typeOf #[.iface 324 v]).run Tryz.prog w = .ok (.iface 258 (.agg #[.pointer (some ⟨hB, 324, none⟩)])) w := by kernel_rfl
theorem dr_cmp (w : World) : ((ReflectliteType.method fun t => do Go.Extern.Rtype.noPackHeld "Comparable" t; (fun a => Value.bool a.comparable) <$> typeInfo t) #[.agg #[.pointer (some ⟨hB, 324, none⟩)]]).run Tryz.prog w = .ok (.bool true) w := by kernel_rfl
theorem dr_mComp (n : Nat) (v : Value) (w : World) : (Go.method (n + 1) 258 (.agg #[v]) "Comparable").run Tryz.prog w = .ok (272, .agg #[v]) w := by kernel_rfl
theorem dr_mUnwrap (n : Nat) (v : Value) (w : World) : (Go.method (n + 1) 218 v "Unwrap").run Tryz.prog w = .ok (267, v) w := by kernel_rfl
theorem dr_noIs (v : Value) (xT : TypeId) (w : World) : (Instr.typeAssert (.iface 218 v) xT 260 true).run Tryz.prog w = .ok (.tuple #[.nilIface, .bool false]) w := run_typeAssert_lacksB Tryz.underlying260 (by kernel_rfl) (by kernel_rfl) v xT w
theorem dr_noUn (v : Value) (xT : TypeId) (w : World) : (Instr.typeAssert (.iface 218 v) xT 263 true).run Tryz.prog w = .ok (.tuple #[.nilIface, .bool false]) w := run_typeAssert_lacksB Tryz.underlying263 (by kernel_rfl) (by kernel_rfl) v xT w
theorem dr_hasUns (v : Value) (xT : TypeId) (w : World) : (Instr.typeAssert (.iface 218 v) xT 265 true).run Tryz.prog w = .ok (.tuple #[.iface 218 v, .bool true]) w := run_typeAssert_hasB Tryz.underlying265 (by kernel_rfl) v xT w
theorem dr_is_same (a : Addr) (w : World) : Calls Tryz.prog 173 #[.iface 324 (.pointer (some a)), .iface 324 (.pointer (some a)), .bool true] w fun e w' => e = .returned (.bool true) ∧ w = w' := by
 have hs := dr_same a w
 go_enter Tryz.func173, Tryz.ntmps173
 go_wp2_with fail
 refine wp_loop_rounds 1 ?_
 rw [rounds_succ]
 go_wp2_with fail
 go_ret
 exact ⟨rfl, rfl⟩
theorem yf1 (b : Nat) (k : Int) (a : Addr) (w : World) (ha : y2d w a) (hb : w.cell? ⟨b, 0, none⟩ = some (.int .i64 k)) :
  Calls Tryz.prog 267 #[.pointer (some ⟨b, 0, none⟩)] w fun e w' => ∃ r : Nat, e = .returned (.slice (some ⟨r, 0, none⟩) 2 2) ∧ w'.cell? ⟨r, 0, none⟩ = some (.iface 324 (.pointer (some a))) ∧ Keeps y01 w w' := by
 have ha' : w.cell? ⟨0, 0, none⟩ = some (.iface 324 (.pointer (some a))) := ha
 have HA := xhd ha'
 have HB := xhd hb
 have HKZ0 := xhd (Keeps.refl y01 w)
 clear ha ha' hb
 go_enter Tryz.func267, Tryz.ntmps267
 go_wp2_with fail
 refine y0b (fun w' => w'.cell? ⟨0, 0, none⟩ = some (.iface 324 (.pointer (some a))) ∧ w'.cell? ⟨b, 0, none⟩ = some (.int .i64 k)) 7 8 rfl (by kernel_rfl) ⟨HA.out, HB.out⟩ (fun hHeld => ?_)
 have HSW := hHeld
 clear hHeld
 have HK0d := xhd (HKZ0.out.drew)
 refine y00 (i := 0) rfl (by kernel_rfl) (fun _ _ _ h => h) (Or.inl ⟨by rfl, by intro w hSw; obtain ⟨s0, s1⟩ := hSw; go_simp; try with_reducible rfl⟩) HSW.out ?_
 simp only [Act.put, xqA, xqB, xqD, xqE, xqF]
 refine y00 (i := 1) rfl (by kernel_rfl) (fun _ _ _ h => h) (Or.inl ⟨by rfl, by intro w hSw; obtain ⟨s0, s1⟩ := hSw; go_simp; try with_reducible rfl⟩) HSW.out ?_
 simp only [Act.put, xqA, xqB, xqC, xqD, xqE, xqF]
 refine y00 (i := 2) rfl (by kernel_rfl) (fun _ _ _ h => h) (Or.inl ⟨by rfl, by intro w hSw; obtain ⟨s0, s1⟩ := hSw; go_simp; try with_reducible rfl⟩) HSW.out ?_
 simp only [Act.put, xqA, xqB, xqC, xqD, xqE, xqF]
 refine y00 (i := 3) rfl (by kernel_rfl) (fun _ _ _ h => h) (Or.inl ⟨by rfl, by intro w hSw; obtain ⟨s0, s1⟩ := hSw; go_simp; try with_reducible rfl⟩) HSW.out ?_
 simp only [Act.put, xqA, xqB, xqC, xqD, xqE, xqF]
 refine y00 (i := 4) rfl (by kernel_rfl) (fun _ _ _ h => h) (Or.inl ⟨by rfl, by intro w hSw; obtain ⟨s0, s1⟩ := hSw; go_simp; try with_reducible rfl⟩) HSW.out ?_
 simp only [Act.put, xqA, xqB, xqC, xqD, xqE, xqF]
 refine y00 (i := 5) rfl (by kernel_rfl) (fun _ _ _ h => h) (Or.inl ⟨by rfl, by intro w hSw; obtain ⟨s0, s1⟩ := hSw; go_simp; try with_reducible rfl⟩) HSW.out ?_
 simp only [Act.put, xqA, xqB, xqC, xqD, xqE, xqF]
 refine y03 (i := 6) (by kernel_rfl) rfl (fun K hK => ?_)
 try rw [if_pos (by rfl)]
 go_simp
 have HS2 := xhd (And.intro (y36 (o := .cells #[.iface 324 (.pointer (some a)), .iface 33 (.int .i64 k)] 158) HSW.out.1) (y36 (o := .cells #[.iface 324 (.pointer (some a)), .iface 33 (.int .i64 k)] 158) HSW.out.2))
 refine hK.out _ _ (fun _ => HS2.out) ?_
 clear hK K
 try simp only [Act.put, xqA, Nat.reduceAdd, xqB, xqC, xqD, xqE, xqF]
 refine y03 (i := 7) (by kernel_rfl) rfl (fun K hK => ?_)
 go_simp
 refine hK.out _ _ (fun h => absurd rfl h) ?_
 clear hK K
 refine y09 (by kernel_rfl) ?_ _
 go_wp2_with fail
 go_ret
 exact ⟨_, rfl, by rw [(Blk.new w 158 #[.iface 324 (.pointer (some a)), .iface 33 (.int .i64 k)]).drew.cell]; rfl, (HKZ0.out.alloc _).drew⟩
theorem drop_inner (b : Nat) (k : Int) (a : Addr) (w : World) (ha : y2d w a) (hb : w.cell? ⟨b, 0, none⟩ = some (.int .i64 k)) :
  Calls Tryz.prog 173 #[.iface 218 (.pointer (some ⟨b, 0, none⟩)), .iface 324 (.pointer (some a)), .bool true] w fun e w' => e = .returned (.bool true) ∧ Keeps y01 w w' := by
 have k4 := dr_mUnwrap
 have k5 := dr_noIs
 have k6 := dr_noUn
 have k7 := dr_hasUns
 have hne := dr_unlike b a w
 have HU := xhd (yf1 b k a w ha hb)
 have HS := xhd (dr_is_same a)
 clear ha hb
 go_enter Tryz.func173, Tryz.ntmps173
 go_wp2_with fail
 refine wp_loop_rounds 1 ?_
 rw [rounds_succ]
 go_wp2_with fail
 refine HU.out.mono ?_
 rintro e w1 ⟨r, rfl, hr, hk1⟩
 have HK1 := xhd hk1
 clear hk1 HU hne
 go_wp2_with fail
 refine wp_loop_rounds 1 ?_
 rw [rounds_succ]
 go_wp2_with fail
 refine (HS.out w1).mono ?_
 rintro e w2 ⟨rfl, rfl⟩
 go_wp2_with fail
 go_ret
 exact ⟨rfl, HK1.out⟩
theorem drop_is (b : Nat) (k : Int) (a : Addr) (w : World) (ha : y2d w a) (hb : w.cell? ⟨b, 0, none⟩ = some (.int .i64 k)) :
  Calls Tryz.prog 132 #[.iface 218 (.pointer (some ⟨b, 0, none⟩)), .iface 324 (.pointer (some a))] w fun e w' => e = .returned (.bool true) ∧ Keeps y01 w w' := by
 have h1 := @run_callFunc_extern Tryz.prog 172 _ ReflectliteType.typeOf Tryz.func172 (by kernel_rfl) (by kernel_rfl) (by kernel_rfl) (by kernel_rfl)
 have h2 := @run_callFunc_extern Tryz.prog 272 _ (ReflectliteType.method fun t => do Go.Extern.Rtype.noPackHeld "Comparable" t; pure (.bool (← typeInfo t).comparable)) Tryz.func272 (by kernel_rfl) (by kernel_rfl) (by kernel_rfl) (by kernel_rfl)
 have k1 := dr_typeOf
 have k2 := dr_cmp
 have k3 := dr_mComp
 have HI := xhd (drop_inner b k a w ha hb)
 clear ha hb
 go_enter Tryz.func132, Tryz.ntmps132
 go_wp2_with fail
 refine HI.out.mono ?_
 rintro e w' ⟨rfl, hk⟩
 have HK := xhd hk
 clear hk
 go_wp2
 go_ret
 exact ⟨rfl, HK.out⟩
theorem none_is (a : Addr) (w : World) : Calls Tryz.prog 132 #[.nilIface, .iface 324 (.pointer (some a))] w fun e w' => e = .returned (.bool false) ∧ w = w' := by
 have hn := run_eql_iface_nil_left (P := Tryz.prog) w 324 (.pointer (some a)) Tryz.underlying158
 go_enter Tryz.func132, Tryz.ntmps132
 go_wp2
 go_ret
 exact ⟨rfl, rfl⟩
open Go.ChangeShapes Go.WideShapes Go.RowKit Go.Deep Go.Shelf
theorem first_same : Rows.laid_unicode_utf8_first = Lib.firstData := Pinned.utf8First_eq
theorem yfn : (Rows.laid_unicode_utf8_acceptRanges : DataW Unit) = Lib.acceptData := by kernel_rfl
abbrev y1e : List (String × DataW Unit) := Rows.lcpPlaysRow.laid
abbrev y1x : List (String × DataW Unit) := y1e.filter fun x => x.2.handleName?.isNone
theorem ye3 {W : World} (h : laidMetH Tryz.prog y1e W) : y17 W := by
 have h' : laidMet Tryz.prog y1x W ∧ handlesMet Tryz.prog (y1e.filter fun x => x.2.handleName?.isSome) W := h
 exact yfx (show laidMet Tryz.prog [] W ∧ handlesMet Tryz.prog yae W from ⟨laidMet_nil _ _, h'.2⟩)
theorem yfw {W : World} (h : laidMetH Tryz.prog y1e W) : Tabs W := by
 have h' : laidMet Tryz.prog y1x W ∧ handlesMet Tryz.prog (y1e.filter fun x => x.2.handleName?.isSome) W := h
 have h4 := Lib.laidMet.reads h'.1 (List.Mem.head _)
 have h3 := Lib.laidMet.reads h'.1 (List.Mem.tail _ (List.Mem.tail _ (List.Mem.head _)))
 rw [yfn] at h4
 rw [first_same] at h3
 exact utf8Tabs_of_readsT (U8Types.of196 ydv) ⟨by kernel_rfl, by kernel_rfl, by kernel_rfl, by kernel_rfl, by kernel_rfl, by kernel_rfl, by kernel_rfl⟩ h3 h4
theorem star14 : "*" ++ "errors.errorString" = "*errors.errorString" := by decide
theorem row14 (u : TypeId) (h : Tryz.prog.typeName? 3 u = some "*errors.errorString") : u = 324 :=
 typeName_ptr_named (nm := "errors.errorString") (by rw [star14]; kernel_rfl) (by kernel_rfl) (by decide) u (by rw [star14]; exact h)
theorem yhq : (Tryz.prog.globals[0]?).map (·.type) = some 158 := by kernel_rfl
theorem yfh : Tryz.prog.cellsOf 344 = 1 := by kernel_rfl
theorem yen : Tryz.prog.cellsOf 9 = 1 := by kernel_rfl
theorem yfv {W : World} (h : laidMetH Tryz.prog y1e W) : Sent W := by
 have h' : laidMet Tryz.prog y1x W ∧ handlesMet Tryz.prog (y1e.filter fun x => x.2.handleName?.isSome) W := h
 have hl := (show laidMet Tryz.prog (y1x.headD default :: y1x.tail) W from h'.1).tail
 have hg : Tryz.prog.globalNamed (y1x.tail.headD default).1 = some 0 := by kernel_rfl
 obtain ⟨a, s, hv, _⟩ := laid_sentinel (n := (y1x.tail.headD default).1) (r := y1x.tail.tail) (text := [110, 101, 103, 111, 58, 32, 100, 114, 111, 112, 112, 101, 100]) hl hg yhq Tryz.underlying158 row14 Tryz.underlying324 Tryz.underlying344 rfl rfl Tryz.underlying9 yfh yen
 have h0 : W.cell? ⟨0, 0, none⟩ = some (.iface 324 (.pointer (some a))) := by simpa using World.var?_cell hg hv 0
 exact ⟨a, h0⟩
structure Env14 (w : World) : Prop where
 env : Env w
 sent : Sent w
theorem Env14.keeps {w w' : World} (h : Env14 w) (k : Keeps y01 w w') : Env14 w' := ⟨⟨h.env.hd.keeps k (fun e => e), h.env.tb.below k.to_below⟩, h.sent.keeps k (fun e => e)⟩
theorem y4m {W : World} (h : laidMetH Tryz.prog y1e W) : Env14 W := ⟨⟨ye3 h, yfw h⟩, yfv h⟩
noncomputable def y20 (os : Os) : World := (ydf os).layVars Tryz.prog y1x
theorem y2w (os : Os) : (y20 os).os = os := World.layVars_os _ _ _
theorem y21 (os : Os) (args : Array Value) : ((y20 os).forCall (fun _ _ => 0) ⟨#[], args, []⟩).Shaped Tryz.prog :=
 World.shaped_of_ZipB (by kernel_rfl) (by kernel_rfl)
theorem y2j (os : Os) (args : Array Value) : laidMetH Tryz.prog y1e ((y20 os).forCall (fun _ _ => 0) ⟨#[], args, []⟩).memory := by
 refine laidMetH_of_parts ?_ (by kernel_rfl)
 have e1 : (y1x.filter fun x => (y1x.map (·.1)).contains x.1) = y1x := List.filter_eq_self.2 fun x hx => List.contains_iff_mem.2 (List.mem_map.2 ⟨x, hx, rfl⟩)
 have e2 : (y1x.filter fun x => !(y1x.map (·.1)).contains x.1) = [] := List.filter_eq_nil_iff.2 fun x hx => by rw [List.contains_iff_mem.2 (List.mem_map.2 ⟨x, hx, rfl⟩)]; simp
 have h : laidMet Tryz.prog y1x (y20 os) := laidMet_layVars (w0 := ydf os) (y1x.map (·.1)) [] (by rw [e1]; rfl) (by rw [e1]; kernel_rfl) (by rw [e1]; kernel_rfl) (by rw [e2]; exact LaidIn.none)
 exact h.of_heap (by simp [World.memory, World.forCall, Input.heap])
def y7l (j : Value) (w : World) (u : Value) (B : Bool) (J : Nat × List Pure.Opt) : Prop :=
 ∃ fn cv, j = .func (.func fn) #[cv] #[] ∧ (∀ args w, Sem.run Tryz.prog (callFunc fn args) w = .ok (.enter fn args) w) ∧ ∀ w', Keeps y01 w w' → Calls Tryz.prog fn #[cv, u, .bool B] w' fun e w'' => Judged w' e w'' J
theorem judged_few {w : World} {g : Nat} {R : Nat → Prop} {f : NF} {n : Pure.Neg} (h : NObj w g R f n) (hrl : n.rules.length ≤ 1000) {l : List Pure.Opt} (hl : Pure.Fine l) {B : Bool} (qs : List (Value × Pure.Opt)) (hq : y02 qs = (Pure.judge n.rules l B).2) : FewOpts qs := by
 obtain ⟨us, hu, hue, hfu⟩ := h.rules
 have hw : ∀ r ∈ n.rules, r.want.length ≤ 100000 := by
  rw [← hue]
  intro r hr
  obtain ⟨p, hp, rfl⟩ := List.mem_map.1 hr
  exact (hfu.ok p hp).2
 obtain ⟨s1, s2⟩ := Pure.judge_small (rejects := B) hrl hw hl
 rw [← hq] at s1 s2
 refine ⟨by simp at s1; omega, fun p hp => s2 p.2 (List.mem_map.2 ⟨p, hp, rfl⟩)⟩
theorem heed_req (R Fz : Nat → Prop) (g : Nat) (f : NF) (n : Pure.Neg) (zs : List (Value × Pure.Opt)) (J : Nat × List Pure.Opt) (pi : Int) (pd : List UInt8) (DA : Option Addr) (dc : Nat) (uv : Value) (w : World) (h : NObj w g R f n) (hz : ORow w Fz uv zs)
  (hJ : y7l f.gm.j w uv (decide (n.m.tries ≤ n.naks)) J) (hfq : ∀ qs : List (Value × Pure.Opt), y02 qs = J.2 → FewOpts qs) (ev : Nat) (hev : ev = if J.1 = 2 then 6 else 7) :
  Calls Tryz.prog 133 #[.pointer (some ⟨g, 0, none⟩), pktV ⟨1, pi, pd⟩ (.slice DA pd.length dc), uv] w fun e w' => y4g w g R f ⟨1, pi, pd⟩ (.slice DA pd.length dc) (ev, n, ⟨⟨1, pi, pd⟩, J.1, J.2⟩) e w' := by
 have HEV := xhd hev
 clear hev
 obtain ⟨UA, uc, rfl, _⟩ := hz.form
 obtain ⟨B, hB⟩ : ∃ B, B = decide (n.m.tries ≤ n.naks) := ⟨_, rfl⟩
 rw [← hB] at hJ
 have e2 : decide (f.tries ≤ f.naks) = B := by rw [h.e1, h.e3, hB]
 have e1 : decide ((f.tries : Int) ≤ (f.naks : Int)) = B := by rw [← e2]; exact decide_eq_decide.2 (by omega)
 obtain ⟨fn, cv, hjv, hent, hcall⟩ := hJ
 have HFQ := xhd hfq
 have HCA := xhd hcall
 have HJV := xhd hjv
 clear hz hfq hB hcall hjv
 have HI := xhd y2h
 obtain ⟨w1, hw1, hP, hO, hC, hk1⟩ := y37 w #[.int .i64 1, .int .i64 pi, .slice DA pd.length dc] #[.int .i64 0, .int .i64 0, .slice none 0 0, .int .i64 0, .slice none 0 0] #[.int .i64 1, .int .i64 pi, .slice DA pd.length dc, .int .i64 0, .slice none 0 0] 56 180 180
 obtain ⟨rp, hrp⟩ : ∃ q, q = w.heap.size := ⟨_, rfl⟩
 rw [← hrp] at hP hO hC
 have hgl := h.blk.lt
 have hml := Blk.lt h.mach
 have H1 := xhd (h.keeps hk1 (fun h => h) (fun h => h) (fun _ _ h => h))
 have HP := xhd hP
 have HO := xhd hO
 have HC := xhd hC
 have HK1 := xhd hk1
 have HRL := xhd (show ∀ b, R b → b < rp by rw [hrp]; exact h.lt)
 have HGL := xhd (show g < rp by omega)
 have HML := xhd (show f.gm < rp by omega)
 have HRP := xhd (show w.heap.size = rp from hrp.symm)
 have HKZ0 := xhd (Keeps.refl y01 w1)
 have HG1 := xhd (show w1.cell? ⟨g, 2, none⟩ = some (.func (.func fn) #[cv] #[]) by rw [← HJV.out]; exact H1.out.blk.cell 2)
 have HG2 := xhd (show w1.cell? ⟨g, 3, none⟩ = some (.int .i64 (f.tries : Int)) from H1.out.blk.cell 3)
 have HG9 := xhd (show w1.cell? ⟨g, 10, none⟩ = some (.int .i64 (f.naks : Int)) from H1.out.blk.cell 10)
 have q0 : w1.cell? ⟨rp, 0, none⟩ = some (.int .i64 1) := by rw [hP.cell]; rfl
 go_enter Tryz.func133, Tryz.ntmps133
 go_upto_region 2 with fail
 rw [← hrp]
 rw [← hw1]
 clear hw1 hP hO hC hk1 hgl hml hrp h
 go_wp2_with fail
 refine y0b (fun w' => w'.cell? ⟨g, 2, none⟩ = some (.func (.func fn) #[cv] #[]) ∧ w'.cell? ⟨g, 10, none⟩ = some (.int .i64 (f.naks : Int)) ∧ w'.cell? ⟨g, 3, none⟩ = some (.int .i64 (f.tries : Int))) 21 22 rfl (by kernel_rfl) ⟨HG1.out, HG9.out, HG2.out⟩ (fun hHeld => ?_)
 have HSW := hHeld
 clear hHeld
 have HK0d := xhd (HKZ0.out.drew)
 refine y00 (i := 0) rfl (by kernel_rfl) (fun _ _ _ h => h) (Or.inl ⟨by rfl, by intro w hSw; obtain ⟨s0, s1, s2⟩ := hSw; go_simp; try with_reducible rfl⟩) HSW.out ?_
 simp only [Act.put, xqA, xqB, xqD, xqE, xqF]
 refine y00 (i := 1) rfl (by kernel_rfl) (fun _ _ _ h => h) (Or.inl ⟨by rfl, by intro w hSw; obtain ⟨s0, s1, s2⟩ := hSw; go_simp; try with_reducible rfl⟩) HSW.out ?_
 simp only [Act.put, xqA, xqB, xqC, xqD, xqE, xqF]
 refine y00 (i := 2) rfl (by kernel_rfl) (fun _ _ _ h => h) (Or.inl ⟨by rfl, by intro w hSw; obtain ⟨s0, s1, s2⟩ := hSw; go_simp; try with_reducible rfl⟩) HSW.out ?_
 simp only [Act.put, xqA, xqB, xqC, xqD, xqE, xqF]
 refine y00 (i := 3) rfl (by kernel_rfl) (fun _ _ _ h => h) (Or.inl ⟨by rfl, by intro w hSw; obtain ⟨s0, s1, s2⟩ := hSw; go_simp; try with_reducible rfl⟩) HSW.out ?_
 simp only [Act.put, xqA, xqB, xqC, xqD, xqE, xqF]
 refine y00 (i := 4) rfl (by kernel_rfl) (fun _ _ _ h => h) (Or.inl ⟨by rfl, by intro w hSw; obtain ⟨s0, s1, s2⟩ := hSw; go_simp; try with_reducible rfl⟩) HSW.out ?_
 simp only [Act.put, xqA, xqB, xqC, xqD, xqE, xqF]
 refine y00 (i := 5) rfl (by kernel_rfl) (fun _ _ _ h => h) (Or.inl ⟨by rfl, by intro w hSw; obtain ⟨s0, s1, s2⟩ := hSw; go_simp; try with_reducible rfl⟩) HSW.out ?_
 simp only [Act.put, xqA, xqB, xqC, xqD, xqE, xqF]
 refine y00 (i := 6) rfl (by kernel_rfl) (fun _ _ _ h => h) (Or.inl ⟨by rfl, by intro w hSw; obtain ⟨s0, s1, s2⟩ := hSw; go_simp; try with_reducible rfl⟩) HSW.out ?_
 simp only [Act.put, xqA, xqB, xqC, xqD, xqE, xqF]
 refine y00 (i := 7) rfl (by kernel_rfl) (fun _ _ _ h => h) (Or.inl ⟨by rfl, by intro w hSw; obtain ⟨s0, s1, s2⟩ := hSw; go_simp; try with_reducible rfl⟩) HSW.out ?_
 simp only [Act.put, xqA, xqB, xqC, xqD, xqE, xqF]
 refine y00 (i := 8) rfl (by kernel_rfl) (fun _ _ _ h => h) (Or.inl ⟨by rfl, by intro w hSw; obtain ⟨s0, s1, s2⟩ := hSw; go_simp; try with_reducible rfl⟩) HSW.out ?_
 simp only [Act.put, xqA, xqB, xqC, xqD, xqE, xqF]
 refine y00 (i := 9) rfl (by kernel_rfl) (fun _ _ _ h => h) (Or.inl ⟨by rfl, by intro w hSw; obtain ⟨s0, s1, s2⟩ := hSw; go_simp; try with_reducible rfl⟩) HSW.out ?_
 simp only [Act.put, xqA, xqB, xqC, xqD, xqE, xqF]
 refine y00 (i := 10) rfl (by kernel_rfl) (fun _ _ _ h => h) (Or.inl ⟨by rfl, by intro w hSw; obtain ⟨s0, s1, s2⟩ := hSw; go_simp; try with_reducible rfl⟩) HSW.out ?_
 simp only [Act.put, xqA, xqB, xqC, xqD, xqE, xqF]
 refine y00 (i := 11) rfl (by kernel_rfl) (fun _ _ _ h => h) (Or.inl ⟨by rfl, by intro w hSw; obtain ⟨s0, s1, s2⟩ := hSw; go_simp; try with_reducible rfl⟩) HSW.out ?_
 simp only [Act.put, xqA, xqB, xqC, xqD, xqE, xqF]
 refine y00 (i := 12) rfl (by kernel_rfl) (fun _ _ _ h => h) (Or.inl ⟨by rfl, by intro w hSw; obtain ⟨s0, s1, s2⟩ := hSw; go_simp; try with_reducible rfl⟩) HSW.out ?_
 simp only [Act.put, xqA, xqB, xqC, xqD, xqE, xqF]
 refine y00 (i := 13) rfl (by kernel_rfl) (fun _ _ _ h => h) (Or.inl ⟨by rfl, by intro w hSw; obtain ⟨s0, s1, s2⟩ := hSw; go_simp; try with_reducible rfl⟩) HSW.out ?_
 simp only [Act.put, xqA, xqB, xqC, xqD, xqE, xqF]
 refine y03 (i := 14) (by kernel_rfl) rfl (fun K hK => ?_)
 try rw [if_pos (by rfl)]
 go_simp
 refine (HCA.out _ (HK1.out.trans HK0d.out)).mono ?_
 rintro e w2 ⟨A2, c2, qs, rfl, hqs, hrd⟩
 have hk2 : Keeps y01 w1.drew w2 := Keeps.new hrd.below
 have HQS := xhd hqs
 have HRD := xhd hrd.row.strong
 have HK2 := xhd (HK0d.out.trans hk2)
 obtain ⟨jc, hKK⟩ : ∃ q, q = J.1 := ⟨_, rfl⟩
 rw [← hKK]
 have HKJ := xhd hKK
 clear hKK
 have hC2 := HC.out.keeps HK2.out (fun h => h)
 have o3 : w2.cell? ⟨rp + 1 + 1, 3, none⟩ = some (.int .i64 0) := by rw [hC2.cell]; rfl
 have of3 := hC2.frozen 3
 have HC2 := xhd hC2
 have HS2 := xhd (And.intro (y04 HSW.out.1 hk2) (And.intro (y04 HSW.out.2.1 hk2) (y04 HSW.out.2.2 hk2)))
 clear hqs hrd hk2 hC2
 refine hK.out _ _ (fun _ => HS2.out) ?_
 clear hK K
 try simp only [Act.put, xqA, Nat.reduceAdd, xqB, xqC, xqD, xqE, xqF]
 refine y00 (i := 15) rfl (by kernel_rfl) (fun _ _ _ h => h) (Or.inl ⟨by rfl, by intro w hSw; obtain ⟨s0, s1, s2⟩ := hSw; go_simp; try with_reducible rfl⟩) HS2.out ?_
 simp only [Act.put, xqA, xqB, xqC, xqD, xqE, xqF]
 refine y00 (i := 16) rfl (by kernel_rfl) (fun _ _ _ h => h) (Or.inl ⟨by rfl, by intro w hSw; obtain ⟨s0, s1, s2⟩ := hSw; go_simp; try with_reducible rfl⟩) HS2.out ?_
 simp only [Act.put, xqA, xqB, xqC, xqD, xqE, xqF]
 refine y00 (i := 17) rfl (by kernel_rfl) (fun _ _ _ h => h) (Or.inl ⟨by rfl, by intro w hSw; obtain ⟨s0, s1, s2⟩ := hSw; go_simp; try with_reducible rfl⟩) HS2.out ?_
 simp only [Act.put, xqA, xqB, xqC, xqD, xqE, xqF]
 refine y00 (i := 18) rfl (by kernel_rfl) (fun _ _ _ h => h) (Or.inl ⟨by rfl, by intro w hSw; obtain ⟨s0, s1, s2⟩ := hSw; go_simp; try with_reducible rfl⟩) HS2.out ?_
 simp only [Act.put, xqA, xqB, xqC, xqD, xqE, xqF]
 refine y03 (i := 19) (by kernel_rfl) rfl (fun K hK => ?_)
 try rw [if_pos (by rfl)]
 go_simp
 have KC : Keeps (only (rp + 1 + 1)) w2 (w2.setCell ⟨rp + 1 + 1, 3, none⟩ (.int .i64 (jc : Int))) := (Keeps.refl _ w2).put 3 _
 have hgc : g ≠ rp + 1 + 1 := by have := HGL.out; omega
 have HS3 := xhd (And.intro (y49 KC hgc HS2.out.1) (And.intro (y49 KC hgc HS2.out.2.1) (y49 KC hgc HS2.out.2.2)))
 have HC3 := xhd (HC2.out.set 3 (.int .i64 (jc : Int)))
 have hC3 := HC3.out
 have o4 : (w2.setCell ⟨rp + 1 + 1, 3, none⟩ (.int .i64 (jc : Int))).cell? ⟨rp + 1 + 1, 4, none⟩ = some (.slice none 0 0) := by rw [hC3.cell]; rfl
 have of4 := hC3.frozen 4
 have HKC := xhd KC
 clear KC hgc hC3
 refine hK.out _ _ (fun _ => HS3.out) ?_
 clear hK K
 try simp only [Act.put, xqA, Nat.reduceAdd, xqB, xqC, xqD, xqE, xqF]
 refine y00 (i := 20) rfl (by kernel_rfl) (fun _ _ _ h => h) (Or.inl ⟨by rfl, by intro w hSw; obtain ⟨s0, s1, s2⟩ := hSw; go_simp; try with_reducible rfl⟩) HS3.out ?_
 simp only [Act.put, xqA, xqB, xqC, xqD, xqE, xqF]
 have HC4 := xhd (HC3.out.set 4 (.slice A2 qs.length c2))
 have HKK := xhd (HKC.out.put 4 (.slice A2 qs.length c2))
 refine y03 (i := 21) (by kernel_rfl) rfl (fun K hK => ?_)
 go_simp
 refine hK.out _ _ (fun h => absurd rfl h) ?_
 clear hK K
 refine y09 (by kernel_rfl) ?_ _
 generalize hw4 : World.setCell _ ⟨rp + 1 + 1, 4, none⟩ _ = w4 at HC4 HKK ⊢
 have hrg : g ≠ rp + 1 + 1 := by have := HGL.out; omega
 have hrm : f.gm ≠ rp + 1 + 1 := by have := HML.out; omega
 have HN4 := xhd ((H1.out.keeps HK2.out (fun h => h) (fun h => h) (fun _ _ h => h)).keeps HKK.out hrg hrm (fun b hb e => by have e : b = rp + 1 + 1 := e; have := HRL.out b hb; omega))
 have HO4 := xhd ((HO.out.keeps HK2.out (fun h => h)).keeps HKK.out (fun e => by have e : rp + 1 = rp + 1 + 1 := e; omega))
 have hsz1 : rp + 1 + 1 < w1.drew.heap.size := (HC.out.keeps HK0d.out (fun h => h)).lt
 have HR4 := xhd ((HRD.out.keeps HKK.out (fun b hb e => by have e : b = rp + 1 + 1 := e; have := hb.1; omega)).mono (G := fun b => rp + 1 + 1 < b ∧ b < w4.heap.size) (fun b hb => ⟨Nat.lt_of_lt_of_le hsz1 hb.1, Nat.lt_of_lt_of_le hb.2 HKK.out.size⟩))
 have HK4 := xhd (show Keeps y01 w w4 from (HK1.out.trans HK2.out).trans' HKK.out (fun i hi hl => by have e : i = rp + 1 + 1 := hi; have := HRP.out; omega))
 have HKZ4 := xhd (Keeps.refl y01 w4)
 have x3 : w4.cell? ⟨rp + 1 + 1, 3, none⟩ = some (.int .i64 (jc : Int)) := by rw [HC4.out.cell]; rfl
 clear hw4 hrg hrm hsz1 o3 of3 o4 of4 HC2 HC3 HKC
 by_cases hk2 : jc = 2
 ·subst hk2
  have HE := xhd (show ev = 6 from HEV.out.trans (if_pos HKJ.out.symm))
  have x3 : w4.cell? ⟨rp + 1 + 1, 3, none⟩ = some (.int .i64 2) := x3
  go_upto_region 6 with fail
  refine y0b (fun w' => Blk w' (rp + 1 + 1) 180 #[.int .i64 1, .int .i64 pi, .slice DA pd.length dc, .int .i64 2, .slice A2 qs.length c2]) 2 3 rfl (by kernel_rfl) HC4.out (fun hHeld => ?_)
  have HSW := hHeld
  clear hHeld
  have HK0d := xhd (HKZ4.out.drew)
  refine y00 (i := 0) rfl (by kernel_rfl) (fun _ _ _ h => h) (Or.inl ⟨by rfl, by intro w hSw; have s0 : w.cell? ⟨rp + 1 + 1, 0, none⟩ = some (.int .i64 1) := (by rw [Blk.cell hSw]; rfl); have s1 : w.cell? ⟨rp + 1 + 1, 1, none⟩ = some (.int .i64 pi) := (by rw [Blk.cell hSw]; rfl); have s2 : w.cell? ⟨rp + 1 + 1, 2, none⟩ = some (.slice DA pd.length dc) := (by rw [Blk.cell hSw]; rfl); have s3 : w.cell? ⟨rp + 1 + 1, 3, none⟩ = some (.int .i64 2) := (by rw [Blk.cell hSw]; rfl); have s4 : w.cell? ⟨rp + 1 + 1, 4, none⟩ = some (.slice A2 qs.length c2) := (by rw [Blk.cell hSw]; rfl); go_simp; try with_reducible rfl⟩) HSW.out ?_
  simp only [Act.put, xqA, xqB, xqD, xqE, xqF]
  refine y00 (i := 1) rfl (by kernel_rfl) (fun _ _ _ h => h) (Or.inl ⟨by rfl, by intro w hSw; skip; go_simp; try with_reducible rfl⟩) HSW.out ?_
  simp only [Act.put, xqA, xqB, xqC, xqD, xqE, xqF]
  have hOz := HO4.out
  have y0 : w4.cell? ⟨rp + 1, 0, none⟩ = some (.int .i64 0) := by rw [hOz.cell]; rfl
  have v0 := hOz.frozen 0
  have y1 : w4.cell? ⟨rp + 1, 1, none⟩ = some (.int .i64 0) := by rw [hOz.cell]; rfl
  have v1 := hOz.frozen 1
  have y2 : w4.cell? ⟨rp + 1, 2, none⟩ = some (.slice none 0 0) := by rw [hOz.cell]; rfl
  have v2 := hOz.frozen 2
  have y3 : w4.cell? ⟨rp + 1, 3, none⟩ = some (.int .i64 0) := by rw [hOz.cell]; rfl
  have v3 := hOz.frozen 3
  have y4 : w4.cell? ⟨rp + 1, 4, none⟩ = some (.slice none 0 0) := by rw [hOz.cell]; rfl
  have v4 := hOz.frozen 4
  have HZ := xhd (((((hOz.set 0 (.int .i64 1)).set 1 (.int .i64 pi)).set 2 (.slice DA pd.length dc)).set 3 (.int .i64 2)).set 4 (.slice A2 qs.length c2))
  have HKR := xhd (((((((Keeps.refl (only (rp + 1)) w4).put 0 (.int .i64 1)).put 1 (.int .i64 pi)).put 2 (.slice DA pd.length dc)).put 3 (.int .i64 2)).put 4 (.slice A2 qs.length c2)).drew)
  clear hOz
  refine y03 (i := 2) (by kernel_rfl) rfl (fun K hK => ?_)
  go_simp
  refine hK.out _ _ (fun h => absurd rfl h) ?_
  clear hK K
  refine y09 (by kernel_rfl) ?_ _
  go_wp2_with fail
  refine bodyPost_ret (y1h rfl _ _ (rp + 1) 180 _ (0, 0) _ rfl HZ.out Tryz.underlying180 rfl (by rw [HI.out]; rfl)) rfl ?_
  rw [HE.out, ← HKJ.out]
  exact ⟨_, qs, f, R, rfl, (HR4.out.keeps HKR.out (fun b hb e => by have e : b = rp + 1 := e; have := hb.1; omega)).mono (fun b hb => ⟨by have := HRP.out; have := hb.1; omega, Nat.lt_of_lt_of_le hb.2 HKR.out.size⟩), HQS.out, HFQ.out qs HQS.out, HN4.out.keeps HKR.out (fun e => by have e : g = rp + 1 := e; have := HGL.out; omega) (fun e => by have e : f.gm = rp + 1 := e; have := HML.out; omega) (fun b hb e => by have e : b = rp + 1 := e; have := HRL.out b hb; omega), rfl, fun b hb => .inl hb, (HK4.out.mono (fun _ h => h.elim)).trans' HKR.out (fun i hi hl => by have e : i = rp + 1 := hi; have := HRP.out; omega)⟩
 ·have hne : (((jc : Nat) : Int) == 2) = false := by rw [beq_eq_false_iff_ne]; omega
  have HE := xhd (show ev = 7 from HEV.out.trans (if_neg (by rw [← HKJ.out]; exact hk2)))
  go_upto_region 7 with fail
  refine y0b (fun w' => Blk w' (rp + 1 + 1) 180 #[.int .i64 1, .int .i64 pi, .slice DA pd.length dc, .int .i64 (jc : Int), .slice A2 qs.length c2]) 2 3 rfl (by kernel_rfl) HC4.out (fun hHeld => ?_)
  have HSW := hHeld
  clear hHeld
  have HK0d := xhd (HKZ4.out.drew)
  refine y00 (i := 0) rfl (by kernel_rfl) (fun _ _ _ h => h) (Or.inl ⟨by rfl, by intro w hSw; have s0 : w.cell? ⟨rp + 1 + 1, 0, none⟩ = some (.int .i64 1) := (by rw [Blk.cell hSw]; rfl); have s1 : w.cell? ⟨rp + 1 + 1, 1, none⟩ = some (.int .i64 pi) := (by rw [Blk.cell hSw]; rfl); have s2 : w.cell? ⟨rp + 1 + 1, 2, none⟩ = some (.slice DA pd.length dc) := (by rw [Blk.cell hSw]; rfl); have s3 : w.cell? ⟨rp + 1 + 1, 3, none⟩ = some (.int .i64 (jc : Int)) := (by rw [Blk.cell hSw]; rfl); have s4 : w.cell? ⟨rp + 1 + 1, 4, none⟩ = some (.slice A2 qs.length c2) := (by rw [Blk.cell hSw]; rfl); go_simp; try with_reducible rfl⟩) HSW.out ?_
  simp only [Act.put, xqA, xqB, xqD, xqE, xqF]
  refine y00 (i := 1) rfl (by kernel_rfl) (fun _ _ _ h => h) (Or.inl ⟨by rfl, by intro w hSw; skip; go_simp; try with_reducible rfl⟩) HSW.out ?_
  simp only [Act.put, xqA, xqB, xqC, xqD, xqE, xqF]
  have hOz := HO4.out
  have y0 : w4.cell? ⟨rp + 1, 0, none⟩ = some (.int .i64 0) := by rw [hOz.cell]; rfl
  have v0 := hOz.frozen 0
  have y1 : w4.cell? ⟨rp + 1, 1, none⟩ = some (.int .i64 0) := by rw [hOz.cell]; rfl
  have v1 := hOz.frozen 1
  have y2 : w4.cell? ⟨rp + 1, 2, none⟩ = some (.slice none 0 0) := by rw [hOz.cell]; rfl
  have v2 := hOz.frozen 2
  have y3 : w4.cell? ⟨rp + 1, 3, none⟩ = some (.int .i64 0) := by rw [hOz.cell]; rfl
  have v3 := hOz.frozen 3
  have y4 : w4.cell? ⟨rp + 1, 4, none⟩ = some (.slice none 0 0) := by rw [hOz.cell]; rfl
  have v4 := hOz.frozen 4
  have HZ := xhd (((((hOz.set 0 (.int .i64 1)).set 1 (.int .i64 pi)).set 2 (.slice DA pd.length dc)).set 3 (.int .i64 (jc : Int))).set 4 (.slice A2 qs.length c2))
  have HKR := xhd (((((((Keeps.refl (only (rp + 1)) w4).put 0 (.int .i64 1)).put 1 (.int .i64 pi)).put 2 (.slice DA pd.length dc)).put 3 (.int .i64 (jc : Int))).put 4 (.slice A2 qs.length c2)).drew)
  clear hOz
  refine y03 (i := 2) (by kernel_rfl) rfl (fun K hK => ?_)
  go_simp
  refine hK.out _ _ (fun h => absurd rfl h) ?_
  clear hK K
  refine y09 (by kernel_rfl) ?_ _
  go_wp2_with fail
  refine bodyPost_ret (y1h rfl _ _ (rp + 1) 180 _ (0, 0) _ rfl HZ.out Tryz.underlying180 rfl (by rw [HI.out]; rfl)) rfl ?_
  rw [HE.out, ← HKJ.out]
  exact ⟨_, qs, f, R, rfl, (HR4.out.keeps HKR.out (fun b hb e => by have e : b = rp + 1 := e; have := hb.1; omega)).mono (fun b hb => ⟨by have := HRP.out; have := hb.1; omega, Nat.lt_of_lt_of_le hb.2 HKR.out.size⟩), HQS.out, HFQ.out qs HQS.out, HN4.out.keeps HKR.out (fun e => by have e : g = rp + 1 := e; have := HGL.out; omega) (fun e => by have e : f.gm = rp + 1 := e; have := HML.out; omega) (fun b hb e => by have e : b = rp + 1 := e; have := HRL.out b hb; omega), rfl, fun b hb => .inl hb, (HK4.out.mono (fun _ h => h.elim)).trans' HKR.out (fun i hi hl => by have e : i = rp + 1 := hi; have := HRP.out; omega)⟩
end Go.Proofs.YtmgicbckgpdkcaaGreatDoor
