/- Package packet's reader: next. -/
import Derived.OwnWalk
import Derived.Lib.IfaceEq
import Derived.Test.YtnkepeiedmdnoaaDoorC2
namespace Go.Proofs.YtnkepeiedmdnoaaDoor
set_option maxRecDepth 100000
set_option maxHeartbeats 4000000
open _root_.Go.Lib renaming hid → xhd
open List renaming setIfInBounds_toArray → xqA, getElem_toArray → xqB, getElem_cons_succ → xqC, getElem_cons_zero → xqD, set_cons_succ → xqE, set_cons_zero → xqF
open Go.RowKit
theorem y1d (F : Nat → Prop) (g size len : Nat) (l : List UInt8) (w : World) (hrd : Rd w F g l) (hF : ∀ b, F b → b ≠ g) (hs : size ≤ 4) (h1 : 0 < len) (h2 : len ≤ 2) (h3 : len ≤ size) :
  Calls Tryd.prog 37 #[.pointer (some ⟨g, 0, none⟩), .int .i64 size, .int .i64 len] w fun e w' => ∃ a b u, e = .returned (.tuple #[a, b, u]) ∧ y0s w' u (Pure.nextErr size len l) ∧ Keeps (only g) w w' ∧
   (Pure.nextErr size len l = 0 → Row w' F 1 a size (u8s (l.take size)) ∧ Row w' F 1 b (Pure.told size len l - size) (u8s ((l.drop size).take (Pure.told size len l - size))) ∧ Rd w' F g (l.drop (Pure.told size len l))) := by
 by_cases hls : l.length < size
 ·have HE := xhd (show Pure.nextErr size len l = 2 from if_pos hls)
  have HT := xhd (y3z F g size l w hrd hls (by omega))
  clear hrd hF
  go_enter Tryd.func37, Tryd.ntmps37
  go_wp2_with fail
  refine HT.out.mono ?_
  rintro e w1 ⟨u, rfl, hu, hk⟩
  obtain ⟨b, rfl, hu2⟩ : ∃ b, u = .iface 73 (.pointer (some ⟨b, 0, none⟩)) ∧ y0s w1 u 2 := by
   rcases hu with ⟨_, h⟩ | ⟨h1, b, h2, h3⟩
   ·cases h
   ·exact ⟨b, h2, .inr ⟨h1, b, h2, h3⟩⟩
  have HU := xhd hu2
  have HK := xhd (hk.mono (T := only g) (fun i h => h.elim))
  clear hu hu2 hk HT
  go_wp2
  go_ret3
  exact ⟨_, _, _, rfl, by rw [HE.out]; exact HU.out, HK.out, fun h => absurd (HE.out.symm.trans h) (by omega)⟩
 ·have HNE : ∀ k, Pure.nextErr size len l = k ↔ (if Pure.told size len l < size then 2 + 2 else if l.length < Pure.told size len l then 2 else 0) = k := fun k => by unfold Pure.nextErr; rw [if_neg hls]
  have HT := xhd (take_ok F g size l w hrd hF (by omega))
  have HF := xhd hF
  have hlt := xhd (show Pure.told size len l < 65536 from Pure.num_lt _ (by rw [List.length_drop, List.length_take]; omega))
  obtain ⟨st, hst⟩ : ∃ st, st = Pure.told size len l := ⟨_, rfl⟩
  rw [← hst] at HNE hlt ⊢
  have HST := xhd hst
  have HNE := xhd HNE
  clear hst
  obtain ⟨q, hq⟩ : ∃ q, q = size - len := ⟨_, rfl⟩
  have eq : (size : Int) - (len : Int) = (q : Int) := by omega
  have q1 : (q : Int) ≤ (size : Int) := by omega
  have qz : size - q = len := by omega
  have QS := xhd (show q + len ≤ size by omega)
  have HQ := xhd hq
  clear hrd hF hq
  go_enter Tryd.func37, Tryd.ntmps37
  go_wp2_with fail
  refine HT.out.mono ?_
  rintro e w1 ⟨v, rfl, hv, hrd1, hk⟩
  obtain ⟨A, c, rfl, hc⟩ := hv.form
  have HV := xhd hv
  have HRD := xhd hrd1
  have HK := xhd hk
  have qc : (q : Int) ≤ (c : Int) := by omega
  have htd : Pure.told size len l = Pure.num ((l.take size).drop q) := by rw [HQ.out]; rfl
  have HN := xhd (show Calls Tryd.prog 45 #[cutV A c q len] w1 fun e w' => e = .returned (.int .i64 (st : Nat)) ∧ w1 = w' by
   have h := pnum_any F (cutV A c q len) len ((l.take size).drop q) w1 (by
    have h := hv.cutV q len (by omega)
    rwa [List.take_of_length_le (by rw [List.length_drop, List.length_take]; omega)] at h) (by rw [List.length_drop, List.length_take]; omega)
   rw [HST.out, htd]
   exact h)
  clear hv hrd1 hk HT htd
  have hst2 := hlt.out
  go_upto_region 4 with fail
  go_cut [9] (fun s wx => s = .int .i64 (st : Nat) ∧ w1 = wx)
  case first =>
   by_cases hcq : c = q
   ·subst hcq
    unfold cutV at HN
    rw [if_pos rfl] at HN
    go_wp2_with fail
    refine HN.out.mono ?_
    rintro e w2 ⟨rfl, rfl⟩
    go_wp2
    go_meet
    exact ⟨rfl, rfl⟩
   ·unfold cutV at HN
    rw [if_neg hcq] at HN
    go_wp2_with fail
    refine HN.out.mono ?_
    rintro e w2 ⟨rfl, rfl⟩
    go_wp2
    go_meet
    exact ⟨rfl, rfl⟩
  case rest =>
   obtain ⟨rfl, rfl⟩ := hcut
   clear HN
   by_cases h1 : st < size
   ·have HE := xhd ((HNE.out 4).2 (if_pos h1))
    have HO := xhd (fun s => y1w s 4 w1 (by omega))
    have d0 : decide (st < size) = true := decide_eq_true h1
    clear HNE
    go_wp2_with fail
    refine (HO.out _).mono ?_
    rintro e w2 ⟨u, rfl, hu, hb⟩
    have HU := xhd hu
    have HK2 := xhd (HK.out.trans ((Keeps.new hb).mono (fun i h => h.elim)))
    clear hu hb HO
    go_wp2
    go_ret3
    exact ⟨_, _, _, rfl, by rw [HE.out]; exact HU.out, HK2.out, fun h => absurd (HE.out.symm.trans h) (by omega)⟩
   ·have d0 : decide (st < size) = false := decide_eq_false h1
    obtain ⟨m, hm⟩ : ∃ m, m = st - size := ⟨_, rfl⟩
    have em : (st : Int) - (size : Int) = (m : Int) := by omega
    have em2 : st - size = m := hm.symm
    have hml : (m : Int) ≤ 65536 := by omega
    have HM := xhd hm
    by_cases h2 : l.length < st
    ·have HE := xhd ((HNE.out 2).2 (by rw [if_neg h1, if_pos h2]))
     have HT2 := xhd (y3z F g m (l.drop size) w1 HRD.out (by rw [List.length_drop]; omega) (by omega))
     clear HNE hm
     go_wp2_with fail
     refine HT2.out.mono ?_
     rintro e w2 ⟨u, rfl, hu, hk2⟩
     obtain ⟨b, rfl, hu2⟩ : ∃ b, u = .iface 73 (.pointer (some ⟨b, 0, none⟩)) ∧ y0s w2 u 2 := by
      rcases hu with ⟨_, h⟩ | ⟨h1, b, h2, h3⟩
      ·cases h
      ·exact ⟨b, h2, .inr ⟨h1, b, h2, h3⟩⟩
     have HU := xhd hu2
     have HK2 := xhd (HK.out.trans (hk2.mono (T := only g) (fun i h => h.elim)))
     clear hu hu2 hk2 HT2
     go_wp2
     go_ret3
     exact ⟨_, _, _, rfl, by rw [HE.out]; exact HU.out, HK2.out, fun h => absurd (HE.out.symm.trans h) (by omega)⟩
    ·have HE := xhd ((HNE.out 0).2 (by rw [if_neg h1, if_neg h2]))
     have HT2 := xhd (take_ok F g m (l.drop size) w1 HRD.out HF.out (by rw [List.length_drop]; omega))
     have HDD := xhd (show (l.drop size).drop m = l.drop st by rw [List.drop_drop]; congr 1; omega)
     clear HNE hm
     go_wp2_with fail
     refine HT2.out.mono ?_
     rintro e w2 ⟨v2, rfl, hv2, hrd2, hk2⟩
     obtain ⟨A2, c2, rfl, _⟩ := hv2.form
     have HV2 := xhd hv2
     rw [HDD.out] at hrd2
     have HRD2 := xhd hrd2
     have HK2 := xhd (HK.out.trans hk2)
     have HVk := xhd (HV.out.keeps hk2 HF.out)
     clear hv2 hrd2 hk2 HT2
     go_wp2
     go_ret3
     exact ⟨_, _, _, rfl, by rw [HE.out]; exact .inl ⟨rfl, rfl⟩, HK2.out, fun _ => ⟨HVk.out, by first | exact HV2.out | (rw [← HM.out]; exact HV2.out), HRD2.out⟩⟩
namespace Pure
theorem y3s (b : List UInt8) (h : 4 ≤ b.length) : told 4 2 b = stated b := by
 match b, h with
 | a :: b :: c :: d :: l, _ => simp [told, stated, num]
theorem decode_bad {b : List UInt8} (h : nextErr 4 2 b ≠ 0) : decode b = (nextErr 4 2 b, noPkt) := by
 unfold nextErr at *
 by_cases h1 : b.length < 4
 ·rw [if_pos h1]; exact decode_short h1
 ·rw [if_neg h1] at h ⊢
  rw [y3s b (by omega)] at *
  by_cases h2 : stated b < 4
  ·rw [if_pos h2]; exact decode_form h1 h2
  ·rw [if_neg h2] at h ⊢
   by_cases h3 : b.length < stated b
   ·rw [if_pos h3]; exact decode_cut h1 h2 h3
   ·rw [if_neg h3] at h; exact absurd rfl h
theorem next_packet {b : List UInt8} (h : nextErr 4 2 b = 0) : 4 ≤ b.length ∧ told 4 2 b = stated b ∧ 4 ≤ stated b ∧ stated b ≤ b.length := by
 unfold nextErr at h
 by_cases h1 : b.length < 4
 ·rw [if_pos h1] at h; cases h
 ·rw [if_neg h1] at h
  have e := y3s b (by omega)
  rw [e] at h
  by_cases h2 : stated b < 4
  ·rw [if_pos h2] at h; cases h
  ·rw [if_neg h2] at h
   by_cases h3 : b.length < stated b
   ·rw [if_pos h3] at h; cases h
   ·exact ⟨by omega, e, by omega, by omega⟩
theorem getD_take (b : List UInt8) (n i : Nat) (h : i < n) : (b.take n).getD i 0 = b.getD i 0 := by
 simp [List.getD_eq_getElem?_getD, h]
end Pure
theorem y16 {w : World} {v : Value} {k : Nat} (h : y0s w v k) (hk : k ≠ 0) : ∃ b, v = .iface 73 (.pointer (some ⟨b, 0, none⟩)) := by
 rcases h with ⟨_, h⟩ | ⟨_, b, h, _⟩
 ·exact absurd h hk
 ·exact ⟨b, h⟩
theorem y2w {w : World} {v : Value} (h : y0s w v 0) : v = .nilIface := by
 rcases h with ⟨h, _⟩ | ⟨h, _⟩
 ·exact h
 ·exact absurd rfl h
theorem y0s.far {w w' : World} {v : Value} {k p : Nat} (h : y0s w v k) (hk : Keeps (only p) w w') (hz : ∀ n : Int, n ≠ 0 → w.cell? ⟨p, 1, none⟩ ≠ some (.int .i64 n)) : y0s w' v k := by
 rcases h with h | ⟨h1, b, h2, h3⟩
 ·exact .inl h
 ·have hb : b ≠ p := fun e => hz k (by omega) (e ▸ h3)
  exact .inr ⟨h1, b, h2, (World.cell?_of_block (w := w) (a := ⟨b, 1, none⟩) (hk.block b (y0c h3) (fun e => hb e))).trans h3⟩
theorem packet_any (F : Nat → Prop) (g : Nat) (bs : List UInt8) (w : World) (hrd : Rd w F g bs) (hF : ∀ b, F b → b ≠ g) (hFl : ∀ b, F b → b < w.heap.size) :
  Calls Tryd.prog 28 #[.pointer (some ⟨g, 0, none⟩)] w fun e w' => ∃ u v, e = .returned (.tuple #[pktV (Pure.decode bs).2 u, v]) ∧ y0s w' v (Pure.decode bs).1 ∧
   Row w' (fun b => w.heap.size ≤ b) 1 u (Pure.decode bs).2.data.length (u8s (Pure.decode bs).2.data) ∧ Keeps (only g) w w' := by
 have hgl : g < w.heap.size := by obtain ⟨v, hb, _⟩ := hrd; exact hb.lt
 have HF := xhd hF
 have HFl := xhd hFl
 have HI := xhd y3v
 obtain ⟨p, hp⟩ : ∃ p, p = w.heap.size := ⟨_, rfl⟩
 go_enter Tryd.func28, Tryd.ntmps28
 go_upto_region 1 with fail
 rw [← hp]
 generalize hw1 : w.alloc _ = w1
 have hB : Blk w1 p 28 #[.int .i64 0, .int .i64 0, .slice none 0 0] := by rw [← hw1, hp]; exact Blk.new w _ _
 have HK := xhd (show Keeps y03 w w1 by rw [← hw1]; exact (Keeps.refl _ w).alloc _)
 have HG := xhd hp
 have HN := xhd (y1d F g 4 2 bs w1 (hrd.keeps HK.out (fun h => h) (fun _ _ h => h)) hF (by omega) (by omega) (by omega) (by omega))
 have HB := xhd hB
 clear hw1 hp hB hrd hF hFl
 go_wp2_with fail
 refine HN.out.mono ?_
 rintro e w2 ⟨a, b, u, rfl, hu, hk2, hok⟩
 have hgp : p ≠ g := by have := HG.out; omega
 have HB2 := xhd (HB.out.keeps hk2 (fun h => hgp h))
 have hk02 := (HK.out.mono (T := only g) (fun i h => h.elim)).trans hk2
 have HK2 := xhd hk02
 have z0 : w2.cell? ⟨p, 0, none⟩ = some (.int .i64 0) := by rw [HB2.out.cell]; rfl
 have z1 : w2.cell? ⟨p, 1, none⟩ = some (.int .i64 0) := by rw [HB2.out.cell]; rfl
 have z2 : w2.cell? ⟨p, 2, none⟩ = some (.slice none 0 0) := by rw [HB2.out.cell]; rfl
 have y0 := HB2.out.frozen 0
 have y1 := HB2.out.frozen 1
 have y2 := HB2.out.frozen 2
 have HZS := xhd (((HB2.out.set 0 (.int .i64 0)).set 1 (.int .i64 0)).set 2 (.slice none 0 0))
 have HKS := xhd (((HK2.out.store p 0 (fun h => by have := HG.out; omega) (.int .i64 0)).store p 1 (fun h => by have := HG.out; omega) (.int .i64 0)).store p 2 (fun h => by have := HG.out; omega) (.slice none 0 0))
 by_cases h0 : Pure.nextErr 4 2 bs = 0
 ·obtain rfl := y2w (by rw [← h0]; exact hu)
  obtain ⟨ha, hb, _⟩ := hok h0
  obtain ⟨n4, htd, n1, n2⟩ := Pure.next_packet h0
  rw [htd] at hb
  have dlong := fun h => Pure.decode_long (b := bs) (by omega) (by omega) (by omega) h
  have dok := fun h => Pure.decode_ok (b := bs) (by omega) (by omega) (by omega) h
  obtain ⟨n, hn⟩ : ∃ n, n = Pure.stated bs := ⟨_, rfl⟩
  rw [← hn] at hb dlong dok n1 n2
  obtain ⟨m, hmn⟩ : ∃ m, m = n - 4 := ⟨_, rfl⟩
  rw [← hmn] at hb dok
  obtain ⟨A, cA, rfl, _⟩ := ha.form
  obtain ⟨B, cB, rfl, _⟩ := hb.form
  have hm := hb.2.1
  unfold maxLen at hm
  have HBR := xhd hb
  have HZ := xhd (fun (W : World) (h : Keeps y03 w2 W) => (show ∀ n : Int, n ≠ 0 → W.cell? ⟨p, 1, none⟩ ≠ some (.int .i64 n) from fun n hn e => by
   rw [y0y z1 h] at e
   injection e with e
   injection e with _ e
   exact hn e.symm))
  have HDL := xhd dlong
  have HDO := xhd dok
  have hm4 : m + 4 = n := by omega
  have HMN := xhd hmn
  clear hmn
  by_cases h7 : 1500 < n
  ·have HD := xhd (HDL.out h7)
   have d0 : decide ((1496 : Int) < (m : Int)) = true := decide_eq_true (by omega)
   have d1 : decide (1496 < m) = true := decide_eq_true (by omega)
   have HO := xhd (fun s => y1w s 3 w2 (by omega))
   clear ha hb hu hok hk2 hk02 HN dlong dok htd hn HDL HDO hm4
   go_wp2_with fail
   refine (HO.out _).mono ?_
   rintro e w3 ⟨u, rfl, hu, hb3⟩
   have hk3 := Keeps.new hb3
   have HZ3 := xhd (HZ.out w3 hk3)
   obtain ⟨fb, rfl⟩ := y16 hu (by omega)
   have HU := xhd hu
   have HB3 := xhd (HB2.out.keeps hk3 (fun h => h))
   have HK3 := xhd (HK2.out.trans (hk3.mono (T := only g) (fun i h => h.elim)))
   clear z0 z1 z2 y0 y1 y2 HZS HKS hu hk3 hb3
   have z0 : w3.cell? ⟨p, 0, none⟩ = some (.int .i64 0) := by rw [HB3.out.cell]; rfl
   have z1 : w3.cell? ⟨p, 1, none⟩ = some (.int .i64 0) := by rw [HB3.out.cell]; rfl
   have z2 : w3.cell? ⟨p, 2, none⟩ = some (.slice none 0 0) := by rw [HB3.out.cell]; rfl
   have y0 := HB3.out.frozen 0
   have y1 := HB3.out.frozen 1
   have y2 := HB3.out.frozen 2
   have HZS := xhd (((HB3.out.set 0 (.int .i64 0)).set 1 (.int .i64 0)).set 2 (.slice none 0 0))
   have HKS := xhd (((HK3.out.store p 0 (fun h => by have := HG.out; omega) (.int .i64 0)).store p 1 (fun h => by have := HG.out; omega) (.int .i64 0)).store p 2 (fun h => by have := HG.out; omega) (.slice none 0 0))
   have HK4 := xhd ((((Keeps.refl (only p) w3).store p 0 (fun _ => rfl) (.int .i64 0)).store p 1 (fun _ => rfl) (.int .i64 0)).store p 2 (fun _ => rfl) (.slice none 0 0))
   go_wp2
   refine bodyPost_ret (y09 rfl _ _ p 28 _ (0, 0) _ rfl HZS.out Tryd.underlying28 rfl (by rw [HI.out]; rfl)) rfl ?_
   exact ⟨.slice none 0 0, _, by rw [HD.out]; rfl, by rw [HD.out]; exact HU.out.far HK4.out HZ3.out, by rw [HD.out]; exact Row.nil _ _ _, HKS.out⟩
  ·have HD := xhd (HDO.out h7)
   have d0 : decide ((1496 : Int) < (m : Int)) = false := decide_eq_false (by omega)
   have d1 : decide (1496 < m) = false := decide_eq_false (by omega)
   obtain ⟨bx, ox, rfl, hFb, hcx⟩ := ha.cellAt (by omega)
   have b0 := hcx 0 _ (y10 (bs.take 4) 0 (by rw [List.length_take]; omega))
   have b1 := hcx 1 _ (y10 (bs.take 4) 1 (by rw [List.length_take]; omega))
   rw [Pure.getD_take _ _ _ (by omega)] at b0 b1
   rw [Nat.add_zero] at b0
   have l0 := (bs.getD 0 0).toNat_lt
   have l1 := (bs.getD 1 0).toNat_lt
   obtain ⟨B0, hB0⟩ : ∃ b, b = (bs.getD 0 0).toNat := ⟨_, rfl⟩
   obtain ⟨B1, hB1⟩ : ∃ b, b = (bs.getD 1 0).toNat := ⟨_, rfl⟩
   rw [← hB0] at b0 l0 HD
   rw [← hB1] at b1 l1 HD
   have v0 : IntKind.i64.wrap (B0 : Int) = (B0 : Int) := IntWalk.i64_in _ (by omega)
   have v1 : IntKind.i64.wrap (B1 : Int) = (B1 : Int) := IntWalk.i64_in _ (by omega)
   obtain ⟨D, hD⟩ : ∃ D, D = (bs.drop 4).take m := ⟨_, rfl⟩
   have hdl : D.length = m := by rw [hD, List.length_take, List.length_drop]; omega
   rw [← hD] at HD HBR
   have hpx : bx ≠ p := fun e => by have h1 := HFl.out bx hFb; have h2 := HG.out; omega
   have hpb : p < w2.heap.size := HB2.out.lt
   have HM3 := xhd (show m ≤ 1496 by omega)
   clear ha hb hu hok hk2 hk02 HN dlong dok htd hn HDL HDO hm4 hcx hB0 hB1 hD z0 z1 z2 y0 y1 y2 HZS HKS
   go_upto_region 6 with fail
   refine y0x (fun w' => w'.cell? ⟨bx, ox, none⟩ = some (.int .u8 B0) ∧ w'.cell? ⟨bx, ox + 1, none⟩ = some (.int .u8 B1)) 12 13 rfl (by kernel_rfl) ⟨b0, b1⟩ (fun hHeld => ?_)
   refine y01 (i := 0) rfl (by kernel_rfl) (fun _ _ _ h => h) (Or.inl ⟨by rfl, by intro w hSw; obtain ⟨s0, s1⟩ := hSw; go_simp; try with_reducible rfl⟩) hHeld.out ?_
   simp only [Act.put, xqA, Nat.reduceAdd, xqB, xqC, xqD, xqE, xqF]
   refine y01 (i := 1) rfl (by kernel_rfl) (fun _ _ _ h => h) (Or.inl ⟨by rfl, by intro w hSw; obtain ⟨s0, s1⟩ := hSw; go_simp; try with_reducible rfl⟩) hHeld.out ?_
   simp only [Act.put, xqA, Nat.reduceAdd, xqB, xqC, xqD, xqE, xqF]
   refine y01 (i := 2) rfl (by kernel_rfl) (fun _ _ _ h => h) (Or.inl ⟨by rfl, by intro w hSw; obtain ⟨s0, s1⟩ := hSw; go_simp; try with_reducible rfl⟩) hHeld.out ?_
   simp only [Act.put, xqA, Nat.reduceAdd, xqB, xqC, xqD, xqE, xqF]
   refine y01 (i := 3) rfl (by kernel_rfl) (fun _ _ _ h => h) (Or.inl ⟨by rfl, by intro w hSw; obtain ⟨s0, s1⟩ := hSw; go_simp; try with_reducible rfl⟩) hHeld.out ?_
   simp only [Act.put, xqA, Nat.reduceAdd, xqB, xqC, xqD, xqE, xqF]
   refine y01 (i := 4) rfl (by kernel_rfl) (fun _ _ _ h => h) (Or.inl ⟨by rfl, by intro w hSw; obtain ⟨s0, s1⟩ := hSw; go_simp; try with_reducible rfl⟩) hHeld.out ?_
   simp only [Act.put, xqA, Nat.reduceAdd, xqB, xqC, xqD, xqE, xqF]
   refine y01 (i := 5) rfl (by kernel_rfl) (fun _ _ _ h => h) (Or.inl ⟨by rfl, by intro w hSw; obtain ⟨s0, s1⟩ := hSw; go_simp; try with_reducible rfl⟩) hHeld.out ?_
   simp only [Act.put, xqA, Nat.reduceAdd, xqB, xqC, xqD, xqE, xqF]
   refine y01 (i := 6) rfl (by kernel_rfl) (fun _ _ _ h => h) (Or.inl ⟨by rfl, by intro w hSw; obtain ⟨s0, s1⟩ := hSw; go_simp; try with_reducible rfl⟩) hHeld.out ?_
   simp only [Act.put, xqA, Nat.reduceAdd, xqB, xqC, xqD, xqE, xqF]
   refine y01 (i := 7) rfl (by kernel_rfl) (fun _ _ _ h => h) (Or.inl ⟨by rfl, by intro w hSw; obtain ⟨s0, s1⟩ := hSw; go_simp; try with_reducible rfl⟩) hHeld.out ?_
   simp only [Act.put, xqA, Nat.reduceAdd, xqB, xqC, xqD, xqE, xqF]
   refine y01 (i := 8) rfl (by kernel_rfl) (fun _ _ _ h => h) (Or.inl ⟨by rfl, by intro w hSw; obtain ⟨s0, s1⟩ := hSw; go_simp; try with_reducible rfl⟩) hHeld.out ?_
   simp only [Act.put, xqA, Nat.reduceAdd, xqB, xqC, xqD, xqE, xqF]
   refine y0a (i := 9) (by kernel_rfl) rfl (fun K hK => ?_)
   go_simp
   have hwd : Keeps y03 w2 w2.drew := (Keeps.refl _ w2).drew
   refine (y2e F (.slice B m cB) m D w2.drew (HBR.out.keeps hwd (fun _ _ h => h)) (by have := HM3.out; omega)).mono ?_
   rintro e w3 ⟨u, rfl, hu, hb3⟩
   have hk3 : Keeps y03 w2 w3 := Keeps.new ⟨hb3.os, hb3.tape, hb3.output, hb3.size, hb3.block⟩
   have hu : w3.ownsRow w2.heap.size 5 1 u m (u8s D) := hu
   have HH3 := xhd (And.intro (y0y hHeld.out.1 (w := w2) hk3) (y0y hHeld.out.2 (w := w2) hk3))
   refine hK.out _ _ (fun _ => HH3.out) ?_
   clear hK K hHeld
   obtain ⟨A3, c3, rfl⟩ := y06 hu
   have HU3 := xhd (Row.of_own hu)
   have hge := fun b hb => y04 hu b hb
   have HGE := xhd hge
   have HB3 := xhd (HB2.out.keeps hk3 (fun x => x))
   have HK3 := xhd (HK2.out.trans (hk3.mono (T := only g) (fun i h => h.elim)))
   clear hu hb3 hk3 hwd hge
   refine y01 (i := 10) rfl (by kernel_rfl) (fun _ _ _ h => h) (Or.inl ⟨by rfl, by intro w hSw; go_simp; try with_reducible rfl⟩) HH3.out ?_
   simp only [Act.put, xqA, Nat.reduceAdd, xqB, xqC, xqD, xqE, xqF]
   refine y0a (i := 11) (by kernel_rfl) rfl (fun K hK => ?_)
   rw [if_pos (by rfl)]
   refine wp_store_row 28 (.tmp 2) (.tmp 32) rfl p _ rfl rfl 28 _ HB3.out (by rw [HI.out]; rfl) rfl (by simp [Value.oneCell']) ?_
   obtain ⟨w4, hw4⟩ : ∃ w4, w4 = w3.setRow p #[.int .i64 (B0 : Int), .int .i64 (B1 : Int), .slice A3 m c3] := ⟨_, rfl⟩
   have hb4 : Blk w4 p 28 #[.int .i64 (B0 : Int), .int .i64 (B1 : Int), .slice A3 m c3] := by rw [hw4]; exact Blk.rowSet HB3.out _
   have hkg : Keeps (only p) w3 w4 := by rw [hw4]; exact (Keeps.refl (only p) w3).rowSet (fun _ => rfl) _
   have hk4 : Keeps (only g) w w4 := by rw [hw4]; exact HK3.out.rowSet (fun h => by have := HG.out; omega) _
   have hu4 : Row w4 (fun b => w.heap.size ≤ b) 1 (.slice A3 m c3) m (u8s D) := by
    exact (HU3.out.keeps hkg (fun b hb hs => by have h1 := HGE.out b hb; have h2 : b = p := hs; omega)).mono (G := fun b => w.heap.size ≤ b) (fun b hb => Nat.le_trans HK2.out.size (HGE.out b hb))
   have HU4 := xhd hu4
   have HB4 := xhd hb4
   have HK4 := xhd hk4
   have s4 : w4.cell? ⟨bx, ox, none⟩ = some (.int .u8 B0) ∧ w4.cell? ⟨bx, ox + 1, none⟩ = some (.int .u8 B1) :=
    ⟨(World.cell?_of_block (w := w3) (a := ⟨bx, ox, none⟩) (hkg.block bx (y0c HH3.out.1) (fun h => hpx h))).trans HH3.out.1, (World.cell?_of_block (w := w3) (a := ⟨bx, ox + 1, none⟩) (hkg.block bx (y0c HH3.out.2) (fun h => hpx h))).trans HH3.out.2⟩
   have HS4 := xhd s4
   refine hK.out _ _ (fun _ => ?_) ?_
   ·rw [← hw4]; exact HS4.out
   rw [← hw4]
   simp only [Act.put]
   clear hK K hw4 hb4 hkg hk4 hu4 s4
   refine y0a (i := 12) (by kernel_rfl) rfl (fun K hK => ?_)
   go_simp
   refine hK.out _ _ (fun _ => HS4.out) ?_
   clear hK K
   refine y0w (by kernel_rfl) ?_ _
   go_wp2_with fail
   refine bodyPost_ret (y09 rfl _ _ p 28 _ (0, 0) _ rfl HB4.out Tryd.underlying28 rfl (by rw [HI.out]; rfl)) rfl ?_
   refine ⟨.slice A3 m c3, .nilIface, by rw [HD.out]; rfl, by rw [HD.out]; exact .inl ⟨rfl, rfl⟩, ?_, HK4.out⟩
   rw [HD.out]
   show Row w4 _ 1 _ D.length (u8s D)
   rw [hdl]
   exact HU4.out
 ·have HD := xhd (Pure.decode_bad h0)
  obtain ⟨fb, rfl⟩ := y16 hu h0
  have HU := xhd hu
  have hz : ∀ n : Int, n ≠ 0 → w2.cell? ⟨p, 1, none⟩ ≠ some (.int .i64 n) := fun n hn e => by
   rw [z1] at e
   injection e with e
   injection e with _ e
   exact hn e.symm
  have HZ := xhd hz
  have HK3 := xhd ((((Keeps.refl (only p) w2).store p 0 (fun _ => rfl) (.int .i64 0)).store p 1 (fun _ => rfl) (.int .i64 0)).store p 2 (fun _ => rfl) (.slice none 0 0))
  clear hu hok hk2 hk02 HN hz
  go_wp2
  refine bodyPost_ret (y09 rfl _ _ p 28 _ (0, 0) _ rfl HZS.out Tryd.underlying28 rfl (by rw [HI.out]; rfl)) rfl ?_
  exact ⟨.slice none 0 0, _, by rw [HD.out]; rfl, by rw [HD.out]; exact HU.out.far HK3.out HZ.out, by rw [HD.out]; exact Row.nil _ _ _, HKS.out⟩
theorem Rd.new {F : Nat → Prop} {v : Value} {l : List UInt8} {w : World} (hr : Row w F 1 v l.length (u8s l)) : Rd (w.alloc (.cells #[v] 57)) F w.heap.size l :=
 ⟨v, Blk.new w _ _, hr.keeps (Keeps.refl y03 w |>.alloc _) (fun _ _ h => h)⟩
theorem y4j {B : Nat} {a w : World} (h : Below B a w) : Below B a w.drew := ⟨h.os, h.tape, h.output, h.size, h.block⟩
theorem decode_any (F : Nat → Prop) (x : Value) (bs : List UInt8) (w : World) (hg : y0e w) (hF : ∀ b, F b → b < w.heap.size) (hr : Row w F 1 x bs.length (u8s bs)) :
  Calls Tryd.prog 12 #[x] w fun e w' => ∃ u, e = .returned (.tuple #[pktV (Pure.decode bs).2 u, .int .i64 (((Pure.decode bs).1 : Nat) : Int)]) ∧ Row w' (fun b => w.heap.size ≤ b) 1 u (Pure.decode bs).2.data.length (u8s (Pure.decode bs).2.data) ∧ Below w.heap.size w w' := by
 obtain ⟨A, cA, rfl, hc⟩ := hr.form
 have HR := xhd hr
 have HF := xhd hF
 have HH := xhd hg
 clear hr hF hg
 have HI := xhd y3v
 have HP0 := packet_any F
 obtain ⟨dd, hdd⟩ : ∃ d, d = Pure.decode bs := ⟨_, rfl⟩
 have HP := fun g w => HP0 g bs w
 rw [← hdd] at HP ⊢
 obtain ⟨k, cc, ii, D⟩ := dd
 have HP := xhd HP
 clear hdd HP0
 obtain ⟨p, hp⟩ : ∃ p, p = w.heap.size := ⟨_, rfl⟩
 go_enter Tryd.func12, Tryd.ntmps12
 go_upto_region 1 with fail
 rw [← hp]
 generalize hw1 : w.alloc _ = w1
 have HB := xhd (show Blk w1 p 28 #[.int .i64 0, .int .i64 0, .slice none 0 0] by rw [← hw1, hp]; exact Blk.new w _ _)
 have HK := xhd (show Keeps y03 w w1 by rw [← hw1]; exact (Keeps.refl _ w).alloc _)
 have HG := xhd hp
 clear hw1 hp
 go_upto_region 2 with fail
 obtain ⟨q, hq⟩ : ∃ q, q = w1.heap.size := ⟨_, rfl⟩
 rw [← hq]
 generalize hw2 : w1.alloc _ = w2
 have hrd : Rd w2 F q bs := by rw [← hw2, hq]; exact Rd.new (HR.out.keeps HK.out (fun _ _ h => h))
 have hk2 : Keeps y03 w1 w2 := by rw [← hw2]; exact (Keeps.refl _ w1).alloc _
 have hqw : w.heap.size ≤ q := by rw [hq]; exact HK.out.size
 have hpq : p ≠ q := by have := HB.out.lt; omega
 have HB2 := xhd (HB.out.keeps hk2 (fun h => h))
 have HK2 := xhd (HK.out.trans hk2)
 have HPW := xhd (HP.out q w2 hrd (fun b hb => by have := HF.out b hb; omega) (fun b hb => Nat.lt_of_lt_of_le (HF.out b hb) HK2.out.size))
 clear hw2 hrd hk2 hq HB HK HP
 go_wp2_with fail
 refine HPW.out.mono ?_
 rintro e w3 ⟨u, v, rfl, hv, hu, hk3⟩
 obtain ⟨A3, c3, rfl, _⟩ := Row.form hu
 have HV := xhd hv
 have hgw : ∀ i, only q i → w.heap.size ≤ i := fun i h => by have h : i = q := h; omega
 have HB3 := xhd (HB2.out.keeps hk3 (fun h => hpq h))
 have HBl3 := xhd (Below.keeps HK2.out.to_below hk3 HK2.out.size hgw)
 have HU := xhd hu.strong
 clear hu hv hk3 HPW
 go_upto_region 3 with fail
 obtain ⟨r, hr⟩ : ∃ r, r = w3.heap.size := ⟨_, rfl⟩
 rw [← hr]
 generalize hw4 : w3.alloc _ = w4
 have hb4 : Blk w4 r 28 #[.int .i64 cc, .int .i64 ii, .slice A3 D.length c3] := by rw [← hw4, hr]; exact Blk.new w3 _ _
 have hk4 : Keeps y03 w3 w4 := by rw [← hw4]; exact (Keeps.refl _ w3).alloc _
 have hpr : p ≠ r := by have := HB3.out.lt; omega
 have HB4 := xhd (HB3.out.keeps hk4 (fun h => h))
 have HBl4 := xhd (Below.quiet HBl3.out hk4 HBl3.out.size)
 have HU4 := xhd (HU.out.keeps hk4 (fun _ _ h => h))
 have HV4 := xhd (HV.out.keeps hk4 (fun _ h => h))
 have HS4 := xhd hb4
 have HPL := xhd (And.intro HB2.out.lt HK2.out.size)
 clear hw4 hk4 hr HB3 HBl3 HU HV HB2
 refine y0x (fun w' => Blk w' r 28 #[.int .i64 cc, .int .i64 ii, .slice A3 D.length c3]) 4 5 rfl (by kernel_rfl) hb4.drew (fun hHeld => ?_)
 clear hb4
 refine y01 (i := 0) (v := .agg #[.int .i64 cc, .int .i64 ii, .slice A3 D.length c3]) rfl (by kernel_rfl) (fun _ _ _ h => h) (Or.inl ⟨by rfl, fun w' hSw => y49 28 (.tmp 5) rfl r rfl 28 _ (0, 0) _ hSw Tryd.underlying28 rfl (by rw [HI.out]; rfl)⟩) hHeld.out ?_
 simp only [Act.put, xqA, Nat.reduceAdd, xqB, xqC, xqD, xqE, xqF]
 refine y01 (i := 1) rfl (by kernel_rfl) (fun _ _ _ h => h) (Or.inl ⟨by rfl, by intro w hSw; go_simp; try with_reducible rfl⟩) hHeld.out ?_
 simp only [Act.put, xqA, Nat.reduceAdd, xqB, xqC, xqD, xqE, xqF]
 refine y0a (i := 2) (by kernel_rfl) rfl (fun K hK => ?_)
 go_simp
 have hBd : Below w.heap.size w w4.drew := y4j HBl4.out
 refine (y2i v k w4.drew (HH.out.below hBd) (HV4.out.keeps ((Keeps.refl y03 w4).drew) (fun _ h => h))).mono ?_
 rintro e w5 ⟨rfl, hb5⟩
 have hk5 : Keeps y03 w4 w5 := Keeps.new ⟨hb5.os, hb5.tape, hb5.output, hb5.size, hb5.block⟩
 have HS5 := xhd (HS4.out.keeps hk5 (fun h => h))
 refine hK.out _ _ (fun _ => HS5.out) ?_
 clear hK K hHeld hBd
 have HB5 := xhd (HB4.out.keeps hk5 (fun h => h))
 have HBl5 := xhd (Below.quiet HBl4.out hk5 HBl4.out.size)
 have HU5 := xhd (HU4.out.keeps hk5 (fun _ _ h => h))
 clear hk5 hb5
 refine y0a (i := 3) (by kernel_rfl) rfl (fun K hK => ?_)
 try rw [if_pos (by rfl)]
 refine wp_store_row 28 (.tmp 2) (.tmp 13) rfl p _ rfl rfl 28 _ HB5.out (by rw [HI.out]; rfl) rfl (by simp [Value.oneCell']) ?_
 obtain ⟨w6, hw6⟩ : ∃ w6, w6 = w5.setRow p #[.int .i64 cc, .int .i64 ii, .slice A3 D.length c3] := ⟨_, rfl⟩
 have hb6 : Blk w6 p 28 #[.int .i64 cc, .int .i64 ii, .slice A3 D.length c3] := by rw [hw6]; exact Blk.rowSet HB5.out _
 have hkg : Keeps (only p) w5 w6 := by rw [hw6]; exact (Keeps.refl (only p) w5).rowSet (fun _ => rfl) _
 have hk6 : Below w.heap.size w w6 := Below.keeps HBl5.out hkg HBl5.out.size (fun i h => by have h : i = p := h; have := HG.out; omega)
 have hu6 : Row w6 (fun b => w.heap.size ≤ b) 1 (.slice A3 D.length c3) D.length (u8s D) :=
  (HU5.out.keeps hkg (fun b hb hs => by have h2 : b = p := hs; have := HPL.out.1; omega)).mono (fun b hb => Nat.le_trans HPL.out.2 hb.1)
 have HS6 := xhd (HS5.out.keeps hkg (fun h => hpr h.symm))
 have HB6 := xhd hb6
 have HBl6 := xhd hk6
 have HU6 := xhd hu6
 refine hK.out _ _ (fun _ => ?_) ?_
 ·rw [← hw6]; exact HS6.out
 rw [← hw6]
 simp only [Act.put]
 clear hK K hw6 hb6 hkg hk6 hu6
 refine y0a (i := 4) (by kernel_rfl) rfl (fun K hK => ?_)
 go_simp
 refine hK.out _ _ (fun _ => HS6.out) ?_
 clear hK K
 refine y0w (by kernel_rfl) ?_ _
 go_wp2_with fail
 refine bodyPost_ret (y09 rfl _ _ p 28 _ (0, 0) _ rfl HB6.out Tryd.underlying28 rfl (by rw [HI.out]; rfl)) rfl ?_
 exact ⟨.slice A3 D.length c3, rfl, HU6.out, HBl6.out⟩
theorem y15 : y2z := fun F v p w hF hr => encode_any F v p w hF hr
theorem y14 : y2y := fun F x bs w hg hF hr => decode_any F x bs w hg hF hr
section
variable {w0 w : World}
end
end Go.Proofs.YtnkepeiedmdnoaaDoor
