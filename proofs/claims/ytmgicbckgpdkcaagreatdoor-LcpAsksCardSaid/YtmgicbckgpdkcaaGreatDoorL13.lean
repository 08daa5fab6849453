/- Package slices' IndexFunc over rules; package nego: find, findRule, has. -/
import Derived.Lib.AppendZerosOnto
import Derived.Lib.SliceRun
import Derived.Lib.Walk
import Derived.Test.YtmgicbckgpdkcaaGreatDoorL12
namespace Go.Proofs.YtmgicbckgpdkcaaGreatDoor
set_option maxRecDepth 100000
set_option maxHeartbeats 4000000
open _root_.Go.Lib renaming hid → xhd
open List renaming setIfInBounds_toArray → xqA, getElem_toArray → xqB, getElem_cons_succ → xqC, getElem_cons_zero → xqD, set_cons_succ → xqE, set_cons_zero → xqF
open Go.RowKit
abbrev y0e (ps : List (Value × Pure.Rule)) : List Pure.Rule := ps.map Prod.snd
theorem y3h : (Tryz.prog.info? 31).map (·.size) = some 2 := by kernel_rfl
theorem y0b {P : Program} {fn : Func} {p : Tmp} {ty : TypeId} (h : fn.results = #[.cell p ty]) (tmps : Array Value) (w : World) (g : Nat) (t : TypeId) (cs : Array Value) (fr : Nat × Nat) (d : TypeDesc)
  (hp : tmps.getD p undef = .pointer (some ⟨g, 0, none⟩)) (hg : w.heap[g]? = some (.cells cs t fr))
  (hu : P.underlying ty = some d) (hd : (match d with | .struct _ | .array _ _ => true | _ => false) = true) (hi : (P.info? ty).map (·.size) = some cs.size) :
  (results fn tmps).run P w = .ok (.agg cs) w := by
 have hp' : tmps[p]?.getD undef = .pointer (some ⟨g, 0, none⟩) := by simpa using hp
 simp [results, h, hp', asAddr, run_loadVar_row w g t ty cs fr d hg hu hd hi]
theorem copied_any (F : Nat → Prop) (v : Value) (t : Int) (D : List UInt8) (w : World) (hr : Row w F 1 v D.length (u8s D)) (hl : D.length ≤ 1000000) :
  Calls Tryz.prog 156 #[optV (v, (t, D))] w fun e w' => ∃ A c, e = .returned (.agg #[.int .i64 t, .slice A D.length c]) ∧ Row w' (fun b => w.heap.size ≤ b) 1 (.slice A D.length c) D.length (u8s D) ∧ Keeps y01 w w' := by
 obtain ⟨A, c, rfl, _⟩ := hr.form
 have HR := xhd hr
 have HI := xhd y3h
 clear hr
 obtain ⟨g, hg⟩ : ∃ g, g = w.heap.size := ⟨_, rfl⟩
 go_enter Tryz.func156, Tryz.ntmps156
 go_upto_region 1 with fail
 generalize hw1 : (w.alloc _).alloc _ = w1
 rw [← hg]
 have HK := xhd (show Keeps y01 w w1 by rw [← hw1]; exact ((Keeps.refl y01 w).alloc _).alloc _)
 have HSZ := xhd (show w1.heap.size = g + 2 by rw [← hw1, hg]; simp)
 have HC := xhd (show w1.cell? ⟨g, 0, none⟩ = some (.int .i64 t) ∧ w1.cell? ⟨g, 1, none⟩ = some (.slice A D.length c) ∧ Blk w1 (g + 1) 31 #[.int .i64 0, .slice none 0 0] by
  have hb : Blk w1 g 31 #[.int .i64 t, .slice A D.length c] := by rw [← hw1, hg]; exact (Blk.new w _ _).alloc _
  refine ⟨by rw [hb.cell]; rfl, by rw [hb.cell]; rfl, ?_⟩
  rw [← hw1, show g + 1 = (w.alloc (.cells #[.int .i64 t, .slice A D.length c] 31)).heap.size by rw [hg]; simp]
  exact Blk.new _ _ _)
 have HG := xhd hg
 clear hw1 hg
 refine y0i (fun w' => w'.cell? ⟨g, 0, none⟩ = some (.int .i64 t) ∧ w'.cell? ⟨g, 1, none⟩ = some (.slice A D.length c) ∧ Blk w' (g + 1) 31 #[.int .i64 0, .slice none 0 0]) 6 7 rfl (by kernel_rfl) ⟨HC.out.1, HC.out.2.1, HC.out.2.2⟩ (fun hHeld => ?_)
 have HSW := hHeld
 clear hHeld
 have HK0d := xhd (HK.out.drew)
 refine y00 (i := 0) rfl (by kernel_rfl) (fun _ _ _ h => h) (Or.inl ⟨by rfl, by intro w hSw; obtain ⟨s0, s1, s2⟩ := hSw; go_simp; try with_reducible rfl⟩) HSW.out ?_
 simp only [Act.put, xqA, xqB, xqD, xqE, xqF]
 refine y00 (i := 1) rfl (by kernel_rfl) (fun _ _ _ h => h) (Or.inl ⟨by rfl, by intro w hSw; obtain ⟨s0, s1, s2⟩ := hSw; go_simp; try with_reducible rfl⟩) HSW.out ?_
 simp only [Act.put, xqA, xqB, xqC, xqD, xqE, xqF]
 refine y00 (i := 2) rfl (by kernel_rfl) (fun _ _ _ h => h) (Or.inl ⟨by rfl, by intro w hSw; obtain ⟨s0, s1, s2⟩ := hSw; go_simp; try with_reducible rfl⟩) HSW.out ?_
 simp only [Act.put, xqA, xqB, xqC, xqD, xqE, xqF]
 refine y00 (i := 3) rfl (by kernel_rfl) (fun _ _ _ h => h) (Or.inl ⟨by rfl, by intro w hSw; obtain ⟨s0, s1, s2⟩ := hSw; go_simp; try with_reducible rfl⟩) HSW.out ?_
 simp only [Act.put, xqA, xqB, xqC, xqD, xqE, xqF]
 refine y05 (i := 4) (by kernel_rfl) rfl (fun K hK => ?_)
 try rw [if_pos (by rfl)]
 go_simp
 refine (y4q F (.slice A D.length c) _ D _ (HR.out.keeps HK0d.out (fun _ _ h => h)) (by omega)).mono ?_
 rintro e w2 ⟨u, rfl, hu, hb⟩
 obtain ⟨A2, cc2, rfl⟩ := y04 hu
 have hk2 := Keeps.new hb
 have HK2 := xhd (HK0d.out.trans hk2)
 have HU := xhd ((Row.of_own hu).mono (G := fun b => w1.heap.size ≤ b) (fun b hb => y06 hu b hb))
 have HS2 := xhd (And.intro (y0x HSW.out.1 hk2) (And.intro (y0x HSW.out.2.1 hk2) (HSW.out.2.2.keeps hk2 (fun h => h))))
 clear hu hb hk2
 refine hK.out _ _ (fun _ => HS2.out) ?_
 clear hK K
 try simp only [Act.put, xqA, Nat.reduceAdd, xqB, xqC, xqD, xqE, xqF]
 refine y00 (i := 5) rfl (by kernel_rfl) (fun _ _ _ h => h) (Or.inl ⟨by rfl, by intro w hSw; obtain ⟨s0, s1, s2⟩ := hSw; go_simp; try with_reducible rfl⟩) HS2.out ?_
 simp only [Act.put, xqA, xqB, xqC, xqD, xqE, xqF]
 have hB := HS2.out.2.2
 have HZ := xhd ((hB.set 0 (.int .i64 t)).set 1 (.slice A2 D.length cc2))
 have HKS := xhd ((HK2.out.store (g + 1) 0 (fun h => by have := HG.out; omega) (.int .i64 t)).store (g + 1) 1 (fun h => by have := HG.out; omega) (.slice A2 D.length cc2))
 have HRW := xhd ((HU.out.keeps (((Keeps.refl (only (g + 1)) w2).store (g + 1) 0 (fun _ => rfl) (.int .i64 t)).store (g + 1) 1 (fun _ => rfl) (.slice A2 D.length cc2)) (fun b hb e => by have e : b = g + 1 := e; have := HSZ.out; omega)).mono (G := fun b => w.heap.size ≤ b) (fun b hb => by have := HSZ.out; have := HG.out; omega))
 have o0 : w2.cell? ⟨g + 1, 0, none⟩ = some (.int .i64 0) := by rw [hB.cell]; rfl
 have o1 : w2.cell? ⟨g + 1, 1, none⟩ = some (.slice none 0 0) := by rw [hB.cell]; rfl
 have f0 := hB.frozen 0
 have f1 := hB.frozen 1
 clear hB
 refine y05 (i := 6) (by kernel_rfl) rfl (fun K hK => ?_)
 go_simp
 refine hK.out _ _ (fun h => absurd rfl h) ?_
 clear hK K
 refine y0f (by kernel_rfl) ?_ _
 go_wp2_with fail
 refine bodyPost_ret (y0b rfl _ _ (g + 1) 31 _ (0, 0) _ rfl HZ.out Tryz.underlying31 rfl (by rw [HI.out]; rfl)) rfl ?_
 exact ⟨A2, cc2, rfl, HRW.out, HKS.out⟩
theorem y2j (F : Nat → Prop) (x : Value) (ps : List (Value × Pure.Opt)) (w : World) (hx : ORow w F x ps) (hl : ps.length ≤ 100000) (hd : ∀ p ∈ ps, p.2.2.length ≤ 100000) :
  Calls Tryz.prog 117 #[x] w fun e w' => ∃ u, ∃ qs : List (Value × Pure.Opt), e = .returned u ∧ y02 qs = y02 ps ∧ Read w w' u qs := by
 obtain ⟨X, cx, rfl, _⟩ := hx.form
 have HX := xhd hx
 have HDL := xhd hd
 clear hx hd
 obtain ⟨cs, hrun, hrd0⟩ := made_read w ps.length (by omega)
 obtain ⟨w1, hw1⟩ : ∃ w1, w1 = w.alloc (.cells cs 31) := ⟨_, rfl⟩
 rw [← hw1] at hrun hrd0
 have HRD0 := xhd hrd0
 clear hrd0 hw1
 go_enter Tryz.func117, Tryz.ntmps117
 go_wp2_with fail
 go_loopw [3, 11] (fun v i wr => ∃ k : Nat, k ≤ ps.length ∧ i = .int .i64 (k : Int) ∧ ∃ qs : List (Value × Pure.Opt), y02 qs = (y02 ps).take k ∧ Read w wr v qs) (fun _ i _ => ps.length - (intOf i).toNat)
 case atStart => exact ⟨0, by omega, rfl, [], rfl, HRD0.out⟩
 case round =>
  clear hrun HRD0
  obtain ⟨k, hk, rfl, qs, hqs, hrd⟩ := hrel
  have hql : qs.length = k := by
   have := congrArg List.length hqs
   simp at this
   omega
  obtain ⟨A2, c2, rfl⟩ := y04 hrd.own
  subst hql
  have HQS := xhd hqs
  have HRD := xhd hrd
  clear hqs hrd
  by_cases hkl : qs.length < ps.length
  ·have i0' : (0 : Int) ≤ (qs.length : Int) := by omega
   have i1 : (qs.length : Int) < (ps.length : Int) := by omega
   have d1 : decide ((qs.length : Int) < (ps.length : Int)) = true := decide_eq_true (by omega)
   have d2 : decide (qs.length < ps.length) = true := decide_eq_true hkl
   obtain ⟨bx, ox, A1, c1, t, D, rfl, hFb, x0, x1, hra, hpa⟩ := (HX.out.keeps (Keeps.new HRD.out.below) (fun _ _ h => h)).pick qs.length hkl
   have hDl : D.length ≤ 100000 := HDL.out _ (List.mem_of_getElem? hpa)
   have HTK := xhd (show (y02 ps).take (qs.length + 1) = (y02 ps).take qs.length ++ [(t, D)] from y4m _ qs.length _ (by rw [List.getElem?_map, hpa]; rfl))
   have HRA := xhd hra
   clear hra hpa
   go_upto_region 5 with fail
   obtain ⟨wb, hwb⟩ : ∃ wb, wb = wr.alloc (.cells #[.int .i64 t, .slice A1 D.length c1] 31) := ⟨_, rfl⟩
   obtain ⟨gb, hgb⟩ : ∃ gb, gb = wr.heap.size := ⟨_, rfl⟩
   rw [← hwb, ← hgb]
   have hkb : Keeps y01 wr wb := by rw [hwb]; exact (Keeps.refl _ wr).alloc _
   have hbb : Blk wb gb 31 #[.int .i64 t, .slice A1 D.length c1] := by rw [hwb, hgb]; exact Blk.new wr _ _
   have y0 : wb.cell? ⟨gb, 0, none⟩ = some (.int .i64 t) := by rw [hbb.cell]; rfl
   have y1 : wb.cell? ⟨gb, 1, none⟩ = some (.slice A1 D.length c1) := by rw [hbb.cell]; rfl
   have HCP := xhd (copied_any F (.slice A1 D.length c1) t D wb (HRA.out.keeps hkb (fun _ _ h => h)) (by omega))
   have HKb := xhd hkb
   clear hwb hgb hbb hkb x0 x1
   go_wp2_with fail
   refine HCP.out.mono ?_
   rintro e w2 ⟨A3, c3, rfl, hu, hk2⟩
   have hkr : Keeps y01 wr w2 := HKb.out.trans hk2
   have hR2 := HRD.out.keeps hkr
   have HU := xhd (HRD.out.fresh (hu.mono (G := fun b => wr.heap.size ≤ b) (fun b hb => Nat.le_trans HKb.out.size hb)))
   have HR2 := xhd hR2
   clear hu hk2 hkr hR2 HCP y0 y1
   go_wp2_with (at_builtin; refine y0d ?_)
   unfold Hid
   refine y0w rfl (.tmp 15) (.tmp 18) rfl _ qs A3 c3 t D rfl rfl HR2.out (by omega) HU.out ?_
   intro A4 c4 w3 hread hkw
   have HRead := xhd hread
   clear hread hkw
   go_wp2_with fail
   go_roundw
   case rel => exact ⟨qs.length + 1, by omega, by go_num, _, by rw [HTK.out, ← HQS.out]; simp [y02], HRead.out⟩
   case measure => simp [intOf] <;> omega
  ·have hkk : qs.length = ps.length := by omega
   have d1 : decide ((qs.length : Int) < (ps.length : Int)) = false := decide_eq_false (by omega)
   have d2 : decide (qs.length < ps.length) = false := decide_eq_false (by omega)
   have HE := xhd (show y02 qs = y02 ps by rw [HQS.out]; exact List.take_of_length_le (by simp; omega))
   go_wp2
   go_ret
   exact ⟨_, qs, rfl, HE.out, HRD.out⟩
namespace Pure
def Rule.Ok (r : Rule) : Prop := 1 ≤ r.len → r.len ≤ 4 → 0 ≤ r.lo ∧ r.lo ≤ r.hi ∧ r.hi < 4294967296
end Pure
theorem y8k (F : Nat → Prop) (x : Value) (l : List UInt8) (w : World) (hr : Row w F 1 x l.length (u8s l)) (hl : l.length ≤ 4) :
  Calls Tryz.prog 60 #[x] w fun e w' => e = .returned (.int .i64 (Pure.bnum l : Nat)) ∧ w = w' := by
 obtain ⟨A, c, rfl, hc⟩ := hr.form
 have HR := xhd hr
 have HT := xhd (fun (k : Nat) (h : k ≤ l.length) => show Pure.bnum (l.take k) < 4294967296 from Pure.bnum_small (by rw [List.length_take]; omega))
 have HT3 := xhd (fun (k : Nat) (h : k < l.length) => show Pure.bnum (l.take k) < 16777216 from Nat.lt_of_lt_of_le (Pure.bnum_lt _) (show 256 ^ (l.take k).length ≤ 256 ^ 3 from Nat.pow_le_pow_right (by omega) (by rw [List.length_take]; omega)))
 clear hr
 go_enter Tryz.func60, Tryz.ntmps60
 go_wp2_with fail
 go_loopw [3, 8] (fun v i wr => ∃ k : Nat, k ≤ l.length ∧ i = .int .i64 (k : Int) ∧ v = .int .i64 (Pure.bnum (l.take k) : Nat) ∧ wr = w) (fun _ i _ => l.length - (intOf i).toNat)
 case atStart => exact ⟨0, by omega, rfl, rfl, rfl⟩
 case round =>
  obtain ⟨k, hk, rfl, rfl, rfl⟩ := hrel
  by_cases hkl : k < l.length
  ·have i0 : (0 : Int) ≤ (k : Int) := by omega
   have i1 : (k : Int) < (l.length : Int) := by omega
   obtain ⟨b, off, rfl, _, hcx⟩ := HR.out.cellAt (by omega)
   have b0 := hcx k _ (y28 l k hkl)
   have hx := (l.getD k 0).toNat_lt
   have hN := HT3.out k hkl
   have hsn : Pure.bnum (l.take (k + 1)) = Pure.bnum (l.take k) * 256 + (l.getD k 0).toNat := by
    rw [List.take_succ_eq_append_getElem hkl, Pure.bnum_snoc]
    simp [List.getD_eq_getElem?_getD, hkl]
   have hM := HT.out (k + 1) (by omega)
   obtain ⟨N, hN'⟩ : ∃ N, N = Pure.bnum (l.take k) := ⟨_, rfl⟩
   obtain ⟨M, hM'⟩ : ∃ N, N = Pure.bnum (l.take (k + 1)) := ⟨_, rfl⟩
   obtain ⟨X, hX⟩ : ∃ N, N = (l.getD k 0).toNat := ⟨_, rfl⟩
   rw [← hN', ← hM', ← hX] at hsn
   rw [← hN'] at hN ⊢
   rw [← hM'] at hM
   rw [← hX] at b0 hx
   have eor : bits .or .i64 ((N : Int) * 256) (X : Int) = (M : Int) := by
    have h := y30 (N * 256) X (by omega) (by omega)
    rw [show N * 256 ||| X = M by rw [hsn, show (256 : Nat) = 2 ^ 8 by rfl, ← Nat.shiftLeft_eq, Nat.shiftLeft_add_eq_or_of_lt (show X < 2 ^ 8 by omega)]] at h
    simpa using h
   have HM := xhd hM'
   clear hcx hN' hM' hX hsn hM
   go_wp2_with fail
   go_roundw
   case rel => exact ⟨k + 1, by omega, by go_num, by rw [← HM.out], trivial⟩
   case measure => simp [intOf]; omega
  ·have hkk : k = l.length := by omega
   have HE := xhd (show Pure.bnum (l.take k) = Pure.bnum l by rw [hkk, List.take_length])
   subst hkk
   clear hkl hk
   go_wp2
   go_ret
   exact ⟨by rw [← HE.out]; rfl, rfl⟩
theorem set_back (m : Nat) (L : List UInt8) (B : UInt8) : (List.replicate (m + 1) 0 ++ L).set m B = List.replicate m 0 ++ B :: L := by
 rw [List.replicate_succ', List.append_assoc, List.set_append_right _ _ (by simp)]
 simp
theorem wide_at (x n m : Nat) (h : m < n) : (Pure.wide x n).drop m = UInt8.ofNat (x / 256 ^ (n - 1 - m) % 256) :: (Pure.wide x n).drop (m + 1) := by
 have hl : m < (Pure.wide x n).length := by rw [Pure.wide_length]; exact h
 rw [List.drop_eq_getElem_cons hl]
 congr 1
 simp [Pure.wide]
theorem y8g (x n : Nat) (w : World) (hn : n ≤ 4) (_ : x < 4294967296) :
  Calls Tryz.prog 92 #[.int .i64 x, .int .i64 n] w fun e w' => ∃ A c, e = .returned (.slice A n c) ∧ Row w' (fun b => w.heap.size ≤ b) 1 (.slice A n c) n (u8s (Pure.wide x n)) ∧ Keeps y01 w w' := by
 go_enter Tryz.func92, Tryz.ntmps92
 go_wp2_with (at_make; refine y0d ?_)
 unfold Hid
 refine y6h rfl _ _ rfl n .i64 .i64 rfl rfl (by omega) ?_
 intro w1 hX hk hs
 obtain ⟨g, hg⟩ : ∃ g, g = w.heap.size := ⟨_, rfl⟩
 rw [← hg] at hX ⊢
 have HX := xhd hX
 have HK := xhd hk
 have HG := xhd hg
 clear hX hk hs hg
 go_wp2_with fail
 go_loopw [12] (fun v wr => ∃ k : Nat, k ≤ n ∧ v = .int .i64 (k : Int) ∧ Blk wr g 5 (u8s (List.replicate (n - k) 0 ++ (Pure.wide x n).drop (n - k))).toArray ∧ Keeps (only g) w1 wr) (fun v _ => n - (intOf v).toNat)
 case atStart =>
  refine ⟨0, by omega, rfl, ?_, Keeps.refl _ _⟩
  rw [Nat.sub_zero, List.drop_of_length_le (by rw [Pure.wide_length]; omega), List.append_nil]
  exact HX.out
 case round =>
  clear HX
  obtain ⟨k, hk, rfl, hX, hK⟩ := hrel
  have HX := xhd hX
  have HK2 := xhd hK
  by_cases hkl : k < n
  ·obtain ⟨m, hm⟩ : ∃ m, n - 1 - k = m := ⟨_, rfl⟩
   have hnk : n - k = m + 1 := by omega
   have hi0 : (0 : Int) ≤ (n : Int) - 1 - (k : Int) := by omega
   have hi1 : (n : Int) - 1 - (k : Int) < (n : Int) := by omega
   have e1 : wrap64 ((n : Int) - 1) = (n : Int) - 1 := IntWalk.wrap64_in _ (by omega)
   have e3 : wrap64 (8 * (k : Int)) = ((8 * k : Nat) : Int) := by rw [IntWalk.wrap64_in _ (by omega)]; omega
   obtain ⟨B, hBe⟩ : ∃ B, B = UInt8.ofNat (x / 256 ^ k % 256) := ⟨_, rfl⟩
   have hbv : ((x : Int) / 2 ^ (8 * k) % 256) = (B.toNat : Int) := by
    rw [hBe, show (UInt8.ofNat (x / 256 ^ k % 256)).toNat = x / 256 ^ k % 256 by simp, show (256 : Nat) ^ k = 2 ^ (8 * k) by rw [Nat.pow_mul]]
    simp
   rw [hnk] at HX
   have hlen : (List.replicate (m + 1) 0 ++ (Pure.wide x n).drop (m + 1)).length = n := by simp [Pure.wide_length]; omega
   have k0 : wr.cell? ⟨g, m, none⟩ = some (.int .u8 ((List.replicate (m + 1) 0 ++ (Pure.wide x n).drop (m + 1)).getD m 0).toNat) := by rw [HX.out.cell, ← y28 _ m (by omega)]; simp only [List.getElem?_toArray]
   obtain ⟨old, hold⟩ : ∃ old, old = (List.replicate (m + 1) 0 ++ (Pure.wide x n).drop (m + 1)).getD m 0 := ⟨_, rfl⟩
   rw [← hold] at k0
   have f0 : wr.frozen? ⟨g, m, none⟩ = false := HX.out.frozen m
   have HS := xhd (show Blk (wr.setCell ⟨g, m, none⟩ (.int .u8 B.toNat)) g 5 (u8s (List.replicate m 0 ++ (Pure.wide x n).drop m)).toArray by
    have h := HX.out.set m (.int .u8 B.toNat)
    have e : (u8s (List.replicate (m + 1) 0 ++ (Pure.wide x n).drop (m + 1))).toArray.setIfInBounds m (.int .u8 B.toNat) = (u8s (List.replicate m 0 ++ (Pure.wide x n).drop m)).toArray := by
     rw [wide_at x n m (by omega), show n - 1 - m = k by omega, ← hBe, ← set_back, xqA]
     congr 1
     rw [← List.map_set]
    rw [e] at h
    exact h)
   have HKS := xhd (HK2.out.store g m (fun _ => rfl) (.int .u8 B.toNat))
   have HM := xhd (show m = n - (k + 1) by omega)
   subst hm
   clear hX hK hold hlen hBe hnk
   go_wp2_with fail
   go_roundw
   case rel =>
    refine ⟨k + 1, by omega, by go_num, ?_, HKS.out⟩
    rw [← HM.out]
    exact HS.out
   case measure => simp [intOf]; omega
  ·have hkk : k = n := by omega
   subst hkk
   have HR := xhd (show Row wr (fun b => w.heap.size ≤ b) 1 (.slice (some ⟨g, 0, none⟩) k k) k (u8s (Pure.wide x k)) by
    have h := HX.out
    rw [Nat.sub_self] at h
    have := Row.block (F := fun b => w.heap.size ≤ b) (size := 1) (n := k) (c := k) h (by rw [HG.out]; exact Nat.le_refl _) (by simp [Pure.wide_length]) (by unfold maxLen; omega) (Nat.le_refl _)
    simpa using this)
   have HKE := xhd (show Keeps y01 w wr from (HK.out.trans' HK2.out (fun i hi hl => by have e : i = g := hi; have := HG.out; omega)))
   clear hX hK HX HK HK2
   go_wp2_with fail
   go_ret
   exact ⟨_, _, rfl, HR.out, HKE.out⟩
abbrev pktV (p : Pure.Pkt) (v : Value) : Value := .agg #[.int .i64 p.code, .int .i64 p.id, v]
theorem y3r (n : Nat) : (Builtin.zeroCells (Value.cells (.int .u8 0)) n).size = n := by
 simp [Builtin.zeroCells, Value.cells]
theorem grow_nil (n : Nat) (w : World) (hn : n ≤ 140737488355328) :
  Calls Tryz.prog 141 #[.slice none 0 0, .int .i64 n] w fun e w' => ∃ u, e = .returned u ∧ w'.ownsRow w.heap.size 5 1 u 0 [] ∧ Below w.heap.size w w' := by
 by_cases h0 : n = 0
 ·subst h0
  go_enter Tryz.func141, Tryz.ntmps141
  go_wp2
  go_ret
  exact ⟨_, rfl, ⟨by simp, .inl ⟨rfl, rfl⟩⟩, Below.refl _ _⟩
 ·obtain ⟨i0, hi0, hz0, hz1, hz2⟩ := info_parts y1w
  have hpos : (n : Int) > 0 := by omega
  have hrz : ∀ ty, (Builtin.append_ #[29, 3] ty #[.slice none 0 0, .int .i64 n]).run Tryz.prog w =
    .ok (.slice (some ⟨w.heap.size, 0, none⟩) n (grownCap w n 0 5)) (w.drew.alloc (.cells (([] : List Value).toArray ++ Builtin.zeroCells (Value.cells (.int .u8 0)) n ++ Builtin.zeroCells (Value.cells (.int .u8 0)) (grownCap w n 0 5 - n)) 5)) := fun ty => by
   have h := Lib.run_append_grow_zeros w 29 3 ty 5 i0 (.int .u8 0) .i64 .i64 Tryz.underlying29 Tryz.underlying3 hi0 hz0 none 0 0 []
    (run_firstCells_none w.drew i0.size 0 0 0) n (by omega) (by omega) (by omega) (by omega) (by rw [hz2]; omega) (by
     rw [hz2]
     have : Builtin.nextslicecap (0 + n) 0 = n := by unfold Builtin.nextslicecap; rw [if_pos (by omega)]; omega
     rw [this]; omega)
   simpa only [Nat.zero_add] using h
  have hGn : n ≤ grownCap w n 0 5 := grownCap_ge w _ _ _
  have hGm := grownCap_le_maxLen w n 0 5 (by unfold maxLen; omega)
  obtain ⟨G, hG⟩ : ∃ G, G = grownCap w n 0 5 := ⟨_, rfl⟩
  rw [← hG] at hrz hGn hGm
  obtain ⟨Z, hZ⟩ : ∃ Z, Z = (([] : List Value).toArray ++ Builtin.zeroCells (Value.cells (.int .u8 0)) n ++ Builtin.zeroCells (Value.cells (.int .u8 0)) (G - n)) := ⟨_, rfl⟩
  rw [← hZ] at hrz
  have hZs : Z.size = G := by rw [hZ, Array.size_append, Array.size_append, y3r, y3r]; simp; omega
  have HZ := xhd hZs
  have HGM := xhd hGm
  have hG63 : G ≤ 9223372036854775807 := by unfold maxLen at hGm; omega
  clear hi0 hz0 hz1 hz2 hG hZ hZs hGm
  go_enter Tryz.func141, Tryz.ntmps141
  go_wp2_with (at_builtin; refine Lib.wpList_append_run _ rfl _ _ _ _ rfl _ _ rfl rfl _ _ (hrz _) ?_)
  go_ret
  refine ⟨_, rfl, ⟨by simp, .inr ⟨w.heap.size, G, Z, rfl, Nat.le_refl _, ?_, by omega, HGM.out, by rw [HZ.out]; simp, by simp⟩⟩, ?_⟩
  ·exact Blk.new w.drew 5 Z
  ·exact (Below.drewN (Below.refl _ w) 1).alloc (Nat.le_refl _) _
structure Parts (w : World) (g : Nat) (F : Nat → Prop) (ps : List (Value × List UInt8)) : Prop where
 blk : Blk w g 29 (ps.map Prod.fst).toArray
 rows : ∀ p ∈ ps, Row w F 1 p.1 p.2.length (u8s p.2)
theorem Parts.keeps {S : Nat → Prop} {w w' : World} {g : Nat} {F : Nat → Prop} {ps : List (Value × List UInt8)} (h : Parts w g F ps) (k : Keeps S w w') (hg : ¬ S g) (hs : ∀ b, F b → ¬ S b) : Parts w' g F ps :=
 ⟨h.blk.keeps k hg, fun p hp => (h.rows p hp).keeps k hs⟩
def joined (ps : List (Value × List UInt8)) : List UInt8 := ps.flatMap Prod.snd
theorem y43 (ps : List (Value × List UInt8)) (k : Nat) (p : Value × List UInt8) (h : ps[k]? = some p) : joined (ps.take (k + 1)) = joined (ps.take k) ++ p.2 := by
 unfold joined
 rw [List.take_add_one, h, List.flatMap_append]
 simp
theorem y2m (ps : List (Value × List UInt8)) (k : Nat) : (joined (ps.take k)).length ≤ (joined ps).length := by
 have : ps = ps.take k ++ ps.drop k := (List.take_append_drop k ps).symm
 unfold joined
 conv => rhs; rw [this]
 rw [List.flatMap_append, List.length_append]
 omega
theorem concat_any (F : Nat → Prop) (g : Nat) (ps : List (Value × List UInt8)) (w : World) (h : Parts w g F ps) (hF : ∀ b, F b → b < w.heap.size) (hp : ps.length ≤ 1000) (hl : (joined ps).length ≤ 140737488355328) :
  Calls Tryz.prog 91 #[.slice (some ⟨g, 0, none⟩) ps.length ps.length] w fun e w' => ∃ u, e = .returned u ∧ w'.ownsRow w.heap.size 5 1 u (joined ps).length (u8s (joined ps)) ∧ Below w.heap.size w w' := by
 have H := xhd h
 have HF := xhd hF
 have hcells : ∀ k p, ps[k]? = some p → w.cell? ⟨g, k, none⟩ = some p.1 := fun k p hk => by
  rw [h.blk.cell]; simp [hk]
 have HC := xhd hcells
 have hgl := h.blk.lt
 clear h hF hcells
 go_enter Tryz.func91, Tryz.ntmps91
 go_wp2_with fail
 go_loop [3, 11] (fun s i => ∃ k : Nat, k ≤ ps.length ∧ i = .int .i64 k ∧ s = .int .i64 (joined (ps.take k)).length) (fun _ i => ps.length - (intOf i).toNat)
 case atStart => exact ⟨0, by omega, rfl, rfl⟩
 case round =>
  obtain ⟨k, hk, rfl, rfl⟩ := hrel
  have hle := y2m ps k
  by_cases hlt : k < ps.length
  ·obtain ⟨p, hpk⟩ : ∃ p, ps[k]? = some p := ⟨_, List.getElem?_eq_getElem hlt⟩
   have c0 := HC.out k p hpk
   obtain ⟨Ap, cp, hv, _⟩ := (H.out.rows p (List.mem_of_getElem? hpk)).form
   rw [hv] at c0
   have hle2 := y2m ps (k + 1)
   have hj := y43 ps k p hpk
   have hjl := congrArg List.length hj
   rw [List.length_append] at hjl
   have HJ := xhd hjl
   have hi0 : (0 : Int) ≤ (k : Int) := by omega
   have hi1 : (k : Int) < (ps.length : Int) := by omega
   obtain ⟨J, hJ⟩ : ∃ J, J = (joined (ps.take k)).length := ⟨_, rfl⟩
   rw [← hJ] at hle HJ ⊢
   have hJ2 : J + p.2.length ≤ 140737488355328 := by have := HJ.out; omega
   have hneg : ¬ ((J : Int) + p.2.length < 0) := by omega
   clear hv hpk hj hjl hJ hle2
   go_wp2
   go_round
   case rel => exact ⟨k + 1, by omega, by go_num, by rw [HJ.out]; go_num⟩
   case measure => simp [intOf]; omega
  ·have hk' : k = ps.length := by omega
   have hj : joined (ps.take k) = joined ps := by rw [hk', List.take_length]
   rw [hj]
   clear hj hk' hle
   go_wp2_with fail
   refine (grow_nil (joined ps).length w hl).mono ?_
   rintro e w1 ⟨u1, rfl, hown1, hb1⟩
   have O1 := xhd hown1
   have B1 := xhd hb1
   clear hown1 hb1
   go_wp2_with fail
   obtain ⟨i0, hi0, hz0, hz1, hz2⟩ := info_parts y1w
   have I := xhd (And.intro hi0 (And.intro hz0 (And.intro hz1 hz2)))
   clear hi0 hz0 hz1 hz2
   go_loopw [6, 27] (fun u i wr => ∃ k : Nat, k ≤ ps.length ∧ i = .int .i64 k ∧ wr.ownsRow w.heap.size 5 1 u (joined (ps.take k)).length (u8s (joined (ps.take k))) ∧ Below w.heap.size w wr) (fun _ i _ => ps.length - (intOf i).toNat)
   case atStart => exact ⟨0, by omega, rfl, O1.out, B1.out⟩
   case round =>
    obtain ⟨k, hk, rfl, hown, hb⟩ := hrel
    have O := xhd hown
    have B := xhd hb
    have hle := y2m ps k
    clear hown hb O1 B1
    by_cases hlt : k < ps.length
    ·obtain ⟨p, hpk⟩ : ∃ p, ps[k]? = some p := ⟨_, List.getElem?_eq_getElem hlt⟩
     have c0 := (B.out.cell (p := ⟨g, k, none⟩) hgl).trans (HC.out k p hpk)
     have hrow := (H.out.rows p (List.mem_of_getElem? hpk)).keeps (Keeps.new B.out) (fun _ _ h => h)
     obtain ⟨Ap, cp, hv, _⟩ := hrow.form
     rw [hv] at c0 hrow
     have HRow := xhd hrow
     have hle2 := y2m ps (k + 1)
     have hj := y43 ps k p hpk
     have hi0 : (0 : Int) ≤ (k : Int) := by omega
     have hi1 : (k : Int) < (ps.length : Int) := by omega
     have HJ := xhd hj
     have hJ2 : (joined (ps.take k)).length + p.2.length ≤ 140737488355328 := by have := congrArg List.length hj; rw [List.length_append] at this; omega
     obtain ⟨J, hJ⟩ : ∃ J, J = joined (ps.take k) := ⟨_, rfl⟩
     rw [← hJ] at O HJ hJ2
     have HJJ := xhd hJ
     clear hv hpk hj hle2 hrow hJ hle
     go_wp2_with (at_builtin; refine y0d ?_)
     unfold Hid
     obtain ⟨hi0', hz0, hz1, hz2⟩ := I.out
     refine y0r rfl (.tmp 31) (.tmp 32) _ rfl w.heap.size 5 i0 _ 1 1 Tryz.underlying29 hi0' hz0 hz1 hz2 rfl (by omega) u6 J.length (u8s J)
      rfl O.out F _ p.2.length (u8s p.2) rfl HRow.out (y2r p.2) (by simp only [maxLen]; omega) (by omega) (by have := B.out.size; omega) ?_
     intro v3 w3 hown3 hg3 hat3
     have hown3' : w3.ownsRow w.heap.size 5 1 v3 (joined (ps.take (k + 1))).length (u8s (joined (ps.take (k + 1)))) := by
      rw [HJ.out, List.length_append, show u8s (J ++ p.2) = u8s J ++ u8s p.2 by simp]
      exact hown3
     have hb3 := Below.grown B.out hg3 B.out.size (fun q hq => (y06 O.out q hq))
     have O3 := xhd hown3'
     have B3 := xhd hb3
     clear hown3 hown3' hg3 hat3 hb3 hi0' hz0 hz1 hz2 c0
     go_wp2
     go_roundw
     case rel => exact ⟨k + 1, by omega, by go_num, O3.out, B3.out⟩
     case measure => simp [intOf]; omega
    ·have hk' : k = ps.length := by omega
     have hj : joined (ps.take k) = joined ps := by rw [hk', List.take_length]
     rw [hj] at O
     clear hj hk' hle
     go_wp2
     go_ret
     exact ⟨u6, rfl, O.out, B.out⟩
theorem y31 (n : Int) (w : World) : Calls Tryz.prog 185 #[.int .i64 n] w fun e w' => e = .returned (.bool (decide (0 ≤ n ∧ n ≤ 255))) ∧ w = w' := by
 by_cases h : 0 ≤ n
 ·have d0 : decide (0 ≤ n) = true := decide_eq_true h
  have hd : decide (0 ≤ n ∧ n ≤ 255) = decide (n ≤ 255) := by simp [h]
  rw [hd]
  clear h hd
  go_enter Tryz.func185, Tryz.ntmps185
  go_wp2
  go_ret
  exact ⟨rfl, rfl⟩
 ·have d0 : decide (0 ≤ n) = false := decide_eq_false h
  have hd : decide (0 ≤ n ∧ n ≤ 255) = false := by simp [h]
  rw [hd]
  clear h hd
  go_enter Tryz.func185, Tryz.ntmps185
  go_wp2
  go_ret
  exact ⟨rfl, rfl⟩
theorem encode_any (F : Nat → Prop) (v : Value) (p : Pure.Pkt) (w : World) (hF : ∀ b, F b → b < w.heap.size) (hr : Row w F 1 v p.data.length (u8s p.data)) :
  Calls Tryz.prog 192 #[pktV p v] w fun e w' => ∃ u, e = .returned (.tuple #[u, .int .i64 (((Pure.encode p).1 : Nat) : Int)]) ∧ w'.ownsRow w.heap.size 5 1 u (Pure.encode p).2.length (u8s (Pure.encode p).2) ∧ Below w.heap.size w w' := by
 obtain ⟨A, cA, rfl, hc⟩ := hr.form
 have hml := hr.2.1
 unfold maxLen at hml
 have HR := xhd hr
 have HF := xhd hF
 clear hr hF
 obtain ⟨c, i, l⟩ := p
 dsimp only at *
 have HBc := xhd (fun w => y31 c w)
 have HBi := xhd (fun w => y31 i w)
 obtain ⟨g, hg⟩ : ∃ g, g = w.heap.size := ⟨_, rfl⟩
 go_enter Tryz.func192, Tryz.ntmps192
 go_upto_region 1 with fail
 rw [← hg]
 generalize hw1 : w.alloc _ = w1
 have HB := xhd (show Blk w1 g 56 #[.int .i64 c, .int .i64 i, .slice A l.length cA] by rw [← hw1, hg]; exact Blk.new w _ _)
 have HK := xhd (show Keeps y01 w w1 by rw [← hw1]; exact (Keeps.refl _ w).alloc _)
 have HZ := xhd (show w1.heap.size = g + 1 by rw [← hw1, hg]; simp)
 have HG := xhd hg
 clear hw1 hg
 have c0 : w1.cell? ⟨g, 0, none⟩ = some (.int .i64 c) := by rw [HB.out.cell]; rfl
 have c1 : w1.cell? ⟨g, 1, none⟩ = some (.int .i64 i) := by rw [HB.out.cell]; rfl
 have c2 : w1.cell? ⟨g, 2, none⟩ = some (.slice A l.length cA) := by rw [HB.out.cell]; rfl
 obtain ⟨od, hod⟩ : ∃ b, b = decide (Pure.Pkt.odd ⟨c, i, l⟩) := ⟨_, rfl⟩
 obtain ⟨bc, hbc⟩ : ∃ b, b = decide (0 ≤ c ∧ c ≤ 255) := ⟨_, rfl⟩
 obtain ⟨bi, hbi⟩ : ∃ b, b = decide (0 ≤ i ∧ i ≤ 255) := ⟨_, rfl⟩
 have hob : od = (!bc || !bi) := by
  have ho : Pure.Pkt.odd ⟨c, i, l⟩ ↔ (c < 0 ∨ 255 < c ∨ i < 0 ∨ 255 < i) := Iff.rfl
  rw [hod, hbc, hbi, Bool.eq_iff_iff]
  simp only [ho, decide_eq_true_eq, Bool.or_eq_true, Bool.not_eq_true', decide_eq_false_iff_not]
  omega
 rw [← hbc] at HBc
 rw [← hbi] at HBi
 have HOD := xhd hod
 clear hod hbc hbi
 go_cut [6] (fun v wx => v = .bool od ∧ w1 = wx)
 case first =>
  have HOB := xhd hob
  clear hob
  cases bc
  ·go_wp2_with fail
   refine (HBc.out _).mono ?_
   rintro e w2 ⟨rfl, rfl⟩
   go_wp2
   go_meet
   exact ⟨by rw [HOB.out]; rfl, rfl⟩
  ·go_wp2_with fail
   refine (HBc.out _).mono ?_
   rintro e w2 ⟨rfl, rfl⟩
   go_wp2_with fail
   refine (HBi.out _).mono ?_
   rintro e w2 ⟨rfl, rfl⟩
   go_wp2
   go_meet
   exact ⟨by rw [HOB.out]; rfl, rfl⟩
 case rest =>
  obtain ⟨rfl, rfl⟩ := hcut
  clear hob HBc HBi
  cases od
  ·have ho : ¬ Pure.Pkt.odd ⟨c, i, l⟩ := of_decide_eq_false HOD.out.symm
   have hci : 0 ≤ c ∧ c ≤ 255 ∧ 0 ≤ i ∧ i ≤ 255 := by unfold Pure.Pkt.odd at ho; dsimp only at ho; omega
   by_cases hl : 1496 < l.length
   ·have he := Pure.encode_long ho hl
    have HE := xhd he
    have d0 : decide ((1496 : Int) < (l.length : Int)) = true := decide_eq_true (by omega)
    clear he ho
    go_wp2
    go_ret2
    exact ⟨_, by rw [HE.out]; rfl, by rw [HE.out]; exact World.ownsRow_nil _ _ _ _, HK.out.to_below⟩
   ·have he := Pure.encode_ok ho hl
    have d0 : decide ((1496 : Int) < (l.length : Int)) = false := decide_eq_false (by omega)
    obtain ⟨n, hn⟩ : ∃ n, n = l.length + 4 := ⟨_, rfl⟩
    have en : (4 : Int) + (l.length : Int) = (n : Int) := by omega
    obtain ⟨x1, hx1⟩ : ∃ x, x = UInt8.ofNat c.toNat := ⟨_, rfl⟩
    obtain ⟨x2, hx2⟩ : ∃ x, x = UInt8.ofNat i.toNat := ⟨_, rfl⟩
    obtain ⟨x3, hx3⟩ : ∃ x, x = UInt8.ofNat (n / 256) := ⟨_, rfl⟩
    obtain ⟨x4, hx4⟩ : ∃ x, x = UInt8.ofNat (n % 256) := ⟨_, rfl⟩
    have hby : Pure.Pkt.bytes ⟨c, i, l⟩ = [x1, x2, x3, x4] ++ l := by rw [hx1, hx2, hx3, hx4, hn]; rfl
    rw [hby] at he
    have f1 : c = (x1.toNat : Int) := by rw [hx1, UInt8.toNat_ofNat']; omega
    have f2 : i = (x2.toNat : Int) := by rw [hx2, UInt8.toNat_ofNat']; omega
    have f3 : (n : Int) / 256 = (x3.toNat : Int) := by rw [hx3, UInt8.toNat_ofNat']; omega
    have f4 : (n : Int) % 256 = (x4.toNat : Int) := by rw [hx4, UInt8.toNat_ofNat']; omega
    have hn2 : n ≤ 1500 := by omega
    subst f1 f2
    have HE := xhd he
    have hx1l := x1.toNat_lt
    have hx2l := x2.toNat_lt
    have HLL := xhd (show ([x1, x2, x3, x4] ++ l).length ≤ 1500 by simp; omega)
    clear he ho hby hx1 hx2 hx3 hx4 hn hci
    go_upto_region 7 with fail
    obtain ⟨q, hq⟩ : ∃ q, q = w1.heap.size := ⟨_, rfl⟩
    rw [← hq]
    generalize hw2 : w1.alloc _ = w2
    have hbw : w2.heap.size = q + 1 := by rw [← hw2, hq]; simp
    have hk2 : Keeps y01 w1 w2 := by rw [← hw2]; exact (Keeps.refl _ w1).alloc _
    have hrh : Row w2 (fun b => b < w2.heap.size) 1 (.slice (some ⟨q, 0, none⟩) 4 4) ([x1, x2, x3, x4] : List UInt8).length (u8s [x1, x2, x3, x4]) := by
     have h := y1f w1 [x1, x2, x3, x4] #[.int .u8 x1.toNat, .int .u8 x2.toNat, .int .u8 x3.toNat, .int .u8 x4.toNat] 4 rfl rfl (by simp)
     rw [hw2, ← hq] at h
     exact h.mono (fun b hb => by omega)
    have hrl : Row w2 (fun b => b < w2.heap.size) 1 (.slice A l.length cA) l.length (u8s l) := ((HR.out.keeps HK.out (fun _ _ h => h)).keeps hk2 (fun _ _ h => h)).mono (fun b hb => by have := HF.out b hb; have := HK.out.size; have := hk2.size; omega)
    have hk3 := (Keeps.refl y01 w2).alloc (.cells #[.slice (some ⟨q, 0, none⟩) 4 4, .slice A l.length cA] 29)
    have hparts : Parts (w2.alloc (.cells #[.slice (some ⟨q, 0, none⟩) 4 4, .slice A l.length cA] 29)) w2.heap.size (fun b => b < w2.heap.size) [(.slice (some ⟨q, 0, none⟩) 4 4, [x1, x2, x3, x4]), (.slice A l.length cA, l)] := by
     refine ⟨Blk.new w2 _ _, fun p hp => ?_⟩
     simp only [List.mem_cons, List.not_mem_nil, or_false] at hp
     rcases hp with rfl | rfl
     ·exact hrh.keeps hk3 (fun _ _ h => h)
     ·exact hrl.keeps hk3 (fun _ _ h => h)
    have c2' := y0x c2 hk2
    have HP := xhd hparts
    have HJ := xhd (show joined [((.slice (some ⟨q, 0, none⟩) 4 4 : Value), [x1, x2, x3, x4]), (.slice A l.length cA, l)] = [x1, x2, x3, x4] ++ l by simp [joined])
    have HK3 := xhd ((HK.out.trans hk2).trans hk3)
    have HW2 := xhd (HK.out.trans hk2).size
    clear hw2 hk2 hrh hrl hparts hk3 c0 c1 c2 hq hbw f3 f4 en hn2
    go_wp2_with fail
    refine (concat_any (fun b => b < w2.heap.size) w2.heap.size [(.slice (some ⟨q, 0, none⟩) 4 4, [x1, x2, x3, x4]), (.slice A l.length cA, l)] _ HP.out (fun b hb => by simp; omega) (by simp) (by rw [HJ.out]; have := HLL.out; omega)).mono ?_
    rintro e w4 ⟨u2, rfl, hown, hb4⟩
    rw [HJ.out] at hown
    have HO := xhd (y1l (base' := w.heap.size) hown (by have := HW2.out; simp; omega))
    have HB4 := xhd (Below.quiet HK3.out.to_below (Keeps.new hb4) HK3.out.size)
    clear hown hb4
    go_wp2
    go_ret2
    exact ⟨u2, by rw [HE.out]; rfl, by rw [HE.out]; exact HO.out, HB4.out⟩
  ·have ho : Pure.Pkt.odd ⟨c, i, l⟩ := of_decide_eq_true HOD.out.symm
   have HE := xhd (Pure.encode_odd ho)
   clear ho
   go_wp2
   go_ret2
   exact ⟨_, by rw [HE.out]; rfl, by rw [HE.out]; exact World.ownsRow_nil _ _ _ _, HK.out.to_below⟩
theorem y48 (F : Nat → Prop) (x : Value) (ps : List (Value × Pure.Opt)) (w : World) (hF : ∀ b, F b → b < w.heap.size) (hx : ORow w F x ps) :
  Calls Tryz.prog 155 #[x] w fun e w' => ∃ u, e = .returned (.tuple #[u, .int .i64 (((Pure.options (y02 ps)).1 : Nat) : Int)]) ∧ w'.ownsRow w.heap.size 5 1 u (Pure.options (y02 ps)).2.length (u8s (Pure.options (y02 ps)).2) ∧ Below w.heap.size w w' := by
 obtain ⟨A, cA, rfl, hc⟩ := hx.form
 have hm := hx.out.2.1
 unfold maxLen at hm
 have HX := xhd hx
 have HF := xhd hF
 clear hx hF
 have hlen : (y02 ps).length = ps.length := by simp
 have HBy := xhd (fun n w => y31 n w)
 go_enter Tryz.func155, Tryz.ntmps155
 by_cases h32 : 32 < ps.length
 ·have HO := xhd (Pure.options_long (l := y02 ps) (by rw [hlen]; exact h32))
  have d0 : decide ((32 : Int) < (ps.length : Int)) = true := decide_eq_true (by omega)
  clear hlen
  go_wp2
  go_ret2
  exact ⟨_, by rw [HO.out]; rfl, by rw [HO.out]; exact World.ownsRow_nil _ _ _ _, Below.refl _ _⟩
 ·have d0 : decide ((32 : Int) < (ps.length : Int)) = false := decide_eq_false (by omega)
  have HLen := xhd hlen
  clear hlen
  go_wp2_with fail
  go_loopw [4, 12] (fun v i wr => ∃ k : Nat, k ≤ ps.length ∧ i = .int .i64 (k : Int) ∧ wr.ownsRow w.heap.size 5 1 v (Pure.joined ((y02 ps).take k)).length (u8s (Pure.joined ((y02 ps).take k))) ∧ (Pure.joined ((y02 ps).take k)).length ≤ 255 * k ∧ (∀ o ∈ (y02 ps).take k, ¬ Pure.Opt.odd o) ∧ Below w.heap.size w wr) (fun _ i _ => ps.length - (intOf i).toNat)
  case atStart => exact ⟨0, by omega, rfl, World.ownsRow_nil _ _ _ _, by simp [Pure.joined], by simp, Below.refl _ _⟩
  case round =>
   obtain ⟨k, hk, rfl, hW, hJl, hE, hK⟩ := hrel
   have HW := xhd hW
   have HE := xhd hE
   have HK := xhd hK
   obtain ⟨A2, c2, rfl⟩ := y04 hW
   by_cases hkl : k < ps.length
   ·have i0 : (0 : Int) ≤ (k : Int) := by omega
    have i1 : (k : Int) < (ps.length : Int) := by omega
    obtain ⟨p, o, A1, c1, s, la, rfl, hFp, x0, x1, hra, hpa⟩ := (HX.out.keeps (Keeps.new hK) (fun _ _ h => h)).pick k hkl
    have hps : (y02 ps)[k]? = some (s, la) := by rw [List.getElem?_map, hpa]; rfl
    have HPS := xhd hps
    have HRA := xhd hra
    have hml := hra.2.1
    unfold maxLen at hml
    obtain ⟨J, hJ⟩ : ∃ J, J = Pure.joined ((y02 ps).take k) := ⟨_, rfl⟩
    rw [← hJ] at HW hJl ⊢
    have HJ := xhd hJ
    clear hW hE hra hpa hps hJ
    go_upto_region 7 with fail
    obtain ⟨r, hr⟩ : ∃ r, r = wr.heap.size := ⟨_, rfl⟩
    rw [← hr]
    generalize hw1 : wr.alloc _ = w1
    have hb1 : Blk w1 r 31 #[.int .i64 s, .slice A1 la.length c1] := by rw [← hw1, hr]; exact Blk.new wr _ _
    have hk1 : Keeps y01 wr w1 := by rw [← hw1]; exact (Keeps.refl _ wr).alloc _
    have y0 : w1.cell? ⟨r, 0, none⟩ = some (.int .i64 s) := by rw [hb1.cell]; rfl
    have y1 : w1.cell? ⟨r, 1, none⟩ = some (.slice A1 la.length c1) := by rw [hb1.cell]; rfl
    have HW1 := xhd (y0g HW.out hk1 (fun _ _ h => h))
    have HKw := xhd (Below.quiet HK.out hk1 HK.out.size)
    have HRA1 := xhd (HRA.out.keeps hk1 (fun _ _ h => h))
    have hrw : w.heap.size ≤ r := by rw [hr]; exact HK.out.size
    have hAr : (Value.slice A2 J.length c2).ownBlock ≠ some r := fun e => by have := y0o HW.out r e; omega
    clear hw1 hr hb1 hk1 x0 x1 HW HK HRA hK
    obtain ⟨od, hod⟩ : ∃ b, b = decide (Pure.Opt.odd (s, la)) := ⟨_, rfl⟩
    obtain ⟨bs, hbs⟩ : ∃ b, b = decide (0 ≤ s ∧ s ≤ 255) := ⟨_, rfl⟩
    have hob : od = (!bs || decide (253 < (la.length : Int))) := by
     have ho : Pure.Opt.odd (s, la) ↔ (s < 0 ∨ 255 < s ∨ 253 < la.length) := Iff.rfl
     rw [hod, hbs, Bool.eq_iff_iff]
     simp only [ho, decide_eq_true_eq, Bool.or_eq_true, Bool.not_eq_true', decide_eq_false_iff_not]
     omega
    have HBs := xhd (HBy.out s)
    rw [← hbs] at HBs
    have HOD := xhd hod
    have HOB := xhd hob
    clear hod hbs hob HBy
    go_cut [25] (fun v wx => v = .bool od ∧ w1 = wx)
    case first =>
     cases bs
     ·go_wp2_with fail
      refine (HBs.out _).mono ?_
      rintro e w2 ⟨rfl, rfl⟩
      go_wp2
      go_meet
      exact ⟨by rw [HOB.out]; rfl, rfl⟩
     ·go_wp2_with fail
      refine (HBs.out _).mono ?_
      rintro e w2 ⟨rfl, rfl⟩
      go_wp2
      go_meet
      exact ⟨by rw [HOB.out]; rfl, rfl⟩
    case rest =>
     obtain ⟨rfl, rfl⟩ := hcut
     clear HOB HBs
     cases od
     ·have ho : ¬ Pure.Opt.odd (s, la) := of_decide_eq_false HOD.out.symm
      have hodd : 0 ≤ s ∧ s ≤ 255 ∧ la.length ≤ 253 := by unfold Pure.Opt.odd at ho; dsimp only at ho; omega
      have HE' := xhd (show ∀ o ∈ (y02 ps).take (k + 1), ¬ Pure.Opt.odd o by
       intro o hoo
       rw [y4m _ k _ HPS.out] at hoo
       rcases List.mem_append.1 hoo with h | h
       ·exact HE.out o h
       ·simp at h; rw [h]; exact ho)
      obtain ⟨x1', hx1⟩ : ∃ x : UInt8, x = UInt8.ofNat s.toNat := ⟨_, rfl⟩
      obtain ⟨x2', hx2⟩ : ∃ x : UInt8, x = UInt8.ofNat (la.length + 2) := ⟨_, rfl⟩
      have f1 : s = (x1'.toNat : Int) := by rw [hx1, UInt8.toNat_ofNat']; omega
      have f2 : (2 : Int) + (la.length : Int) = (x2'.toNat : Int) := by rw [hx2, UInt8.toNat_ofNat']; omega
      have hby : Pure.Opt.bytes (s, la) = [x1', x2'] ++ la := by rw [hx1, hx2]; rfl
      have hJ' : Pure.joined ((y02 ps).take (k + 1)) = J ++ [x1', x2'] ++ la := by
       rw [y4m _ k _ HPS.out, y7z, hby, HJ.out, List.append_assoc]
      have HJ' := xhd hJ'
      have hla : la.length ≤ 253 := hodd.2.2
      have t1 := x1'.toNat_lt
      have t2 := x2'.toNat_lt
      clear hx1 hx2 hby hJ' ho hodd HJ HPS HE HOD
      subst f1
      have u1 : IntKind.u8.wrap (x1'.toNat : Int) = (x1'.toNat : Int) := IntWalk.u8_in _ (by omega)
      have u2 : IntKind.i64.wrap (x2'.toNat : Int) = (x2'.toNat : Int) := IntWalk.i64_in _ (by omega)
      have u3 : IntKind.u8.wrap (x2'.toNat : Int) = (x2'.toNat : Int) := IntWalk.u8_in _ (by omega)
      go_wp2_with (at_builtin; refine y0d ?_)
      unfold Hid
      obtain ⟨wb, hwb⟩ : ∃ wb, wb = w1.alloc (.cells #[.int .u8 (x1'.toNat : Int), .int .u8 (x2'.toNat : Int)] 5) := ⟨_, rfl⟩
      rw [← hwb]
      have hkb : Keeps y01 w1 wb := by rw [hwb]; exact (Keeps.refl _ w1).alloc _
      have hrb : Row wb (fun x => x = w1.heap.size) 1 (.slice (some ⟨w1.heap.size, 0, none⟩) 2 2) 2 (u8s [x1', x2']) := by
       have := y1f w1 [x1', x2'] #[.int .u8 (x1'.toNat : Int), .int .u8 (x2'.toNat : Int)] 2 rfl rfl (by simp)
       rw [hwb]
       exact this
      have hzb : wb.heap.size = w1.heap.size + 1 := by rw [hwb]; simp
      have hcb : wb.cell? ⟨r, 1, none⟩ = some (.slice A1 la.length c1) := y0m y1 hkb
      have HBb := xhd (Below.quiet HKw.out hkb HKw.out.size)
      have hWb := y0g HW1.out hkb (fun _ _ h => h)
      clear hwb
      refine y0n rfl (.tmp 26) (.tmp 35) rfl w.heap.size (.slice A2 J.length c2) J.length J rfl rfl hWb _ _ [x1', x2'] rfl hrb (by simp; omega) HBb.out.size ?_
      intro v3 w3 hown3 hg3 hat3
      obtain ⟨J2, hJ2⟩ : ∃ l, l = J ++ [x1', x2'] := ⟨_, rfl⟩
      have HJ2l := xhd (show J2.length = J.length + 2 by rw [hJ2]; simp)
      rw [← hJ2] at hown3 HJ'
      clear hJ2
      have hrl : r < wb.heap.size := by have := y0l hcb; omega
      have hc3 : w3.cell? ⟨r, 1, none⟩ = some (.slice A1 la.length c1) :=
       (World.cell?_of_block (w := wb) (a := ⟨r, 1, none⟩) (hg3.block r hrl (fun e => hAr e.symm))).trans hcb
      have HB3 := xhd (HBb.out.grown hg3 HBb.out.size (fun k hk => y06 HW1.out k hk))
      have HO3 := xhd hown3
      have hkw3 : Keeps (fun b => w.heap.size ≤ b) w1 w3 := (hkb.mono (fun _ h => h.elim)).grown hg3 (fun k hk _ => y06 HW1.out k hk)
      have HR3 := xhd (HRA1.out.keeps hkw3 (fun b hb hs => by have h1 := HF.out b hb; have h2 : w.heap.size ≤ b := hs; omega))
      obtain ⟨A3, c3, rfl⟩ := y04 hown3
      clear hkw3 hown3 hg3 hat3 hcb hkb hrb hWb y0 y1 hzb hrl
      go_wp2_with (at_builtin; refine y0d ?_)
      unfold Hid
      refine y0n rfl (.tmp 37) (.tmp 39) rfl w.heap.size _ J2.length J2 rfl rfl HO3.out F (.slice A1 la.length c1) la rfl HR3.out (by have := HJ2l.out; omega) HB3.out.size ?_
      intro v4 w4 hown4 hg4 hat4
      have HB4 := xhd (HB3.out.grown hg4 HB3.out.size (fun k hk => y06 HO3.out k hk))
      rw [← HJ'.out] at hown4
      have hl4 : (Pure.joined ((y02 ps).take (k + 1))).length ≤ 255 * (k + 1) := by
       rw [HJ'.out]; simp only [List.length_append]; have := HJ2l.out; omega
      have HO4 := xhd hown4
      clear hown4 hg4 hat4
      go_wp2_with fail
      go_roundw
      case rel => exact ⟨k + 1, by omega, by go_num, HO4.out, hl4, HE'.out, HB4.out⟩
      case measure => simp [intOf]; omega
     ·have ho : Pure.Opt.odd (s, la) := of_decide_eq_true HOD.out.symm
      have HO := xhd (Pure.options_odd (l := y02 ps) (by rw [HLen.out]; exact h32) (s, la) (List.mem_of_getElem? HPS.out) ho)
      clear ho HOD
      go_wp2
      go_ret2
      exact ⟨_, by rw [HO.out]; rfl, by rw [HO.out]; exact World.ownsRow_nil _ _ _ _, HKw.out⟩
   ·have hkk : k = ps.length := by omega
    subst hkk
    have htk : (y02 ps).take ps.length = y02 ps := List.take_of_length_le (by rw [HLen.out]; omega)
    rw [htk] at HW HE ⊢
    have HO := xhd (Pure.options_ok (l := y02 ps) (by rw [HLen.out]; exact h32) HE.out)
    rw [htk] at hW hJl
    clear hW hJl hE hK hkl hk htk
    go_wp2
    go_ret2
    exact ⟨_, by rw [HO.out]; rfl, by rw [HO.out]; exact HW.out, HK.out⟩
structure FewRules (us : List (Value × Pure.Rule)) : Prop where
 len : us.length ≤ 100000
 ok : ∀ p ∈ us, p.2.Ok ∧ p.2.want.length ≤ 100000
structure FewOpts (zs : List (Value × Pure.Opt)) : Prop where
 len : zs.length ≤ 100000
 data : ∀ p ∈ zs, p.2.2.length ≤ 100000
theorem dead_ok : Pure.deadRule.Ok := fun h => by simp [Pure.deadRule] at h
theorem FewRules.pick {us : List (Value × Pure.Rule)} (h : FewRules us) {r : Pure.Rule} (hp : (∃ p ∈ us, p.2 = r) ∨ r = Pure.deadRule) : r.Ok ∧ r.want.length ≤ 100000 := by
 rcases hp with ⟨p, hp, rfl⟩ | rfl
 ·exact h.ok p hp
 ·exact ⟨dead_ok, by simp [Pure.deadRule]⟩
theorem y78 (F : Nat → Prop) (x : Value) (ps : List (Value × Pure.Opt)) (w : World) (hF : ∀ b, F b → b < w.heap.size) (hx : ORow w F x ps) :
  Calls Tryz.prog 115 #[x] w fun e w' => e = .returned (.bool (decide ((Pure.options (y02 ps)).1 = 0))) ∧ Keeps y01 w w' := by
 have HO := xhd (y48 F x ps w hF hx)
 have HD := xhd (show decide ((Pure.options (y02 ps)).1 = 0) = ((((Pure.options (y02 ps)).1 : Nat) : Int) == 0) by
  by_cases h : (Pure.options (y02 ps)).1 = 0
  ·rw [h]; rfl
  ·rw [decide_eq_false h]; symm; rw [beq_eq_false_iff_ne]; omega)
 clear hF hx
 go_enter Tryz.func115, Tryz.ntmps115
 go_wp2_with fail
 refine HO.out.mono ?_
 rintro e w1 ⟨u, rfl, hu, hb⟩
 obtain ⟨A, c, rfl⟩ := y04 hu
 have HK := xhd (Keeps.new hb)
 clear hu hb HO
 go_wp2_with fail
 go_ret
 exact ⟨by rw [HD.out]; rfl, HK.out⟩
theorem y2d (F : Nat → Prop) (x : Value) (ps : List (Value × Pure.Opt)) (w : World) (hF : ∀ b, F b → b < w.heap.size) (hx : ORow w F x ps) :
  Calls Tryz.prog 191 #[x] w fun e w' => ∃ A c, e = .returned (.slice A (Pure.options (y02 ps)).2.length c) ∧ Row w' (fun b => w.heap.size ≤ b) 1 (.slice A (Pure.options (y02 ps)).2.length c) (Pure.options (y02 ps)).2.length (u8s (Pure.options (y02 ps)).2) ∧ Keeps y01 w w' := by
 have HO := xhd (y48 F x ps w hF hx)
 clear hF hx
 go_enter Tryz.func191, Tryz.ntmps191
 go_wp2_with fail
 refine HO.out.mono ?_
 rintro e w1 ⟨u, rfl, hu, hb⟩
 obtain ⟨A, c, rfl⟩ := y04 hu
 have HU := xhd ((Row.of_own hu).mono (G := fun b => w.heap.size ≤ b) (fun b hb => y06 hu b hb))
 have HK := xhd (Keeps.new hb)
 clear hu hb HO
 go_wp2_with fail
 go_ret
 exact ⟨_, _, rfl, HU.out, HK.out⟩
section
variable {w0 w : World} {o : Oper} {a : Act} {Q : Exit → Act → World → Prop}
end
theorem Read.since {w0 w1 w2 : World} {v : Value} {qs : List (Value × Pure.Opt)} (h : Read w1 w2 v qs) (k : Keeps y01 w0 w1) : Read w0 w2 v qs :=
 ⟨y1l h.own k.size, fun p hp => (h.rows p hp).mono (fun _ hb => ⟨Nat.le_trans k.size hb.1, hb.2⟩), (k.trans (Keeps.new h.below)).to_below⟩
namespace Pure
end Pure
theorem y80 (qs : List (Value × Pure.Opt)) (k : Nat) (t : Int) (D d : List UInt8) (u v : Value) (h : qs[k]? = some (u, (t, D))) : (y0j qs).set (2 * k + 1) v = y0j (qs.set k (v, (t, d))) := by
 induction qs generalizing k with
 | nil => simp at h
 | cons q qs ih =>
  rcases k with _ | k
  ·simp at h
   subst h
   rfl
  ·have := ih k (by simpa using h)
   rw [show 2 * (k + 1) + 1 = (2 * k + 1) + 1 + 1 by omega]
   show (Value.int .i64 q.2.1 :: q.1 :: y0j qs).set ((2 * k + 1) + 1 + 1) v = Value.int .i64 q.2.1 :: q.1 :: y0j (qs.set k (v, (t, d)))
   rw [xqE, xqE, this]
theorem Read.put {w0 w : World} {g n c : Nat} {qs : List (Value × Pure.Opt)} (h : Read w0 w (.slice (some ⟨g, 0, none⟩) n c) qs) (k : Nat) (o : Pure.Opt) (d : List UInt8) (A : Option Addr) (cc : Nat) (hk : ∃ u, qs[k]? = some (u, o))
  (hd : Row w (fun b => w0.heap.size ≤ b ∧ (Value.slice (some ⟨g, 0, none⟩) n c).ownBlock ≠ some b ∧ b < w.heap.size) 1 (.slice A d.length cc) d.length (u8s d)) :
  (∃ u, w.cell? ⟨g, k * 2 + 1, none⟩ = some u) ∧ w.frozen? ⟨g, k * 2 + 1, none⟩ = false ∧ Read w0 (w.setCell ⟨g, k * 2 + 1, none⟩ (.slice A d.length cc)) (.slice (some ⟨g, 0, none⟩) n c) (qs.set k (.slice A d.length cc, (o.1, d))) := by
 obtain ⟨u, hk⟩ := hk
 obtain ⟨t, D⟩ := o
 have hkl := (List.getElem?_eq_some_iff.1 hk).1
 obtain ⟨h1, h2⟩ := h.own
 rcases h2 with ⟨e, _⟩ | ⟨g', cap, cur, e, hg, hh, h3, h4, h5, h6⟩
 ·cases e
 ·injection e with e1 e2 e3
  injection e1 with e1
  injection e1 with e1
  subst e1 e2 e3
  have hb : Blk w g _ cur := hh
  have hsz : k * 2 + 1 < cur.size := by omega
  refine ⟨⟨cur[k * 2 + 1], by rw [hb.cell, Array.getElem?_eq_getElem hsz]⟩, hb.frozen _, ?_⟩
  have hK : Keeps (only g) w (w.setCell ⟨g, k * 2 + 1, none⟩ (.slice A d.length cc)) := (Keeps.refl (only g) w).store g (k * 2 + 1) (fun _ => rfl) _
  have hwsz : (w.setCell ⟨g, k * 2 + 1, none⟩ (.slice A d.length cc)).heap.size = w.heap.size := by simp [World.setCell]
  refine ⟨⟨?_, .inr ⟨g, c, _, by rw [List.length_set], hg, hb.set (k * 2 + 1) _, by rw [List.length_set]; exact h3, h4, by rw [Array.size_setIfInBounds]; exact h5, ?_⟩⟩, fun p hp => ?_, ?_⟩
  ·rw [y22]
  ·rw [Array.toList_setIfInBounds, List.length_set, List.take_set, h6, show k * 2 + 1 = 2 * k + 1 by omega]
   exact y80 qs k t D d u _ hk
  ·have hrow : Row w (fun b => w0.heap.size ≤ b ∧ (Value.slice (some ⟨g, 0, none⟩) qs.length c).ownBlock ≠ some b ∧ b < w.heap.size) 1 p.1 p.2.2.length (u8s p.2.2) := by
    rcases List.mem_or_eq_of_mem_set hp with hp | rfl
    ·exact h.rows p hp
    ·exact hd
   have h7 := hrow.keeps hK (fun b hb e => hb.2.1 (by have e : b = g := e; rw [e]; rfl))
   refine h7.mono (fun b hb => ⟨hb.1, ?_, by rw [hwsz]; exact hb.2.2⟩)
   exact hb.2.1
  ·exact Below.keeps h.below hK h.below.size (fun i hi => by have e : i = g := hi; rw [e]; exact hg)
theorem y42 {s e : Int} (h : ¬ (0 ≤ s ∧ s ≤ 9 ∧ 0 ≤ e ∧ e < 16)) : Pure.fsmStep s e = ([], s) := if_neg h
theorem y4u (s e : Nat) (hs : s < 10) (he : e < 16) : Pure.fsmStep s e = ((Pure.fsmAt s e).1, ((Pure.fsmAt s e).2 : Int)) := by
 unfold Pure.fsmStep
 rw [if_pos (by omega)]
 rfl
theorem act_other (m : Pure.Mach) (a : Nat) (h4 : a ≠ 4) (h5 : a ≠ 5) (h6 : a ≠ 6) (h9 : a ≠ 9) : m.act a = m := by
 unfold Pure.Mach.act
 rw [if_neg h4, if_neg h5, if_neg (by omega)]
theorem Row.ints_at {w : World} {F : Nat → Prop} {A : Option Addr} {c : Nat} {l : List Nat} (h : Row w F 1 (.slice A l.length c) l.length (ints l)) (k : Nat) (hk : k < l.length) :
  ∃ b off, A = some ⟨b, off, none⟩ ∧ F b ∧ w.cell? ⟨b, off + k, none⟩ = some (.int .i64 ((l.getD k 0 : Nat) : Int)) := by
 obtain ⟨b, off, e, hF, hc⟩ := h.cellAt (by omega)
 exact ⟨b, off, e, hF, hc k _ (Go.Proofs.YtmgicbckgpdkcaaGreatDoor.ints_at l k hk)⟩
def y2n (t u : Int) : Prop := 1 ≤ t ∧ t ≤ 1000 ∧ 1 ≤ u ∧ u ≤ 1000
instance (t u : Int) : Decidable (y2n t u) := by unfold y2n; infer_instance
end Go.Proofs.YtmgicbckgpdkcaaGreatDoor
