/- The document's Xor of a key. -/
import Derived.Test.YtkfcdeeohhghhaaRc4G
namespace Go.Proofs.Ytkfcdeeohhghhaa
open Go.RowKit

set_option maxRecDepth 100000 in
set_option maxHeartbeats 8000000 in
theorem docxor_key (F : Nat → Prop) (x : Value) (bs : List UInt8) (g : Nat) (c : Pure.Rc) (w : World) (hr : Row w F 1 x bs.length (u8s bs)) (hF : ¬ F g) (hl : bs.length ≤ 100000000) (ho : DKObj w g c) (hn : c.n ≤ 1000000000) :
    Calls Try.prog 17 #[.pointer (some ⟨g, 0, none⟩), x] w fun e w' => ∃ u, e = .returned u ∧ w'.ownsRow w.heap.size 5 1 u bs.length (u8s (c.xor bs).2) ∧ DKObj w' g (c.xor bs).1 ∧ Keeps (only g) w w' := by
  obtain ⟨A, cA, rfl, hc⟩ := hr.form
  have HR := Lib.hid hr
  have HF := Lib.hid hF
  have HO := Lib.hid ho
  have hglt := ho.lt
  clear hr hF ho
  go_enter Try.func17, Try.ntmps17
  go_wp2_with fail
  go_loopw [5, 6] (fun u i wr => ∃ k : Nat, k ≤ bs.length ∧ i = .int .i64 k ∧ wr.ownsRow w.heap.size 5 1 u (c.xor (bs.take k)).2.length (u8s (c.xor (bs.take k)).2) ∧ DKObj wr g (c.xor (bs.take k)).1 ∧ Keeps (only g) w wr) (fun _ i _ => bs.length - (intOf i).toNat)
  case atStart => exact ⟨0, by omega, rfl, ⟨by simp [Pure.Rc.xor_nil], .inl ⟨rfl, rfl⟩⟩, HO.out, Keeps.refl _ w⟩
  case round =>
    clear HO
    obtain ⟨k, hk, rfl, hW, hO, hK⟩ := hrel
    have HW := Lib.hid hW
    have HK := Lib.hid hK
    by_cases hkl : k < bs.length
    · have hi0 : (0 : Int) ≤ (k : Int) := by omega
      have hi1 : (k : Int) < (bs.length : Int) := by omega
      have hdn : (c.xor (bs.take k)).1.n = c.n + k := by rw [Pure.Rc.xor_n, List.length_take]; omega
      obtain ⟨d, hd⟩ : ∃ d, d = (c.xor (bs.take k)).1 := ⟨_, rfl⟩
      rw [← hd] at hO hdn
      have hdn2 : d.n ≤ 2000000000 := by omega
      have hs : d.s.length = 256 := hO.ok.s
      have hdi : d.i < 256 := hO.ok.i
      have hdj : d.j < 256 := hO.ok.j
      have hb := hO.blk
      obtain ⟨I, hI⟩ : ∃ I : Nat, I = (d.i + 1) % 256 := ⟨_, rfl⟩
      have hI2 : I < 256 := by omega
      have eI : ((d.i : Int) + 1) % 256 = (I : Int) := by omega
      obtain ⟨b, off, rfl, hbF, hkc⟩ := (HR.out.keeps hK (fun x hx h => HF.out (h ▸ hx))).cellAt (by omega)
      have hxc := hkc k _ (u8s_at bs k hkl)
      have hbg : b ≠ g := fun h => HF.out (h ▸ hbF)
      have hblt : b < w.heap.size := by
        obtain ⟨b', off', e, _, hcc⟩ := HR.out.cellAt (by omega)
        injection e with e
        injection e with e
        rw [e]
        exact cell_lt (hcc 0 _ (u8s_at bs 0 (by omega)))
      obtain ⟨x, hx⟩ : ∃ x, x = bs.getD k 0 := ⟨_, rfl⟩
      rw [← hx] at hxc
      obtain ⟨X, hX⟩ : ∃ X : UInt8, X = d.s.getD I 0 := ⟨_, rfl⟩
      have hX2 : X.toNat < 256 := X.toNat_lt
      obtain ⟨J, hJ⟩ : ∃ J : Nat, J = (d.j + X.toNat) % 256 := ⟨_, rfl⟩
      have hJ2 : J < 256 := by omega
      have eJ : ((d.j : Int) + (X.toNat : Int)) % 256 = (J : Int) := by omega
      obtain ⟨Y, hY⟩ : ∃ Y : UInt8, Y = d.s.getD J 0 := ⟨_, rfl⟩
      have HD := Lib.hid hd
      have HX := Lib.hid hx
      have HI := Lib.hid hI
      have HJ := Lib.hid hJ
      have HXX := Lib.hid hX
      have HYY := Lib.hid hY
      have HB := Lib.hid hb
      have HS := Lib.hid hs
      have HXC := Lib.hid hxc
      have c256 : wr.cell? ⟨g, 256, none⟩ = some (.int .i64 d.i) := by rw [hb.cell]; exact mc_tail hs 0
      have c259 : wr.cell? ⟨g, 259, none⟩ = some (.bool false) := by rw [hb.cell]; exact mc_tail hs 3
      have f256 := hb.frozen 256
      have hOK := hO.ok
      have HOK := Lib.hid hOK
      clear hO hW hK hd hx hI hJ hX hY hs hb hkc hxc hOK
      go_upto_region 10 with fail
      obtain ⟨wa, hwa⟩ : ∃ wa, wa = wr.setCell ⟨g, 256, none⟩ (.int .i64 (I : Int)) := ⟨_, rfl⟩
      rw [← hwa]
      have hba : Blk wa g 40 (mc d.s I d.j d.n false 0) := by
        rw [hwa, ← mc_set_i HS.out]
        exact HB.out.set 256 _
      have HBA := Lib.hid hba
      have HKA := Lib.hid (show Keeps (only g) wr wa by rw [hwa]; exact (Keeps.refl _ wr).store _ _ (fun _ => only_self _) _)
      have a256 : wa.cell? ⟨g, 256, none⟩ = some (.int .i64 I) := by rw [hba.cell]; exact mc_tail HS.out 0
      have a257 : wa.cell? ⟨g, 257, none⟩ = some (.int .i64 d.j) := by rw [hba.cell]; exact mc_tail HS.out 1
      have aI : wa.cell? ⟨g, I, none⟩ = some (.int .u8 X.toNat) := by rw [hba.cell, HXX.out]; exact mc_s HS.out I hI2
      have f257 := hba.frozen 257
      have hI0 : (0 : Int) ≤ (I : Int) := by omega
      have hI3 : (I : Int) < 256 := by omega
      clear hba hwa c256 c259 f256 eI HB
      go_region
      obtain ⟨wb, hwb⟩ : ∃ wb, wb = (wa.setCell ⟨g, 257, none⟩ (.int .i64 (J : Int))).drew := ⟨_, rfl⟩
      rw [← hwb]
      have hbb : Blk wb g 40 (mc d.s I J d.n false 0) := by
        rw [hwb, ← mc_set_j HS.out (j := d.j)]
        exact (HBA.out.set 257 _).drew
      have HBB := Lib.hid hbb
      have HKB := Lib.hid (show Keeps (only g) wr wb by rw [hwb]; exact (HKA.out.store _ _ (fun _ => only_self _) _).drew)
      have b256 : wb.cell? ⟨g, 256, none⟩ = some (.int .i64 I) := by rw [hbb.cell]; exact mc_tail HS.out 0
      have bI : wb.cell? ⟨g, I, none⟩ = some (.int .u8 X.toNat) := by rw [hbb.cell, HXX.out]; exact mc_s HS.out I hI2
      clear hbb hwb a256 a257 aI f257 eJ HBA HKA
      go_upto_region 11 with fail
      go_quiet (fail)
      obtain ⟨wc, hwc⟩ : ∃ wc, wc = wb.drewN nq := ⟨_, rfl⟩
      rw [← hwc]
      have hbc : Blk wc g 40 (mc d.s I J d.n false 0) := by rw [hwc]; exact HBB.out.drewN nq
      have HBC := Lib.hid hbc
      have HKC := Lib.hid (show Keeps (only g) wr wc by rw [hwc]; exact HKB.out.drewN nq)
      have d256 : wc.cell? ⟨g, 256, none⟩ = some (.int .i64 I) := by rw [hbc.cell]; exact mc_tail HS.out 0
      have d257 : wc.cell? ⟨g, 257, none⟩ = some (.int .i64 J) := by rw [hbc.cell]; exact mc_tail HS.out 1
      have dI : wc.cell? ⟨g, I, none⟩ = some (.int .u8 X.toNat) := by rw [hbc.cell, HXX.out]; exact mc_s HS.out I hI2
      have dJ : wc.cell? ⟨g, J, none⟩ = some (.int .u8 Y.toNat) := by rw [hbc.cell, HYY.out]; exact mc_s HS.out J hJ2
      have fI := hbc.frozen I
      have hJ0 : (0 : Int) ≤ (J : Int) := by omega
      have hJ3 : (J : Int) < 256 := by omega
      clear hbc hwc b256 bI HBB HKB
      go_upto_region 12 with fail
      go_region
      obtain ⟨wd, hwd⟩ : ∃ wd, wd = (wc.setCell ⟨g, I, none⟩ (.int .u8 Y.toNat)).drew := ⟨_, rfl⟩
      rw [← hwd]
      have hbd : Blk wd g 40 (mc (d.s.set I Y) I J d.n false 0) := by
        rw [hwd]
        have h := (HBC.out.set I (.int .u8 Y.toNat)).drew
        rw [mc_set HS.out I hI2] at h
        exact h
      have hsd : (d.s.set I Y).length = 256 := by rw [List.length_set]; exact HS.out
      have HSD := Lib.hid hsd
      have HBD := Lib.hid hbd
      have HKD := Lib.hid (show Keeps (only g) wr wd by rw [hwd]; exact (HKC.out.store _ _ (fun _ => only_self _) _).drew)
      have e257 : wd.cell? ⟨g, 257, none⟩ = some (.int .i64 J) := by rw [hbd.cell]; exact mc_tail hsd 1
      have eJJ : wd.cell? ⟨g, J, none⟩ = some (.int .u8 (((d.s.set I Y).getD J 0).toNat)) := by rw [hbd.cell]; exact mc_s hsd J hJ2
      have fJ := hbd.frozen J
      clear hbd hsd hwd d256 d257 dI dJ fI HBC HKC
      go_upto_region 13 with fail
      go_region
      obtain ⟨we, hwe⟩ : ∃ we, we = (wd.setCell ⟨g, J, none⟩ (.int .u8 X.toNat)).drew := ⟨_, rfl⟩
      rw [← hwe]
      have hbe : Blk we g 40 (mc ((d.s.set I Y).set J X) I J d.n false 0) := by
        rw [hwe]
        have h := (HBD.out.set J (.int .u8 X.toNat)).drew
        rw [mc_set HSD.out J hJ2] at h
        exact h
      have hsw : (d.s.set I Y).set J X = Pure.swap d.s I J := by rw [HXX.out, HYY.out]; rfl
      rw [hsw] at hbe
      have hnx : d.next = ⟨Pure.swap d.s I J, I, J, d.n + 1⟩ := by
        unfold Pure.Rc.next
        rw [HJ.out, HXX.out, HI.out]
      obtain ⟨s', hs'⟩ : ∃ s', s' = Pure.swap d.s I J := ⟨_, rfl⟩
      have hs2 : s'.length = 256 := by rw [hs', Pure.swap_length]; exact HS.out
      rw [← hs'] at hbe hnx
      have hke : Keeps (only g) wr we := by rw [hwe]; exact (HKD.out.store _ _ (fun _ => only_self _) _).drew
      obtain ⟨P, hP⟩ : ∃ P : Nat, P = (s'.getD I 0).toNat := ⟨_, rfl⟩
      obtain ⟨R, hR⟩ : ∃ R : Nat, R = (s'.getD J 0).toNat := ⟨_, rfl⟩
      have hP2 : P < 256 := by rw [hP]; exact UInt8.toNat_lt _
      have hR2 : R < 256 := by rw [hR]; exact UInt8.toNat_lt _
      obtain ⟨T, hT⟩ : ∃ T : Nat, T = (P + R) % 256 := ⟨_, rfl⟩
      have hT2 : T < 256 := by omega
      have eT : ((P : Int) + (R : Int)) % 256 = (T : Int) := by omega
      obtain ⟨Z, hZ⟩ : ∃ Z, Z = s'.getD T 0 := ⟨_, rfl⟩
      have hZb : d.next.byte = Z := by
        rw [hnx, hZ, hT, hP, hR]
        rfl
      have g256 : we.cell? ⟨g, 256, none⟩ = some (.int .i64 I) := by rw [hbe.cell]; exact mc_tail hs2 0
      have g257 : we.cell? ⟨g, 257, none⟩ = some (.int .i64 J) := by rw [hbe.cell]; exact mc_tail hs2 1
      have gI : we.cell? ⟨g, I, none⟩ = some (.int .u8 P) := by rw [hbe.cell, hP]; exact mc_s hs2 I hI2
      have gJ : we.cell? ⟨g, J, none⟩ = some (.int .u8 R) := by rw [hbe.cell, hR]; exact mc_s hs2 J hJ2
      have gT : we.cell? ⟨g, T, none⟩ = some (.int .u8 Z.toNat) := by rw [hbe.cell, hZ]; exact mc_s hs2 T hT2
      have gx : we.cell? ⟨b, off + k, none⟩ = some (.int .u8 x.toNat) :=
        (World.cell?_of_block (w := wr) (a := ⟨b, off + k, none⟩) (hke.block b (cell_lt HXC.out) hbg)).trans HXC.out
      have hxz := xor_u8 x Z
      obtain ⟨V, hV⟩ : ∃ V : UInt8, V = x ^^^ Z := ⟨_, rfl⟩
      rw [← hV] at hxz
      have hT0 : (0 : Int) ≤ (T : Int) := by omega
      have hT3 : (T : Int) < 256 := by omega
      have HNX := Lib.hid hnx
      have HBE := Lib.hid hbe
      have HKE := Lib.hid hke
      have HS2 := Lib.hid hs2
      have HZ := Lib.hid hZb
      have HV := Lib.hid hV
      have HDN := Lib.hid hdn
      clear hbe hke hwe hsw hnx hs' hs2 hP hR hT hZ hZb hV hdn e257 eJJ fJ HBD HKD HSD
      go_upto_region 14 with fail
      have HSS := Lib.hid (show we.cell? ⟨g, 256, none⟩ = some (.int .i64 I) ∧ we.cell? ⟨g, 257, none⟩ = some (.int .i64 J) ∧ we.cell? ⟨g, I, none⟩ = some (.int .u8 P) ∧ we.cell? ⟨g, J, none⟩ = some (.int .u8 R) ∧ we.cell? ⟨g, T, none⟩ = some (.int .u8 Z.toNat) ∧ we.cell? ⟨b, off + k, none⟩ = some (.int .u8 x.toNat) from ⟨g256, g257, gI, gJ, gT, gx⟩)
      have hwP : IntKind.i64.wrap (P : Int) = (P : Int) := IntWalk.i64_in _ (by omega)
      have hwR : IntKind.i64.wrap (R : Int) = (R : Int) := IntWalk.i64_in _ (by omega)
      have hwS : IntKind.i64.wrap ((P : Int) + (R : Int)) = (P : Int) + (R : Int) := IntWalk.i64_in _ (by omega)
      have hwT : ((P : Int) + (R : Int)).tmod 256 = (T : Int) := by rw [Int.tmod_eq_emod_of_nonneg (by omega)]; exact eT
      clear g256 g257 gI gJ gT gx eT
      refine wp_region_Z (fun w' => w'.cell? ⟨g, 256, none⟩ = some (.int .i64 I) ∧ w'.cell? ⟨g, 257, none⟩ = some (.int .i64 J) ∧ w'.cell? ⟨g, I, none⟩ = some (.int .u8 P) ∧ w'.cell? ⟨g, J, none⟩ = some (.int .u8 R) ∧ w'.cell? ⟨g, T, none⟩ = some (.int .u8 Z.toNat) ∧ w'.cell? ⟨b, off + k, none⟩ = some (.int .u8 x.toNat))
        35 36 rfl (by kernel_rfl) HSS.out (fun hHeld => ?_)
      iterate 33
        refine wpAnyZ_next rfl (by kernel_rfl) (fun _ _ _ h => h) (Or.inl ⟨by rfl, by intro w hSw; obtain ⟨s0, s1, s2, s3, s4, s5⟩ := hSw; go_simp; try with_reducible rfl⟩) hHeld.out ?_
        simp only [Act.put, List.setIfInBounds_toArray, Nat.reduceAdd, List.getElem_toArray, List.getElem_cons_succ, List.getElem_cons_zero, List.set_cons_succ, List.set_cons_zero]
      clear hHeld
      refine wpAnyZ_step (by kernel_rfl) rfl (fun K hK => ?_)
      go_simp
      obtain ⟨wf, hwf⟩ : ∃ wf, wf = (we.alloc (.cells #[.int .u8 V.toNat] 5)).drew := ⟨_, rfl⟩
      have hrow : Row wf (fun b => b = we.heap.size) 1 (.slice (some ⟨we.heap.size, 0, none⟩) 1 1) 1 (u8s [V]) := by rw [hwf]; exact row_new we [V] #[.int .u8 V.toNat] 1 rfl rfl (by simp)
      rw [← hwf]
      have hkf : Keeps nobody we wf := by rw [hwf]; exact ((Keeps.refl _ we).alloc _).drew
      have hsf : we.heap.size + 1 = wf.heap.size := by rw [hwf]; simp
      obtain ⟨s0, s1, s2, s3, s4, s5⟩ := HSS.out
      have keep : ∀ q i u, we.cell? ⟨q, i, none⟩ = some u → wf.cell? ⟨q, i, none⟩ = some u := fun q i u hu => (World.cell?_of_block (w := we) (a := ⟨q, i, none⟩) (hkf.block q (cell_lt hu) (fun h => h))).trans hu
      have HSF := Lib.hid (show wf.cell? ⟨g, 256, none⟩ = some (.int .i64 I) ∧ wf.cell? ⟨g, 257, none⟩ = some (.int .i64 J) ∧ wf.cell? ⟨g, I, none⟩ = some (.int .u8 P) ∧ wf.cell? ⟨g, J, none⟩ = some (.int .u8 R) ∧ wf.cell? ⟨g, T, none⟩ = some (.int .u8 Z.toNat) ∧ wf.cell? ⟨b, off + k, none⟩ = some (.int .u8 x.toNat) from
        ⟨keep _ _ _ s0, keep _ _ _ s1, keep _ _ _ s2, keep _ _ _ s3, keep _ _ _ s4, keep _ _ _ s5⟩)
      have HBF := Lib.hid (HBE.out.keeps hkf (fun h => h))
      have HKF := Lib.hid ((HK.out.trans HKE.out).trans' hkf (fun _ h _ => h.elim))
      have HWF := Lib.hid (ownsRow_keeps (ownsRow_keeps HW.out HKE.out (fun q hq hs => by have := ownsRow_ge HW.out q hq; unfold only at hs; omega)) hkf (fun _ _ h => h))
      have HROW := Lib.hid hrow
      have hszf := HKF.out.size
      refine hK.out _ _ (fun _ => HSF.out) ?_
      clear hK K s0 s1 s2 s3 s4 s5 keep hkf hwf hrow hwP hwR hwS hwT HSS HBE HKE HK HW
      simp only [Act.put, List.setIfInBounds_toArray, Nat.reduceAdd, List.getElem_toArray, List.getElem_cons_succ, List.getElem_cons_zero, List.set_cons_succ, List.set_cons_zero]
      refine wpAnyZ_step (by kernel_rfl) rfl (fun K hK => ?_)
      rw [if_pos (by rfl)]
      refine wpo_append_u8 (.tmp 113) (.tmp 146) rfl w.heap.size _ _ (c.xor (bs.take k)).2 rfl rfl HWF.out _ _ [V] rfl HROW.out (by rw [Pure.Rc.xor_length, List.length_take]; simp; omega) (by omega) ?_
      intro v3 w3 hown3 hg3 hat3
      have hV2 : V = bs.getD k 0 ^^^ (c.xor (bs.take k)).1.next.byte := by rw [HV.out, HX.out, ← HZ.out, HD.out]
      have e3 : (c.xor (bs.take k)).2 ++ [V] = (c.xor (bs.take (k + 1))).2 := by rw [Pure.Rc.xor_take c bs k hkl, hV2]
      rw [e3] at hown3
      have hu5 : ∀ q, u5.ownBlock = some q → w.heap.size ≤ q := ownsRow_ge HWF.out
      have hne : u5.ownBlock ≠ some g := fun e => by have := hu5 g e; omega
      obtain ⟨s0, s1, s2, s3, s4, s5⟩ := HSF.out
      have hbne : u5.ownBlock ≠ some b := fun e => by have := hu5 b e; omega
      have keep : ∀ q i u, u5.ownBlock ≠ some q → wf.cell? ⟨q, i, none⟩ = some u → w3.cell? ⟨q, i, none⟩ = some u := fun q i u hq hu => (World.cell?_of_block (w := wf) (a := ⟨q, i, none⟩) (hg3.block q (cell_lt hu) (fun e => hq e.symm))).trans hu
      have hb3 := HBF.out.grown hg3 (fun e => hne e.symm)
      have hK3 : Keeps (only g) w w3 := HKF.out.grown hg3 (fun q hq hlt => by have := hu5 q hq; omega)
      refine hK.out _ _ (fun _ => ⟨keep _ _ _ hne s0, keep _ _ _ hne s1, keep _ _ _ hne s2, keep _ _ _ hne s3, keep _ _ _ hne s4, keep _ _ _ hbne s5⟩) ?_
      clear hK K s0 s1 s2 s3 s4 s5 keep
      have hg4 : v3.ownBlock ≠ some g := by
        intro e
        have := ownsRow_ge hown3 g e
        omega
      have c258 : w3.cell? ⟨g, 258, none⟩ = some (.int .i64 d.n) := by rw [hb3.cell]; exact mc_tail HS2.out 2
      have f258 := hb3.frozen 258
      have HW3 := Lib.hid hown3
      have HB3 := Lib.hid hb3
      have HK3 := Lib.hid hK3
      have HG4 := Lib.hid hg4
      have HT := Pure.Rc.xor_take c bs k hkl
      have hN : (c.xor (bs.take (k + 1))).1 = ⟨s', I, J, d.n + 1⟩ := by rw [HT, ← HNX.out, HD.out]
      have HN := Lib.hid hN
      clear hown3 hg3 hat3 e3 hV2 hne hbne hb3 hK3 hg4 hu5 HT hN HBF HKF HWF HROW HSF hsf hxz
      simp only [Act.put, List.setIfInBounds_toArray, Nat.reduceAdd, List.getElem_toArray, List.getElem_cons_succ, List.getElem_cons_zero, List.set_cons_succ, List.set_cons_zero]
      refine wpAnyZ_step (by kernel_rfl) rfl (fun K hK => ?_)
      go_simp
      refine hK.out _ _ (fun h => absurd rfl h) ?_
      clear hK K
      refine wpAnyZ_done (by kernel_rfl) ?_ _
      go_wp2
      go_roundw
      case rel =>
        refine ⟨k + 1, by omega, by go_num, own_store HW3.out HG4.out, ⟨?_, ?_⟩, HK3.out.store _ _ (fun _ => only_self _) _⟩
        · have h := HB3.out.set 258 (.int .i64 ((d.n : Int) + 1))
          rw [mc_set_n HS2.out] at h
          rw [HN.out]
          exact h
        · rw [HN.out]
          exact ⟨HS2.out, hI2, hJ2⟩
      case measure => simp [intOf]; omega
    · have hk' : k = bs.length := by omega
      have e : bs.take k = bs := by rw [hk', List.take_length]
      have HO := Lib.hid hO
      rw [e] at HO HW
      rw [Pure.Rc.xor_length] at HW
      clear hk' e hO hW hK
      go_wp2
      go_ret
      exact ⟨_, rfl, HW.out, HO.out, HK.out⟩
end Go.Proofs.Ytkfcdeeohhghhaa
