/- The law FsmStarts. -/
import Derived.Test.YtjeekhgkcphnpaaLaw12E
namespace Go.Proofs.Ytjeekhgkcphnpaa
open Go.RowKit
theorem starts_a (n : Nat) : (Pure.newMach (n + 1) 3).act2 0 = ([], ⟨2, 0, 0, n + 1, 3⟩) ∧ (⟨2, 0, 0, n + 1, 3⟩ : Pure.Mach).act2 2 = ([4, 6], ⟨6, n, 3, n + 1, 3⟩) := ⟨rfl, rfl⟩
theorem starts_b (n : Nat) : (Pure.newMach (n + 1) 3).act2 2 = ([2], ⟨1, 0, 0, n + 1, 3⟩) ∧ (⟨1, 0, 0, n + 1, 3⟩ : Pure.Mach).act2 0 = ([4, 6], ⟨6, n, 3, n + 1, 3⟩) := ⟨rfl, rfl⟩
/-- Two machines apart. -/
def Apart (S T : Nat → Prop) : Prop := ∀ b, S b → ¬ T b
section
variable {Obj : World → (Nat → Prop) → Value → Pure.Mach → Prop}
set_option maxRecDepth 100000 in
set_option maxHeartbeats 8000000 in
theorem fsmStarts_walk' (H : FsmOk Obj) (a0 : Nat) (x : Value) (l : List Int) (w : World) (h0 : a0 < 256) (hx : Row w (fun b => b < w.heap.size) 1 x l.length (zints l)) :
    Calls Try.prog 12 #[.int .u8 a0, x] w fun e w' => e = .returned (.bool true) ∧ Below w.heap.size w w' := by
  have HA := Lib.hid (awake_any H w)
  obtain ⟨A, c, rfl, _⟩ := hx.form
  have hml := hx.2.1
  unfold maxLen at hml
  have HX0 := Lib.hid hx
  clear hx
  go_enter Try.func12, Try.ntmps12
  go_wp2_with fail
  refine HA.out.mono ?_
  rintro e w1 ⟨rfl, hb1⟩
  have B1 := Lib.hid hb1
  clear hb1 HA
  by_cases hl : 200 < l.length
  · have d0 : decide ((200 : Int) < (l.length : Int)) = true := decide_eq_true (by omega)
    go_wp2
    go_ret
    exact ⟨rfl, B1.out⟩
  have d0 : decide ((200 : Int) < (l.length : Int)) = false := decide_eq_false (by omega)
  obtain ⟨T, hT⟩ : ∃ T, T = 1 + a0 % 9 := ⟨_, rfl⟩
  obtain ⟨p, hp⟩ : ∃ p, p = a0 % 9 := ⟨_, rfl⟩
  have ep : (a0 : Int).tmod 9 = (p : Int) := by rw [Int.tmod_eq_emod_of_nonneg (by omega), hp]; rfl
  have eT : (1 : Int) + (p : Int) = (T : Int) := by omega
  have hTl : 1 ≤ T ∧ T ≤ 9 := by omega
  have hTp : T = p + 1 := by omega
  have hmb : mayBe (T : Int) ((3 : Nat) : Int) := by unfold mayBe; omega
  have HTp := Lib.hid hTp
  clear hT hp hTp
  have HN := Lib.hid (H.make B1.out T 3 hmb)
  go_wp2_with fail
  refine HN.out.mono ?_
  rintro e w2 ⟨S, a, rfl, h2, _, k2⟩
  have HN2 := Lib.hid (H.make h2.below T 3 hmb)
  have O2 := Lib.hid h2
  clear h2 k2 HN B1 hmb ep
  go_wp2_with fail
  refine HN2.out.mono ?_
  rintro e w3 ⟨S2, a2, rfl, h3, hs3, k3⟩
  have hap : Apart S S2 := fun b hb h => by have h1 := H.lt O2.out.obj b hb; have h2 := hs3 b h; omega
  have hap2 : Apart S2 S := fun b hb h => hap b h hb
  have HAP := Lib.hid (And.intro hap hap2)
  have A3 := Lib.hid (O2.out.quiet H k3)
  have B3 := Lib.hid h3
  clear h3 k3 hs3 HN2 O2 hap hap2
  rw [HTp.out] at A3 B3
  have PA := Lib.hid (starts_a p)
  have PB := Lib.hid (starts_b p)
  have P1 := Lib.hid (A3.out.actAs H 0 PA.out.1)
  go_wp2_with fail
  refine P1.out.mono ?_
  rintro e w4 ⟨_, _, rfl, _, h4, k4⟩
  have A4 := Lib.hid h4
  have B4 := Lib.hid (B3.out.keeps H k4 HAP.out.2 A3.out.far)
  clear h4 k4 P1 A3 B3
  have P2 := Lib.hid (A4.out.actAs H 2 PA.out.2)
  go_wp2_with fail
  refine P2.out.mono ?_
  rintro e w5 ⟨X5, c5, rfl, r5, h5, k5⟩
  have A5 := Lib.hid h5
  have B5 := Lib.hid (B4.out.keeps H k5 HAP.out.2 A4.out.far)
  have R5 := Lib.hid (r5.mono (G := fun b => ¬ S2 b) (fun b hb hs => by have := H.lt B4.out.obj b hs; omega))
  clear h5 k5 r5 P2 A4 B4
  have P3 := Lib.hid (B5.out.actAs H 2 PB.out.1)
  go_wp2_with fail
  refine P3.out.mono ?_
  rintro e w6 ⟨_, _, rfl, _, h6, k6⟩
  have B6 := Lib.hid h6
  have A6 := Lib.hid (A5.out.keeps H k6 HAP.out.1 B5.out.far)
  have R6 := Lib.hid (R5.out.keeps k6 (fun b hb hs => hb hs))
  clear h6 k6 P3 A5 B5 R5
  have P4 := Lib.hid (B6.out.actAs H 0 PB.out.2)
  go_wp2_with fail
  refine P4.out.mono ?_
  rintro e w7 ⟨Y7, c7, rfl, r7, h7, k7⟩
  have B7 := Lib.hid h7
  have A7 := Lib.hid (A6.out.keeps H k7 HAP.out.1 B6.out.far)
  have hi := ints_any _ _ _ _ [4, 6] [4, 6] w7 (R6.out.keeps k7 (fun b hb hs => hb hs)) r7
  rw [decide_eq_true rfl] at hi
  have HI := Lib.hid hi
  clear h7 k7 r7 P4 A6 B6 R6 hi
  go_wp2_with fail
  refine HI.out.mono ?_
  rintro e w8 ⟨rfl, k8⟩
  have A8 := Lib.hid (A7.out.quiet H k8)
  have B8 := Lib.hid (B7.out.quiet H k8)
  have QS := Lib.hid (H.state S _ _ w8 A8.out.obj)
  have QS2 := Lib.hid (H.state S2 _ _ w8 B8.out.obj)
  have QC := Lib.hid (H.count S _ _ w8 A8.out.obj)
  have e1 : (T : Int) - 1 = (p : Int) := by have := HTp.out; omega
  clear k8 HI A7 B7 eT
  go_wp2_with fail
  refine QS.out.mono ?_
  rintro e w9 ⟨rfl, rfl⟩
  go_wp2_with fail
  refine QS2.out.mono ?_
  rintro e w9 ⟨rfl, rfl⟩
  go_wp2_with fail
  refine QC.out.mono ?_
  rintro e w9 ⟨rfl, rfl⟩
  clear QS QS2 QC
  go_wp2_with fail
  go_loopw [12] (fun i wr => ∃ (k : Nat) (m : Pure.Mach), k ≤ l.length ∧ i = .int .i64 (k : Int) ∧ Has Obj w wr S (.pointer (some a)) m ∧ Has Obj w wr S2 (.pointer (some a2)) m) (fun i _ => l.length - (intOf i).toNat)
  case atStart => exact ⟨0, _, by omega, rfl, A8.out, B8.out⟩
  case round =>
    obtain ⟨k, m, hk, rfl, hO, hO2⟩ := hrel
    have HO := Lib.hid hO
    have HO2 := Lib.hid hO2
    clear hO hO2
    by_cases hkl : k < l.length
    · have d1 : decide ((k : Int) < (l.length : Int)) = true := decide_eq_true (by omega)
      have d2 : decide (k < l.length) = true := decide_eq_true hkl
      have k0 : (0 : Int) ≤ (k : Int) := by omega
      have k1 : (k : Int) < (l.length : Int) := by omega
      have hXr := HX0.out.keeps (Keeps.new HO.out.below) (fun _ _ h => h)
      obtain ⟨b, off, rfl, hFb, hcell⟩ := hXr.zat k hkl
      obtain ⟨y, hy⟩ : ∃ y, y = l.getD k 0 := ⟨_, rfl⟩
      rw [← hy] at hcell
      clear hXr hy
      by_cases hy2 : y = -2
      · subst hy2
        have HT := HO.out.tick H
        have HTB := fun (w4 : World) (h : Has Obj w w4 S2 (.pointer (some a2)) m) => h.tick H
        generalize m.tick = R at HT HTB
        obtain ⟨L, M⟩ := R
        dsimp only at HT HTB
        have HT := Lib.hid HT
        have HTB := Lib.hid HTB
        go_wp2_with fail
        refine HT.out.mono ?_
        rintro r w4 ⟨X4, c4, rfl, r4, h4, k4⟩
        have A4 := Lib.hid h4
        have B4 := Lib.hid (HO2.out.keeps H k4 HAP.out.2 HO.out.far)
        have R4 := Lib.hid (r4.mono (G := fun b => ¬ S2 b) (fun b hb hs => by have := H.lt HO2.out.obj b hs; omega))
        have P5 := Lib.hid (HTB.out w4 B4.out)
        clear h4 k4 r4 HT HTB HO HO2
        go_wp2_with fail
        refine P5.out.mono ?_
        rintro r w5 ⟨Y5, e5, rfl, r5, h5, k5⟩
        have B5 := Lib.hid h5
        have A5 := Lib.hid (A4.out.keeps H k5 HAP.out.1 B4.out.far)
        have hi := ints_any _ _ _ _ L L w5 (R4.out.keeps k5 (fun b hb hs => hb hs)) r5
        rw [decide_eq_true rfl] at hi
        have HI := Lib.hid hi
        clear h5 k5 r5 P5 hi R4 A4 B4
        go_wp2_with fail
        refine HI.out.mono ?_
        rintro r w6 ⟨rfl, k6⟩
        have A6 := Lib.hid (A5.out.quiet H k6)
        have B6 := Lib.hid (B5.out.quiet H k6)
        have QS := Lib.hid (H.state S _ _ w6 A6.out.obj)
        have QS2 := Lib.hid (H.state S2 _ _ w6 B6.out.obj)
        have QC := Lib.hid (H.count S _ _ w6 A6.out.obj)
        have QC2 := Lib.hid (H.count S2 _ _ w6 B6.out.obj)
        have QR := H.running S _ _ w6 A6.out.obj
        have QR2 := H.running S2 _ _ w6 B6.out.obj
        obtain ⟨rn, hrn⟩ : ∃ rn, rn = decide (0 < M.left) := ⟨_, rfl⟩
        rw [← hrn] at QR QR2
        have QR := Lib.hid QR
        have QR2 := Lib.hid QR2
        clear k6 HI A5 B5 hrn
        go_wp2_with fail
        refine QS.out.mono ?_
        rintro r w7 ⟨rfl, rfl⟩
        go_wp2_with fail
        refine QS2.out.mono ?_
        rintro r w7 ⟨rfl, rfl⟩
        go_wp2_with fail
        refine QC.out.mono ?_
        rintro r w7 ⟨rfl, rfl⟩
        go_wp2_with fail
        refine QC2.out.mono ?_
        rintro r w7 ⟨rfl, rfl⟩
        go_wp2_with fail
        refine QR.out.mono ?_
        rintro r w7 ⟨rfl, rfl⟩
        go_wp2_with fail
        refine QR2.out.mono ?_
        rintro r w7 ⟨rfl, rfl⟩
        go_wp2_with fail
        go_roundw
        case rel => exact ⟨k + 1, M, by omega, by go_num, A6.out, B6.out⟩
        case measure => simp [intOf]; omega
      · have hyb : (y == -2) = false := by rw [beq_eq_false_iff_ne]; exact hy2
        have HT := fun (w3 : World) (h : Has Obj w w3 S (.pointer (some a)) m) => h.act H y
        have HTB := fun (w4 : World) (h : Has Obj w w4 S2 (.pointer (some a2)) m) => h.act H y
        generalize m.act2 y = R at HT HTB
        obtain ⟨L, M⟩ := R
        dsimp only at HT HTB
        have HT := Lib.hid HT
        have HTB := Lib.hid HTB
        have HFb := Lib.hid hFb
        go_upto_region 22 with fail
        refine wp_region_Z (fun w' => w'.cell? ⟨b, off + k, none⟩ = some (.int .i64 y)) 13 14 rfl (by kernel_rfl) hcell (fun hHeld => ?_)
        refine wpAnyZ_take (i := 0) rfl (by kernel_rfl) (fun _ _ _ h => h) (Or.inl ⟨by rfl, by intro w hSw; go_simp; try with_reducible rfl⟩) hHeld.out ?_
        simp only [Act.put, List.setIfInBounds_toArray, Nat.reduceAdd, List.getElem_toArray, List.getElem_cons_succ, List.getElem_cons_zero, List.set_cons_succ, List.set_cons_zero]
        refine wpAnyZ_take (i := 1) rfl (by kernel_rfl) (fun _ _ _ h => h) (Or.inl ⟨by rfl, by intro w hSw; go_simp; try with_reducible rfl⟩) hHeld.out ?_
        simp only [Act.put, List.setIfInBounds_toArray, Nat.reduceAdd, List.getElem_toArray, List.getElem_cons_succ, List.getElem_cons_zero, List.set_cons_succ, List.set_cons_zero]
        refine wpAnyZ_take (i := 2) rfl (by kernel_rfl) (fun _ _ _ h => h) (Or.inl ⟨by rfl, by intro w hSw; go_simp; try with_reducible rfl⟩) hHeld.out ?_
        simp only [Act.put, List.setIfInBounds_toArray, Nat.reduceAdd, List.getElem_toArray, List.getElem_cons_succ, List.getElem_cons_zero, List.set_cons_succ, List.set_cons_zero]
        refine wpAnyZ_take (i := 3) rfl (by kernel_rfl) (fun _ _ _ h => h) (Or.inl ⟨by rfl, by intro w hSw; go_simp; try with_reducible rfl⟩) hHeld.out ?_
        simp only [Act.put, List.setIfInBounds_toArray, Nat.reduceAdd, List.getElem_toArray, List.getElem_cons_succ, List.getElem_cons_zero, List.set_cons_succ, List.set_cons_zero]
        refine wpAnyZ_take (i := 4) rfl (by kernel_rfl) (fun _ _ _ h => h) (Or.inl ⟨by rfl, by intro w hSw; go_simp; try with_reducible rfl⟩) hHeld.out ?_
        simp only [Act.put, List.setIfInBounds_toArray, Nat.reduceAdd, List.getElem_toArray, List.getElem_cons_succ, List.getElem_cons_zero, List.set_cons_succ, List.set_cons_zero]
        refine wpAnyZ_take (i := 6) rfl (by kernel_rfl) (fun _ _ _ h => h) (Or.inl ⟨by rfl, by intro w hSw; go_simp; try with_reducible rfl⟩) hHeld.out ?_
        simp only [Act.put, List.setIfInBounds_toArray, Nat.reduceAdd, List.getElem_toArray, List.getElem_cons_succ, List.getElem_cons_zero, List.set_cons_succ, List.set_cons_zero]
        refine wpAnyZ_take (i := 7) rfl (by kernel_rfl) (fun _ _ _ h => h) (Or.inl ⟨by rfl, by intro w hSw; go_simp; try with_reducible rfl⟩) hHeld.out ?_
        simp only [Act.put, List.setIfInBounds_toArray, Nat.reduceAdd, List.getElem_toArray, List.getElem_cons_succ, List.getElem_cons_zero, List.set_cons_succ, List.set_cons_zero]
        refine wpAnyZ_take (i := 8) rfl (by kernel_rfl) (fun _ _ _ h => h) (Or.inl ⟨by rfl, by intro w hSw; go_simp; try with_reducible rfl⟩) hHeld.out ?_
        simp only [Act.put, List.setIfInBounds_toArray, Nat.reduceAdd, List.getElem_toArray, List.getElem_cons_succ, List.getElem_cons_zero, List.set_cons_succ, List.set_cons_zero]
        refine wpAnyZ_take (i := 9) rfl (by kernel_rfl) (fun _ _ _ h => h) (Or.inl ⟨by rfl, by intro w hSw; go_simp; try with_reducible rfl⟩) hHeld.out ?_
        simp only [Act.put, List.setIfInBounds_toArray, Nat.reduceAdd, List.getElem_toArray, List.getElem_cons_succ, List.getElem_cons_zero, List.set_cons_succ, List.set_cons_zero]
        refine wpAnyZ_take (i := 10) rfl (by kernel_rfl) (fun _ _ _ h => h) (Or.inl ⟨by rfl, by intro w hSw; go_simp; try with_reducible rfl⟩) hHeld.out ?_
        simp only [Act.put, List.setIfInBounds_toArray, Nat.reduceAdd, List.getElem_toArray, List.getElem_cons_succ, List.getElem_cons_zero, List.set_cons_succ, List.set_cons_zero]
        refine wpAnyZ_one (i := 5) (by kernel_rfl) rfl (fun K hK => ?_)
        go_simp
        have hkd : Keeps nobody wr wr.drew := (Keeps.refl _ wr).drew
        refine (HT.out wr.drew (HO.out.quiet H hkd)).mono ?_
        rintro r w4 ⟨X4, c4, rfl, r4, h4, k4⟩
        have A4 := Lib.hid h4
        have B4 := Lib.hid ((HO2.out.quiet H hkd).keeps H k4 HAP.out.2 HO.out.far)
        have R4 := Lib.hid (r4.mono (G := fun b => ¬ S2 b) (fun b hb hs => by have := H.lt (HO2.out.quiet H hkd).obj b hs; omega))
        have C4 := Lib.hid (show w4.cell? ⟨b, off + k, none⟩ = some (.int .i64 y) from (World.cell?_of_block (w := wr.drew) (a := ⟨b, off + k, none⟩) (k4.block b (cell_lt hHeld.out) (fun h => by have h1 := HO.out.far b h; have h2 := HFb.out; omega))).trans hHeld.out)
        refine hK.out _ _ (fun _ => C4.out) ?_
        have P5 := Lib.hid (HTB.out w4 B4.out)
        clear hK K hHeld hkd h4 k4 r4 HT HTB HO HO2 hcell
        refine wpAnyZ_one (i := 11) (by kernel_rfl) rfl (fun K hK => ?_)
        go_simp
        refine P5.out.mono ?_
        rintro r w5 ⟨Y5, e5, rfl, r5, h5, k5⟩
        have B5 := Lib.hid h5
        have A5 := Lib.hid (A4.out.keeps H k5 HAP.out.1 B4.out.far)
        have C5 := Lib.hid (show w5.cell? ⟨b, off + k, none⟩ = some (.int .i64 y) from (World.cell?_of_block (w := w4) (a := ⟨b, off + k, none⟩) (k5.block b (cell_lt C4.out) (fun h => by have h1 := B4.out.far b h; have h2 := HFb.out; omega))).trans C4.out)
        refine hK.out _ _ (fun _ => C5.out) ?_
        clear hK K
        refine wpAnyZ_one (i := 12) (by kernel_rfl) rfl (fun K hK => ?_)
        go_simp
        refine hK.out _ _ (fun _ => C5.out) ?_
        clear hK K
        refine wpAnyZ_one (i := 13) (by kernel_rfl) rfl (fun K hK => ?_)
        go_simp
        refine hK.out _ _ (fun h => absurd rfl h) ?_
        clear hK K
        refine wpAnyZ_done (by kernel_rfl) ?_ _
        have hi := ints_any _ _ _ _ L L w5 (R4.out.keeps k5 (fun b hb hs => hb hs)) r5
        rw [decide_eq_true rfl] at hi
        have HI := Lib.hid hi
        clear h5 k5 r5 P5 hi R4 A4 B4
        go_wp2_with fail
        refine HI.out.mono ?_
        rintro r w6 ⟨rfl, k6⟩
        have A6 := Lib.hid (A5.out.quiet H k6)
        have B6 := Lib.hid (B5.out.quiet H k6)
        have QS := Lib.hid (H.state S _ _ w6 A6.out.obj)
        have QS2 := Lib.hid (H.state S2 _ _ w6 B6.out.obj)
        have QC := Lib.hid (H.count S _ _ w6 A6.out.obj)
        have QC2 := Lib.hid (H.count S2 _ _ w6 B6.out.obj)
        have QR := H.running S _ _ w6 A6.out.obj
        have QR2 := H.running S2 _ _ w6 B6.out.obj
        obtain ⟨rn, hrn⟩ : ∃ rn, rn = decide (0 < M.left) := ⟨_, rfl⟩
        rw [← hrn] at QR QR2
        have QR := Lib.hid QR
        have QR2 := Lib.hid QR2
        clear k6 HI A5 B5 hrn
        go_wp2_with fail
        refine QS.out.mono ?_
        rintro r w7 ⟨rfl, rfl⟩
        go_wp2_with fail
        refine QS2.out.mono ?_
        rintro r w7 ⟨rfl, rfl⟩
        go_wp2_with fail
        refine QC.out.mono ?_
        rintro r w7 ⟨rfl, rfl⟩
        go_wp2_with fail
        refine QC2.out.mono ?_
        rintro r w7 ⟨rfl, rfl⟩
        go_wp2_with fail
        refine QR.out.mono ?_
        rintro r w7 ⟨rfl, rfl⟩
        go_wp2_with fail
        refine QR2.out.mono ?_
        rintro r w7 ⟨rfl, rfl⟩
        go_wp2_with fail
        go_roundw
        case rel => exact ⟨k + 1, M, by omega, by go_num, A6.out, B6.out⟩
        case measure => simp [intOf]; omega
    · have hkk : k = l.length := by omega
      subst hkk
      have d1 : decide ((l.length : Int) < (l.length : Int)) = false := decide_eq_false (by omega)
      have d2 : decide (l.length < l.length) = false := decide_eq_false (by omega)
      go_wp2
      go_ret
      exact ⟨rfl, HO.out.below⟩
end
end Go.Proofs.Ytjeekhgkcphnpaa
