/- The law FsmPlays. -/
import Derived.Test.YtjeekhgkcphnpaaLaw12B
import Derived.Test.YtjeekhgkcphnpaaLast
namespace Go.Proofs.Ytjeekhgkcphnpaa
open Go.RowKit
theorem opt_quiet' {w w' : World} {b off : Nat} {u : Value} (h : w.cell? ⟨b, off, none⟩ = some u) (k : Keeps nobody w w') : w'.cell? ⟨b, off, none⟩ = some u :=
  (World.cell?_of_block (w := w) (a := ⟨b, off, none⟩) (k.block b (cell_lt h) (fun x => x))).trans h
abbrev zints (l : List Int) : List Value := l.map (Value.int .i64)
theorem zints_at (l : List Int) (j : Nat) (h : j < l.length) : (zints l)[j]? = some (.int .i64 (l.getD j 0)) := by
  rw [List.getElem?_map, List.getElem?_eq_getElem h, List.getD_eq_getElem?_getD, List.getElem?_eq_getElem h]; rfl
theorem Row.strong1 {w : World} {F : Nat → Prop} {v : Value} {n : Nat} {xs : List Value} (h : Row w F 1 v n xs) : Row w (fun b => F b ∧ b < w.heap.size) 1 v n xs := by
  obtain ⟨h1, h0, A, c, h2, h3, h4, h5⟩ := h
  refine ⟨h1, h0, A, c, h2, h3, h4, fun hn => ?_⟩
  obtain ⟨b, off, e, f, g⟩ := h5 hn
  refine ⟨b, off, e, ⟨f, ?_⟩, g⟩
  exact cell_lt (g 0 xs[0] (List.getElem?_eq_getElem (by omega)))
theorem Row.zat {w : World} {F : Nat → Prop} {A : Option Addr} {c : Nat} {l : List Int} (h : Row w F 1 (.slice A l.length c) l.length (zints l)) (k : Nat) (hk : k < l.length) :
    ∃ b off, A = some ⟨b, off, none⟩ ∧ F b ∧ w.cell? ⟨b, off + k, none⟩ = some (.int .i64 (l.getD k 0)) := by
  obtain ⟨b, off, e, hF, hc⟩ := h.cellAt (by omega)
  exact ⟨b, off, e, hF, hc k _ (Go.Proofs.Ytjeekhgkcphnpaa.zints_at l k hk)⟩
section
variable {Obj : World → (Nat → Prop) → Value → Pure.Mach → Prop}
set_option maxRecDepth 100000 in
set_option maxHeartbeats 8000000 in
theorem fsmPlays_walk' (H : FsmOk Obj) (a0 a1 : Int) (x : Value) (l : List Int) (w : World) (hx : Row w (fun b => b < w.heap.size) 1 x l.length (zints l)) :
    Calls Try.prog 5 #[.int .i64 a0, .int .i64 a1, x] w fun e w' => e = .returned (.bool true) ∧ Below w.heap.size w w' := by
  have HA := Lib.hid (awake_any H w)
  obtain ⟨A, c, rfl, _⟩ := hx.form
  have hml := hx.2.1
  unfold maxLen at hml
  have HX := Lib.hid hx
  have HX0 := Lib.hid hx
  clear hx
  go_enter Try.func5, Try.ntmps5
  go_wp2_with fail
  refine HA.out.mono ?_
  rintro e w1 ⟨rfl, hb1⟩
  have B1 := Lib.hid hb1
  have X1 := Lib.hid (HX.out.keeps (Keeps.new hb1) (fun _ _ h => h))
  clear hb1 HA HX
  by_cases hl : 300 < l.length
  · have d0 : decide ((300 : Int) < (l.length : Int)) = true := decide_eq_true (by omega)
    go_wp2
    go_ret
    exact ⟨rfl, B1.out⟩
  have d0 : decide ((300 : Int) < (l.length : Int)) = false := decide_eq_false (by omega)
  by_cases hmb : mayBe a0 a1
  · have hmb' := hmb
    unfold mayBe at hmb'
    obtain ⟨t, rfl⟩ : ∃ t : Nat, a0 = (t : Int) := ⟨a0.toNat, by omega⟩
    obtain ⟨u, rfl⟩ : ∃ u : Nat, a1 = (u : Int) := ⟨a1.toNat, by omega⟩
    have HN := Lib.hid (H.make B1.out t u hmb)
    have HND := Lib.hid (fun w => docnew_ok t u w hmb)
    have hgd := Pure.newMach_good (t := t) (u := u) (by omega) (by omega)
    clear hmb'
    go_wp2_with fail
    refine HN.out.mono ?_
    rintro e w2 ⟨S, a, rfl, h2, _, k2⟩
    have X2 := Lib.hid (X1.out.keeps k2 (fun _ _ h => h))
    have O2 := Lib.hid h2
    clear h2 k2 HN B1 X1
    go_wp2_with fail
    refine (HND.out w2).mono ?_
    rintro e w3 ⟨rfl, hd3, k3⟩
    obtain ⟨g, hg⟩ : ∃ g, g = w2.heap.size := ⟨_, rfl⟩
    rw [← hg] at hd3 ⊢
    have hgS : ¬ S g := fun h => by have := H.lt O2.out.obj g h; omega
    have hgw : w.heap.size ≤ g := by rw [hg]; exact O2.out.below.size
    have O3 := Lib.hid (O2.out.quiet H k3)
    have X3 := Lib.hid (X2.out.keeps k3 (fun _ _ h => h))
    have D3 := Lib.hid hd3
    have GS := Lib.hid (And.intro hgS hgw)
    have GS3 := Lib.hid (show g < w3.heap.size from Blk.lt hd3)
    clear hd3 k3 hg O2 X2 HND hgS hgw hmb hgd
    go_wp2_with fail
    go_loopw [11] (fun i wr => ∃ (k : Nat) (m : Pure.Mach), k ≤ l.length ∧ i = .int .i64 (k : Int) ∧ Has Obj w wr S (.pointer (some a)) m ∧ DMach wr g m) (fun i _ => l.length - (intOf i).toNat)
    case atStart => exact ⟨0, _, by omega, rfl, O3.out, D3.out⟩
    case round =>
      obtain ⟨k, m, hk, rfl, hO, hD⟩ := hrel
      have HO := Lib.hid hO
      have HD := Lib.hid hD
      clear hO hD
      by_cases hkl : k < l.length
      · have d1 : decide ((k : Int) < (l.length : Int)) = true := decide_eq_true (by omega)
        have d2 : decide (k < l.length) = true := decide_eq_true hkl
        have k0 : (0 : Int) ≤ (k : Int) := by omega
        have k1 : (k : Int) < (l.length : Int) := by omega
        have hXr := HX0.out.keeps (Keeps.new HO.out.below) (fun _ _ h => h)
        obtain ⟨b, off, rfl, hFb, hcell⟩ := hXr.zat k hkl
        obtain ⟨y, hy⟩ : ∃ y, y = l.getD k 0 := ⟨_, rfl⟩
        rw [← hy] at hcell
        have HY := Lib.hid hy
        clear hXr hy
        by_cases hy2 : y = -2
        · subst hy2
          have HT := Lib.hid (HO.out.tick H)
          have GS2 := Lib.hid (show g < wr.heap.size from Blk.lt HD.out)
          have HSl := Lib.hid (H.lt HO.out.obj)
          obtain ⟨LL, hLL⟩ : ∃ LL, LL = m.tick.1 := ⟨_, rfl⟩
          obtain ⟨M, hM⟩ : ∃ M, M = m.tick.2 := ⟨_, rfl⟩
          rw [← hLL, ← hM] at HT
          have HTD := fun (w4 : World) (h : DMach w4 g m) => doctick_any g m w4 h HO.out.good HO.out.tries HO.out.timeout
          rw [← hLL, ← hM] at HTD
          have HTD := Lib.hid HTD
          clear hLL hM
          go_wp2_with fail
          refine HT.out.mono ?_
          rintro r w4 ⟨A4, c4, rfl, r4, h4, kk4⟩
          have D4 := HD.out.keeps kk4 GS.out.1
          have R4 := Lib.hid r4
          have O4 := Lib.hid h4
          have P4 := Lib.hid (HTD.out w4 D4)
          clear r4 h4 kk4 HT HTD D4 HD HO
          go_wp2_with fail
          refine P4.out.mono ?_
          rintro r w5 ⟨u5, rfl, hu5, hd5, kk5⟩
          obtain ⟨A5, c5, rfl⟩ := own_form hu5
          have hi := ints_any _ _ _ _ LL LL w5.drew ((R4.out.strong1.keeps kk5 (fun b hb h => by have h2 : b = g := h; have h3 := GS2.out; have := hb.1; omega)).keeps (Keeps.refl nobody w5).drew (fun _ _ h => h)) ((Row.of_own hu5).keeps (Keeps.refl nobody w5).drew (fun _ _ h => h))
          rw [decide_eq_true rfl] at hi
          have HI := Lib.hid (show Calls Try.prog 17 #[.slice A4 LL.length c4, .slice A5 LL.length c5] w5.drew fun e w' => e = .returned (.bool true) ∧ Keeps nobody w5 w' from hi.mono fun e w' ⟨he, h⟩ => ⟨he, (Keeps.refl nobody w5).drew.trans h⟩)
          have q0 : w5.cell? ⟨g, 0, none⟩ = some (.int .i64 (M.state : Nat)) := by rw [Blk.cell hd5]; rfl
          have q1 : w5.cell? ⟨g, 1, none⟩ = some (.int .i64 (M.count : Nat)) := by rw [Blk.cell hd5]; rfl
          have q2 : w5.cell? ⟨g, 2, none⟩ = some (.int .i64 (M.left : Nat)) := by rw [Blk.cell hd5]; rfl
          have X5 := Lib.hid (O4.out.keeps H kk5 (fun b hb h => GS.out.1 (by have h2 : b = g := h; exact h2 ▸ hb)) (fun b h => by have h2 : b = g := h; rw [h2]; exact GS.out.2))
          have D5 := Lib.hid hd5
          obtain ⟨rn, hrn⟩ : ∃ rn, rn = decide (0 < M.left) := ⟨_, rfl⟩
          have hri : decide ((0 : Int) < (M.left : Int)) = rn := by rw [hrn, decide_eq_decide]; omega
          clear hi hu5 hd5 kk5 R4 O4 P4 HSl
          go_upto_region 20 with fail
          refine wp_region_Z (fun w' => w'.cell? ⟨g, 0, none⟩ = some (.int .i64 (M.state : Nat)) ∧ w'.cell? ⟨g, 1, none⟩ = some (.int .i64 (M.count : Nat)) ∧ w'.cell? ⟨g, 2, none⟩ = some (.int .i64 (M.left : Nat))) 31 32 rfl (by kernel_rfl) ⟨q0, q1, q2⟩ (fun hHeld => ?_)
          refine wpAnyZ_take (i := 0) rfl (by kernel_rfl) (fun _ _ _ h => h) (Or.inl ⟨by rfl, by intro w hSw; obtain ⟨s0, s1, s2⟩ := hSw; go_simp; try with_reducible rfl⟩) hHeld.out ?_
          simp only [Act.put, List.setIfInBounds_toArray, Nat.reduceAdd, List.getElem_toArray, List.getElem_cons_succ, List.getElem_cons_zero, List.set_cons_succ, List.set_cons_zero]
          refine wpAnyZ_take (i := 1) rfl (by kernel_rfl) (fun _ _ _ h => h) (Or.inl ⟨by rfl, by intro w hSw; obtain ⟨s0, s1, s2⟩ := hSw; go_simp; try with_reducible rfl⟩) hHeld.out ?_
          simp only [Act.put, List.setIfInBounds_toArray, Nat.reduceAdd, List.getElem_toArray, List.getElem_cons_succ, List.getElem_cons_zero, List.set_cons_succ, List.set_cons_zero]
          refine wpAnyZ_one (i := 2) (by kernel_rfl) rfl (fun K hK => ?_)
          go_simp
          refine HI.out.mono ?_
          rintro r w6 ⟨rfl, k6⟩
          have HS6 := Lib.hid (And.intro (opt_quiet' q0 k6) (And.intro (opt_quiet' q1 k6) (opt_quiet' q2 k6)))
          refine hK.out _ _ (fun _ => HS6.out) ?_
          clear hK K hHeld
          have h6 := X5.out.quiet H k6
          have D6 := Lib.hid (D5.out.keeps k6 (fun h => h))
          have QS := Lib.hid (H.state S _ _ w6 h6.obj)
          have QC := Lib.hid (H.count S _ _ w6 h6.obj)
          have QR := H.running S _ _ w6 h6.obj
          rw [← hrn] at QR
          have QR := Lib.hid QR
          have X6 := Lib.hid h6
          clear k6 h6 q0 q1 q2 HI
          refine wpAnyZ_take (i := 3) rfl (by kernel_rfl) (fun _ _ _ h => h) (Or.inl ⟨by rfl, by intro w hSw; obtain ⟨s0, s1, s2⟩ := hSw; go_simp; try with_reducible rfl⟩) HS6.out ?_
          simp only [Act.put, List.setIfInBounds_toArray, Nat.reduceAdd, List.getElem_toArray, List.getElem_cons_succ, List.getElem_cons_zero, List.set_cons_succ, List.set_cons_zero]
          refine wpAnyZ_take (i := 4) rfl (by kernel_rfl) (fun _ _ _ h => h) (Or.inl ⟨by rfl, by intro w hSw; obtain ⟨s0, s1, s2⟩ := hSw; go_simp; try with_reducible rfl⟩) HS6.out ?_
          simp only [Act.put, List.setIfInBounds_toArray, Nat.reduceAdd, List.getElem_toArray, List.getElem_cons_succ, List.getElem_cons_zero, List.set_cons_succ, List.set_cons_zero]
          refine wpAnyZ_take (i := 5) rfl (by kernel_rfl) (fun _ _ _ h => h) (Or.inl ⟨by rfl, by intro w hSw; obtain ⟨s0, s1, s2⟩ := hSw; go_simp; try with_reducible rfl⟩) HS6.out ?_
          simp only [Act.put, List.setIfInBounds_toArray, Nat.reduceAdd, List.getElem_toArray, List.getElem_cons_succ, List.getElem_cons_zero, List.set_cons_succ, List.set_cons_zero]
          refine wpAnyZ_take (i := 7) rfl (by kernel_rfl) (fun _ _ _ h => h) (Or.inl ⟨by rfl, by intro w hSw; obtain ⟨s0, s1, s2⟩ := hSw; go_simp; try with_reducible rfl⟩) HS6.out ?_
          simp only [Act.put, List.setIfInBounds_toArray, Nat.reduceAdd, List.getElem_toArray, List.getElem_cons_succ, List.getElem_cons_zero, List.set_cons_succ, List.set_cons_zero]
          refine wpAnyZ_take (i := 8) rfl (by kernel_rfl) (fun _ _ _ h => h) (Or.inl ⟨by rfl, by intro w hSw; obtain ⟨s0, s1, s2⟩ := hSw; go_simp; try with_reducible rfl⟩) HS6.out ?_
          simp only [Act.put, List.setIfInBounds_toArray, Nat.reduceAdd, List.getElem_toArray, List.getElem_cons_succ, List.getElem_cons_zero, List.set_cons_succ, List.set_cons_zero]
          refine wpAnyZ_take (i := 9) rfl (by kernel_rfl) (fun _ _ _ h => h) (Or.inl ⟨by rfl, by intro w hSw; obtain ⟨s0, s1, s2⟩ := hSw; go_simp; try with_reducible rfl⟩) HS6.out ?_
          simp only [Act.put, List.setIfInBounds_toArray, Nat.reduceAdd, List.getElem_toArray, List.getElem_cons_succ, List.getElem_cons_zero, List.set_cons_succ, List.set_cons_zero]
          refine wpAnyZ_take (i := 10) rfl (by kernel_rfl) (fun _ _ _ h => h) (Or.inl ⟨by rfl, by intro w hSw; obtain ⟨s0, s1, s2⟩ := hSw; go_simp; try with_reducible rfl⟩) HS6.out ?_
          simp only [Act.put, List.setIfInBounds_toArray, Nat.reduceAdd, List.getElem_toArray, List.getElem_cons_succ, List.getElem_cons_zero, List.set_cons_succ, List.set_cons_zero]
          refine wpAnyZ_one (i := 6) (by kernel_rfl) rfl (fun K hK => ?_)
          rw [if_pos (by rfl)]
          go_simp
          refine QS.out.mono ?_
          rintro r w7 ⟨rfl, rfl⟩
          refine hK.out _ _ (fun _ => HS6.out) ?_
          clear hK K
          refine wpAnyZ_take (i := 11) rfl (by kernel_rfl) (fun _ _ _ h => h) (Or.inl ⟨by rfl, by intro w hSw; obtain ⟨s0, s1, s2⟩ := hSw; go_simp; try with_reducible rfl⟩) HS6.out ?_
          simp only [Act.put, List.setIfInBounds_toArray, Nat.reduceAdd, List.getElem_toArray, List.getElem_cons_succ, List.getElem_cons_zero, List.set_cons_succ, List.set_cons_zero]
          refine wpAnyZ_take (i := 12) rfl (by kernel_rfl) (fun _ _ _ h => h) (Or.inl ⟨by rfl, by intro w hSw; obtain ⟨s0, s1, s2⟩ := hSw; go_simp; try with_reducible rfl⟩) HS6.out ?_
          simp only [Act.put, List.setIfInBounds_toArray, Nat.reduceAdd, List.getElem_toArray, List.getElem_cons_succ, List.getElem_cons_zero, List.set_cons_succ, List.set_cons_zero]
          refine wpAnyZ_take (i := 13) rfl (by kernel_rfl) (fun _ _ _ h => h) (Or.inl ⟨by rfl, by intro w hSw; obtain ⟨s0, s1, s2⟩ := hSw; go_simp; try with_reducible rfl⟩) HS6.out ?_
          simp only [Act.put, List.setIfInBounds_toArray, Nat.reduceAdd, List.getElem_toArray, List.getElem_cons_succ, List.getElem_cons_zero, List.set_cons_succ, List.set_cons_zero]
          refine wpAnyZ_take (i := 14) rfl (by kernel_rfl) (fun _ _ _ h => h) (Or.inl ⟨by rfl, by intro w hSw; obtain ⟨s0, s1, s2⟩ := hSw; go_simp; try with_reducible rfl⟩) HS6.out ?_
          simp only [Act.put, List.setIfInBounds_toArray, Nat.reduceAdd, List.getElem_toArray, List.getElem_cons_succ, List.getElem_cons_zero, List.set_cons_succ, List.set_cons_zero]
          refine wpAnyZ_take (i := 16) rfl (by kernel_rfl) (fun _ _ _ h => h) (Or.inl ⟨by rfl, by intro w hSw; obtain ⟨s0, s1, s2⟩ := hSw; go_simp; try with_reducible rfl⟩) HS6.out ?_
          simp only [Act.put, List.setIfInBounds_toArray, Nat.reduceAdd, List.getElem_toArray, List.getElem_cons_succ, List.getElem_cons_zero, List.set_cons_succ, List.set_cons_zero]
          refine wpAnyZ_take (i := 17) rfl (by kernel_rfl) (fun _ _ _ h => h) (Or.inl ⟨by rfl, by intro w hSw; obtain ⟨s0, s1, s2⟩ := hSw; go_simp; try with_reducible rfl⟩) HS6.out ?_
          simp only [Act.put, List.setIfInBounds_toArray, Nat.reduceAdd, List.getElem_toArray, List.getElem_cons_succ, List.getElem_cons_zero, List.set_cons_succ, List.set_cons_zero]
          refine wpAnyZ_take (i := 18) rfl (by kernel_rfl) (fun _ _ _ h => h) (Or.inl ⟨by rfl, by intro w hSw; obtain ⟨s0, s1, s2⟩ := hSw; go_simp; try with_reducible rfl⟩) HS6.out ?_
          simp only [Act.put, List.setIfInBounds_toArray, Nat.reduceAdd, List.getElem_toArray, List.getElem_cons_succ, List.getElem_cons_zero, List.set_cons_succ, List.set_cons_zero]
          refine wpAnyZ_take (i := 19) rfl (by kernel_rfl) (fun _ _ _ h => h) (Or.inl ⟨by rfl, by intro w hSw; obtain ⟨s0, s1, s2⟩ := hSw; go_simp; try with_reducible rfl⟩) HS6.out ?_
          simp only [Act.put, List.setIfInBounds_toArray, Nat.reduceAdd, List.getElem_toArray, List.getElem_cons_succ, List.getElem_cons_zero, List.set_cons_succ, List.set_cons_zero]
          refine wpAnyZ_one (i := 15) (by kernel_rfl) rfl (fun K hK => ?_)
          rw [if_pos (by rfl)]
          go_simp
          refine QC.out.mono ?_
          rintro r w7 ⟨rfl, rfl⟩
          refine hK.out _ _ (fun _ => HS6.out) ?_
          clear hK K
          refine wpAnyZ_take (i := 20) rfl (by kernel_rfl) (fun _ _ _ h => h) (Or.inl ⟨by rfl, by intro w hSw; obtain ⟨s0, s1, s2⟩ := hSw; go_simp; try with_reducible rfl⟩) HS6.out ?_
          simp only [Act.put, List.setIfInBounds_toArray, Nat.reduceAdd, List.getElem_toArray, List.getElem_cons_succ, List.getElem_cons_zero, List.set_cons_succ, List.set_cons_zero]
          refine wpAnyZ_take (i := 21) rfl (by kernel_rfl) (fun _ _ _ h => h) (Or.inl ⟨by rfl, by intro w hSw; obtain ⟨s0, s1, s2⟩ := hSw; go_simp; try with_reducible rfl⟩) HS6.out ?_
          simp only [Act.put, List.setIfInBounds_toArray, Nat.reduceAdd, List.getElem_toArray, List.getElem_cons_succ, List.getElem_cons_zero, List.set_cons_succ, List.set_cons_zero]
          refine wpAnyZ_take (i := 22) rfl (by kernel_rfl) (fun _ _ _ h => h) (Or.inl ⟨by rfl, by intro w hSw; obtain ⟨s0, s1, s2⟩ := hSw; go_simp; try with_reducible rfl⟩) HS6.out ?_
          simp only [Act.put, List.setIfInBounds_toArray, Nat.reduceAdd, List.getElem_toArray, List.getElem_cons_succ, List.getElem_cons_zero, List.set_cons_succ, List.set_cons_zero]
          refine wpAnyZ_take (i := 23) rfl (by kernel_rfl) (fun _ _ _ h => h) (Or.inl ⟨by rfl, by intro w hSw; obtain ⟨s0, s1, s2⟩ := hSw; go_simp; try with_reducible rfl⟩) HS6.out ?_
          simp only [Act.put, List.setIfInBounds_toArray, Nat.reduceAdd, List.getElem_toArray, List.getElem_cons_succ, List.getElem_cons_zero, List.set_cons_succ, List.set_cons_zero]
          refine wpAnyZ_take (i := 25) rfl (by kernel_rfl) (fun _ _ _ h => h) (Or.inl ⟨by rfl, by intro w hSw; obtain ⟨s0, s1, s2⟩ := hSw; go_simp; try with_reducible rfl⟩) HS6.out ?_
          simp only [Act.put, List.setIfInBounds_toArray, Nat.reduceAdd, List.getElem_toArray, List.getElem_cons_succ, List.getElem_cons_zero, List.set_cons_succ, List.set_cons_zero]
          refine wpAnyZ_take (i := 26) rfl (by kernel_rfl) (fun _ _ _ h => h) (Or.inl ⟨by rfl, by intro w hSw; obtain ⟨s0, s1, s2⟩ := hSw; go_simp; try with_reducible rfl⟩) HS6.out ?_
          simp only [Act.put, List.setIfInBounds_toArray, Nat.reduceAdd, List.getElem_toArray, List.getElem_cons_succ, List.getElem_cons_zero, List.set_cons_succ, List.set_cons_zero]
          refine wpAnyZ_take (i := 27) rfl (by kernel_rfl) (fun _ _ _ h => h) (Or.inl ⟨by rfl, by intro w hSw; obtain ⟨s0, s1, s2⟩ := hSw; go_simp; try with_reducible rfl⟩) HS6.out ?_
          simp only [Act.put, List.setIfInBounds_toArray, Nat.reduceAdd, List.getElem_toArray, List.getElem_cons_succ, List.getElem_cons_zero, List.set_cons_succ, List.set_cons_zero]
          refine wpAnyZ_take (i := 28) rfl (by kernel_rfl) (fun _ _ _ h => h) (Or.inl ⟨by rfl, by intro w hSw; obtain ⟨s0, s1, s2⟩ := hSw; go_simp; try with_reducible rfl⟩) HS6.out ?_
          simp only [Act.put, List.setIfInBounds_toArray, Nat.reduceAdd, List.getElem_toArray, List.getElem_cons_succ, List.getElem_cons_zero, List.set_cons_succ, List.set_cons_zero]
          refine wpAnyZ_take (i := 29) rfl (by kernel_rfl) (fun _ _ _ h => h) (Or.inl ⟨by rfl, by intro w hSw; obtain ⟨s0, s1, s2⟩ := hSw; go_simp; try with_reducible rfl⟩) HS6.out ?_
          simp only [Act.put, List.setIfInBounds_toArray, Nat.reduceAdd, List.getElem_toArray, List.getElem_cons_succ, List.getElem_cons_zero, List.set_cons_succ, List.set_cons_zero]
          refine wpAnyZ_one (i := 24) (by kernel_rfl) rfl (fun K hK => ?_)
          rw [if_pos (by rfl)]
          go_simp
          refine QR.out.mono ?_
          rintro r w7 ⟨rfl, rfl⟩
          refine hK.out _ _ (fun _ => HS6.out) ?_
          clear hK K
          refine wpAnyZ_take (i := 30) rfl (by kernel_rfl) (fun _ _ _ h => h) (Or.inl ⟨by rfl, by intro w hSw; obtain ⟨s0, s1, s2⟩ := hSw; go_simp; try with_reducible rfl⟩) HS6.out ?_
          simp only [Act.put, List.setIfInBounds_toArray, Nat.reduceAdd, List.getElem_toArray, List.getElem_cons_succ, List.getElem_cons_zero, List.set_cons_succ, List.set_cons_zero]
          refine wpAnyZ_one (i := 31) (by kernel_rfl) rfl (fun K hK => ?_)
          go_simp
          refine hK.out _ _ (fun h => absurd rfl h) ?_
          clear hK K
          refine wpAnyZ_done (by kernel_rfl) ?_ _
          go_wp2_with fail
          go_roundw
          case rel => exact ⟨k + 1, M, by omega, by go_num, X6.out, D6.out⟩
          case measure => simp [intOf]; omega
        · have hyb : (y == -2) = false := by rw [beq_eq_false_iff_ne]; exact hy2
          have HT := Lib.hid (HO.out.act H y)
          have GS2 := Lib.hid (show g < wr.heap.size from Blk.lt HD.out)
          have HSl := Lib.hid (H.lt HO.out.obj)
          obtain ⟨LL, hLL⟩ : ∃ LL, LL = (m.act2 y).1 := ⟨_, rfl⟩
          obtain ⟨M, hM⟩ : ∃ M, M = (m.act2 y).2 := ⟨_, rfl⟩
          rw [← hLL, ← hM] at HT
          have HTD := fun (w4 : World) (h : DMach w4 g m) => docdo_any g y m w4 h HO.out.good HO.out.tries
          rw [← hLL, ← hM] at HTD
          have HTD := Lib.hid HTD
          clear hLL hM
          go_wp2_with fail
          refine HT.out.mono ?_
          rintro r w4 ⟨A4, c4, rfl, r4, h4, kk4⟩
          have D4 := HD.out.keeps kk4 GS.out.1
          have R4 := Lib.hid r4
          have O4 := Lib.hid h4
          have P4 := Lib.hid (HTD.out w4 D4)
          have hXr := HX0.out.keeps (Keeps.new h4.below) (fun _ _ h => h)
          obtain ⟨b', off', e', _, hcell'⟩ := hXr.zat k hkl
          injection e' with e'
          injection e' with e1 e2
          subst e1 e2
          rw [← HY.out] at hcell'
          clear r4 h4 kk4 HT HTD D4 HD HO hcell hXr
          go_wp2_with fail
          refine P4.out.mono ?_
          rintro r w5 ⟨u5, rfl, hu5, hd5, kk5⟩
          obtain ⟨A5, c5, rfl⟩ := own_form hu5
          have hi := ints_any _ _ _ _ LL LL w5.drew ((R4.out.strong1.keeps kk5 (fun b hb h => by have h2 : b = g := h; have h3 := GS2.out; have := hb.1; omega)).keeps (Keeps.refl nobody w5).drew (fun _ _ h => h)) ((Row.of_own hu5).keeps (Keeps.refl nobody w5).drew (fun _ _ h => h))
          rw [decide_eq_true rfl] at hi
          have HI := Lib.hid (show Calls Try.prog 17 #[.slice A4 LL.length c4, .slice A5 LL.length c5] w5.drew fun e w' => e = .returned (.bool true) ∧ Keeps nobody w5 w' from hi.mono fun e w' ⟨he, h⟩ => ⟨he, (Keeps.refl nobody w5).drew.trans h⟩)
          have q0 : w5.cell? ⟨g, 0, none⟩ = some (.int .i64 (M.state : Nat)) := by rw [Blk.cell hd5]; rfl
          have q1 : w5.cell? ⟨g, 1, none⟩ = some (.int .i64 (M.count : Nat)) := by rw [Blk.cell hd5]; rfl
          have q2 : w5.cell? ⟨g, 2, none⟩ = some (.int .i64 (M.left : Nat)) := by rw [Blk.cell hd5]; rfl
          have X5 := Lib.hid (O4.out.keeps H kk5 (fun b hb h => GS.out.1 (by have h2 : b = g := h; exact h2 ▸ hb)) (fun b h => by have h2 : b = g := h; rw [h2]; exact GS.out.2))
          have D5 := Lib.hid hd5
          obtain ⟨rn, hrn⟩ : ∃ rn, rn = decide (0 < M.left) := ⟨_, rfl⟩
          have hri : decide ((0 : Int) < (M.left : Int)) = rn := by rw [hrn, decide_eq_decide]; omega
          clear hi hu5 hd5 kk5 R4 O4 P4 HSl
          go_upto_region 20 with fail
          refine wp_region_Z (fun w' => w'.cell? ⟨g, 0, none⟩ = some (.int .i64 (M.state : Nat)) ∧ w'.cell? ⟨g, 1, none⟩ = some (.int .i64 (M.count : Nat)) ∧ w'.cell? ⟨g, 2, none⟩ = some (.int .i64 (M.left : Nat))) 31 32 rfl (by kernel_rfl) ⟨q0, q1, q2⟩ (fun hHeld => ?_)
          refine wpAnyZ_take (i := 0) rfl (by kernel_rfl) (fun _ _ _ h => h) (Or.inl ⟨by rfl, by intro w hSw; obtain ⟨s0, s1, s2⟩ := hSw; go_simp; try with_reducible rfl⟩) hHeld.out ?_
          simp only [Act.put, List.setIfInBounds_toArray, Nat.reduceAdd, List.getElem_toArray, List.getElem_cons_succ, List.getElem_cons_zero, List.set_cons_succ, List.set_cons_zero]
          refine wpAnyZ_take (i := 1) rfl (by kernel_rfl) (fun _ _ _ h => h) (Or.inl ⟨by rfl, by intro w hSw; obtain ⟨s0, s1, s2⟩ := hSw; go_simp; try with_reducible rfl⟩) hHeld.out ?_
          simp only [Act.put, List.setIfInBounds_toArray, Nat.reduceAdd, List.getElem_toArray, List.getElem_cons_succ, List.getElem_cons_zero, List.set_cons_succ, List.set_cons_zero]
          refine wpAnyZ_one (i := 2) (by kernel_rfl) rfl (fun K hK => ?_)
          go_simp
          refine HI.out.mono ?_
          rintro r w6 ⟨rfl, k6⟩
          have HS6 := Lib.hid (And.intro (opt_quiet' q0 k6) (And.intro (opt_quiet' q1 k6) (opt_quiet' q2 k6)))
          refine hK.out _ _ (fun _ => HS6.out) ?_
          clear hK K hHeld
          have h6 := X5.out.quiet H k6
          have D6 := Lib.hid (D5.out.keeps k6 (fun h => h))
          have QS := Lib.hid (H.state S _ _ w6 h6.obj)
          have QC := Lib.hid (H.count S _ _ w6 h6.obj)
          have QR := H.running S _ _ w6 h6.obj
          rw [← hrn] at QR
          have QR := Lib.hid QR
          have X6 := Lib.hid h6
          clear k6 h6 q0 q1 q2 HI
          refine wpAnyZ_take (i := 3) rfl (by kernel_rfl) (fun _ _ _ h => h) (Or.inl ⟨by rfl, by intro w hSw; obtain ⟨s0, s1, s2⟩ := hSw; go_simp; try with_reducible rfl⟩) HS6.out ?_
          simp only [Act.put, List.setIfInBounds_toArray, Nat.reduceAdd, List.getElem_toArray, List.getElem_cons_succ, List.getElem_cons_zero, List.set_cons_succ, List.set_cons_zero]
          refine wpAnyZ_take (i := 4) rfl (by kernel_rfl) (fun _ _ _ h => h) (Or.inl ⟨by rfl, by intro w hSw; obtain ⟨s0, s1, s2⟩ := hSw; go_simp; try with_reducible rfl⟩) HS6.out ?_
          simp only [Act.put, List.setIfInBounds_toArray, Nat.reduceAdd, List.getElem_toArray, List.getElem_cons_succ, List.getElem_cons_zero, List.set_cons_succ, List.set_cons_zero]
          refine wpAnyZ_take (i := 5) rfl (by kernel_rfl) (fun _ _ _ h => h) (Or.inl ⟨by rfl, by intro w hSw; obtain ⟨s0, s1, s2⟩ := hSw; go_simp; try with_reducible rfl⟩) HS6.out ?_
          simp only [Act.put, List.setIfInBounds_toArray, Nat.reduceAdd, List.getElem_toArray, List.getElem_cons_succ, List.getElem_cons_zero, List.set_cons_succ, List.set_cons_zero]
          refine wpAnyZ_take (i := 7) rfl (by kernel_rfl) (fun _ _ _ h => h) (Or.inl ⟨by rfl, by intro w hSw; obtain ⟨s0, s1, s2⟩ := hSw; go_simp; try with_reducible rfl⟩) HS6.out ?_
          simp only [Act.put, List.setIfInBounds_toArray, Nat.reduceAdd, List.getElem_toArray, List.getElem_cons_succ, List.getElem_cons_zero, List.set_cons_succ, List.set_cons_zero]
          refine wpAnyZ_take (i := 8) rfl (by kernel_rfl) (fun _ _ _ h => h) (Or.inl ⟨by rfl, by intro w hSw; obtain ⟨s0, s1, s2⟩ := hSw; go_simp; try with_reducible rfl⟩) HS6.out ?_
          simp only [Act.put, List.setIfInBounds_toArray, Nat.reduceAdd, List.getElem_toArray, List.getElem_cons_succ, List.getElem_cons_zero, List.set_cons_succ, List.set_cons_zero]
          refine wpAnyZ_take (i := 9) rfl (by kernel_rfl) (fun _ _ _ h => h) (Or.inl ⟨by rfl, by intro w hSw; obtain ⟨s0, s1, s2⟩ := hSw; go_simp; try with_reducible rfl⟩) HS6.out ?_
          simp only [Act.put, List.setIfInBounds_toArray, Nat.reduceAdd, List.getElem_toArray, List.getElem_cons_succ, List.getElem_cons_zero, List.set_cons_succ, List.set_cons_zero]
          refine wpAnyZ_take (i := 10) rfl (by kernel_rfl) (fun _ _ _ h => h) (Or.inl ⟨by rfl, by intro w hSw; obtain ⟨s0, s1, s2⟩ := hSw; go_simp; try with_reducible rfl⟩) HS6.out ?_
          simp only [Act.put, List.setIfInBounds_toArray, Nat.reduceAdd, List.getElem_toArray, List.getElem_cons_succ, List.getElem_cons_zero, List.set_cons_succ, List.set_cons_zero]
          refine wpAnyZ_one (i := 6) (by kernel_rfl) rfl (fun K hK => ?_)
          rw [if_pos (by rfl)]
          go_simp
          refine QS.out.mono ?_
          rintro r w7 ⟨rfl, rfl⟩
          refine hK.out _ _ (fun _ => HS6.out) ?_
          clear hK K
          refine wpAnyZ_take (i := 11) rfl (by kernel_rfl) (fun _ _ _ h => h) (Or.inl ⟨by rfl, by intro w hSw; obtain ⟨s0, s1, s2⟩ := hSw; go_simp; try with_reducible rfl⟩) HS6.out ?_
          simp only [Act.put, List.setIfInBounds_toArray, Nat.reduceAdd, List.getElem_toArray, List.getElem_cons_succ, List.getElem_cons_zero, List.set_cons_succ, List.set_cons_zero]
          refine wpAnyZ_take (i := 12) rfl (by kernel_rfl) (fun _ _ _ h => h) (Or.inl ⟨by rfl, by intro w hSw; obtain ⟨s0, s1, s2⟩ := hSw; go_simp; try with_reducible rfl⟩) HS6.out ?_
          simp only [Act.put, List.setIfInBounds_toArray, Nat.reduceAdd, List.getElem_toArray, List.getElem_cons_succ, List.getElem_cons_zero, List.set_cons_succ, List.set_cons_zero]
          refine wpAnyZ_take (i := 13) rfl (by kernel_rfl) (fun _ _ _ h => h) (Or.inl ⟨by rfl, by intro w hSw; obtain ⟨s0, s1, s2⟩ := hSw; go_simp; try with_reducible rfl⟩) HS6.out ?_
          simp only [Act.put, List.setIfInBounds_toArray, Nat.reduceAdd, List.getElem_toArray, List.getElem_cons_succ, List.getElem_cons_zero, List.set_cons_succ, List.set_cons_zero]
          refine wpAnyZ_take (i := 14) rfl (by kernel_rfl) (fun _ _ _ h => h) (Or.inl ⟨by rfl, by intro w hSw; obtain ⟨s0, s1, s2⟩ := hSw; go_simp; try with_reducible rfl⟩) HS6.out ?_
          simp only [Act.put, List.setIfInBounds_toArray, Nat.reduceAdd, List.getElem_toArray, List.getElem_cons_succ, List.getElem_cons_zero, List.set_cons_succ, List.set_cons_zero]
          refine wpAnyZ_take (i := 16) rfl (by kernel_rfl) (fun _ _ _ h => h) (Or.inl ⟨by rfl, by intro w hSw; obtain ⟨s0, s1, s2⟩ := hSw; go_simp; try with_reducible rfl⟩) HS6.out ?_
          simp only [Act.put, List.setIfInBounds_toArray, Nat.reduceAdd, List.getElem_toArray, List.getElem_cons_succ, List.getElem_cons_zero, List.set_cons_succ, List.set_cons_zero]
          refine wpAnyZ_take (i := 17) rfl (by kernel_rfl) (fun _ _ _ h => h) (Or.inl ⟨by rfl, by intro w hSw; obtain ⟨s0, s1, s2⟩ := hSw; go_simp; try with_reducible rfl⟩) HS6.out ?_
          simp only [Act.put, List.setIfInBounds_toArray, Nat.reduceAdd, List.getElem_toArray, List.getElem_cons_succ, List.getElem_cons_zero, List.set_cons_succ, List.set_cons_zero]
          refine wpAnyZ_take (i := 18) rfl (by kernel_rfl) (fun _ _ _ h => h) (Or.inl ⟨by rfl, by intro w hSw; obtain ⟨s0, s1, s2⟩ := hSw; go_simp; try with_reducible rfl⟩) HS6.out ?_
          simp only [Act.put, List.setIfInBounds_toArray, Nat.reduceAdd, List.getElem_toArray, List.getElem_cons_succ, List.getElem_cons_zero, List.set_cons_succ, List.set_cons_zero]
          refine wpAnyZ_take (i := 19) rfl (by kernel_rfl) (fun _ _ _ h => h) (Or.inl ⟨by rfl, by intro w hSw; obtain ⟨s0, s1, s2⟩ := hSw; go_simp; try with_reducible rfl⟩) HS6.out ?_
          simp only [Act.put, List.setIfInBounds_toArray, Nat.reduceAdd, List.getElem_toArray, List.getElem_cons_succ, List.getElem_cons_zero, List.set_cons_succ, List.set_cons_zero]
          refine wpAnyZ_one (i := 15) (by kernel_rfl) rfl (fun K hK => ?_)
          rw [if_pos (by rfl)]
          go_simp
          refine QC.out.mono ?_
          rintro r w7 ⟨rfl, rfl⟩
          refine hK.out _ _ (fun _ => HS6.out) ?_
          clear hK K
          refine wpAnyZ_take (i := 20) rfl (by kernel_rfl) (fun _ _ _ h => h) (Or.inl ⟨by rfl, by intro w hSw; obtain ⟨s0, s1, s2⟩ := hSw; go_simp; try with_reducible rfl⟩) HS6.out ?_
          simp only [Act.put, List.setIfInBounds_toArray, Nat.reduceAdd, List.getElem_toArray, List.getElem_cons_succ, List.getElem_cons_zero, List.set_cons_succ, List.set_cons_zero]
          refine wpAnyZ_take (i := 21) rfl (by kernel_rfl) (fun _ _ _ h => h) (Or.inl ⟨by rfl, by intro w hSw; obtain ⟨s0, s1, s2⟩ := hSw; go_simp; try with_reducible rfl⟩) HS6.out ?_
          simp only [Act.put, List.setIfInBounds_toArray, Nat.reduceAdd, List.getElem_toArray, List.getElem_cons_succ, List.getElem_cons_zero, List.set_cons_succ, List.set_cons_zero]
          refine wpAnyZ_take (i := 22) rfl (by kernel_rfl) (fun _ _ _ h => h) (Or.inl ⟨by rfl, by intro w hSw; obtain ⟨s0, s1, s2⟩ := hSw; go_simp; try with_reducible rfl⟩) HS6.out ?_
          simp only [Act.put, List.setIfInBounds_toArray, Nat.reduceAdd, List.getElem_toArray, List.getElem_cons_succ, List.getElem_cons_zero, List.set_cons_succ, List.set_cons_zero]
          refine wpAnyZ_take (i := 23) rfl (by kernel_rfl) (fun _ _ _ h => h) (Or.inl ⟨by rfl, by intro w hSw; obtain ⟨s0, s1, s2⟩ := hSw; go_simp; try with_reducible rfl⟩) HS6.out ?_
          simp only [Act.put, List.setIfInBounds_toArray, Nat.reduceAdd, List.getElem_toArray, List.getElem_cons_succ, List.getElem_cons_zero, List.set_cons_succ, List.set_cons_zero]
          refine wpAnyZ_take (i := 25) rfl (by kernel_rfl) (fun _ _ _ h => h) (Or.inl ⟨by rfl, by intro w hSw; obtain ⟨s0, s1, s2⟩ := hSw; go_simp; try with_reducible rfl⟩) HS6.out ?_
          simp only [Act.put, List.setIfInBounds_toArray, Nat.reduceAdd, List.getElem_toArray, List.getElem_cons_succ, List.getElem_cons_zero, List.set_cons_succ, List.set_cons_zero]
          refine wpAnyZ_take (i := 26) rfl (by kernel_rfl) (fun _ _ _ h => h) (Or.inl ⟨by rfl, by intro w hSw; obtain ⟨s0, s1, s2⟩ := hSw; go_simp; try with_reducible rfl⟩) HS6.out ?_
          simp only [Act.put, List.setIfInBounds_toArray, Nat.reduceAdd, List.getElem_toArray, List.getElem_cons_succ, List.getElem_cons_zero, List.set_cons_succ, List.set_cons_zero]
          refine wpAnyZ_take (i := 27) rfl (by kernel_rfl) (fun _ _ _ h => h) (Or.inl ⟨by rfl, by intro w hSw; obtain ⟨s0, s1, s2⟩ := hSw; go_simp; try with_reducible rfl⟩) HS6.out ?_
          simp only [Act.put, List.setIfInBounds_toArray, Nat.reduceAdd, List.getElem_toArray, List.getElem_cons_succ, List.getElem_cons_zero, List.set_cons_succ, List.set_cons_zero]
          refine wpAnyZ_take (i := 28) rfl (by kernel_rfl) (fun _ _ _ h => h) (Or.inl ⟨by rfl, by intro w hSw; obtain ⟨s0, s1, s2⟩ := hSw; go_simp; try with_reducible rfl⟩) HS6.out ?_
          simp only [Act.put, List.setIfInBounds_toArray, Nat.reduceAdd, List.getElem_toArray, List.getElem_cons_succ, List.getElem_cons_zero, List.set_cons_succ, List.set_cons_zero]
          refine wpAnyZ_take (i := 29) rfl (by kernel_rfl) (fun _ _ _ h => h) (Or.inl ⟨by rfl, by intro w hSw; obtain ⟨s0, s1, s2⟩ := hSw; go_simp; try with_reducible rfl⟩) HS6.out ?_
          simp only [Act.put, List.setIfInBounds_toArray, Nat.reduceAdd, List.getElem_toArray, List.getElem_cons_succ, List.getElem_cons_zero, List.set_cons_succ, List.set_cons_zero]
          refine wpAnyZ_one (i := 24) (by kernel_rfl) rfl (fun K hK => ?_)
          rw [if_pos (by rfl)]
          go_simp
          refine QR.out.mono ?_
          rintro r w7 ⟨rfl, rfl⟩
          refine hK.out _ _ (fun _ => HS6.out) ?_
          clear hK K
          refine wpAnyZ_take (i := 30) rfl (by kernel_rfl) (fun _ _ _ h => h) (Or.inl ⟨by rfl, by intro w hSw; obtain ⟨s0, s1, s2⟩ := hSw; go_simp; try with_reducible rfl⟩) HS6.out ?_
          simp only [Act.put, List.setIfInBounds_toArray, Nat.reduceAdd, List.getElem_toArray, List.getElem_cons_succ, List.getElem_cons_zero, List.set_cons_succ, List.set_cons_zero]
          refine wpAnyZ_one (i := 31) (by kernel_rfl) rfl (fun K hK => ?_)
          go_simp
          refine hK.out _ _ (fun h => absurd rfl h) ?_
          clear hK K
          refine wpAnyZ_done (by kernel_rfl) ?_ _
          go_wp2_with fail
          go_roundw
          case rel => exact ⟨k + 1, M, by omega, by go_num, X6.out, D6.out⟩
          case measure => simp [intOf]; omega
      · have hkk : k = l.length := by omega
        subst hkk
        have d1 : decide ((l.length : Int) < (l.length : Int)) = false := decide_eq_false (by omega)
        have d2 : decide (l.length < l.length) = false := decide_eq_false (by omega)
        go_wp2
        go_ret
        exact ⟨rfl, HO.out.below⟩
  · have HN := Lib.hid (H.newBad a0 a1 w1 hmb)
    have HND := Lib.hid (fun w => docnew_bad a0 a1 w hmb)
    clear hmb
    go_wp2_with fail
    refine HN.out.mono ?_
    rintro e w2 ⟨rfl, k2⟩
    have B2 := Lib.hid (Below.quiet B1.out k2 B1.out.size)
    clear k2 HN B1 X1
    go_wp2_with fail
    refine (HND.out w2).mono ?_
    rintro e w3 ⟨rfl, rfl⟩
    go_wp2
    go_ret
    exact ⟨rfl, B2.out⟩
end
end Go.Proofs.Ytjeekhgkcphnpaa
