/- des: the function that mixes half a block with the key of a round. -/
import Derived.Test.YtmelphlgpnmopaaEncT
import Derived.Test.YtmelphlgpnmopaaEncG
namespace Go.Proofs.Ytmelphlgpnmopaa
open Go.RowKit
/-- What mixer makes. -/
def Mixes (w : World) (f : Value) : Prop :=
  ∃ a b fp fe, f = .func (.func 28) #[] #[.pointer (some ⟨a, 0, none⟩), .pointer (some ⟨b, 0, none⟩)] ∧ w.cell? ⟨a, 0, none⟩ = some fp ∧ w.cell? ⟨b, 0, none⟩ = some fe ∧ Picks w fp 32 Pure.desP ∧ Picks w fe 32 Pure.expand
theorem Mixes.keeps {w w' : World} {f : Value} (h : Mixes w f) (k : Keeps nobody w w') : Mixes w' f := by
  obtain ⟨a, b, fp, fe, e, h1, h2, h3, h4⟩ := h
  exact ⟨a, b, fp, fe, e, cell_keeps h1 k, cell_keeps h2 k, h3.keeps k, h4.keeps k⟩
theorem desP_in : ∀ k < 32, 1 ≤ Pure.desP.getD k 0 ∧ Pure.desP.getD k 0 ≤ 32 := by decide +kernel
/-- A picker's call, in whatever world that kept it. -/
theorem picks_call {n : Nat} {f : Value} {ps : List Nat} {w : World} (hf : Picks w f n ps) (hn : n ≤ 64) (hp : ps.length ≤ 64) (hin : ∀ k, k < ps.length → 1 ≤ ps.getD k 0 ∧ ps.getD k 0 ≤ n) :
    ∃ a b, f = .func (.func 30) #[] #[.pointer (some ⟨a, 0, none⟩), .pointer (some ⟨b, 0, none⟩)] ∧ ∀ (l : List Bool), l.length = n → ∀ w', Keeps nobody w w' →
      Calls Try.prog 30 #[.int .u64 ((Pure.val l : Nat) : Int), .pointer (some ⟨a, 0, none⟩), .pointer (some ⟨b, 0, none⟩)] w' fun e w'' => e = .returned (.int .u64 ((Pure.val (Pure.pick l ps) : Nat) : Int)) ∧ Keeps nobody w' w'' := by
  obtain ⟨a, b, u, e, h1, h2, h3⟩ := hf
  refine ⟨a, b, e, fun l hl w' hk => ?_⟩
  exact (picked_any n f ps w' ⟨a, b, u, e, cell_keeps h1 hk, cell_keeps h2 hk, h3.keeps hk (fun _ _ h => h)⟩ l hl hn hp hin a b e).mono fun _ _ ⟨h, q, hq⟩ => ⟨h, Keeps.of_drewN hq⟩
set_option maxHeartbeats 2000000 in
theorem mixed_any (r k : List Bool) (hr : r.length = 32) (hk : k.length = 48) (f : Value) (w : World) (hf : Mixes w f) (a b : Nat)
    (he : f = .func (.func 28) #[] #[.pointer (some ⟨a, 0, none⟩), .pointer (some ⟨b, 0, none⟩)]) :
    Calls Try.prog 28 #[.int .u64 ((Pure.val r : Nat) : Int), .int .u64 ((Pure.val k : Nat) : Int), .pointer (some ⟨a, 0, none⟩), .pointer (some ⟨b, 0, none⟩)] w fun e w' => e = .returned (.int .u64 ((Pure.val (Pure.desF r k) : Nat) : Int)) ∧ Keeps nobody w w' := by
  obtain ⟨a', b', fp, fe, e, h1, h2, h3, h4⟩ := hf
  obtain ⟨rfl, rfl⟩ : a' = a ∧ b' = b := by
    rw [he] at e
    injection e with _ _ e
    simp at e
    exact ⟨e.1.symm, e.2.symm⟩
  clear he e
  obtain ⟨pa, pb, rfl, hP⟩ := picks_call h3 (by omega) (by decide) desP_in
  obtain ⟨ea, eb, rfl, hE⟩ := picks_call h4 (by omega) (by rw [Pure.expand_length]; omega) (by rw [Pure.expand_length]; exact Pure.expand_range)
  have HP := Lib.hid (hP (Pure.desOuts r k 8) (by rw [outs_length]))
  have HE := Lib.hid (hE r hr)
  have HS := Lib.hid (substituted_any r k hr hk)
  have hx := Pure.val_xors (Pure.pick r Pure.expand) k (by rw [Pure.pick_length, Pure.expand_length, hk])
  have l1 := Pure.val_lt (Pure.pick r Pure.expand)
  have l2 := Pure.val_lt k
  rw [Pure.pick_length, Pure.expand_length] at l1
  rw [hk] at l2
  have e1 := xor_u64 _ _ _ hx.symm (by omega) (by omega)
  obtain ⟨V1, hV1⟩ : ∃ V, V = Pure.val (Pure.pick r Pure.expand) := ⟨_, rfl⟩
  obtain ⟨V2, hV2⟩ : ∃ V, V = Pure.val k := ⟨_, rfl⟩
  obtain ⟨V3, hV3⟩ : ∃ V, V = Pure.val (Pure.xors (Pure.pick r Pure.expand) k) := ⟨_, rfl⟩
  rw [← hV1, ← hV2, ← hV3] at e1
  rw [← hV1] at HE
  rw [← hV3] at HS
  rw [← hV2]
  clear hV1 hV2 hV3 h3 h4 hP hE hx l1 l2 hr hk
  go_enter Try.func28, Try.ntmps28
  go_upto_region 1 with fail
  refine wp_region_Z (fun w' => Keeps nobody w w' ∧ w'.cell? ⟨a', 0, none⟩ = some (.func (.func 30) #[] #[.pointer (some ⟨pa, 0, none⟩), .pointer (some ⟨pb, 0, none⟩)]) ∧ w'.cell? ⟨b', 0, none⟩ = some (.func (.func 30) #[] #[.pointer (some ⟨ea, 0, none⟩), .pointer (some ⟨eb, 0, none⟩)])) 8 9 rfl (by kernel_rfl) ⟨(Keeps.refl _ w).drew, h1, h2⟩ (fun hHeld => ?_)
  refine wpAnyZ_take (i := 0) rfl (by kernel_rfl) (fun _ _ _ h => h) (Or.inl ⟨by rfl, by intro w hSw; obtain ⟨s0, s1, s2⟩ := hSw; go_simp; try with_reducible rfl⟩) hHeld.out ?_
  simp only [Act.put, List.setIfInBounds_toArray, Nat.reduceAdd, List.getElem_toArray, List.getElem_cons_succ, List.getElem_cons_zero, List.set_cons_succ, List.set_cons_zero]
  refine wpAnyZ_take (i := 1) rfl (by kernel_rfl) (fun _ _ _ h => h) (Or.inl ⟨by rfl, by intro w hSw; obtain ⟨s0, s1, s2⟩ := hSw; go_simp; try with_reducible rfl⟩) hHeld.out ?_
  simp only [Act.put, List.setIfInBounds_toArray, Nat.reduceAdd, List.getElem_toArray, List.getElem_cons_succ, List.getElem_cons_zero, List.set_cons_succ, List.set_cons_zero]
  refine wpAnyZ_take (i := 2) rfl (by kernel_rfl) (fun _ _ _ h => h) (Or.inl ⟨by rfl, by intro w hSw; go_simp; try with_reducible rfl⟩) hHeld.out ?_
  simp only [Act.put, List.setIfInBounds_toArray, Nat.reduceAdd, List.getElem_toArray, List.getElem_cons_succ, List.getElem_cons_zero, List.set_cons_succ, List.set_cons_zero]
  refine wpAnyZ_take (i := 4) rfl (by kernel_rfl) (fun _ _ _ h => h) (Or.inl ⟨by rfl, by intro w hSw; go_simp; try with_reducible rfl⟩) hHeld.out ?_
  simp only [Act.put, List.setIfInBounds_toArray, Nat.reduceAdd, List.getElem_toArray, List.getElem_cons_succ, List.getElem_cons_zero, List.set_cons_succ, List.set_cons_zero]
  refine wpAnyZ_one (i := 3) (by kernel_rfl) rfl (fun K hK => ?_)
  go_simp
  refine (HE.out _ hHeld.out.1).mono ?_
  rintro e w1 ⟨rfl, hk1⟩
  have HH1 := Lib.hid (And.intro (hHeld.out.1.trans hk1) (And.intro (cell_keeps hHeld.out.2.1 hk1) (cell_keeps hHeld.out.2.2 hk1)))
  refine hK.out _ _ (fun _ => HH1.out) ?_
  clear hK K hHeld hk1 HE
  refine wpAnyZ_take (i := 5) rfl (by kernel_rfl) (fun _ _ _ h => h) (Or.inl ⟨by rfl, by intro w hSw; go_simp; try with_reducible rfl⟩) HH1.out ?_
  simp only [Act.put, List.setIfInBounds_toArray, Nat.reduceAdd, List.getElem_toArray, List.getElem_cons_succ, List.getElem_cons_zero, List.set_cons_succ, List.set_cons_zero]
  refine wpAnyZ_one (i := 6) (by kernel_rfl) rfl (fun K hK => ?_)
  go_simp
  refine (HS.out _).mono ?_
  rintro e w2 ⟨rfl, hk2⟩
  have HH2 := Lib.hid (And.intro (HH1.out.1.trans hk2) (And.intro (cell_keeps HH1.out.2.1 hk2) (cell_keeps HH1.out.2.2 hk2)))
  refine hK.out _ _ (fun _ => HH2.out) ?_
  clear hK K HH1 hk2 HS
  refine wpAnyZ_one (i := 7) (by kernel_rfl) rfl (fun K hK => ?_)
  go_simp
  refine (HP.out _ HH2.out.1).mono ?_
  rintro e w3 ⟨rfl, hk3⟩
  have HH3 := Lib.hid (And.intro (HH2.out.1.trans hk3) (And.intro (cell_keeps HH2.out.2.1 hk3) (cell_keeps HH2.out.2.2 hk3)))
  refine hK.out _ _ (fun _ => HH3.out) ?_
  clear hK K HH2 hk3 HP
  refine wpAnyZ_one (i := 8) (by kernel_rfl) rfl (fun K hK => ?_)
  go_simp
  refine hK.out _ _ (fun _ => HH3.out) ?_
  clear hK K
  refine wpAnyZ_done (by kernel_rfl) ?_ _
  go_wp2
  go_ret
  exact ⟨rfl, HH3.out.1⟩
end Go.Proofs.Ytmelphlgpnmopaa
