/- The law NegoTakes: for every input the call returns true, and each argument reads afterwards as it read before. No condition. -/
import Derived.ShutString
import Derived.ChangeOld
import Derived.Test.YtgphfindolaljaaT3
namespace Go.Proofs.Ytgphfindolaljaa.negoTakes
set_option maxRecDepth 100000
open Go.ChangeShapes Go.WideShapes Go.ChangeAt Go.RowKit
open Go.ChangeMaps (open_string shut_string)
theorem own : ownKnob Try.prog.godebug = none := by kernel_rfl
theorem laidOut : laidOutB Try.prog = true := by kernel_rfl
theorem lifted (os : Os) (started : os.Started) (H : Type) (enc : TypeId × Value → H) :
  ReturnsInHanded {} Try.checked os 4 .any (Rows.negoTakesSpec.pre6 enc Try.prog Try.f4 Rows.negoTakesRow.domain false) (Rows.negoTakesSpec.post enc Try.prog Try.f4 false true false false) := by
 refine returnsInHanded_of_change (C := Try.checked) own started (by kernel_rfl) Try.func4
  (ChangeSpec.witness6 (enc := enc) (C := Try.checked) false ⟨#[], #[.slice none 0 0, .slice none 0 0, .slice none 0 0], []⟩ 8 (by kernel_rfl) (by kernel_rfl) (by kernel_rfl) (by kernel_rfl)) ?_
 intro W base args ds gs before hval0 hW hcnd _
 have hval : ∀ (j : Nat) t v, Try.f4.params[j]? = some t → args[j]? = some v → Value.okWide Try.prog W .any base t v := hval0
 have hW' := hW
 obtain ⟨p, q, hA0, hV, rfl, hfz, hnd⟩ := hW
 have hA : DataW.TrodAll enc Try.prog W 0 (fun _ => true) true Try.f4.params.toList args.toList ds p := hA0
 rw [Try.params4] at hA hval
 obtain ⟨v0, vs0, d0, ds0, p0, q0, hargs, rfl, rfl, h0, r0⟩ := trodAll_cons hA
 obtain ⟨v1, vs1, d1, ds1, p1, q1, rfl, rfl, rfl, h1, r1⟩ := trodAll_cons r0
 obtain ⟨v2, vs2, d2, ds2, p2, q2, rfl, rfl, rfl, h2, r2⟩ := trodAll_cons r1
 obtain ⟨rfl, rfl, rfl⟩ := trodAll_nil r2
 obtain rfl : args = #[v0, v1, v2] := by cases args; simp_all
 obtain ⟨rfl, rfl⟩ := trodVars_none hV
 obtain ⟨a0, len0, cap0, rfl⟩ := okWide_slice Try.underlying22 (hval 0 22 v0 rfl rfl)
 have k0 := h0
 have lt0 : ∀ x ∈ p0, x.block < W.heap.size := by obtain ⟨m, hm⟩ := k0; exact DataW.trod_lt m _ _ _ hm
 have w0 : y0q W [.int .i64, .int .i64, .int .i64, .int .i64, .int .i64, .row .u8, .bool] a0 len0 cap0 := by
  obtain ⟨fuel, hf⟩ := h0
  obtain ⟨a', l', c', e, hs⟩ := y1l (ks := [.int .i64, .int .i64, .int .i64, .int .i64, .int .i64, .row .u8, .bool]) (v := .slice a0 len0 cap0) Try.underlying22 Try.underlying53 (by kernel_rfl) (by kernel_rfl) ⟨Try.underlying3, Try.underlying3, Try.underlying3, Try.underlying3, Try.underlying3, ⟨_, Try.underlying38, Try.underlying5, by kernel_rfl⟩, Try.underlying4, trivial⟩ hf
  injection e with e1 e2 e3
  subst e1 e2 e3
  exact hs
 obtain ⟨a1, len1, cap1, rfl⟩ := okWide_slice Try.underlying23 (hval 1 23 v1 rfl rfl)
 have k1 := h1
 have lt1 : ∀ x ∈ p1, x.block < W.heap.size := by obtain ⟨m, hm⟩ := k1; exact DataW.trod_lt m _ _ _ hm
 have w1 : y0q W [.int .i64, .row .u8] a1 len1 cap1 := by
  obtain ⟨fuel, hf⟩ := h1
  obtain ⟨a', l', c', e, hs⟩ := y1l (ks := [.int .i64, .row .u8]) (v := .slice a1 len1 cap1) Try.underlying23 Try.underlying40 (by kernel_rfl) (by kernel_rfl) ⟨Try.underlying3, ⟨_, Try.underlying38, Try.underlying5, by kernel_rfl⟩, trivial⟩ hf
  injection e with e1 e2 e3
  subst e1 e2 e3
  exact hs
 obtain ⟨a2, len2, cap2, rfl⟩ := okWide_slice Try.underlying23 (hval 2 23 v2 rfl rfl)
 have k2 := h2
 have lt2 : ∀ x ∈ p2, x.block < W.heap.size := by obtain ⟨m, hm⟩ := k2; exact DataW.trod_lt m _ _ _ hm
 have w2 : y0q W [.int .i64, .row .u8] a2 len2 cap2 := by
  obtain ⟨fuel, hf⟩ := h2
  obtain ⟨a', l', c', e, hs⟩ := y1l (ks := [.int .i64, .row .u8]) (v := .slice a2 len2 cap2) Try.underlying23 Try.underlying40 (by kernel_rfl) (by kernel_rfl) ⟨Try.underlying3, ⟨_, Try.underlying38, Try.underlying5, by kernel_rfl⟩, trivial⟩ hf
  injection e with e1 e2 e3
  subst e1 e2 e3
  exact hs
 clear hA0 hval0
 refine (negoTakes_walk a0 len0 cap0 a1 len1 cap1 a2 len2 cap2 W w0 w1 w2).mono fun e W' ⟨he, bel⟩ => ?_
 subst he
 exact ⟨_, rfl, _, _, _, [], _, [], hW', trodAll_mk1 (shut_bool Try.underlying4 _), (trodAll_cons_mk (Below.trod laidOut (by kernel_rfl) (of_decide_eq_true (by kernel_rfl)) k0 bel lt0) (trodAll_cons_mk (Below.trod laidOut (by kernel_rfl) (of_decide_eq_true (by kernel_rfl)) k1 bel lt1) (trodAll_cons_mk (Below.trod laidOut (by kernel_rfl) (of_decide_eq_true (by kernel_rfl)) k2 bel lt2) trodAll_mk0))), rfl, bel.frame _, fun h => by cases h⟩
theorem over : Rows.negoTakesRow.holds Try.pinned (OpenSpec.ofChange Rows.negoTakesSpec) :=
 OpenClaim.holds_of_wide 4 Try.f4 rfl rfl rfl rfl rfl rfl rfl ⟨rfl, rfl, rfl, rfl, rfl⟩ rfl rfl rfl rfl rfl (by kernel_rfl) Try.func4 (by kernel_rfl)
  (of_decide_eq_true (by kernel_rfl)) (by unfold Func.isWrapper; first | (rw [if_pos (by decide +kernel)]; kernel_rfl) | (rw [if_neg (by decide +kernel)]; exact ⟨rfl, rfl⟩))
  (fun os started H enc _ => lifted os started H enc)
theorem proved : Rows.NegoTakesSaid := over
end Go.Proofs.Ytgphfindolaljaa.negoTakes
