/- The document's Step of the automaton. -/
import Derived.Test.YtjeekhgkcphnpaaFsmB
namespace Go.Proofs.Ytjeekhgkcphnpaa
open Go.RowKit
theorem fsmStep_out {s e : Int} (h : ¬ (0 ≤ s ∧ s ≤ 9 ∧ 0 ≤ e ∧ e < 16)) : Pure.fsmStep s e = ([], s) := if_neg h
theorem fsmStep_in (s e : Nat) (hs : s < 10) (he : e < 16) : Pure.fsmStep s e = ((Pure.fsmAt s e).1, ((Pure.fsmAt s e).2 : Int)) := by
  unfold Pure.fsmStep
  rw [if_pos (by omega)]
  rfl
set_option maxRecDepth 100000 in
set_option maxHeartbeats 4000000 in
theorem docstep_in (s e : Nat) (w : World) (hs : s < 10) (he : e < 16) :
    Calls Try.prog 21 #[.int .i64 s, .int .i64 e] w fun r w' => ∃ u, r = .returned (.tuple #[u, .int .i64 ((Pure.fsmAt s e).2 : Nat)]) ∧ w'.ownsRow w.heap.size 3 1 u (Pure.fsmAt s e).1.length (ints (Pure.fsmAt s e).1) ∧ Below w.heap.size w w' := by
  have d0 : decide ((s : Int) < 0) = false := decide_eq_false (by omega)
  have d1 : decide ((9 : Int) < (s : Int)) = false := decide_eq_false (by omega)
  have d2 : decide ((e : Int) < 0) = false := decide_eq_false (by omega)
  have d3 : decide ((16 : Int) ≤ (e : Int)) = false := decide_eq_false (by omega)
  have HC := Lib.hid (cell_any s e w hs he)
  have hsay := Pure.strs_say s hs e he
  obtain ⟨S, hS⟩ : ∃ S, S = Pure.strAt s e := ⟨_, rfl⟩
  obtain ⟨F, hF⟩ : ∃ F, F = Pure.fsmAt s e := ⟨_, rfl⟩
  rw [← hS, ← hF] at hsay
  rw [← hS] at HC
  rw [← hF]
  clear hS hF
  by_cases hS0 : S = []
  · rw [if_pos hS0] at hsay
    subst hS0 hsay
    go_enter Try.func21, Try.ntmps21
    go_wp2_with fail
    refine HC.out.mono ?_
    rintro r w1 ⟨rfl, hk⟩
    have HK := Lib.hid hk
    clear hk HC
    go_wp2
    go_ret2
    exact ⟨_, rfl, World.ownsRow_nil _ _ _ _, HK.out.to_below⟩
  · rw [if_neg hS0] at hsay
    obtain ⟨h5, hact, hF1, h48, hF2⟩ := hsay
    have hne : (S == []) = false := by simpa using hS0
    obtain ⟨T, x, rfl⟩ : ∃ T x, S = T ++ [x] := ⟨S.dropLast, S.getLast hS0, (List.dropLast_concat_getLast hS0).symm⟩
    simp only [List.dropLast_concat, List.getLastD_concat, List.length_append, List.length_cons, List.length_nil] at h5 hact hF1 h48 hF2
    obtain ⟨l, n⟩ := F
    dsimp only at hF1 hF2 ⊢
    subst hF1
    go_enter Try.func21, Try.ntmps21
    go_wp2_with fail
    refine HC.out.mono ?_
    rintro r w1 ⟨rfl, hk⟩
    have HK := Lib.hid hk
    clear hk HC
    go_upto_region 8 with fail
    obtain ⟨B, hB⟩ : ∃ B : ByteArray, B = ⟨(T ++ [x]).toArray⟩ := ⟨_, rfl⟩
    rw [← hB]
    have hBs : (B.size : Int) = ((T.length + 1 : Nat) : Int) := by rw [hB]; show (((T ++ [x]).toArray.size : Nat) : Int) = _; simp
    have HIX := Lib.hid (fun (k : Nat) (h : k ≤ T.length) (W : World) => (show (Instr.index 9 (.string B) (.int .i64 (k : Int))).run Try.prog W = .ok (.int .u8 (((T ++ [x]).getD k 0).toNat : Nat)) W by
      rw [hB]; exact run_index_str (T ++ [x]) k (by simp; omega) W))
    have hBz : B.size = T.length + 1 := by omega
    have hsub : ((T.length + 1 : Nat) : Int) - 1 = (T.length : Int) := by omega
    have HACT := Lib.hid hact
    have HN := Lib.hid hF2
    have hx := x.toNat_lt
    clear hB hne hS0 hact d0 d1 d2 d3
    go_loopw [7, 8] (fun v i wr => ∃ k : Nat, k ≤ T.length ∧ i = .int .i64 (k : Int) ∧ wr.ownsRow w.heap.size 3 1 v ((T.take k).map Pure.actOf).length (ints ((T.take k).map Pure.actOf)) ∧ Below w.heap.size w wr) (fun _ i _ => T.length - (intOf i).toNat)
    case atStart => exact ⟨0, by omega, rfl, World.ownsRow_nil _ _ _ _, HK.out.to_below⟩
    case round =>
      obtain ⟨k, hk, rfl, hW, hB⟩ := hrel
      obtain ⟨A7, c7, rfl⟩ := own_form hW
      have HW := Lib.hid hW
      have HB := Lib.hid hB
      clear hW hB
      by_cases hkl : k < T.length
      · have d0 : decide ((k : Int) < (T.length : Int)) = true := decide_eq_true (by omega)
        have d1 : decide (k < T.length) = true := decide_eq_true hkl
        have hg : (T ++ [x]).getD k 0 = T.getD k 0 := by simp [List.getD_eq_getElem?_getD, List.getElem?_append_left hkl]
        have hix := HIX.out k hk wr
        have hmem : T.getD k 0 ∈ T := by
          rw [List.getD_eq_getElem?_getD, List.getElem?_eq_getElem hkl]; exact List.getElem_mem hkl
        have HA := Lib.hid (action_any (T.getD k 0) wr (HACT.out _ hmem))
        rw [hg] at hix
        obtain ⟨y, hy⟩ : ∃ y, y = T.getD k 0 := ⟨_, rfl⟩
        have hTk : (T.take (k + 1)).map Pure.actOf = (T.take k).map Pure.actOf ++ [Pure.actOf y] := by
          rw [take_snoc T 0 k hkl, List.map_append, hy]; rfl
        rw [← hy] at hix HA
        have hlen : ((T.take k).map Pure.actOf).length = k := by rw [List.length_map, List.length_take]; omega
        have HTK := Lib.hid hTk
        obtain ⟨M, hM⟩ : ∃ M, M = (T.take k).map Pure.actOf := ⟨_, rfl⟩
        rw [← hM] at HW hlen HTK ⊢
        have HLEN := Lib.hid hlen
        clear hg hmem hy hTk hM hlen
        go_wp2_with fail
        refine HA.out.mono ?_
        rintro r w2 ⟨rfl, rfl⟩
        go_wp2_with (at_builtin; refine stopHere ?_)
        unfold Hid
        obtain ⟨wb, hwb⟩ : ∃ wb, wb = wr.alloc (.cells #[.int .i64 (Pure.actOf y : Nat)] 3) := ⟨_, rfl⟩
        rw [← hwb]
        have hkb : Keeps nobody wr wb := by rw [hwb]; exact (Keeps.refl _ wr).alloc _
        have hrb : Row wb (fun b => b = wr.heap.size) 1 (.slice (some ⟨wr.heap.size, 0, none⟩) 1 1) [Pure.actOf y].length (ints [Pure.actOf y]) := by
          rw [hwb]; exact irow_new wr [Pure.actOf y] _ 1 rfl rfl (by simp)
        have hWb := ownsRow_keeps HW.out hkb (fun _ _ h => h)
        have hBb := Below.quiet HB.out hkb HB.out.size
        clear hwb
        refine wp_append_int rfl (.tmp 37) (.tmp 42) rfl w.heap.size (.slice A7 M.length c7) M.length M rfl rfl hWb _ _ [Pure.actOf y] rfl hrb (by have := HLEN.out; simp; omega) hBb.size ?_
        intro v5 w5 hown5 hg5 hat5
        rw [← HTK.out] at hown5
        have HO5 := Lib.hid hown5
        have HB5 := Lib.hid (hBb.grown hg5 hBb.size (fun k hk => ownsRow_ge hWb k hk))
        clear hown5 hg5 hat5 hkb hrb hWb hBb d0 d1 hix HA
        go_wp2_with fail
        go_roundw
        case rel => exact ⟨k + 1, by omega, by go_num, HO5.out, HB5.out⟩
        case measure => simp [intOf]; omega
      · have hkk : k = T.length := by omega
        subst hkk
        have d0 : decide ((T.length : Int) < (T.length : Int)) = false := decide_eq_false (by omega)
        have d1 : decide (T.length < T.length) = false := decide_eq_false (by omega)
        rw [List.take_length] at HW ⊢
        have hix := HIX.out T.length (Nat.le_refl _)
        have hg : (T ++ [x]).getD T.length 0 = x := by simp [List.getD_eq_getElem?_getD]
        rw [hg] at hix
        have hs48 : (x.toNat : Int) - 48 = (n : Int) := by have := HN.out; omega
        have hnl : n < 256 := by have := HN.out; omega
        have v0 : IntKind.u8.wrap (n : Int) = (n : Int) := IntWalk.u8_in _ (by omega)
        have v1 : IntKind.i64.wrap (n : Int) = (n : Int) := IntWalk.i64_in _ (by omega)
        obtain ⟨M, hM⟩ : ∃ M, M = T.map Pure.actOf := ⟨_, rfl⟩
        rw [← hM] at HW ⊢
        have HM := Lib.hid hM
        have t0 : (0 : Int) ≤ (T.length : Int) := by omega
        clear hg hM hkl hk
        go_wp2_with fail
        go_quiet (fail)
        have hkq : Keeps nobody wr (wr.drewN nq) := Keeps.of_drewN rfl
        have HWq := Lib.hid (ownsRow_keeps HW.out hkq (fun _ _ h => h))
        have HBq := Lib.hid (Below.quiet HB.out hkq HB.out.size)
        clear hkq
        go_wp2
        go_ret2
        exact ⟨_, rfl, by rw [← HM.out]; exact HWq.out, HBq.out⟩
theorem docstep_any (s e : Int) (w : World) :
    Calls Try.prog 21 #[.int .i64 s, .int .i64 e] w fun r w' => ∃ u, r = .returned (.tuple #[u, .int .i64 (Pure.fsmStep s e).2]) ∧ w'.ownsRow w.heap.size 3 1 u (Pure.fsmStep s e).1.length (ints (Pure.fsmStep s e).1) ∧ Below w.heap.size w w' := by
  by_cases h : 0 ≤ s ∧ s ≤ 9 ∧ 0 ≤ e ∧ e < 16
  · obtain ⟨s', rfl⟩ : ∃ n : Nat, s = (n : Int) := ⟨s.toNat, by omega⟩
    obtain ⟨e', rfl⟩ : ∃ n : Nat, e = (n : Int) := ⟨e.toNat, by omega⟩
    rw [fsmStep_in s' e' (by omega) (by omega)]
    exact docstep_in s' e' w (by omega) (by omega)
  · rw [fsmStep_out h]
    have hout : s < 0 ∨ (¬ s < 0 ∧ 9 < s) ∨ (¬ s < 0 ∧ ¬ 9 < s ∧ e < 0) ∨ (¬ s < 0 ∧ ¬ 9 < s ∧ ¬ e < 0 ∧ 16 ≤ e) := by omega
    clear h
    rcases hout with h | ⟨h1, h⟩ | ⟨h1, h2, h⟩ | ⟨h1, h2, h3, h⟩
    · have d0 : decide (s < 0) = true := decide_eq_true h
      clear h
      go_enter Try.func21, Try.ntmps21
      go_wp2
      go_ret2
      exact ⟨_, rfl, World.ownsRow_nil _ _ _ _, Below.refl _ _⟩
    · have d0 : decide (s < 0) = false := decide_eq_false h1
      have d1 : decide (9 < s) = true := decide_eq_true h
      clear h h1
      go_enter Try.func21, Try.ntmps21
      go_wp2
      go_ret2
      exact ⟨_, rfl, World.ownsRow_nil _ _ _ _, Below.refl _ _⟩
    · have d0 : decide (s < 0) = false := decide_eq_false h1
      have d1 : decide (9 < s) = false := decide_eq_false h2
      have d2 : decide (e < 0) = true := decide_eq_true h
      clear h h1 h2
      go_enter Try.func21, Try.ntmps21
      go_wp2
      go_ret2
      exact ⟨_, rfl, World.ownsRow_nil _ _ _ _, Below.refl _ _⟩
    · have d0 : decide (s < 0) = false := decide_eq_false h1
      have d1 : decide (9 < s) = false := decide_eq_false h2
      have d2 : decide (e < 0) = false := decide_eq_false h3
      have d3 : decide (16 ≤ e) = true := decide_eq_true h
      clear h h1 h2 h3
      go_enter Try.func21, Try.ntmps21
      go_wp2
      go_ret2
      exact ⟨_, rfl, World.ownsRow_nil _ _ _ _, Below.refl _ _⟩
end Go.Proofs.Ytjeekhgkcphnpaa
