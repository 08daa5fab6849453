/- des: a register rotated; the bytes of a block; the function that picks bits by a table. -/
import Derived.Test.YtmelphlgpnmopaaEncA
import Derived.Test.YtmelphlgpnmopaaFill
namespace Go.Proofs.Ytmelphlgpnmopaa
open Go.RowKit
set_option maxHeartbeats 1000000 in
theorem rotated_any (c : List Bool) (n : Nat) (hc : c.length = 28) (h1 : 1 ≤ n) (h2 : n ≤ 2) (w : World) :
    Calls Try.prog 34 #[.int .u64 ((Pure.val c : Nat) : Int), .int .i64 (n : Int)] w fun e w' => e = .returned (.int .u64 ((Pure.val (Pure.desTurn c n) : Nat) : Int)) ∧ ∃ q, w' = w.drewN q := by
  have hl := Pure.val_lt c
  rw [hc] at hl
  have ht := Pure.val_turn c n hc h1 h2
  obtain ⟨V, hV⟩ : ∃ V, V = Pure.val c := ⟨_, rfl⟩
  obtain ⟨T, hT⟩ : ∃ T, T = Pure.val (Pure.desTurn c n) := ⟨_, rfl⟩
  rw [← hV, ← hT] at ht
  rw [← hV] at hl
  rw [← hV, ← hT]
  clear hV hT hc
  obtain ⟨R, hR⟩ : ∃ R, R = V * 2 ^ n ||| V / 2 ^ (28 - n) := ⟨_, rfl⟩
  rw [← hR] at ht
  have hRl : R < 18446744073709551616 := by
    rw [hR]
    refine Nat.or_lt_two_pow (n := 64) ?_ ?_
    · rcases (show n = 1 ∨ n = 2 by omega) with rfl | rfl <;> omega
    · exact Nat.lt_of_le_of_lt (Nat.div_le_self _ _) (by omega)
  have hL : ∀ w, Calls Try.prog 15 #[.int .i64 28, .int .u64 (R : Int)] w fun e w' => e = .returned (.int .u64 ((R % 2 ^ 28 : Nat) : Int)) ∧ ∃ q, w' = w.drewN q := fun w => lowest_any 28 R (by omega) (by omega) hRl w
  rw [ht] at hL
  have HL := Lib.hid hL
  clear hL ht
  rcases (show n = 1 ∨ n = 2 by omega) with rfl | rfl
  · have ho : bits .or .u64 ((V : Int) * 2) ((V : Int) / 134217728) = (R : Int) := by
      have h := or_u64 (V * 2) (V / 134217728) R (by rw [hR]) (by omega) (by omega)
      simpa using h
    have e1 : IntKind.i64.wrap 27 = 27 := rfl
    have e2 : IntKind.u64.wrap ((V : Int) * 2) = (V : Int) * 2 := IntWalk.u64_in _ (by omega)
    clear hR
    go_enter Try.func34, Try.ntmps34
    go_wp2_with fail
    go_quiet (refine Calls.quiet_of (HL.out _))
    go_wp2
    go_ret
    exact ⟨rfl, _, rfl⟩
  · have ho : bits .or .u64 ((V : Int) * 4) ((V : Int) / 67108864) = (R : Int) := by
      have h := or_u64 (V * 4) (V / 67108864) R (by rw [hR]) (by omega) (by omega)
      simpa using h
    have e1 : IntKind.i64.wrap 26 = 26 := rfl
    have e2 : IntKind.u64.wrap ((V : Int) * 4) = (V : Int) * 4 := IntWalk.u64_in _ (by omega)
    clear hR
    go_enter Try.func34, Try.ntmps34
    go_wp2_with fail
    go_quiet (refine Calls.quiet_of (HL.out _))
    go_wp2
    go_ret
    exact ⟨rfl, _, rfl⟩
set_option maxHeartbeats 1000000 in
theorem bytesOf_any (l : List Bool) (hl : l.length = 64) (w : World) :
    Calls Try.prog 18 #[.int .u64 ((Pure.val l : Nat) : Int)] w fun e w' => ∃ u, e = .returned u ∧ w'.ownsRow w.heap.size 5 1 u 8 (u8s (Pure.ofBits l)) ∧ Keeps nobody w w' := by
  have hv := Pure.val_lt l
  rw [hl] at hv
  have hB := Pure.byte_of l hl
  have hN : (Pure.ofBits l).length = 8 := by rw [Pure.ofBits_length, hl]
  obtain ⟨V, hV⟩ : ∃ V, V = Pure.val l := ⟨_, rfl⟩
  rw [← hV] at hv hB ⊢
  obtain ⟨O, hO⟩ : ∃ O, O = Pure.ofBits l := ⟨_, rfl⟩
  rw [← hO] at hB hN ⊢
  clear hV hO hl
  obtain ⟨i0, hi0, hz0, hz1, hz2⟩ := info_parts u8_info
  go_enter Try.func18, Try.ntmps18
  go_wp2_with (at_make; refine stopHere ?_)
  unfold Hid
  refine wpList_make_full _ rfl _ _ 23 rfl w.heap.size 5 i0 _ 1 Try.underlying23 hi0 hz0 hz1 .i64 .i64 _ _ 8 rfl rfl (by omega) (by omega) (by rw [hz2]; omega) (by unfold maxLen; omega) (Nat.le_refl _) ?_
  intro w0 hown0 hg0
  rw [show (Value.int .u8 0).cells = #[.int .u8 0] from rfl, made_cells rfl] at hown0
  have HK0 := Lib.hid (show Keeps nobody w w0 from Keeps.new (Below.grown (Below.refl _ w) hg0 (Nat.le_refl _) (by simp)))
  have O0 := Lib.hid hown0
  have HB := Lib.hid hB
  clear hown0 hg0 hi0 hz0 hz1 hz2 hB
  go_wp2_with fail
  go_loopw [8] (fun i wr => ∃ k : Nat, k ≤ 8 ∧ i = .int .i64 (k : Int) ∧ wr.ownsRow w.heap.size 5 1 (.slice (some ⟨w.heap.size, 0, none⟩) 8 8) 8 (u8s (O.take k ++ List.replicate (8 - k) 0)) ∧ Keeps nobody w wr) (fun i _ => 8 - (intOf i).toNat)
  case atStart => exact ⟨0, by omega, rfl, by simpa using O0.out, HK0.out⟩
  case round =>
    obtain ⟨k, hk, rfl, hW, hK⟩ := hrel
    have HK := Lib.hid hK
    have HW := Lib.hid hW
    by_cases hkl : k < 8
    · have hi0 : (0 : Int) ≤ (k : Int) := by omega
      have hi1 : (k : Int) < 8 := by omega
      obtain ⟨s, hs⟩ : ∃ s, s = 8 * (7 - k) := ⟨_, rfl⟩
      have hb := HB.out k hkl
      rw [← hs] at hb
      obtain ⟨X, hX⟩ : ∃ X, X = O.getD k 0 := ⟨_, rfl⟩
      rw [← hX] at hb
      have e1 : 8 * (7 - (k : Int)) = (s : Int) := by omega
      have e2 : (V : Int) / 2 ^ s % 256 = (X.toNat : Int) := by
        rw [hb, Int.natCast_emod, Int.natCast_ediv, Int.natCast_pow]; rfl
      have hs0 : (0 : Int) ≤ (s : Int) := by omega
      have f1 := own_frozen hW k
      have c1 := own_at hW k (by simp; omega)
      clear hW hK hb
      have HX := Lib.hid hX
      clear hX hs
      have hw3 := own_set (k := k) HW.out X
      have e3 : (O.take k ++ List.replicate (8 - k) 0).set k X = O.take (k + 1) ++ List.replicate (8 - (k + 1)) 0 := by
        rw [set_next _ _ _ (by rw [List.length_take]; omega) hkl, take_snoc O 0 k (by omega), ← HX.out]
      rw [e3] at hw3
      have HW3 := Lib.hid hw3
      have HK3 := Lib.hid (HK.out.store w.heap.size k (fun h => absurd h (Nat.lt_irrefl _)) (.int .u8 X.toNat))
      clear hw3 e3
      go_wp2_with fail
      go_roundw
      case rel => exact ⟨k + 1, by omega, by go_num, HW3.out, HK3.out⟩
      case measure => simp [intOf]; omega
    · have hkk : k = 8 := by omega
      subst hkk
      clear hW hK hkl hk
      go_wp2
      go_ret
      refine ⟨_, rfl, ?_, HK.out⟩
      have h := HW.out
      rw [List.take_of_length_le (by omega)] at h
      simpa using h
/-- A function that picks bits by a table, of numbers of so many bits. -/
def Picks (w : World) (f : Value) (n : Nat) (ps : List Nat) : Prop :=
  ∃ a b u, f = .func (.func 30) #[] #[.pointer (some ⟨a, 0, none⟩), .pointer (some ⟨b, 0, none⟩)] ∧ w.cell? ⟨a, 0, none⟩ = some u ∧ w.cell? ⟨b, 0, none⟩ = some (.int .i64 (n : Int)) ∧ Row w (fun _ => True) 1 u ps.length (ints ps)
theorem cell_keeps {w w' : World} {b off : Nat} {u : Value} (h : w.cell? ⟨b, off, none⟩ = some u) (k : Keeps nobody w w') : w'.cell? ⟨b, off, none⟩ = some u :=
  (World.cell?_of_block (w := w) (a := ⟨b, off, none⟩) (k.block b (cell_lt h) (fun x => x))).trans h
theorem Picks.keeps {w w' : World} {f : Value} {n : Nat} {ps : List Nat} (h : Picks w f n ps) (k : Keeps nobody w w') : Picks w' f n ps := by
  obtain ⟨a, b, u, e, h1, h2, h3⟩ := h
  exact ⟨a, b, u, e, cell_keeps h1 k, cell_keeps h2 k, h3.keeps k (fun _ _ h => h)⟩
theorem picker_any (F : Nat → Prop) (n : Nat) (u : Value) (ps : List Nat) (w : World) (hu : Row w F 1 u ps.length (ints ps)) :
    Calls Try.prog 13 #[.int .i64 (n : Int), u] w fun e w' => ∃ f, e = .returned f ∧ Picks w' f n ps ∧ Keeps nobody w w' := by
  obtain ⟨A, cA, rfl, hc⟩ := hu.form
  have HU := Lib.hid hu
  have hmf : ∀ (fn : Fn) (first cap : Array Value) (w : World), (Instr.makeFunc fn first cap).run Try.prog w = .ok (.func fn first cap) w := fun _ _ _ _ => rfl
  clear hu
  go_enter Try.func13, Try.ntmps13
  go_wp2
  go_ret
  have HK := ((Keeps.refl nobody w).alloc (.cells #[.int .i64 (n : Int)] 3)).alloc (.cells #[.slice A ps.length cA] 34)
  refine ⟨_, rfl, ⟨_, _, _, rfl, ?_, ?_, (HU.out.keeps HK (fun _ _ h => h)).mono (fun _ _ => trivial)⟩, HK⟩
  · simp
  · simp
set_option maxHeartbeats 1000000 in
theorem picked_any (n : Nat) (f : Value) (ps : List Nat) (w : World) (hf : Picks w f n ps) (l : List Bool) (hl : l.length = n) (hn : n ≤ 64) (hp : ps.length ≤ 64) (hin : ∀ k, k < ps.length → 1 ≤ ps.getD k 0 ∧ ps.getD k 0 ≤ n) (a b : Nat)
    (he : f = .func (.func 30) #[] #[.pointer (some ⟨a, 0, none⟩), .pointer (some ⟨b, 0, none⟩)]) :
    Calls Try.prog 30 #[.int .u64 ((Pure.val l : Nat) : Int), .pointer (some ⟨a, 0, none⟩), .pointer (some ⟨b, 0, none⟩)] w fun e w' => e = .returned (.int .u64 ((Pure.val (Pure.pick l ps) : Nat) : Int)) ∧ ∃ q, w' = w.drewN q := by
  obtain ⟨a', b', u, e, h1, h2, h3⟩ := hf
  obtain ⟨rfl, rfl⟩ : a' = a ∧ b' = b := by
    rw [he] at e
    injection e with _ _ e
    simp at e
    exact ⟨e.1.symm, e.2.symm⟩
  clear he e
  obtain ⟨A, cA, rfl, hc⟩ := h3.form
  have HR := Lib.hid h3
  have HI := Lib.hid hin
  have HL := Lib.hid hl
  have HC1 := Lib.hid h1
  have HC2 := Lib.hid h2
  clear h3 hin hl h2
  go_enter Try.func30, Try.ntmps30
  go_wp2_with fail
  clear h1
  go_loopw [5, 10] (fun v i wr => ∃ k : Nat, k ≤ ps.length ∧ i = .int .i64 (k : Int) ∧ v = .int .u64 ((Pure.val (Pure.pick l (ps.take k)) : Nat) : Int) ∧ ∃ q, wr = w.drewN q) (fun _ i _ => ps.length - (intOf i).toNat)
  case atStart => exact ⟨0, by omega, rfl, by simp [Pure.pick, Pure.val], 0, rfl⟩
  case round =>
    obtain ⟨k, hk, rfl, rfl, q, hq⟩ := hrel
    have HQ := Lib.hid hq
    have hK := Keeps.of_drewN hq
    have HK := Lib.hid hK
    by_cases hkl : k < ps.length
    · have hi0 : (0 : Int) ≤ (k : Int) := by omega
      have hi1 : (k : Int) < (ps.length : Int) := by omega
      obtain ⟨bx, ox, rfl, _, hcx⟩ := (HR.out.keeps hK (fun _ _ h => h)).cellAt (by omega)
      have cx := hcx k _ (ints_at ps k hkl)
      have c2 := cell_keeps HC2.out hK
      obtain ⟨p1, p2⟩ := HI.out k hkl
      have hs : Pure.val (Pure.pick l (ps.take (k + 1))) = 2 * Pure.val (Pure.pick l (ps.take k)) + (l.getD (ps.getD k 0 - 1) false).toNat := by
        rw [Pure.pick_snoc l ps k hkl, Pure.val_snoc]
      have hv : Pure.val (Pure.pick l (ps.take k)) < 9223372036854775808 := by
        have h1 := Pure.val_lt (Pure.pick l (ps.take k))
        rw [Pure.pick_length, List.length_take] at h1
        have h2 : (2 : Nat) ^ (min k ps.length) ≤ 2 ^ 63 := Nat.pow_le_pow_right (by omega) (by omega)
        omega
      have hbit := Pure.val_bit l (ps.getD k 0) p1 (by rw [HL.out]; exact p2)
      have hvl := Pure.val_lt l
      rw [HL.out] at hbit hvl
      have hvl2 : Pure.val l < 18446744073709551616 := Nat.lt_of_lt_of_le hvl (Nat.pow_le_pow_right (n := 2) (by omega) hn)
      have hbl := Bool.toNat_le (l.getD (ps.getD k 0 - 1) false)
      obtain ⟨p, hp'⟩ : ∃ p, p = ps.getD k 0 := ⟨_, rfl⟩
      obtain ⟨B, hB⟩ : ∃ B, B = (l.getD (ps.getD k 0 - 1) false).toNat := ⟨_, rfl⟩
      obtain ⟨V, hV⟩ : ∃ V, V = Pure.val (Pure.pick l (ps.take k)) := ⟨_, rfl⟩
      obtain ⟨V', hV'⟩ : ∃ V', V' = Pure.val (Pure.pick l (ps.take (k + 1))) := ⟨_, rfl⟩
      rw [← hB] at hs hbit hbl
      rw [← hV, ← hV'] at hs
      rw [← hp'] at cx p1 p2 hbit
      rw [← hV] at hv ⊢
      obtain ⟨L, hL⟩ : ∃ L, L = Pure.val l := ⟨_, rfl⟩
      rw [← hL] at hbit hvl2 ⊢
      have e2 : bits .and .u64 ((L : Int) / 2 ^ (n - p)) 1 = (B : Int) := by
        have hle : L / 2 ^ (n - p) < 18446744073709551616 := Nat.lt_of_le_of_lt (Nat.div_le_self _ _) hvl2
        have h := u64_and_nat (L / 2 ^ (n - p)) 1 hle (by omega)
        rw [Nat.and_one_is_mod, hbit] at h
        rw [← h, Int.natCast_ediv, Int.natCast_pow]; rfl
      have e3 : bits .or .u64 ((V : Int) * 2) (B : Int) = (V' : Int) := by
        have h := or_u64 (V * 2) B V' (by rw [hs, Nat.mul_comm 2 V]; exact Pure.or_low V 1 B (by omega)) (by omega) (by omega)
        simpa using h
      have e4 : IntKind.u64.wrap ((V : Int) * 2) = (V : Int) * 2 := IntWalk.u64_in _ (by omega)
      have HV' := Lib.hid hV'
      clear hV hL hB hp' hs hV' hK hq hcx hvl hbit
      go_wp2_with fail
      go_roundw
      case rel => exact ⟨k + 1, by omega, by go_num, by rw [HV'.out], q, HQ.out⟩
      case measure => simp [intOf]; omega
    · have hkk : k = ps.length := by omega
      subst hkk
      rw [List.take_length]
      clear hK hkl hk
      go_wp2
      go_ret
      exact ⟨rfl, q, rfl⟩
end Go.Proofs.Ytmelphlgpnmopaa
