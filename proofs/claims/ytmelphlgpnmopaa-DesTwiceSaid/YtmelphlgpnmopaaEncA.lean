/- des: numbers of bytes, and bytes of numbers; the lowest bits; how far a round turns. -/
import Derived.Laws.BitsAllLaws
import Derived.Test.YtmelphlgpnmopaaEncP
import Derived.Test.YtmelphlgpnmopaaDesA
import Derived.Test.YtmelphlgpnmopaaLast
namespace Go.Proofs.Ytmelphlgpnmopaa
open Go.RowKit
theorem or_u64 (a b c : Nat) (h : a ||| b = c) (ha : a < 18446744073709551616) (hb : b < 18446744073709551616) : bits .or .u64 (a : Int) (b : Int) = (c : Int) := by rw [u64_or_nat a b ha hb, h]
theorem xor_u64 (a b c : Nat) (h : a ^^^ b = c) (ha : a < 18446744073709551616) (hb : b < 18446744073709551616) : bits .xor .u64 (a : Int) (b : Int) = (c : Int) := by rw [u64_xor_nat a b ha hb, h]
theorem number_step (bs : List UInt8) (k : Nat) (h : k < bs.length) : Pure.val (Pure.bitsOfBytes true (bs.take (k + 1))) = Pure.val (Pure.bitsOfBytes true (bs.take k)) * 256 + (bs.getD k 0).toNat := by
  rw [take_snoc bs 0 k h, Pure.bits_snoc]
theorem number_lt (bs : List UInt8) (k : Nat) (h : k < bs.length) (h8 : bs.length ≤ 8) : Pure.val (Pure.bitsOfBytes true (bs.take k)) < 72057594037927936 := by
  have h1 := Pure.val_lt (Pure.bitsOfBytes true (bs.take k))
  rw [Pure.bitsOfBytes_length, List.length_take] at h1
  have h2 : (2 : Nat) ^ (8 * min k bs.length) ≤ 2 ^ 56 := Nat.pow_le_pow_right (by omega) (by omega)
  omega
set_option maxHeartbeats 1000000 in
theorem number_any (F : Nat → Prop) (x : Value) (bs : List UInt8) (w : World) (hr : Row w F 1 x bs.length (u8s bs)) (hl : bs.length ≤ 8) :
    Calls Try.prog 14 #[x] w fun e w' => e = .returned (.int .u64 ((Pure.val (Pure.bitsOfBytes true bs) : Nat) : Int)) ∧ Keeps nobody w w' := by
  obtain ⟨A, cA, rfl, hc⟩ := hr.form
  have HR := Lib.hid hr
  clear hr
  go_enter Try.func14, Try.ntmps14
  go_wp2_with fail
  go_loopw [3, 8] (fun v i wr => ∃ k : Nat, k ≤ bs.length ∧ i = .int .i64 (k : Int) ∧ v = .int .u64 ((Pure.val (Pure.bitsOfBytes true (bs.take k)) : Nat) : Int) ∧ Keeps nobody w wr) (fun _ i _ => bs.length - (intOf i).toNat)
  case atStart => exact ⟨0, by omega, rfl, by simp [Pure.bitsOfBytes, Pure.val], Keeps.refl _ w⟩
  case round =>
    obtain ⟨k, hk, rfl, rfl, hK⟩ := hrel
    have HK := Lib.hid hK
    by_cases hkl : k < bs.length
    · have hi0 : (0 : Int) ≤ (k : Int) := by omega
      have hi1 : (k : Int) < (bs.length : Int) := by omega
      obtain ⟨bx, ox, rfl, _, hcx⟩ := (HR.out.keeps hK (fun _ _ h => h)).cellAt (by omega)
      have cx := hcx k _ (u8s_at bs k hkl)
      have hs := number_step bs k hkl
      have hv := number_lt bs k hkl hl
      obtain ⟨V, hV⟩ : ∃ V, V = Pure.val (Pure.bitsOfBytes true (bs.take k)) := ⟨_, rfl⟩
      obtain ⟨X, hX⟩ : ∃ X, X = (bs.getD k 0).toNat := ⟨_, rfl⟩
      obtain ⟨V', hV'⟩ : ∃ V', V' = Pure.val (Pure.bitsOfBytes true (bs.take (k + 1))) := ⟨_, rfl⟩
      have hx : X < 256 := by rw [hX]; exact UInt8.toNat_lt _
      rw [← hV, ← hX, ← hV'] at hs
      rw [← hV] at hv ⊢
      rw [← hX] at cx
      have ho : bits .or .u64 ((V : Int) * 256) (X : Int) = (V' : Int) := by
        have h := or_u64 (V * 256) X V' (by rw [hs]; exact Pure.or_low V 8 X hx) (by omega) (by omega)
        simpa using h
      have HV' := Lib.hid hV'
      have HS := Lib.hid hs
      clear hV hX hs hV' hK hcx
      go_wp2_with fail
      go_roundw
      case rel => exact ⟨k + 1, by omega, by go_num, by rw [HV'.out], HK.out⟩
      case measure => simp [intOf]; omega
    · have hkk : k = bs.length := by omega
      subst hkk
      rw [List.take_length]
      clear hK hkl hk
      go_wp2
      go_ret
      exact ⟨rfl, HK.out⟩
/-- The lowest n bits by a mask. -/
theorem mask_u64 (v n : Nat) (hn : n ≤ 32) (hv : v < 18446744073709551616) : bits .and .u64 (v : Int) (IntKind.u64.wrap (IntKind.u64.wrap (2 ^ n) - 1)) = ((v % 2 ^ n : Nat) : Int) := by
  have h1 : (2 : Nat) ^ n ≤ 2 ^ 32 := Nat.pow_le_pow_right (by omega) hn
  have h0 := Nat.one_le_two_pow (n := n)
  have e1 : IntKind.u64.wrap (2 ^ n) = ((2 ^ n : Nat) : Int) := by
    rw [show ((2 : Int) ^ n) = ((2 ^ n : Nat) : Int) by simp]
    show ((2 ^ n : Nat) : Int) % 18446744073709551616 = _
    omega
  have e2 : IntKind.u64.wrap (((2 ^ n : Nat) : Int) - 1) = ((2 ^ n - 1 : Nat) : Int) := by
    show (((2 ^ n : Nat) : Int) - 1) % 18446744073709551616 = _
    omega
  rw [e1, e2, u64_and_nat _ _ hv (by omega), Nat.and_two_pow_sub_one_eq_mod]
theorem lowest_any (n : Nat) (v : Nat) (hn : 1 ≤ n) (hn2 : n ≤ 32) (hv : v < 18446744073709551616) (w : World) :
    Calls Try.prog 15 #[.int .i64 (n : Int), .int .u64 (v : Int)] w fun e w' => e = .returned (.int .u64 ((v % 2 ^ n : Nat) : Int)) ∧ ∃ q, w' = w.drewN q := by
  have hn0 : (0 : Int) ≤ (n : Int) := by omega
  go_enter Try.func15, Try.ntmps15
  go_wp2_with fail
  go_ret
  exact ⟨by rw [mask_u64 v n hn2 hv]; rfl, 0, rfl⟩
theorem turn_any2 (n : Nat) (h1 : 1 ≤ n) (hn : n ≤ 16) (w : World) :
    Calls Try.prog 33 #[.int .i64 (n : Int)] w fun e w' => e = .returned (.int .i64 ((Pure.desBy n : Nat) : Int)) ∧ ∃ q, w' = w.drewN q := by
  rcases (show n = 1 ∨ n = 2 ∨ n = 3 ∨ n = 4 ∨ n = 5 ∨ n = 6 ∨ n = 7 ∨ n = 8 ∨ n = 9 ∨ n = 10 ∨ n = 11 ∨ n = 12 ∨ n = 13 ∨ n = 14 ∨ n = 15 ∨ n = 16 by omega) with rfl | rfl | rfl | rfl | rfl | rfl | rfl | rfl | rfl | rfl | rfl | rfl | rfl | rfl | rfl | rfl
  all_goals
    go_enter Try.func33, Try.ntmps33
    go_wp2
    go_ret
    exact ⟨rfl, 0, rfl⟩
end Go.Proofs.Ytmelphlgpnmopaa
