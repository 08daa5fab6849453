/- A word turned left, the document's way and the library's; the three functions of md4's rounds. -/
import Derived.Test.YtkllaghfiofnjaaDoorU32
import Derived.Test.YtkllaghfiofnjaaDoorDigPure
namespace Go.Proofs.YtkllaghfiofnjaaDoor
open Go.RowKit
theorem left_eq (x : UInt32) (n : Nat) (h1 : 1 ≤ n) (hn : n < 32) : bits .or .u32 ((x.toNat : Int) * 2 ^ n % 4294967296) ((x.toNat : Int) / 2 ^ (32 - n)) = (((Pure.left x n).toNat : Nat) : Int) := by
  rw [shl_u32 x n hn, shr_u32 x (32 - n) (by omega), or_u32]
  rfl
set_option maxHeartbeats 1000000 in
theorem left_any (x : UInt32) (n : Nat) (h1 : 1 ≤ n) (hn : n < 32) (w : World) : Calls Tryd.prog 54 #[.int .u32 x.toNat, .int .i64 n] w fun e w' => e = .returned (.int .u32 ((Pure.left x n).toNat)) ∧ w' = w := by
  have h0 : (0 : Int) ≤ n := by omega
  have h2 : (n : Int) ≤ 32 := by omega
  have he := left_eq x n h1 hn
  go_enter Tryd.func54, Tryd.ntmps54
  go_wp2
  go_ret
  exact ⟨rfl, rfl⟩
set_option maxHeartbeats 1000000 in
theorem rot_any (x : UInt32) (n : Nat) (h1 : 1 ≤ n) (hn : n < 32) (w : World) : Calls Tryd.prog 94 #[.int .u32 x.toNat, .int .i64 n] w fun e w' => e = .returned (.int .u32 ((Pure.left x n).toNat)) ∧ w' = w := by
  have h0 : (0 : Int) ≤ n := by omega
  have h2 : (n : Int) < 32 := by omega
  have h3 : (n : Int) ≤ 32 := by omega
  have he := left_eq x n h1 hn
  have hm : bits .and .u64 (n : Int) 31 = (n : Int) := by
    have := u64_and_nat n 31 (by omega) (by omega)
    rw [show n &&& 31 = n from by have := Nat.and_two_pow_sub_one_eq_mod n 5; rw [show (2:Nat)^5 - 1 = 31 from rfl] at this; rw [this]; omega] at this
    exact this
  go_enter Tryd.func94, Tryd.ntmps94
  go_wp2
  go_ret
  exact ⟨rfl, rfl⟩
set_option maxHeartbeats 1000000 in
theorem choice_any (x y z r : UInt32) (hr : r = x &&& y ||| ~~~x &&& z) (w : World) : Calls Tryd.prog 95 #[.int .u32 x.toNat, .int .u32 y.toNat, .int .u32 z.toNat] w fun e w' => e = .returned (.int .u32 r.toNat) ∧ w' = w := by
  obtain ⟨a, ha⟩ : ∃ a, a = x &&& y := ⟨_, rfl⟩
  obtain ⟨b, hb⟩ : ∃ b, b = ~~~x := ⟨_, rfl⟩
  obtain ⟨c, hc⟩ : ∃ c, c = b &&& z := ⟨_, rfl⟩
  rw [← ha, ← hb, ← hc] at hr
  have ea := and_u32 x y
  rw [← ha] at ea
  have eb := not_u32 x
  rw [← hb] at eb
  have ec := and_u32 b z
  rw [← hc] at ec
  have er := or_u32 a c
  rw [← hr] at er
  clear ha hb hc hr
  go_enter Tryd.func95, Tryd.ntmps95
  go_wp2
  all_goals go_ret
  all_goals exact ⟨rfl, rfl⟩
set_option maxHeartbeats 1000000 in
theorem majority_any (x y z r : UInt32) (hr : r = x &&& y ||| x &&& z ||| y &&& z) (w : World) : Calls Tryd.prog 96 #[.int .u32 x.toNat, .int .u32 y.toNat, .int .u32 z.toNat] w fun e w' => e = .returned (.int .u32 r.toNat) ∧ w' = w := by
  obtain ⟨a, ha⟩ : ∃ a, a = x &&& y := ⟨_, rfl⟩
  obtain ⟨b, hb⟩ : ∃ b, b = x &&& z := ⟨_, rfl⟩
  obtain ⟨c, hc⟩ : ∃ c, c = a ||| b := ⟨_, rfl⟩
  obtain ⟨d, hd⟩ : ∃ d, d = y &&& z := ⟨_, rfl⟩
  rw [← ha, ← hb, ← hc, ← hd] at hr
  have ea := and_u32 x y
  rw [← ha] at ea
  have eb := and_u32 x z
  rw [← hb] at eb
  have ec := or_u32 a b
  rw [← hc] at ec
  have ed := and_u32 y z
  rw [← hd] at ed
  have er := or_u32 c d
  rw [← hr] at er
  clear ha hb hc hd hr
  go_enter Tryd.func96, Tryd.ntmps96
  go_wp2
  all_goals go_ret
  all_goals exact ⟨rfl, rfl⟩
set_option maxHeartbeats 1000000 in
theorem parity_any (x y z r : UInt32) (hr : r = x ^^^ y ^^^ z) (w : World) : Calls Tryd.prog 97 #[.int .u32 x.toNat, .int .u32 y.toNat, .int .u32 z.toNat] w fun e w' => e = .returned (.int .u32 r.toNat) ∧ w' = w := by
  obtain ⟨a, ha⟩ : ∃ a, a = x ^^^ y := ⟨_, rfl⟩
  rw [← ha] at hr
  have ea := xor_u32 x y
  rw [← ha] at ea
  have er := xor_u32 a z
  rw [← hr] at er
  clear ha hr
  go_enter Tryd.func97, Tryd.ntmps97
  go_wp2
  all_goals go_ret
  all_goals exact ⟨rfl, rfl⟩
end Go.Proofs.YtkllaghfiofnjaaDoor
