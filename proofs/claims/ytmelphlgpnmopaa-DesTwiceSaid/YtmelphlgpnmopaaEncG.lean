/- des: what the S-boxes make of eight groups of six bits. -/
import Derived.Test.YtmelphlgpnmopaaEncS
import Derived.Test.YtmelphlgpnmopaaIdxAny
namespace Go.Proofs.Ytmelphlgpnmopaa
open Go.RowKit
theorem six_parts (r k : List Bool) (hk : k.length = 48) (i : Nat) (hi : i < 8) :
    ∃ row col : Nat, row < 4 ∧ col < 16 ∧ Pure.desAt r k i = 16 * row + col ∧ ∃ g, g = Pure.val (Pure.xors (Pure.pick r Pure.expand) k) / 2 ^ (6 * (7 - i)) % 64 ∧ g < 64 ∧ g / 32 * 2 + g % 2 = row ∧ g / 2 % 16 = col := by
  have hl : (Pure.xors (Pure.pick r Pure.expand) k).length = 48 := by rw [Pure.xors_length, Pure.pick_length, Pure.expand_length]
  have h := Pure.six_of _ hl i hi
  have m := fun j hj => Pure.mixed_at r k i j hi hj
  rw [show 6 * i = 6 * i + 0 by rfl, m 0 (by omega)] at h
  simp only [Nat.add_zero] at h
  rw [m 1 (by omega), m 2 (by omega), m 3 (by omega), m 4 (by omega), m 5 (by omega)] at h
  have b := fun j => Bool.toNat_le (Pure.desSix r k i j)
  have b0 := b 0
  have b1 := b 1
  have b2 := b 2
  have b3 := b 3
  have b4 := b 4
  have b5 := b 5
  refine ⟨2 * (Pure.desSix r k i 0).toNat + (Pure.desSix r k i 5).toNat, 8 * (Pure.desSix r k i 1).toNat + 4 * (Pure.desSix r k i 2).toNat + 2 * (Pure.desSix r k i 3).toNat + (Pure.desSix r k i 4).toNat, by omega, by omega, ?_, _, rfl, by omega, ?_, ?_⟩
  · unfold Pure.desAt; omega
  · rw [h]; omega
  · rw [h]; omega
theorem word_info : (Try.prog.info? 38).map (fun i => (i.zero, i.size, i.bytes)) = some (some (.int .u64 0), 1, 8) := by kernel_rfl
theorem outs_length (r k : List Bool) : ∀ i, (Pure.desOuts r k i).length = 4 * i
  | 0 => rfl
  | i + 1 => by rw [Pure.desOuts_snoc, List.length_append, outs_length r k i]; rfl
theorem low_nat (n v x : Nat) (hn : 1 ≤ n) (hn2 : n ≤ 32) (hv : v < 18446744073709551616) (y : Int) (hy : y = (v : Int)) (N : Int) (hN : N = (n : Int)) (hx : v % 2 ^ n = x) (w : World) :
    Calls Try.prog 15 #[.int .i64 N, .int .u64 y] w fun e w' => e = .returned (.int .u64 (x : Int)) ∧ Keeps nobody w w' := by
  subst hy hN hx
  exact (lowest_any n v hn hn2 hv w).mono fun _ _ ⟨h, q, hq⟩ => ⟨h, Keeps.of_drewN hq⟩
set_option maxHeartbeats 4000000 in
theorem substituted_any (r k : List Bool) (hr : r.length = 32) (hk : k.length = 48) (w : World) :
    Calls Try.prog 29 #[.int .u64 ((Pure.val (Pure.xors (Pure.pick r Pure.expand) k) : Nat) : Int)] w fun e w' => e = .returned (.int .u64 ((Pure.val (Pure.desOuts r k 8) : Nat) : Int)) ∧ Keeps nobody w w' := by
  have hG := Pure.val_lt (Pure.xors (Pure.pick r Pure.expand) k)
  rw [Pure.xors_length, Pure.pick_length, Pure.expand_length] at hG
  have HS := Lib.hid (six_parts r k hk)
  obtain ⟨G, hGG⟩ : ∃ G, G = Pure.val (Pure.xors (Pure.pick r Pure.expand) k) := ⟨_, rfl⟩
  rw [← hGG] at hG HS ⊢
  clear hGG hr hk
  go_enter Try.func29, Try.ntmps29
  go_wp2_with fail
  go_loopw [3, 4] (fun v n wr => ∃ i : Nat, i ≤ 8 ∧ n = .int .i64 ((i + 1 : Nat) : Int) ∧ v = .int .u64 ((Pure.val (Pure.desOuts r k i) : Nat) : Int) ∧ Keeps nobody w wr) (fun _ n _ => 9 - (intOf n).toNat)
  case atStart => exact ⟨0, by omega, rfl, rfl, Keeps.refl _ w⟩
  case round =>
    obtain ⟨i, hi, rfl, rfl, hK⟩ := hrel
    have HK := Lib.hid hK
    clear hK
    by_cases hil : i < 8
    · obtain ⟨row, col, h1, h2, h3, g, hg, h4, h5, h6⟩ := HS.out i hil
      have hv := Pure.val_outs r k i hil
      have hvl := Pure.val_lt (Pure.desOuts r k i)
      have hD : Pure.desNum r k i = Pure.rowNum i row / 2 ^ (4 * (15 - col)) % 2 ^ 4 := by
        unfold Pure.desNum
        rw [h3, ← Pure.rowNum_at i hil row h1 col h2]
      have hRl := Pure.rowNum_lt i hil row h1
      obtain ⟨N, hN⟩ : ∃ N, N = i + 1 := ⟨_, rfl⟩
      have HBR := Lib.hid (boxRows_any i hil)
      rw [← hN] at HBR ⊢
      have n1 : (1 : Int) ≤ (N : Int) := by omega
      have n2 : (N : Int) ≤ 8 := by omega
      obtain ⟨s, hs⟩ : ∃ s, s = 6 * (7 - i) := ⟨_, rfl⟩
      have e1 : 6 * (8 - (N : Int)) = (s : Int) := by omega
      have e0 : (0 : Int) ≤ (s : Int) := by omega
      rw [← hs] at hg
      have hq : G / 2 ^ s < 18446744073709551616 := Nat.lt_of_le_of_lt (Nat.div_le_self _ _) (by omega)
      have e2 : (G : Int) / 2 ^ s = ((G / 2 ^ s : Nat) : Int) := by rw [Int.natCast_ediv, Int.natCast_pow]; rfl
      have HL1 := Lib.hid (low_nat 6 (G / 2 ^ s) g (by omega) (by omega) hq _ e2 6 rfl hg.symm)
      have HL2 := Lib.hid (low_nat 4 (g / 2) col (by omega) (by omega) (by omega) ((g : Int) / 2) (by omega) 4 rfl h6)
      obtain ⟨R, hR⟩ : ∃ R, R = Pure.rowNum i row := ⟨_, rfl⟩
      rw [← hR] at hD hRl
      obtain ⟨d, hd⟩ : ∃ d, d = 15 - col := ⟨_, rfl⟩
      obtain ⟨t, ht⟩ : ∃ t, t = 4 * (15 - col) := ⟨_, rfl⟩
      rw [← ht] at hD
      have e3 : 15 - (col : Int) = (d : Int) := by omega
      have e4 : 4 * (d : Int) = (t : Int) := by omega
      have e5 : (0 : Int) ≤ (t : Int) := by omega
      have hq2 : R / 2 ^ t < 18446744073709551616 := Nat.lt_of_le_of_lt (Nat.div_le_self _ _) hRl
      have e6 : (R : Int) / 2 ^ t = ((R / 2 ^ t : Nat) : Int) := by rw [Int.natCast_ediv, Int.natCast_pow]; rfl
      have hDl : Pure.desNum r k i < 16 := by rw [hD]; exact Nat.mod_lt _ (by omega)
      obtain ⟨D, hDe⟩ : ∃ D, D = Pure.desNum r k i := ⟨_, rfl⟩
      obtain ⟨V, hV⟩ : ∃ V, V = Pure.val (Pure.desOuts r k i) := ⟨_, rfl⟩
      obtain ⟨V', hV'⟩ : ∃ V', V' = Pure.val (Pure.desOuts r k (i + 1)) := ⟨_, rfl⟩
      rw [← hDe] at hD hv hDl
      rw [← hV, ← hV'] at hv
      rw [outs_length, ← hV] at hvl
      rw [← hV]
      have hvl2 : V < 2 ^ 60 := Nat.lt_of_lt_of_le hvl (Nat.pow_le_pow_right (by omega) (by omega))
      have HL3 := Lib.hid (low_nat 4 (R / 2 ^ t) D (by omega) (by omega) hq2 _ e6 4 rfl hD.symm)
      obtain ⟨g2, hg2⟩ : ∃ g2, g2 = g % 2 := ⟨_, rfl⟩
      have e7 : bits .and .u64 (g : Int) 1 = (g2 : Int) := by
        have h := u64_and_nat g 1 (by omega) (by omega)
        rw [Nat.and_one_is_mod, ← hg2] at h
        exact h
      have e8 : bits .or .u64 ((g : Int) / 32 * 2) (g2 : Int) = (row : Int) := by
        have h := or_u64 (g / 32 * 2) g2 row (by rw [← h5, hg2]; exact Pure.or_low (g / 32) 1 (g % 2) (by omega)) (by omega) (by omega)
        simpa using h
      have e9 : bits .or .u64 ((V : Int) * 16) (D : Int) = (V' : Int) := by
        have h := or_u64 (V * 16) D V' hv (by omega) (by omega)
        simpa using h
      have HV' := Lib.hid hV'
      have HN := Lib.hid hN
      have HR := Lib.hid hR
      have hr0 : (0 : Int) ≤ (row : Int) := by omega
      have hr1 : (row : Int) < 4 := by omega
      clear hg h3 hs hD hv hV hV' hDe ht hd hvl h5 h6 hg2 e2 e6 hN hR
      go_wp2_with fail
      refine (HL1.out _).mono ?_
      rintro e w1 ⟨rfl, hk1⟩
      have HK1 := Lib.hid (HK.out.trans hk1)
      clear hk1 HL1
      go_wp2_with fail
      refine (HL2.out _).mono ?_
      rintro e w2 ⟨rfl, hk2⟩
      have HK2 := Lib.hid (HK1.out.trans hk2)
      clear hk2 HL2 HK1
      go_wp2_with fail
      refine (HBR.out _).mono ?_
      rintro e w3 ⟨rfl, hk3⟩
      have HK3 := Lib.hid (HK2.out.trans hk3)
      clear hk3 HBR HK2
      have erow : ∃ cs : Array Value, rowsV i = .agg cs ∧ cs.size = 4 ∧ cs[row]? = some (.int .u64 (R : Int)) := by
        refine ⟨_, rfl, rfl, ?_⟩
        rw [HR.out]
        rcases (show row = 0 ∨ row = 1 ∨ row = 2 ∨ row = 3 by omega) with rfl | rfl | rfl | rfl <;> rfl
      obtain ⟨cs, ecs, ecs2, ecs3⟩ := erow
      rw [ecs]
      obtain ⟨i0, hi0, hz0, hz1, hz2⟩ := info_parts word_info
      have hix := fun W => run_index_any .u64 63 38 4 cs row _ W Try.underlying63 h1 ecs3 i0 hi0 hz1 _ Try.underlying38 rfl
      clear ecs hi0 hz0 hz1 hz2 ecs3
      go_wp2_with fail
      refine (HL3.out _).mono ?_
      rintro e w4 ⟨rfl, hk4⟩
      have HK4 := Lib.hid (HK3.out.trans hk4)
      clear hk4 HL3 HK3 hix
      go_wp2_with fail
      go_roundw
      case rel => exact ⟨i + 1, by omega, by rw [HN.out]; rfl, by rw [HV'.out], HK4.out⟩
      case measure => have := HN.out; simp [intOf]; omega
    · have hii : i = 8 := by omega
      subst hii
      clear hil hi
      go_wp2
      go_ret
      exact ⟨rfl, HK.out⟩
end Go.Proofs.Ytmelphlgpnmopaa
