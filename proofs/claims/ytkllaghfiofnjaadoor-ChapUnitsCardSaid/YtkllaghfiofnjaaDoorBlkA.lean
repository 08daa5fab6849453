/- package block: shift, split, join. -/
import Derived.Test.YtkllaghfiofnjaaDoorBlkPure
import Derived.Test.YtkllaghfiofnjaaDoorFill
namespace Go.Proofs.YtkllaghfiofnjaaDoor
open Go.RowKit
set_option maxRecDepth 100000 in
set_option maxHeartbeats 2000000 in
theorem shift_any (high : Bool) (i n : Nat) (hi : i < n) (hn : n ≤ 8) (w : World) :
    Calls Tryd.prog 109 #[.int .i64 (i : Int), .int .i64 (n : Int), .bool high] w fun e w' => ∃ s : Nat, e = .returned (.int .i64 (s : Int)) ∧ Pure.shiftOf high i n = s ∧ w' = w := by
  have h0 : (0 : Int) ≤ (i : Int) := by omega
  have h1 : (i : Int) < (n : Int) := by omega
  have h2 : (n : Int) ≤ 8 := by omega
  cases high
  · go_enter Tryd.func109, Tryd.ntmps109
    go_wp2
    go_ret
    exact ⟨8 * i, by go_num, rfl, rfl⟩
  · go_enter Tryd.func109, Tryd.ntmps109
    go_wp2
    go_ret
    exact ⟨8 * (n - 1 - i), by go_num, rfl, rfl⟩

set_option maxRecDepth 100000 in
set_option maxHeartbeats 2000000 in
theorem split_any (high : Bool) (v n : Nat) (hv : v < 18446744073709551616) (hn : n ≤ 8) (h1 : 0 < n) (w : World) :
    Calls Tryd.prog 98 #[.int .u64 (v : Int), .int .i64 (n : Int), .bool high] w fun e w' => ∃ u, e = .returned u ∧ w'.ownsRow w.heap.size 5 1 u n (u8s (Pure.bytesOf high v n n)) ∧ Below w.heap.size w w' := by
  obtain ⟨i0, hi0, hz0, hz1, hz2⟩ := info_parts u8_info
  have I := Lib.hid (And.intro hi0 (And.intro hz0 (And.intro hz1 hz2)))
  clear hi0 hz0 hz1 hz2
  go_enter Tryd.func98, Tryd.ntmps98
  go_wp2_with (at_make; refine stopHere ?_)
  unfold Hid
  obtain ⟨hi0, hz0, hz1, hz2⟩ := I.out
  refine wpList_make_full _ rfl _ _ 25 rfl w.heap.size 5 i0 _ 1 Tryd.underlying25 hi0 hz0 hz1 .i64 .i64 _ _ n rfl rfl (by omega) (by omega) (by rw [hz2]; omega) (by unfold maxLen; omega) (Nat.le_refl _) ?_
  intro w0 hown0 hg0
  rw [show (Value.int .u8 0).cells = #[.int .u8 0] from rfl, made_cells rfl] at hown0
  have O0 := Lib.hid hown0
  have HK0 := Lib.hid (Keeps.new (Below.grown (Below.refl _ w) hg0 (Nat.le_refl _) (by simp)))
  clear hown0 hg0 hi0 hz0 hz1 hz2 I
  go_wp2_with fail
  go_loopw [13] (fun i wr => ∃ k : Nat, k ≤ n ∧ i = .int .i64 (k : Int) ∧
    wr.ownsRow w.heap.size 5 1 (.slice (some ⟨w.heap.size, 0, none⟩) n n) n (u8s (Pure.bytesOf high v n k ++ List.replicate (n - k) 0)) ∧ Keeps nobody w wr) (fun i _ => n - (intOf i).toNat)
  case atStart => exact ⟨0, by omega, rfl, by simpa [Pure.bytesOf] using O0.out, HK0.out⟩
  case round =>
    clear O0 HK0
    obtain ⟨k, hk, rfl, hW, hK⟩ := hrel
    have HW := Lib.hid hW
    have HK := Lib.hid hK
    by_cases hkl : k < n
    · have hi0 : (0 : Int) ≤ (k : Int) := by omega
      have hi1 : (k : Int) < (n : Int) := by omega
      have hk8 : k < 8 := by omega
      have HV := Lib.hid hv
      have hfr := own_frozen hW k
      have hat := own_at hW k (by simp [Pure.bytesOf_length]; omega)
      obtain ⟨Y, hY⟩ : ∃ Y, Y = ((Pure.bytesOf high v n k ++ List.replicate (n - k) 0).getD k 0) := ⟨_, rfl⟩
      rw [← hY] at hat
      clear hW hK hY
      go_wp2_with fail
      refine (shift_any high k n hkl hn wr).mono ?_
      rintro e w' ⟨s, rfl, hs, rfl⟩
      have hb := byteAt_int high v n k s hs
      obtain ⟨X, hX⟩ : ∃ X, X = Pure.byteAt high v n k := ⟨_, rfl⟩
      rw [← hX] at hb
      have HX := Lib.hid hX
      have hs0 : (0 : Int) ≤ (s : Int) := by omega
      have hs1 : (s : Int) < 64 := by
        have : s < 64 := by rw [← hs]; unfold Pure.shiftOf; split <;> omega
        omega
      clear hX hs
      go_wp2_with fail
      go_roundw
      case rel =>
        refine ⟨k + 1, by omega, by go_num, ?_, ?_⟩
        · have h1 := own_set HW.out (k := k) X
          rw [set_next _ n k (Pure.bytesOf_length high v n k) hkl, HX.out, ← Pure.bytesOf_succ] at h1
          rw [HX.out]
          exact h1
        · exact HK.out.store w.heap.size k (fun h => by omega) _
      case measure => simp [intOf]; omega
    · have hkk : k = n := by omega
      subst hkk
      clear hW hK hkl hk
      go_wp2
      go_ret
      refine ⟨_, rfl, ?_, HK.out.to_below⟩
      have := HW.out
      simpa using this

set_option maxRecDepth 100000 in
set_option maxHeartbeats 2000000 in
theorem join_any (high : Bool) (F : Nat → Prop) (x : Value) (bs : List UInt8) (hl : bs.length ≤ 4) (w : World) (hr : Row w F 1 x bs.length (u8s bs)) :
    Calls Tryd.prog 108 #[x, .bool high] w fun e w' => e = .returned (.int .u32 (Pure.joinTo high bs bs.length).toNat) ∧ w' = w := by
  obtain ⟨A, cA, rfl, hc⟩ := hr.form
  have HR := Lib.hid hr
  clear hr
  go_enter Tryd.func108, Tryd.ntmps108
  go_wp2_with fail
  go_loopw [5, 10] (fun s i wr => ∃ k : Nat, k ≤ bs.length ∧ i = .int .i64 (k : Int) ∧ s = .int .u32 (Pure.joinTo high bs k).toNat ∧ wr = w) (fun _ i _ => bs.length - (intOf i).toNat)
  case atStart => exact ⟨0, by omega, rfl, rfl, rfl⟩
  case round =>
    obtain ⟨k, hk, rfl, rfl, rfl⟩ := hrel
    by_cases hkl : k < bs.length
    · have hi0 : (0 : Int) ≤ (k : Int) := by omega
      have hi1 : (k : Int) < (bs.length : Int) := by omega
      have hk4 : k < 4 := by omega
      obtain ⟨b, off, rfl, _, hcx⟩ := HR.out.cellAt (by omega)
      have c1 := hcx k _ (u8s_at bs k hkl)
      obtain ⟨B, hB⟩ : ∃ B : UInt8, B = bs.getD k 0 := ⟨_, rfl⟩
      rw [← hB] at c1
      obtain ⟨V, hV⟩ : ∃ V, V = Pure.joinTo high bs k := ⟨_, rfl⟩
      rw [← hV]
      have HB := Lib.hid hB
      have HV := Lib.hid hV
      obtain ⟨L, hL⟩ : ∃ L, L = bs.length := ⟨_, rfl⟩
      have HL := Lib.hid hL
      have hkl' : k < L := by omega
      have hi1 : (k : Int) < (L : Int) := by omega
      rw [← hL] at hc ⊢
      clear hcx hB hV HR hL
      go_wp2_with fail
      refine (shift_any high k L hkl' (by have := HL.out; omega) _).mono ?_
      rintro e w' ⟨s, rfl, hs, rfl⟩
      have hs3 : s < 32 := by
        have := HL.out
        rw [← hs]
        unfold Pure.shiftOf
        split <;> omega
      have hs0 : (0 : Int) ≤ (s : Int) := by omega
      have hs1 : (s : Int) < 32 := by omega
      obtain ⟨Y, hY⟩ : ∃ Y : UInt32, Y = B.toUInt32 <<< UInt32.ofNat s := ⟨_, rfl⟩
      have hBl := B.toNat_lt
      have hv0 : (B.toNat : Int) % 4294967296 = (B.toNat : Int) := Int.emod_eq_of_lt (by omega) (by omega)
      have hv1 : (B.toNat : Int) * 2 ^ s % 4294967296 = (Y.toNat : Int) := by rw [hY, ← shl_u32 _ _ hs3, wide_u8]
      obtain ⟨Z, hZ⟩ : ∃ Z : UInt32, Z = V ||| Y := ⟨_, rfl⟩
      have hv2 := or_u32 V Y
      rw [← hZ] at hv2
      have hnext : Pure.joinTo high bs (k + 1) = Z := by
        rw [hZ, hY, HV.out, HB.out, ← hs, HL.out]
        rfl
      have HN := Lib.hid hnext
      clear hY hZ hnext hs
      go_wp2_with fail
      go_roundw
      case rel => exact ⟨k + 1, by have := HL.out; omega, by go_num, by rw [HN.out], trivial⟩
      case measure => simp [intOf]; omega
    · have hkk : k = bs.length := by omega
      subst hkk
      go_wp2
      go_ret
      exact ⟨rfl, rfl⟩
end Go.Proofs.YtkllaghfiofnjaaDoor
