/- md4: bytes of a number, a word of bytes, the padding. -/
import Derived.Test.YtoobacpjlakkkaaFill
import Derived.Test.YtoobacpjlakkkaaClone
import Derived.Test.YtoobacpjlakkkaaDigB
namespace Go.Proofs.Ytoobacpjlakkkaa
open Go.RowKit
namespace Pure
/-- The first r bytes from p on, as a word, the least significant one first. -/
def word (m : List UInt8) (p : Nat) : Nat → UInt32
  | 0 => 0
  | r + 1 => word m p r ||| (m.getD (p + r) 0).toUInt32 <<< UInt32.ofNat (8 * r)
/-- Byte i of a number. -/
def byteLow (v i : Nat) : UInt8 := UInt8.ofNat (v / 2 ^ (8 * i))
def bytesLow (v n : Nat) : List UInt8 := (List.range n).map (byteLow v)
theorem bytesLow_succ (v n : Nat) : bytesLow v (n + 1) = bytesLow v n ++ [byteLow v n] := by simp [bytesLow, List.range_succ]
theorem bytesLow_length (v n : Nat) : (bytesLow v n).length = n := by simp [bytesLow]
theorem bytesLow_len (n k : Nat) : bytesLow (8 * n) k = lenBytes true n k := rfl
end Pure
theorem byteLow_int (v i : Nat) : ((v : Int) / 2 ^ (8 * i)) % 256 = (((Pure.byteLow v i).toNat : Nat) : Int) := by
  unfold Pure.byteLow
  rw [UInt8.toNat_ofNat', Int.natCast_emod, Int.natCast_ediv, Int.natCast_pow]
  rfl

set_option maxRecDepth 100000 in
set_option maxHeartbeats 2000000 in
theorem split_any (v n : Nat) (hv : v < 18446744073709551616) (hn : n ≤ 8) (h1 : 0 < n) (w : World) :
    Calls Try.prog 12 #[.int .u64 (v : Int), .int .i64 (n : Int)] w fun e w' => ∃ u, e = .returned u ∧ w'.ownsRow w.heap.size 5 1 u n (u8s (Pure.bytesLow v n)) ∧ Below w.heap.size w w' := by
  obtain ⟨i0, hi0, hz0, hz1, hz2⟩ := info_parts u8_info
  have I := Lib.hid (And.intro hi0 (And.intro hz0 (And.intro hz1 hz2)))
  clear hi0 hz0 hz1 hz2
  go_enter Try.func12, Try.ntmps12
  go_wp2_with (at_make; refine stopHere ?_)
  unfold Hid
  obtain ⟨hi0, hz0, hz1, hz2⟩ := I.out
  refine wpList_make_full _ rfl _ _ 24 rfl w.heap.size 5 i0 _ 1 Try.underlying24 hi0 hz0 hz1 .i64 .i64 _ _ n rfl rfl (by omega) (by omega) (by rw [hz2]; omega) (by unfold maxLen; omega) (Nat.le_refl _) ?_
  intro w0 hown0 hg0
  rw [show (Value.int .u8 0).cells = #[.int .u8 0] from rfl, made_cells rfl] at hown0
  have O0 := Lib.hid hown0
  have HK0 := Lib.hid (Keeps.new (Below.grown (Below.refl _ w) hg0 (Nat.le_refl _) (by simp)))
  clear hown0 hg0 hi0 hz0 hz1 hz2 I
  go_wp2_with fail
  go_loopw [11] (fun i wr => ∃ k : Nat, k ≤ n ∧ i = .int .i64 (k : Int) ∧
    wr.ownsRow w.heap.size 5 1 (.slice (some ⟨w.heap.size, 0, none⟩) n n) n (u8s (Pure.bytesLow v k ++ List.replicate (n - k) 0)) ∧ Keeps nobody w wr) (fun i _ => n - (intOf i).toNat)
  case atStart => exact ⟨0, by omega, rfl, by simpa [Pure.bytesLow] using O0.out, HK0.out⟩
  case round =>
    clear O0 HK0
    obtain ⟨k, hk, rfl, hW, hK⟩ := hrel
    have HW := Lib.hid hW
    have HK := Lib.hid hK
    by_cases hkl : k < n
    · have hi0 : (0 : Int) ≤ (k : Int) := by omega
      have hi1 : (k : Int) < (n : Int) := by omega
      have hk8 : k < 8 := by omega
      have hb := byteLow_int v k
      obtain ⟨X, hX⟩ : ∃ X, X = Pure.byteLow v k := ⟨_, rfl⟩
      rw [← hX] at hb
      have HX := Lib.hid hX
      have hat := own_at hW k (by simp [Pure.bytesLow_length]; omega)
      obtain ⟨Y, hY⟩ : ∃ Y, Y = ((Pure.bytesLow v k ++ List.replicate (n - k) 0).getD k 0) := ⟨_, rfl⟩
      rw [← hY] at hat
      have hfr := own_frozen hW k
      have HV := Lib.hid hv
      clear hX hY hW hK
      go_wp2_with fail
      go_roundw
      case rel =>
        refine ⟨k + 1, by omega, by go_num, ?_, ?_⟩
        · have h1 := own_set HW.out (k := k) X
          rw [set_next _ n k (Pure.bytesLow_length v k) hkl, HX.out, ← Pure.bytesLow_succ] at h1
          rw [HX.out]
          exact h1
        · exact HK.out.store w.heap.size k (fun h => by omega) _
      case measure => simp [intOf]; omega
    · have hkk : k = n := by omega
      subst hkk
      clear hW hK hkl hk
      go_wp2
      go_ret
      refine ⟨_, rfl, ?_, HK.out.to_below⟩
      have := HW.out
      simpa using this

set_option maxRecDepth 100000 in
set_option maxHeartbeats 2000000 in
theorem join_any (F : Nat → Prop) (x : Value) (bs : List UInt8) (hl : bs.length ≤ 4) (w : World) (hr : Row w F 1 x bs.length (u8s bs)) :
    Calls Try.prog 16 #[x] w fun e w' => e = .returned (.int .u32 (Pure.word bs 0 bs.length).toNat) ∧ w' = w := by
  obtain ⟨A, cA, rfl, hc⟩ := hr.form
  have HR := Lib.hid hr
  clear hr
  go_enter Try.func16, Try.ntmps16
  go_wp2_with fail
  go_loopw [3, 8] (fun s i wr => ∃ k : Nat, k ≤ bs.length ∧ i = .int .i64 (k : Int) ∧ s = .int .u32 (Pure.word bs 0 k).toNat ∧ wr = w) (fun _ i _ => bs.length - (intOf i).toNat)
  case atStart => exact ⟨0, by omega, rfl, rfl, rfl⟩
  case round =>
    obtain ⟨k, hk, rfl, rfl, rfl⟩ := hrel
    by_cases hkl : k < bs.length
    · have hi0 : (0 : Int) ≤ (k : Int) := by omega
      have hi1 : (k : Int) < (bs.length : Int) := by omega
      have hk4 : k < 4 := by omega
      obtain ⟨b, off, rfl, _, hcx⟩ := HR.out.cellAt (by omega)
      have c1 := hcx k _ (u8s_at bs k hkl)
      obtain ⟨B, hB⟩ : ∃ B : UInt8, B = bs.getD k 0 := ⟨_, rfl⟩
      rw [← hB] at c1
      obtain ⟨V, hV⟩ : ∃ V, V = Pure.word bs 0 k := ⟨_, rfl⟩
      rw [← hV]
      obtain ⟨Y, hY⟩ : ∃ Y : UInt32, Y = B.toUInt32 <<< UInt32.ofNat (8 * k) := ⟨_, rfl⟩
      have hBl := B.toNat_lt
      have hv0 : (B.toNat : Int) % 4294967296 = (B.toNat : Int) := Int.emod_eq_of_lt (by omega) (by omega)
      have hv1 : (B.toNat : Int) * 2 ^ (8 * k) % 4294967296 = (Y.toNat : Int) := by rw [hY, ← shl_u32 _ _ (by omega), wide_u8]
      obtain ⟨Z, hZ⟩ : ∃ Z : UInt32, Z = V ||| Y := ⟨_, rfl⟩
      have hv2 := or_u32 V Y
      rw [← hZ] at hv2
      have hnext : Pure.word bs 0 (k + 1) = Z := by rw [hZ, hY, hV, hB]; simp [Pure.word]
      have HN := Lib.hid hnext
      clear hcx hB hV hY hZ hnext HR
      go_wp2_with fail
      go_roundw
      case rel => exact ⟨k + 1, by omega, by go_num, by rw [HN.out], trivial⟩
      case measure => simp [intOf]; omega
    · have hkk : k = bs.length := by omega
      subst hkk
      go_wp2
      go_ret
      exact ⟨rfl, rfl⟩

set_option maxRecDepth 100000 in
set_option maxHeartbeats 2000000 in
theorem padded_any (F : Nat → Prop) (x : Value) (bs : List UInt8) (L : Nat) (hL : bs.length % 64 = L % 64) (hL2 : L ≤ 100000000) (hl : bs.length ≤ 64) (w : World) (hr : Row w F 1 x bs.length (u8s bs)) :
    Calls Try.prog 11 #[x, .int .i64 (L : Int)] w fun e w' => ∃ u, e = .returned u ∧
      w'.ownsRow w.heap.size 5 1 u (bs.length + 1 + Pure.noughts bs.length + 8) (u8s (bs ++ [128] ++ List.replicate (Pure.noughts bs.length) 0 ++ Pure.lenBytes true L 8)) ∧ Below w.heap.size w w' := by
  obtain ⟨A, cA, rfl, hc⟩ := hr.form
  have HC := Lib.hid (clone_any F _ bs.length bs w hr (by omega))
  clear hr
  go_enter Try.func11, Try.ntmps11
  go_wp2_with fail
  refine HC.out.mono ?_
  rintro e w1 ⟨u, rfl, hu, hb1⟩
  have HU := Lib.hid hu
  have HB := Lib.hid hb1
  clear HC hu hb1
  go_wp2_with (at_builtin; refine stopHere ?_)
  unfold Hid
  have hsz := HB.out.size
  refine wp_append_u8 rfl (.tmp 7) (.tmp 8) rfl w.heap.size u bs.length bs rfl rfl (own_grown HU.out (World.grownBy_alloc w1 _ none) (by simp)) _ _ [128] rfl (new1 w1 128) (by simp; omega) (by simp; omega) ?_
  intro v2 w2 hown2 hg2 hat2
  have HO2 := Lib.hid hown2
  have HB2 := Lib.hid (show Below w.heap.size w w2 from ((HB.out.alloc hsz _).grown hg2 (by simp; omega) (fun k hk => ownsRow_ge HU.out k hk)))
  clear HU HB hown2 hg2 hat2
  go_wp2_with fail
  go_loopw [5] (fun v wr => ∃ k : Nat, k ≤ Pure.noughts bs.length ∧ wr.ownsRow w.heap.size 5 1 v (bs.length + 1 + k) (u8s (bs ++ [128] ++ List.replicate k 0)) ∧ Below w.heap.size w wr) (fun v _ => bs.length + 1 + Pure.noughts bs.length - lenOf v)
  case atStart => exact ⟨0, by omega, by simpa using HO2.out, HB2.out⟩
  case round =>
    clear HO2 HB2
    obtain ⟨k, hk, hW, hK⟩ := hrel
    have HW := Lib.hid hW
    have HK := Lib.hid hK
    obtain ⟨A, c, rfl⟩ := own_form HW.out
    clear hW hK
    have hno : Pure.noughts bs.length < 64 := by unfold Pure.noughts; omega
    by_cases hkl : k < Pure.noughts bs.length
    · have hne := Pure.noughts_least bs.length k hkl
      obtain ⟨N, hN⟩ : ∃ N, N = bs.length + 1 + k := ⟨_, rfl⟩
      rw [← hN] at HW hne ⊢
      have hN2 : N ≤ 200000000 := by omega
      have hm : ((N : Int) % 64 != 56) = true := by rw [bne_iff_ne]; omega
      have HN := Lib.hid hN
      clear hN hne
      have hsz := HK.out.size
      go_wp2_with (at_builtin; refine stopHere ?_)
      unfold Hid
      refine wp_append_u8 rfl (.tmp 14) (.tmp 15) rfl w.heap.size (.slice A N c) N (bs ++ [128] ++ List.replicate k 0) (by simp; have := HN.out; omega) rfl (own_grown HW.out (World.grownBy_alloc wr _ none) (by simp)) _ _ [0] rfl (new1 wr 0) (by simp; omega) (by simp; omega) ?_
      intro v3 w3 hown3 hg3 hat3
      have HO3 := Lib.hid hown3
      have HB3 := Lib.hid (show Below w.heap.size w w3 from ((HK.out.alloc hsz _).grown hg3 (by simp; omega) (fun k hk => ownsRow_ge HW.out k hk)))
      clear hown3 hg3 hat3
      go_wp2_with fail
      go_roundw
      case rel =>
        refine ⟨k + 1, by omega, ?_, HB3.out⟩
        have h3 := HO3.out
        have e1 : (bs ++ [128] ++ List.replicate k 0 ++ [0]) = bs ++ [128] ++ List.replicate (k + 1) 0 := by rw [List.append_assoc _ (List.replicate k 0), List.replicate_succ']
        rw [e1] at h3
        have e2 : (bs ++ [128] ++ List.replicate (k + 1) 0).length = bs.length + 1 + (k + 1) := by simp; omega
        rw [e2] at h3
        exact h3
      case measure =>
        have h3 := HO3.out
        obtain ⟨A3, c3, rfl⟩ := own_form h3
        have := HN.out
        simp [lenOf]
        omega
    · have hkk : k = Pure.noughts bs.length := by omega
      subst hkk
      have hsp := Pure.noughts_spec bs.length
      obtain ⟨N, hN⟩ : ∃ N, N = bs.length + 1 + Pure.noughts bs.length := ⟨_, rfl⟩
      rw [← hN] at HW hsp ⊢
      have hN2 : N ≤ 200000000 := by omega
      have hm : ((N : Int) % 64 != 56) = false := by
        have : (N : Int) % 64 = 56 := by omega
        rw [this]; rfl
      have HN := Lib.hid hN
      obtain ⟨base, hbase⟩ : ∃ base, base = bs ++ [128] ++ List.replicate (Pure.noughts bs.length) 0 := ⟨_, rfl⟩
      have HBase := Lib.hid hbase
      have hlb : base.length = N := by rw [hbase, hN]; simp; omega
      rw [← hbase] at HW
      have HL := Lib.hid hlb
      have hsp2 := split_any (8 * L) 8 (by omega) (by omega) (by omega) wr
      push_cast at hsp2
      have HSP := Lib.hid hsp2
      clear hN hsp hsp2 hbase hlb hkl hk hno hL
      have hL0 : (0 : Int) ≤ (L : Int) := by omega
      have hL3 : (L : Int) ≤ 100000000 := by omega
      go_wp2_with fail
      refine HSP.out.mono ?_
      rintro e w5 ⟨u5, rfl, hu5, hb5⟩
      have hsz := HK.out.size
      have HU5 := Lib.hid hu5
      have HB5 := Lib.hid hb5
      have HW5 := Lib.hid (ownsRow_keeps HW.out (Keeps.new hb5) (fun _ _ h => h))
      have HK5 := Lib.hid (HK.out.trans (hb5.mono hsz))
      clear hu5 hb5 HSP HW HK
      go_wp2_with (at_builtin; refine stopHere ?_)
      unfold Hid
      refine wp_append_u8 rfl (.tmp 17) (.tmp 21) rfl w.heap.size (.slice A N c) N base HL.out rfl HW5.out _ u5 (Pure.bytesLow (8 * L) 8) rfl (by rw [Pure.bytesLow_length]; exact Row.of_own HU5.out) (by rw [Pure.bytesLow_length]; omega) (by have := HB5.out.size; omega) ?_
      intro v3 w3 hown3 hg3 hat3
      have HO3 := Lib.hid hown3
      have HB3 := Lib.hid (show Below w.heap.size w w3 from (HK5.out.grown hg3 (by have := HB5.out.size; omega) (fun k hk => ownsRow_ge HW5.out k hk)))
      clear hown3 hg3 hat3
      go_wp2
      go_ret
      refine ⟨_, rfl, ?_, HB3.out⟩
      have h3 := HO3.out
      rw [HBase.out, Pure.bytesLow_len] at h3
      have e2 : (bs ++ [128] ++ List.replicate (Pure.noughts bs.length) 0 ++ Pure.lenBytes true L 8).length = bs.length + 1 + Pure.noughts bs.length + 8 := by simp [lenBytes_length]; omega
      rw [e2] at h3
      exact h3
end Go.Proofs.Ytoobacpjlakkkaa
