/- The walk of the law BitsParts. -/
import Derived.Test.YtekocdiccfpkdaaLaw1A
import Derived.Test.YtekocdiccfpkdaaFrame
import Derived.Test.YtekocdiccfpkdaaRef1A
namespace Go.Proofs.Ytekocdiccfpkdaa
open Go.RowKit
namespace Pure
/-- The upper and the lower part of a number of n + m bits, in the order in which they are put. -/
def first (high : Bool) (v n m : Nat) : Nat := if high then v >>> m else v % 2 ^ n
def second (high : Bool) (v n m : Nat) : Nat := if high then v % 2 ^ m else v >>> n
theorem first_lt (high : Bool) (v n m : Nat) (h : v < 2 ^ (n + m)) : first high v n m < 2 ^ n := by
  cases high
  · simp only [first, Bool.false_eq_true, if_false]; exact Nat.mod_lt _ (Nat.two_pow_pos n)
  · simp only [first, if_true]
    rw [Nat.shiftRight_eq_div_pow]
    rw [Nat.pow_add] at h
    exact Nat.div_lt_of_lt_mul (by rw [Nat.mul_comm]; exact h)
theorem second_lt (high : Bool) (v n m : Nat) (h : v < 2 ^ (n + m)) : second high v n m < 2 ^ m := by
  cases high
  · simp only [second, Bool.false_eq_true, if_false]
    rw [Nat.shiftRight_eq_div_pow]
    rw [Nat.pow_add] at h
    exact Nat.div_lt_of_lt_mul h
  · simp only [second, if_true]; exact Nat.mod_lt _ (Nat.two_pow_pos m)
theorem bitsOf_parts (high : Bool) (v n m : Nat) : bitsOf high (n + m) v = bitsOf high n (first high v n m) ++ bitsOf high m (second high v n m) := by
  apply List.ext_getElem?
  intro i
  rw [List.getElem?_append, bitsOf_length]
  rcases Nat.lt_or_ge i (n + m) with h | h
  · rw [bitsOf_get high (n + m) v i h]
    split
    · rename_i h1
      rw [bitsOf_get high n _ i h1]
      cases high
      · simp [first, place, Nat.testBit_mod_two_pow, h1]
      · simp only [first, place, if_true, Nat.testBit_shiftRight]
        congr 2
        omega
    · rename_i h1
      rw [bitsOf_get high m _ (i - n) (by omega)]
      cases high
      · simp only [second, place, Bool.false_eq_true, if_false, Nat.testBit_shiftRight]
        congr 2
        omega
      · simp only [second, place, if_true, Nat.testBit_mod_two_pow]
        rw [show n + m - 1 - i = m - 1 - (i - n) by omega]
        simp
        omega
  · rw [List.getElem?_eq_none (by rw [bitsOf_length]; exact h)]
    split
    · omega
    · rw [List.getElem?_eq_none (by rw [bitsOf_length]; omega)]
theorem Packs.peekEnd {high : Bool} {A : List Bool} {n x : Nat} {bs : List UInt8} {free : Nat} (h : Packs high (A ++ bitsOf high n x) bs free) (hx : x < 2 ^ n) :
    Pure.peek high bs A.length n = x ∧ A.length + n ≤ 8 * bs.length := by
  rw [← List.append_nil (A ++ bitsOf high n x)] at h
  exact h.peek hx
theorem join_high (v m : Nat) : (v >>> m) * 2 ^ m ||| v % 2 ^ m = v := by
  rw [Nat.shiftRight_eq_div_pow, nat_join m _ _ (Nat.mul_mod_left _ _) (Nat.mod_lt _ (Nat.two_pow_pos m)), Nat.mul_comm]
  exact Nat.div_add_mod v (2 ^ m)
end Pure

/-- The two parts, as the law reckons them. -/
theorem parts_go (high : Bool) (V n m : Nat) (hV : V < 4294967296) (hn : n ≤ 16) (hm : m ≤ 16) :
    if high then ((V : Int) / 2 ^ m = ((Pure.first high V n m : Nat) : Int) ∧ bits .and .i64 (V : Int) (wrap64 (wrap64 (2 ^ m) - 1)) = ((Pure.second high V n m : Nat) : Int))
    else (bits .and .i64 (V : Int) (wrap64 (wrap64 (2 ^ n) - 1)) = ((Pure.first high V n m : Nat) : Int) ∧ (V : Int) / 2 ^ n = ((Pure.second high V n m : Nat) : Int)) := by
  cases high
  · simp only [Bool.false_eq_true, if_false, Pure.first, Pure.second]
    exact ⟨by rw [mask_any _ n (by omega) (by omega) (by omega)]; simp, by rw [Nat.shiftRight_eq_div_pow]; simp⟩
  · simp only [if_true, Pure.first, Pure.second]
    exact ⟨by rw [Nat.shiftRight_eq_div_pow]; simp, by rw [mask_any _ m (by omega) (by omega) (by omega)]; simp⟩
theorem join_go (high : Bool) (V n m : Nat) (hV : V < 2 ^ (n + m)) (hn : n ≤ 16) (hm : m ≤ 16) :
    if high then bits .or .i64 (wrap64 (((Pure.first high V n m : Nat) : Int) * 2 ^ m)) ((Pure.second high V n m : Nat) : Int) = V
    else bits .or .i64 (wrap64 (((Pure.second high V n m : Nat) : Int) * 2 ^ n)) ((Pure.first high V n m : Nat) : Int) = V := by
  have h32 : 2 ^ (n + m) ≤ 4294967296 := Nat.pow_le_pow_right (n := 2) (by omega) (show n + m ≤ 32 by omega)
  have key : ∀ k, k ≤ 16 → bits .or .i64 (wrap64 (((V >>> k : Nat) : Int) * 2 ^ k)) ((V % 2 ^ k : Nat) : Int) = V := by
    intro k hk
    have e : (((V >>> k : Nat) : Int) * 2 ^ k) = (((V >>> k) * 2 ^ k : Nat) : Int) := by simp
    have hle : (V >>> k) * 2 ^ k ≤ V := by rw [Nat.shiftRight_eq_div_pow]; exact Nat.div_mul_le_self V (2 ^ k)
    have hle2 : V % 2 ^ k ≤ V := Nat.mod_le _ _
    rw [e, IntWalk.wrap64_in _ (by omega), i64_or_nat _ _ (by omega) (by omega), Pure.join_high]
  cases high
  · simp only [Bool.false_eq_true, if_false, Pure.first, Pure.second]
    exact key n hn
  · simp only [if_true, Pure.first, Pure.second]
    exact key m hm

set_option maxRecDepth 100000 in
set_option maxHeartbeats 4000000 in
theorem bitsParts_walk (a0 a1 a2 : Int) (w : World) (w0 : (Lit.int .u32 a0).wf = true) (w1 : (Lit.int .u8 a1).wf = true) (w2 : (Lit.int .u8 a2).wf = true) :
    Calls Try.prog 7 #[.int .u32 a0, .int .u8 a1, .int .u8 a2] w fun e w' => e = .returned (.bool true) ∧ Below w.heap.size w w' := by
  obtain ⟨l1, h1⟩ := u8_of_wf w1
  obtain ⟨l2, h2⟩ := u8_of_wf w2
  have h0 : 0 ≤ a0 ∧ a0 ≤ 4294967295 := by simpa [Lit.wf, IntKind.min, IntKind.max, IntKind.signed, IntKind.bits] using w0
  obtain ⟨l0, h0⟩ := h0
  obtain ⟨X, rfl⟩ := Int.eq_ofNat_of_zero_le l0
  obtain ⟨A, rfl⟩ := Int.eq_ofNat_of_zero_le l1
  obtain ⟨B, rfl⟩ := Int.eq_ofNat_of_zero_le l2
  clear w0 w1 w2
  go_enter Try.func7, Try.ntmps7
  go_wp2_with fail
  refine (awake_any w).mono ?_
  rintro e wa ⟨rfl, hb0⟩
  have BA := Lib.hid hb0
  clear hb0
  go_upto_region 4 with fail
  obtain ⟨n, hn⟩ : ∃ n : Nat, (n : Int) = (A : Int) % 17 := ⟨A % 17, by omega⟩
  obtain ⟨m, hm⟩ : ∃ m : Nat, (m : Int) = (B : Int) % 17 := ⟨B % 17, by omega⟩
  have hn16 : n ≤ 16 := by omega
  have hm16 : m ≤ 16 := by omega
  rw [← hn, ← hm]
  clear hn hm
  obtain ⟨V, hV⟩ : ∃ V, V = X % 2 ^ (n + m) := ⟨_, rfl⟩
  have hVlt : V < 2 ^ (n + m) := by rw [hV]; exact Nat.mod_lt _ (Nat.two_pow_pos _)
  have hV32 : V < 4294967296 := by rw [hV]; exact Nat.lt_of_le_of_lt (Nat.mod_le _ _) (by omega)
  have hmask := mask_any (X : Int) (n + m) (by omega) (by omega) (by omega)
  have e : ((X : Int) % 2 ^ (n + m)) = (V : Int) := by rw [hV]; simp
  rw [e] at hmask
  have HVL := Lib.hid hVlt
  clear hV e hVlt
  go_upto_region 5 with fail
  clear hmask
  go_wp2_with fail
  go_loopw [10] (fun i wr => ∃ k : Nat, k ≤ 2 ∧ i = .int .i64 k ∧ Below w.heap.size w wr) (fun i _ => 2 - (intOf i).toNat)
  case atStart => exact ⟨0, by omega, rfl, BA.out⟩
  case round =>
    obtain ⟨k, hk, rfl, hb⟩ := hrel
    have BR := Lib.hid hb
    clear hb BA
    by_cases hlt : k < 2
    · go_upto_region 8 with fail
      go_cut [11] (fun s wx => ∃ high, s = .bool high ∧ wx = wr)
      case first =>
        go_wp2
        go_meet
        exact ⟨_, rfl, rfl⟩
      case rest =>
        obtain ⟨high, rfl, rfl⟩ := hcut
        go_wp2_with fail
        refine (newWriter_ok high _).mono ?_
        rintro e w1 ⟨g1, rfl, hg1, ho1, hb1⟩
        have O1 := Lib.hid ho1
        have B1 := Lib.hid (BR.out.trans (hb1.mono BR.out.size))
        have hg1' : w.heap.size ≤ g1 := Nat.le_trans BR.out.size hg1
        clear ho1 hb1 BR hg1
        go_wp2_with fail
        refine (newWriter_ok high _).mono ?_
        rintro e w2 ⟨g2, rfl, hg2, ho2, hb2⟩
        have hg12 : g1 < g2 := by have := O1.out.blk.lt; omega
        have O2 := Lib.hid ho2
        have O1' := Lib.hid (O1.out.keeps (Keeps.new hb2) (fun _ _ h => h))
        have B2 := Lib.hid (B1.out.trans (hb2.mono B1.out.size))
        clear ho2 hb2 B1 hg2 O1
        go_wp2_with fail
        have HB := Lib.hid (Pure.bitsOf_parts high V n m)
        have hsum : ((n : Int) + m) = ((n + m : Nat) : Int) := by omega
        rw [hsum]
        refine (put_ok g1 _ high _ _ _ V (n + m) w2 O1'.out (by omega) HVL.out (by simp)).mono ?_
        rintro e w3 ⟨rfl, v3, bs3, f3, ho3, hk3, hv3⟩
        clear hsum
        have D3 := Lib.hid (fun q (hq : fw g1 (.slice none 0 0) q) => show q = g1 from by rcases hq with h | h; exact h; cases h)
        have O3 := Lib.hid ho3
        have O4 := Lib.hid (O2.out.keeps hk3 (fun q hq hq' => by have := D3.out q hq'; rcases hq with h | h; omega; cases h))
        have B3 := Lib.hid (Below.keeps B2.out hk3 B2.out.size (fun i hi => by have := D3.out i hi; omega))
        have V3 := Lib.hid (fun q hq => show g2 < q by rcases hv3 q hq with h | h; cases h; exact Nat.lt_of_lt_of_le O2.out.blk.lt h)
        clear ho3 hk3 hv3 O1' O2 B2 D3
        have hpg := parts_go high V n m hV32 hn16 hm16
        have hP := Pure.first_lt high V n m HVL.out
        have hQ := Pure.second_lt high V n m HVL.out
        have hj := join_go high V n m HVL.out hn16 hm16
        obtain ⟨P, hPe⟩ : ∃ P, P = Pure.first high V n m := ⟨_, rfl⟩
        obtain ⟨Q, hQe⟩ : ∃ Q, Q = Pure.second high V n m := ⟨_, rfl⟩
        rw [← hPe, ← hQe] at HB hpg hj
        rw [← hPe] at hP
        rw [← hQe] at hQ
        have HP := Lib.hid hP
        have HQ := Lib.hid hQ
        have HJ := Lib.hid hj
        clear hPe hQe hP hQ hj
        cases high
        all_goals
          simp only [Bool.false_eq_true, if_false, if_true] at hpg
          obtain ⟨p1, p2⟩ := hpg
          go_wp2_with fail
          refine (put_ok g2 _ _ _ _ _ P n w3 O4.out (by omega) HP.out (by simp)).mono ?_
          rintro e w4 ⟨rfl, v4, bs4, f4, ho4, hk4, hv4⟩
          have O5 := Lib.hid ho4
          have O6 := Lib.hid (O3.out.keeps hk4 (fun q hq hq' => by
            rcases hq' with h | h
            · rcases hq with h2 | h2
              · omega
              · have := V3.out q h2; omega
            · cases h))
          have B4 := Lib.hid (Below.keeps B3.out hk4 B3.out.size (fun i hi => by rcases hi with h | h; omega; cases h))
          have V4 := Lib.hid (fun q hq => show w3.heap.size ≤ q by rcases hv4 q hq with h | h; cases h; exact h)
          have V4w := Lib.hid (fun q hq => Nat.le_trans B3.out.size (V4.out q hq))
          clear ho4 hk4 hv4 O4
          go_wp2_with fail
          refine (put_ok g2 _ _ _ _ _ Q m w4 O5.out (by omega) HQ.out (by simp [Pure.bitsOf_length]; omega)).mono ?_
          rintro e w5 ⟨rfl, v5, bs5, f5, ho5, hk5, hv5⟩
          have O7 := Lib.hid ho5
          have O8 := Lib.hid (O6.out.keeps hk5 (fun q hq hq' => by
            have hlt3 := fw_lt O3.out q hq
            rcases hq' with h | h
            · rcases hq with h2 | h2
              · omega
              · have := V3.out q h2; omega
            · have := V4.out q h; omega))
          have B5 := Lib.hid (Below.keeps B4.out hk5 B4.out.size (fun i hi => by rcases hi with h | h; omega; exact V4w.out i h))
          clear ho5 hk5 hv5 O5 O6 B4 B3 V4 V4w O3 p1 p2
          have hpk5 := O7.out.packs
          rw [List.append_assoc, ← HB.out] at hpk5
          have heq := (Pure.Packs.unique O8.out.packs hpk5 O8.out.rest O7.out.rest).1
          have hpk := O8.out.packs
          have hr3 : f3 ≤ 7 := O8.out.rest
          have hl3 : 8 * bs3.length = n + m + f3 := by have := hpk.len; simpa [Pure.bitsOf_length] using this
          rw [HB.out] at hpk
          rw [← List.append_assoc] at hpk
          have hp1 := hpk.peek HP.out
          have hp2 := hpk.peekEnd HQ.out
          simp only [List.nil_append, List.length_nil, Pure.bitsOf_length] at hp1 hp2
          have P1 := Lib.hid hp1
          have P2 := Lib.hid hp2
          have HE := Lib.hid heq
          clear hpk hpk5 hp1 hp2 heq
          go_wp2_with fail
          refine (wbytes_any g1 _ _ _ _ _ w5 O8.out (by simp [Pure.bitsOf_length]; omega)).mono ?_
          rintro e w6 ⟨u6v, rfl, hown6, hb6⟩
          have B6 := Lib.hid (B5.out.trans (hb6.mono B5.out.size))
          have O9 := Lib.hid (O7.out.keeps (Keeps.new hb6) (fun _ _ h => h))
          have O10 := Lib.hid (O8.out.keeps (Keeps.new hb6) (fun _ _ h => h))
          have U6 := Lib.hid hown6
          clear hb6 hown6 O7 O8 B5
          have hlb5 : bs5.length = bs3.length := by rw [HE.out]
          go_wp2_with fail
          refine (wbytes_any g2 _ _ _ _ _ w6 O9.out (by simp [Pure.bitsOf_length]; omega)).mono ?_
          rintro e w7 ⟨u7v, rfl, hown7, hb7⟩
          have B7 := Lib.hid (B6.out.trans (hb7.mono B6.out.size))
          have O11 := Lib.hid (O10.out.keeps (Keeps.new hb7) (fun _ _ h => h))
          have U7 := Lib.hid (ownsRow_keeps U6.out (Keeps.new hb7) (fun _ _ h => h))
          have U8 := Lib.hid hown7
          clear hb7 hown7 O9 O10 U6 B6
          go_wp2_with fail
          refine (same_any _ _ _ _ bs3 bs5 w7 (Row.of_own U7.out) (Row.of_own U8.out)).mono ?_
          rintro e w8 ⟨rfl, hk8⟩
          have hdd : decide (bs3 = bs5) = true := by rw [HE.out]; simp
          rw [hdd]
          have B8 := Lib.hid (Below.quiet B7.out hk8 B7.out.size)
          have O12 := Lib.hid (O11.out.keeps hk8 (fun _ _ h => h))
          clear hk8 hdd B7 O11 U7 U8
          go_wp2_with fail
          refine (len_any g1 _ _ _ _ _ w8 O12.out (by simp [Pure.bitsOf_length]; omega)).mono ?_
          rintro e w9 ⟨rfl, n9, hw9⟩
          have B9 := Lib.hid (Below.quiet B8.out (Keeps.of_drewN hw9) B8.out.size)
          have O13 := Lib.hid (O12.out.keeps (Keeps.of_drewN hw9) (fun _ _ h => h))
          have hel : ∀ hh, ((([] : List Bool) ++ Pure.bitsOf hh (n + m) V).length : Int) = (n : Int) + m := by intro hh; simp [Pure.bitsOf_length]
          rw [hel]
          clear hel hw9 B8 O12
          go_wp2_with fail
          refine (wbytes_any g1 _ _ _ _ _ w9 O13.out (by simp [Pure.bitsOf_length]; omega)).mono ?_
          rintro e w10 ⟨u10, rfl, hown10, hb10⟩
          have B10 := Lib.hid (B9.out.trans (hb10.mono B9.out.size))
          have U10 := Lib.hid hown10
          obtain ⟨Au, cu, rfl⟩ := own_form hown10
          clear hb10 hown10 O13 B9
          go_wp2_with fail
          refine (newReader_any _ _ _ bs3 w10 (Row.of_own U10.out) (by omega)).mono ?_
          rintro e w11 ⟨g11, v11, rfl, hg11, hr11, hv11, hb11⟩
          have B11 := Lib.hid (B10.out.trans (hb11.mono B10.out.size))
          have R11 := Lib.hid hr11
          have hg11' : w.heap.size ≤ g11 := Nat.le_trans B10.out.size hg11
          clear hr11 hv11 hb11 hg11 B10 U10
          go_wp2_with fail
          refine (take_ok g11 v11 _ bs3 0 n w11 R11.out (by omega) (by omega)).mono ?_
          rintro e w12 ⟨rfl, hr12, hk12⟩
          have R12 := Lib.hid hr12
          have B12 := Lib.hid (Below.keeps B11.out hk12 B11.out.size (fun i hi => by have hi : i = g11 := hi; omega))
          clear hr12 hk12 R11 B11
          rw [P1.out.1]
          go_wp2_with fail
          rw [Nat.zero_add] at R12
          refine (take_ok g11 v11 _ bs3 n m w12 R12.out (by omega) (by omega)).mono ?_
          rintro e w13 ⟨rfl, hr13, hk13⟩
          have B13 := Lib.hid (Below.keeps B12.out hk13 B12.out.size (fun i hi => by have hi : i = g11 := hi; omega))
          clear hr13 hk13 R12 B12
          rw [P2.out.1]
          have hj := HJ.out
          simp only [Bool.false_eq_true, if_false, if_true] at hj
          clear P1 P2 HE HB HP HQ HJ HVL
          go_wp2
          go_roundw
          case rel => exact ⟨k + 1, by omega, by go_num, B13.out⟩
          case measure => simp [intOf]; omega
    · go_wp2
      go_ret
      exact ⟨rfl, BR.out⟩
end Go.Proofs.Ytekocdiccfpkdaa
