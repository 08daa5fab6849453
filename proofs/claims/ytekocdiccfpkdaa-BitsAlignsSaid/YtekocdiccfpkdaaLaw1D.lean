/- The walk of the law BitsAligns. -/
import Derived.Test.YtekocdiccfpkdaaLaw1A
import Derived.Test.YtekocdiccfpkdaaFrame
import Derived.Test.YtekocdiccfpkdaaRef1A
namespace Go.Proofs.Ytekocdiccfpkdaa
open Go.RowKit

set_option maxRecDepth 100000 in
set_option maxHeartbeats 4000000 in
theorem alignsWell_any (F : Nat → Prop) (x n : Nat) (y : Value) (b : List UInt8) (high : Bool) (w : World) (hF : ∀ k, F k → k < w.heap.size) (hx : x < 4096) (hn : n ≤ 8) (hr : Row w F 1 y b.length (u8s b)) :
    Calls Try.prog 35 #[.int .i64 x, .int .i64 n, y, .bool high] w fun e w' => e = .returned (.bool true) ∧ Below w.heap.size w w' := by
  have hmx := hr.2.1
  unfold maxLen at hmx
  obtain ⟨A, c, rfl, _⟩ := hr.form
  by_cases h3 : 300 < b.length
  · clear hr
    go_enter Try.func35, Try.ntmps35
    go_wp2_with (go_at_call 10; refine (awake_any w).mono ?_; rintro e w1 ⟨rfl, hb1⟩)
    go_ret
    exact ⟨rfl, hb1⟩
  · have HR := Lib.hid hr
    clear hr
    have hm := mask_any (x : Int) n (by omega) (by omega) (by omega)
    have hme : ((x : Int) % 2 ^ n) = ((x % 2 ^ n : Nat) : Int) := by simp
    rw [hme] at hm
    obtain ⟨V, hV⟩ : ∃ V, V = x % 2 ^ n := ⟨_, rfl⟩
    rw [← hV] at hm
    have hVlt : V < 2 ^ n := by rw [hV]; exact Nat.mod_lt _ (Nat.two_pow_pos n)
    have hV32 : V < 4096 := by rw [hV]; exact Nat.lt_of_le_of_lt (Nat.mod_le _ _) hx
    clear hme hV
    have HVL := Lib.hid hVlt
    clear hVlt
    go_enter Try.func35, Try.ntmps35
    go_wp2_with fail
    refine (newWriter_ok high _).mono ?_
    rintro e w1 ⟨g, rfl, hg, ho1, hb1⟩
    have O1 := Lib.hid ho1
    have B1 := Lib.hid hb1
    clear ho1 hb1
    go_upto_region 5 with fail
    clear hm
    go_wp2_with fail
    refine (put_ok g _ high _ _ _ V n w1 O1.out (by omega) HVL.out (by simp)).mono ?_
    rintro e w2 ⟨rfl, v2, bs2, f2, ho2, hk2, hv2⟩
    have O2 := Lib.hid ho2
    have B2 := Lib.hid (Below.keeps B1.out hk2 B1.out.size (fun i hi => by rcases hi with rfl | hi; exact hg; cases hi))
    have V2 := Lib.hid (fun b hb => by rcases hv2 b hb with h | h; cases h; exact Nat.le_trans B1.out.size h)
    have hf2 := ho2.rest
    have hl2 : 8 * bs2.length = n + f2 := by have := ho2.packs.len; simpa [Pure.bitsOf_length] using this
    clear ho2 hk2 hv2 O1 B1
    have HR2 := Lib.hid (HR.out.keeps (Keeps.new B2.out) (fun _ _ h => h))
    go_wp2_with fail
    refine (add_any F g v2 _ high _ bs2 b f2 w2 O2.out HR2.out (fun k hk e => by have := hF k hk; omega) (by simp [Pure.bitsOf_length]; omega) (by omega)).mono ?_
    rintro e w3 ⟨rfl, v3, bs3, f3, ho3, hk3, hv3⟩
    have O3 := Lib.hid ho3
    have B3 := Lib.hid (Below.keeps B2.out hk3 B2.out.size (fun i hi => by rcases hi with rfl | hi; exact hg; exact V2.out _ hi))
    have V3 := Lib.hid (fun b hb => by rcases hv3 b hb with h | h; exact V2.out _ h; exact Nat.le_trans B2.out.size h)
    clear ho3 hk3 hv3 O2 B2 V2 HR2
    go_wp2_with fail
    refine (put_ok g _ high _ _ _ 1 1 w3 O3.out (by omega) (by omega) (by simp [Pure.bitsOf_length, Pure.bitsOfBytes_length]; omega)).mono ?_
    rintro e w4 ⟨rfl, v4, bs4, f4, ho4, hk4, hv4⟩
    have B4 := Lib.hid (Below.keeps B3.out hk4 B3.out.size (fun i hi => by rcases hi with rfl | hi; exact hg; exact V3.out _ hi))
    have hpk := ho4.packs
    have O4 := Lib.hid ho4
    have hlen4 : (([] ++ Pure.bitsOf high n V) ++ List.replicate f2 false ++ Pure.bitsOfBytes high b ++ Pure.bitsOf high 1 1).length = n + f2 + 8 * b.length + 1 := by
      simp [Pure.bitsOf_length, Pure.bitsOfBytes_length]; omega
    have hl4 : 8 * bs4.length = n + f2 + 8 * b.length + 1 + f4 := by rw [← hlen4]; exact hpk.len
    have hf4 := ho4.rest
    -- what is read
    have hp1 : Pure.peek high bs4 0 n = V ∧ 0 + n ≤ 8 * bs4.length := by
      have h := hpk
      rw [List.append_assoc, List.append_assoc] at h
      exact h.peek HVL.out
    have hp2 : (bs4.drop bs2.length).take b.length = b ∧ bs2.length + b.length ≤ bs4.length :=
      hpk.bytes (by simp [Pure.bitsOf_length]; omega)
    have hp3 : Pure.peek high bs4 ((bs2.length + b.length) * 8) 1 = 1 := by
      have h := hpk
      rw [← List.append_nil (([] ++ Pure.bitsOf high n V) ++ List.replicate f2 false ++ Pure.bitsOfBytes high b ++ Pure.bitsOf high 1 1)] at h
      have := (h.peek (by omega)).1
      have e : (([] ++ Pure.bitsOf high n V) ++ List.replicate f2 false ++ Pure.bitsOfBytes high b).length = (bs2.length + b.length) * 8 := by
        simp [Pure.bitsOf_length, Pure.bitsOfBytes_length]; omega
      rw [e] at this
      exact this
    have P1 := Lib.hid hp1
    have P2 := Lib.hid hp2
    have P3 := Lib.hid hp3
    have HL4 := Lib.hid hlen4
    clear hp1 hp2 hp3 hlen4 hpk ho4 hk4 hv4 O3 B3 V3
    go_wp2_with fail
    refine (wbytes_any g _ high _ _ _ w4 O4.out (by rw [HL4.out]; omega)).mono ?_
    rintro e w5 ⟨u, rfl, hown5, hb5⟩
    have B5 := Lib.hid (B4.out.trans (hb5.mono B4.out.size))
    have O5 := Lib.hid (O4.out.keeps (Keeps.new hb5) (fun _ _ h => h))
    have HO5 := Lib.hid hown5
    obtain ⟨Au, cu, rfl⟩ := own_form hown5
    clear hb5 hown5 O4 B4
    go_wp2_with fail
    refine (newReader_any _ _ high bs4 w5 (Row.of_own HO5.out) (by omega)).mono ?_
    rintro e w6 ⟨g6, v6, rfl, hg6, hr6, hv6, hb6⟩
    have B6 := Lib.hid (B5.out.trans (hb6.mono B5.out.size))
    have O6 := Lib.hid (O5.out.keeps (Keeps.new hb6) (fun _ _ h => h))
    have R6 := Lib.hid hr6
    have hg6' : w.heap.size ≤ g6 := Nat.le_trans B5.out.size hg6
    have D := Lib.hid (fun q (hq : fw g v4 q) => show ¬ only g6 q from fun e => by have e : q = g6 := e; have := fw_lt O5.out q hq; omega)
    clear hr6 hb6 hv6 B5 O5 HO5 hg6
    go_wp2_with fail
    refine (take_ok g6 v6 high bs4 0 n w6 R6.out (by omega) (by have := P1.out.2; omega)).mono ?_
    rintro e w7 ⟨rfl, hr7, hk7⟩
    have R7 := Lib.hid hr7
    have B7 := Lib.hid (Below.keeps B6.out hk7 B6.out.size (fun i hi => by have hi : i = g6 := hi; omega))
    have O7 := Lib.hid (O6.out.keeps hk7 D.out)
    clear hr7 hk7 R6 B6 O6
    rw [P1.out.1]
    go_wp2_with fail
    have hst : (0 + n + 7) / 8 = bs2.length := by omega
    refine (rbytes_ok g6 v6 high bs4 (0 + n) b.length w7 R7.out (by rw [hst]; exact P2.out.2)).mono ?_
    rintro e w8 ⟨u8v, rfl, hr8, hown8, hk8⟩
    rw [hst] at hr8 hown8
    rw [P2.out.1] at hown8
    have R8 := Lib.hid hr8
    have HO8 := Lib.hid hown8
    have B8 := Lib.hid (Below.keeps B7.out hk8 B7.out.size (fun i hi => by have hi : i = g6 := hi; omega))
    have O8 := Lib.hid (O7.out.keeps hk8 D.out)
    have DU := Lib.hid (fun q (hq : u8v.ownBlock = some q) => show ¬ only g6 q from fun e => by have e : q = g6 := e; have := ownsRow_ge hown8 q hq; have := R7.out.blk.lt; omega)
    clear hr8 hown8 hk8 R7 B7 O7
    go_wp2_with fail
    refine (take_ok g6 v6 high bs4 _ 1 w8 R8.out (by omega) (by have := hl4; omega)).mono ?_
    rintro e w9 ⟨rfl, _, hk9⟩
    have B9 := Lib.hid (Below.keeps B8.out hk9 B8.out.size (fun i hi => by have hi : i = g6 := hi; omega))
    have O9 := Lib.hid (O8.out.keeps hk9 D.out)
    have HO9 := Lib.hid (ownsRow_keeps HO8.out hk9 DU.out)
    clear hk9 R8 B8 O8 HO8
    rw [P3.out]
    go_wp2_with fail
    refine (awake_any w9).mono ?_
    rintro e w10 ⟨rfl, hb10⟩
    have B10 := Lib.hid (B9.out.trans (hb10.mono B9.out.size))
    have O10 := Lib.hid (O9.out.keeps (Keeps.new hb10) (fun _ _ h => h))
    have HO10 := Lib.hid (ownsRow_keeps HO9.out (Keeps.new hb10) (fun _ _ h => h))
    clear hb10 B9 O9 HO9
    have HR10 := Lib.hid (HR.out.keeps (Keeps.new B10.out) (fun _ _ h => h))
    go_wp2_with fail
    refine (same_any _ F _ _ b b w10 (Row.of_own HO10.out) HR10.out).mono ?_
    rintro e w11 ⟨rfl, hk11⟩
    have hdd : decide (b = b) = true := by simp
    rw [hdd]
    have B11 := Lib.hid (Below.quiet B10.out hk11 B10.out.size)
    have O11 := Lib.hid (O10.out.keeps hk11 (fun _ _ h => h))
    clear hk11 hdd B10 O10 HO10 HR10
    go_wp2_with fail
    refine (len_any g v4 high _ _ _ w11 O11.out (by rw [HL4.out]; omega)).mono ?_
    rintro e w12 ⟨rfl, n12, hw12⟩
    have B12 := Lib.hid (Below.quiet B11.out (Keeps.of_drewN hw12) B11.out.size)
    have hel : ((([] ++ Pure.bitsOf high n V) ++ List.replicate f2 false ++ Pure.bitsOfBytes high b ++ Pure.bitsOf high 1 1).length : Int) = 8 * (((n : Int) + 7) / 8 + b.length) + 1 := by
      rw [HL4.out]; omega
    rw [hel]
    clear hel hw12 B11 O11
    go_wp2
    go_ret
    exact ⟨by simp, B12.out⟩

set_option maxHeartbeats 1000000 in
theorem bitsAligns_walk (a0 : Int) (a1 : Option Addr) (len1 cap1 : Nat) (z1 : List Int) (a2 : Bool) (w : World) (w0 : (Lit.int .u16 a0).wf = true) (w1 : IsRow .u8 w a1 len1 cap1 z1) :
    Calls Try.prog 9 #[.int .u16 a0, .slice a1 len1 cap1, .bool a2] w fun e w' => e = .returned (.bool true) ∧ Below w.heap.size w w' := by
  obtain ⟨h0, h1⟩ := u16_of_wf w0
  obtain ⟨bs, hl, hrow⟩ := w1.bytes
  subst hl
  have HR := Lib.hid hrow
  obtain ⟨X, rfl⟩ := Int.eq_ofNat_of_zero_le h0
  have e15 : bits .and .u16 (X : Int) 15 = ((X % 16 : Nat) : Int) := by
    have := u16_and_nat X 15 (by omega) (by omega)
    rw [nat_mask4] at this
    exact this
  clear hrow w0 w1
  go_enter Try.func9, Try.ntmps9
  go_wp2_with fail
  refine (awake_any w).mono ?_
  rintro e wa ⟨rfl, hb0⟩
  have BA := Lib.hid hb0
  have HR1 := Lib.hid (HR.out.keeps (Keeps.new hb0) (fun _ _ h => h))
  have hsz := hb0.size
  clear hb0
  go_wp2_with fail
  have q1 : ((X : Int) / 16) = ((X / 16 : Nat) : Int) := by omega
  have q2 : ((X : Int) % 16 % 9) = ((X % 16 % 9 : Nat) : Int) := by omega
  rw [q1, q2]
  refine (alignsWell_any _ (X / 16) (X % 16 % 9) _ bs a2 wa (fun k hk => Nat.lt_of_lt_of_le hk hsz) (by omega) (by omega) HR1.out).mono ?_
  rintro e w1 ⟨rfl, hb1⟩
  have B1 := Lib.hid (BA.out.trans (hb1.mono hsz))
  clear q1 q2 hb1 e15
  go_wp2
  go_ret
  exact ⟨rfl, B1.out⟩
end Go.Proofs.Ytekocdiccfpkdaa
