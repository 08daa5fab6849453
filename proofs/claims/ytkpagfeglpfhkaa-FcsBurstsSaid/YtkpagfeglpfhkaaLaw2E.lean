/- The walk of the law FcsBursts. -/
import Derived.Test.YtkpagfeglpfhkaaLaw2D
namespace Go.Proofs.Ytkpagfeglpfhkaa
open Go.RowKit

theorem and1_u32 (B s : Nat) (hB : B < 4294967296) : bits .and .u32 ((B : Int) / 2 ^ s) 1 = if B.testBit s then 1 else 0 := by
  have e1 : ((B : Int) / 2 ^ s) = ((B >>> s : Nat) : Int) := by rw [Nat.shiftRight_eq_div_pow]; simp
  have hle : B >>> s < 4294967296 := Nat.lt_of_le_of_lt (by rw [Nat.shiftRight_eq_div_pow]; exact Nat.div_le_self _ _) hB
  have h := u32_and_nat (B >>> s) 1 hle (by omega)
  rw [nat_mask1] at h
  rw [e1]
  refine h.trans ?_
  have ht := Nat.toNat_testBit B s
  rw [← Nat.shiftRight_eq_div_pow] at ht
  rw [← ht]
  cases B.testBit s <;> rfl

/-- Bits are turned from a place on. -/
def Turned (c c' : List UInt8) (at_ row k : Nat) : Prop :=
  c'.length = c.length ∧ ∀ j, j < 8 * c.length → Pure.bit false c' j = (Pure.bit false c j ^^ (decide (at_ ≤ j) && decide (j < at_ + k) && row.testBit (j - at_)))
theorem Turned.zero (c : List UInt8) (at_ row : Nat) : Turned c c at_ row 0 := ⟨rfl, fun j _ => by
  by_cases h : at_ ≤ j
  · simp [show ¬ j < at_ by omega]
  · simp [h]⟩
theorem Turned.skip {c c' : List UInt8} {at_ row k : Nat} (h : Turned c c' at_ row k) (hb : row.testBit k = false) : Turned c c' at_ row (k + 1) := ⟨h.1, fun j hj => by
  rw [h.2 j hj]
  congr 1
  by_cases h2 : j = at_ + k
  · subst h2; simp [hb]
  · have : decide (j < at_ + (k + 1)) = decide (j < at_ + k) := by simp; omega
    rw [this]⟩
theorem Turned.turn {c c' : List UInt8} {at_ row k : Nat} (h : Turned c c' at_ row k) (hk : at_ + k < 8 * c.length) (hb : row.testBit k = true) : Turned c (Pure.flip c' (at_ + k)) at_ row (k + 1) := ⟨by rw [Pure.flip_length, h.1], fun j hj => by
  rw [Pure.flip_bit _ _ _ (by rw [h.1]; exact hk), h.2 j hj, Bool.xor_assoc]
  congr 1
  by_cases h2 : j = at_ + k
  · subst h2; simp [hb]
  · have : decide (j < at_ + (k + 1)) = decide (j < at_ + k) := by simp; omega
    rw [this]
    simp [h2]⟩
theorem Turned.whole {c c' : List UInt8} {at_ row k : Nat} (h : Turned c c' at_ row k) (hrow : row < 2 ^ 32) (hk : k = 32 ∨ 8 * c.length ≤ at_ + k) :
    c'.length = c.length ∧ ∀ j, j < 8 * c.length → Pure.bit false c' j = (Pure.bit false c j ^^ (decide (at_ ≤ j) && row.testBit (j - at_))) := ⟨h.1, fun j hj => by
  rw [h.2 j hj]
  congr 1
  by_cases h2 : j < at_ + k
  · simp [h2]
  · rcases hk with rfl | hk
    · rw [Nat.testBit_lt_two_pow (Nat.lt_of_lt_of_le hrow (Nat.pow_le_pow_right (n := 2) (by omega) (show 32 ≤ j - at_ by omega)))]
      simp
    · omega⟩

set_option maxHeartbeats 2000000 in
theorem hit_any (base g c : Nat) (C : List UInt8) (a1 : Int) (row : Nat) (w : World) (h : w.ownsRow base 5 1 (.slice (some ⟨g, 0, none⟩) C.length c) C.length (u8s C)) (hC : 0 < C.length) (hC2 : C.length ≤ 100000)
    (hlo : -9223372036854775808 ≤ a1) (hhi : a1 ≤ 9223372036854775807) (hrow : row < 4294967296) :
    Calls Try.prog 54 #[.slice (some ⟨g, 0, none⟩) C.length c, .int .i64 a1, .int .u32 row] w fun e w' => e = .returned (.tuple #[]) ∧
      ∃ C' at_, at_ ≤ 8 * C.length ∧ C'.length = C.length ∧ (∀ j, j < 8 * C.length → Pure.bit false C' j = (Pure.bit false C j ^^ (decide (at_ ≤ j) && row.testBit (j - at_)))) ∧
        w'.ownsRow base 5 1 (.slice (some ⟨g, 0, none⟩) C.length c) C.length (u8s C') ∧ Keeps (only g) w w' := by
  have H := Lib.hid h
  clear h
  have t1 := Int.tmod_lt_of_pos a1 (show 0 < (C.length : Int) * 8 by omega)
  have t2 := Int.lt_tmod_of_pos a1 (show 0 < (C.length : Int) * 8 by omega)
  have t3 : 0 ≤ a1.tmod ((C.length : Int) * 8) + (C.length : Int) * 8 := by omega
  have t4 : a1.tmod ((C.length : Int) * 8) + (C.length : Int) * 8 ≤ 10000000 := by omega
  obtain ⟨k, hk⟩ : ∃ k : Nat, a1.tmod ((C.length : Int) * 8) % ((C.length : Int) * 8) = (k : Int) := ⟨_, (Int.toNat_of_nonneg (Int.emod_nonneg _ (by omega))).symm⟩
  have hkl : (k : Int) < (C.length : Int) * 8 := by rw [← hk]; exact Int.emod_lt_of_pos _ (by omega)
  have HK := Lib.hid hk
  clear hk
  go_enter Try.func54, Try.ntmps54
  go_upto_region 1 with fail
  go_cut [1] (fun s wx => s = .int .i64 k ∧ w = wx)
  case first =>
    go_wp2
    go_meet
    exact ⟨by rw [← HK.out, Int.add_emod_right], rfl⟩
  case rest =>
    obtain ⟨rfl, rfl⟩ := hcut
    clear t1 t2 t3 t4 HK
    go_wp2_with fail
    go_loopw [7] (fun i wr => ∃ m : Nat, m ≤ 32 ∧ i = .int .i64 m ∧ ∃ C', Turned C C' k row m ∧ wr.ownsRow base 5 1 (.slice (some ⟨g, 0, none⟩) C.length c) C.length (u8s C') ∧ Keeps (only g) w wr) (fun i _ => 32 - (intOf i).toNat)
    case atStart => exact ⟨0, by omega, rfl, C, Turned.zero C k row, H.out, Keeps.refl _ _⟩
    case round =>
      obtain ⟨m, hm, rfl, C', ht, ho, hkp⟩ := hrel
      have T := Lib.hid ht
      have O := Lib.hid ho
      have K := Lib.hid hkp
      have hl := ht.1
      have HL := Lib.hid hl
      clear ht ho hkp hl
      by_cases hgo : m < 32 ∧ k + m < 8 * C.length
      · obtain ⟨hm32, hkm⟩ := hgo
        have hcond : (k : Int) + m < (C.length : Int) * 8 := by omega
        have ha := and1_u32 row m hrow
        have hw10 : IntKind.u64.wrap (m : Int) = (m : Int) := by simp [IntKind.wrap, IntKind.bits, IntKind.signed]; omega
        cases hbit : row.testBit m
        · have T2 := Lib.hid (T.out.skip hbit)
          rw [hbit] at ha
          simp only [Bool.false_eq_true, if_false] at ha
          clear hbit
          go_wp2
          go_roundw
          case rel => exact ⟨m + 1, by omega, by go_num, C', T2.out, O.out, K.out⟩
          case measure => simp [intOf]; omega
        · have T2 := Lib.hid (T.out.turn hkm hbit)
          rw [hbit] at ha
          simp only [if_true] at ha
          obtain ⟨b1, o1, he1, hf1, hcell1⟩ := (Row.of_own O.out).cellAt hC
          injection he1 with he1
          injection he1 with he1 he1'
          subst he1 he1'
          have c1 := hcell1 ((k + m) / 8) _ (u8s_at C' ((k + m) / 8) (by rw [HL.out]; omega))
          rw [Nat.zero_add] at c1
          obtain ⟨x1, hx1⟩ : ∃ x : Nat, x = (C'.getD ((k + m) / 8) 0).toNat := ⟨_, rfl⟩
          have hx1l : x1 < 256 := by rw [hx1]; exact (C'.getD ((k + m) / 8) 0).toNat_lt
          rw [← hx1] at c1
          have f1 : wr.frozen? ⟨g, (k + m) / 8, none⟩ = false := O.out.frozenAt _
          have v1 := flip_cell C' (k + m) (by rw [HL.out]; omega) hx1
          have k0 : (0 : Int) ≤ ((k : Int) + m) / 8 := by omega
          have k1 : ((k : Int) + m) / 8 < (C.length : Int) := by omega
          have o2 := ownsRow_set O.out ((k + m) / 8) (by omega) (.int .u8 (bits .xor .u8 (x1 : Int) (2 ^ ((k + m) % 8) % 256)))
          rw [v1] at o2
          have O2 := Lib.hid o2
          clear hbit hcell1 hf1 hx1 v1 o2
          go_wp2
          go_roundw
          case rel => exact ⟨m + 1, by omega, by go_num, _, T2.out, O2.out, K.out.store g _ (fun _ => only_self g) _⟩
          case measure => simp [intOf]; omega
      · have TW := Lib.hid (T.out.whole hrow (by omega))
        by_cases hm32 : m < 32
        · have hcond : ¬ (k : Int) + m < (C.length : Int) * 8 := by omega
          clear hgo
          go_wp2
          go_end0
          exact ⟨rfl, C', k, by omega, TW.out.1, TW.out.2, O.out, K.out⟩
        · clear hgo
          go_wp2
          go_end0
          exact ⟨rfl, C', k, by omega, TW.out.1, TW.out.2, O.out, K.out⟩

theorem burst16 (bs C' : List UInt8) (at_ row : Nat) (hl : C'.length = (Pure.add16 bs).length) (hat : at_ ≤ 8 * (Pure.add16 bs).length) (hrow : row < 65536)
    (hb : ∀ j, j < 8 * (Pure.add16 bs).length → Pure.bit false C' j = (Pure.bit false (Pure.add16 bs) j ^^ (decide (at_ ≤ j) && row.testBit (j - at_)))) (h : Pure.ends16 C' = true) : C' = Pure.add16 bs := by
  have h1 := Pure.ends_add16 bs
  unfold Pure.ends16 at h h1
  simp only [Bool.and_eq_true, decide_eq_true_eq] at h h1
  have e1 := (Pure.ends_reg (W := 15) (n := 2) (P := 33800) (ones := 65535) (by omega) (by omega) (by decide) (by decide) (by decide) _ h.1).1 h.2
  have e2 := (Pure.ends_reg (W := 15) (n := 2) (P := 33800) (ones := 65535) (by omega) (by omega) (by decide) (by decide) (by decide) _ h1.1).1 h1.2
  exact Pure.burst (W := 15) (P := 33800) (ones := 65535) (by decide) (by decide) (Pure.add16 bs) C' at_ row hl hat hrow hb (e1.trans e2.symm)

theorem burst32 (bs C' : List UInt8) (at_ row : Nat) (hl : C'.length = (Pure.add32 bs).length) (hat : at_ ≤ 8 * (Pure.add32 bs).length) (hrow : row < 4294967296)
    (hb : ∀ j, j < 8 * (Pure.add32 bs).length → Pure.bit false C' j = (Pure.bit false (Pure.add32 bs) j ^^ (decide (at_ ≤ j) && row.testBit (j - at_)))) (h : Pure.ends32 C' = true) : C' = Pure.add32 bs := by
  have h1 := Pure.ends_add32 bs
  unfold Pure.ends32 at h h1
  simp only [Bool.and_eq_true, decide_eq_true_eq] at h h1
  have e1 := (Pure.ends_reg (W := 31) (n := 4) (P := 3988292384) (ones := 4294967295) (by omega) (by omega) (by decide) (by decide) (by decide) _ h.1).1 h.2
  have e2 := (Pure.ends_reg (W := 31) (n := 4) (P := 3988292384) (ones := 4294967295) (by omega) (by omega) (by decide) (by decide) (by decide) _ h1.1).1 h1.2
  exact Pure.burst (W := 31) (P := 3988292384) (ones := 4294967295) (by decide) (by decide) (Pure.add32 bs) C' at_ row hl hat hrow hb (e1.trans e2.symm)

theorem u32_of_wf' {n : Int} (h : (Lit.int .u32 n).wf = true) : 0 ≤ n ∧ n ≤ 4294967295 := u32_of_wf h

set_option maxRecDepth 100000 in
set_option maxHeartbeats 4000000 in
theorem fcsBursts_walk (a0 : Option Addr) (len0 cap0 : Nat) (z0 : List Int) (a1 a2 : Int) (w : World) (w0 : IsRow .u8 w a0 len0 cap0 z0) (w1 : (Lit.int .i64 a1).wf = true) (w2 : (Lit.int .u32 a2).wf = true) :
    Calls Try.prog 13 #[.slice a0 len0 cap0, .int .i64 a1, .int .u32 a2] w fun e w' => e = .returned (.bool true) ∧ Below w.heap.size w w' := by
  obtain ⟨bs, hl, hrow⟩ := w0.bytes
  obtain ⟨hlo, hhi⟩ := i64_of_wf w1
  obtain ⟨hr0, hr1⟩ := u32_of_wf w2
  obtain ⟨R, rfl⟩ := Int.eq_ofNat_of_zero_le hr0
  have HR0 := Lib.hid hrow
  have hmx := hrow.2.1
  unfold maxLen at hmx
  clear hrow w0 w1 w2 hr0
  subst hl
  go_enter Try.func13, Try.ntmps13
  go_wp2_with fail
  refine (awake2_any w).mono ?_
  rintro e wa ⟨rfl, hb1⟩
  have BA := Lib.hid hb1
  clear hb1
  by_cases h2 : 2000 < bs.length
  · go_wp2_with fail
    refine (awake2_any wa).mono ?_
    rintro e wb ⟨rfl, hb1⟩
    have BB := Lib.hid (BA.out.trans (hb1.mono BA.out.size))
    clear hb1
    go_wp2
    go_ret
    exact ⟨rfl, BB.out⟩
  · by_cases hR : R = 0
    · subst hR
      go_wp2_with fail
      refine (awake2_any wa).mono ?_
      rintro e wb ⟨rfl, hb1⟩
      have BB := Lib.hid (BA.out.trans (hb1.mono BA.out.size))
      clear hb1
      go_wp2
      go_ret
      exact ⟨rfl, BB.out⟩
    · obtain ⟨r16, hr16, hwr⟩ : ∃ r : Nat, r < 65536 ∧ IntKind.u16.wrap (R : Int) = (r : Int) := ⟨R % 65536, by omega, by rw [IntKind.wrap_u16]; omega⟩
      have hRb : ((R : Int) == 0) = false := by rw [beq_eq_false_iff_ne]; omega
      have hl5 : bs.length ≤ 100000000000000 := by omega
      have RA := Lib.hid (HR0.out.keeps (Keeps.new BA.out) (fun _ _ h => h))
      have FA := Lib.hid (fun b (hb : b < w.heap.size) => Nat.lt_of_lt_of_le hb BA.out.size)
      clear hR
      go_wp2_with fail
      clear hRb
      refine (add16_any _ _ bs wa RA.out FA.out hl5).mono ?_
      rintro e wc ⟨uc, rfl, hoc, hbc⟩
      obtain ⟨Ac, cc, rfl⟩ := own_form hoc
      have lc := add16_len bs
      have LC := Lib.hid lc
      obtain ⟨gc, rfl, hgc, _⟩ := own_cell hoc (by omega)
      have hgc0 := ownsRow_ge hoc gc rfl
      have OC := Lib.hid hoc
      have KC := Lib.hid (Keeps.new hbc)
      have RC := Lib.hid (RA.out.keeps KC.out (fun _ _ h => h))
      have FC := Lib.hid (fun b hb => Nat.lt_of_lt_of_le (FA.out b hb) hbc.size)
      clear hoc hbc lc
      go_wp2_with fail
      refine (add32_any _ _ bs wc RC.out FC.out hl5).mono ?_
      rintro e wd ⟨ud, rfl, hod, hbd⟩
      obtain ⟨Ad, cd, rfl⟩ := own_form hod
      have ld := add32_len bs
      have LD := Lib.hid ld
      obtain ⟨gd, rfl, hgd, _⟩ := own_cell hod (by omega)
      have hgd0 := ownsRow_ge hod gd rfl
      have OD := Lib.hid hod
      have KD := Lib.hid (Keeps.new hbd)
      have OC1 := Lib.hid (ownsRow_keeps OC.out KD.out (fun _ _ h => h))
      have hszd := hbd.size
      clear hod hbd OC ld
      have hH1 := Lib.hid (hit_any _ gc cc (Pure.add16 bs) a1 r16 wd OC1.out (by rw [LC.out]; omega) (by rw [LC.out]; omega) hlo hhi (by omega))
      go_wp2_with fail
      clear hwr
      refine hH1.out.mono ?_
      rintro e we ⟨rfl, C', at1, hat1, hlC, hbC, hoC, hke⟩
      have HB1 := Lib.hid (fun h => burst16 bs C' at1 r16 hlC hat1 (by omega) hbC h)
      have LC' := Lib.hid hlC
      have O1 := Lib.hid hoC
      have KE := Lib.hid hke
      have hsze := hke.size
      have OD1 := Lib.hid (ownsRow_keeps OD.out hke (fun q hq e => by
        have e : q = gc := e
        have hq : gd = q := by simpa [Value.ownBlock] using hq
        omega))
      clear hH1 hat1 hlC hbC hoC hke OD OC1
      have hH2 := Lib.hid (hit_any _ gd cd (Pure.add32 bs) a1 R we OD1.out (by rw [LD.out]; omega) (by rw [LD.out]; omega) hlo hhi (by omega))
      go_wp2_with fail
      refine hH2.out.mono ?_
      rintro e wf ⟨rfl, D', at2, hat2, hlD, hbD, hoD, hkf⟩
      have HB2 := Lib.hid (fun h => burst32 bs D' at2 R hlD hat2 (by omega) hbD h)
      have LD' := Lib.hid hlD
      have O2 := Lib.hid hoD
      have KF := Lib.hid hkf
      have hszf := hkf.size
      have O1b := Lib.hid (ownsRow_keeps O1.out hkf (fun q hq e => by
        have e : q = gd := e
        have hq : gc = q := by simpa [Value.ownBlock] using hq
        omega))
      have BF := Lib.hid (Below.keeps (Below.keeps (Below.quiet BA.out (KC.out.trans KD.out) BA.out.size) KE.out (Nat.le_trans BA.out.size (KC.out.trans KD.out).size) (fun q hq => by
        have hq : q = gc := hq
        have h1 := BA.out.size
        omega)) hkf (Nat.le_trans (Nat.le_trans BA.out.size (KC.out.trans KD.out).size) hsze) (fun q hq => by
        have hq : q = gd := hq
        have h1 := BA.out.size
        have h2 := KC.out.size
        omega))
      have RF := Lib.hid (((RC.out.keeps KD.out (fun _ _ h => h)).keeps KE.out (fun q hq e => by
        have e : q = gc := e
        have h1 := BA.out.size
        omega)).keeps hkf (fun q hq e => by
        have e : q = gd := e
        have h1 := BA.out.size
        have h2 := KC.out.size
        omega))
      clear hH2 hat2 hlD hbD hoD hkf OD1 O1 RC RA FC
      have hgcl := ownsRow_lt O1b.out gc rfl
      have hgdl := ownsRow_lt O2.out gd rfl
      have rowC := (Row.of_own O1b.out).mono (G := fun q => q < wf.heap.size) (fun q hq => by
        have hq : gc = q := by simpa [Value.ownBlock] using hq
        omega)
      have rowD := (Row.of_own O2.out).mono (G := fun q => q < wf.heap.size) (fun q hq => by
        have hq : gd = q := by simpa [Value.ownBlock] using hq
        omega)
      rw [← LC'.out] at rowC
      rw [← LD'.out] at rowD
      have RowC := Lib.hid rowC
      have RowD := Lib.hid rowD
      have hc5 : C'.length ≤ 100000000000000 := by rw [LC'.out, LC.out]; omega
      have hd5 : D'.length ≤ 100000000000000 := by rw [LD'.out, LD.out]; omega
      clear rowC rowD
      rw [← LC'.out, ← LD'.out]
      go_wp2_with fail
      refine (Check16_row _ _ C' wf RowC.out (fun _ h => h) hc5).mono ?_
      rintro e w5 ⟨u5, rfl, _, hb5⟩
      have K5 := Lib.hid (Keeps.new hb5)
      have hs5 := hb5.size
      clear hb5
      go_wp2_with fail
      refine (Check32_row _ _ D' w5 (RowD.out.keeps K5.out (fun _ _ h => h)) (fun _ h => Nat.lt_of_lt_of_le h hs5) hd5).mono ?_
      rintro e w6 ⟨u6, rfl, _, hb6⟩
      have K6 := Lib.hid (K5.out.trans (Keeps.new hb6))
      have hs6 := hb6.size
      clear hb6
      go_wp2_with fail
      refine (awake2_any w6).mono ?_
      rintro e w7 ⟨rfl, hb7⟩
      have K7 := Lib.hid (K6.out.trans (Keeps.new hb7))
      have hs7 := hb7.size
      clear hb7
      cases h16 : Pure.ends16 C'
      · clear h16
        cases h32 : Pure.ends32 D'
        · clear h32
          go_wp2
          go_ret
          exact ⟨rfl, Below.quiet BF.out K7.out BF.out.size⟩
        · have ed := HB2.out h32
          have ED := Lib.hid ed
          have LD2 := Lib.hid (LD'.out)
          clear h32 ed
          have RFx := RF.out.keeps K7.out (fun _ _ h => h)
          have RowDx := RowD.out.keeps K7.out (fun _ _ h => h)
          have hszx := K7.out.size
          have RFX := Lib.hid RFx
          have RowDX := Lib.hid RowDx
          have hbf := BF.out.size
          clear RFx RowDx
          go_wp2_with fail
          refine (add32_row _ _ bs w7 RFX.out (fun b hb => Nat.lt_of_lt_of_le hb (Nat.le_trans hbf hszx)) hl5).mono ?_
          rintro e wy ⟨uy, rfl, hry, hby⟩
          have RY := Lib.hid hry
          have KY := Lib.hid (K7.out.trans (Keeps.new hby))
          have RowDY := Lib.hid (RowDX.out.keeps (Keeps.new hby) (fun _ _ h => h))
          clear hry hby
          go_wp2_with fail
          refine (same_any _ _ _ _ D' (Pure.add32 bs) wy RowDY.out RY.out).mono ?_
          rintro e wz ⟨rfl, hkz⟩
          rw [show decide (D' = Pure.add32 bs) = true by rw [decide_eq_true_eq]; exact ED.out]
          have KZ := Lib.hid (KY.out.trans hkz)
          clear hkz
          go_wp2
          go_ret
          exact ⟨rfl, Below.quiet BF.out KZ.out BF.out.size⟩
      · have ec := HB1.out h16
        have EC := Lib.hid ec
        clear h16 ec
        have RF7 := Lib.hid (RF.out.keeps K7.out (fun _ _ h => h))
        have RowC7 := Lib.hid (RowC.out.keeps K7.out (fun _ _ h => h))
        have hsz7 := K7.out.size
        have hbf7 := BF.out.size
        go_wp2_with fail
        refine (add16_row _ _ bs w7 RF7.out (fun b hb => Nat.lt_of_lt_of_le hb (Nat.le_trans hbf7 hsz7)) hl5).mono ?_
        rintro e w8 ⟨u8, rfl, hr8, hb8⟩
        have R8 := Lib.hid hr8
        have K8 := Lib.hid (K7.out.trans (Keeps.new hb8))
        have RowC8 := Lib.hid (RowC7.out.keeps (Keeps.new hb8) (fun _ _ h => h))
        clear hr8 hb8
        go_wp2_with fail
        refine (same_any _ _ _ _ C' (Pure.add16 bs) w8 RowC8.out R8.out).mono ?_
        rintro e w9 ⟨rfl, hk9⟩
        rw [show decide (C' = Pure.add16 bs) = true by rw [decide_eq_true_eq]; exact EC.out]
        have K9 := Lib.hid (K8.out.trans hk9)
        clear hk9
        cases h32 : Pure.ends32 D'
        · clear h32
          go_wp2
          go_ret
          exact ⟨rfl, Below.quiet BF.out K9.out BF.out.size⟩
        · have ed := HB2.out h32
          have ED := Lib.hid ed
          have LD2 := Lib.hid (LD'.out)
          clear h32 ed
          have RFx := RF.out.keeps K9.out (fun _ _ h => h)
          have RowDx := RowD.out.keeps K9.out (fun _ _ h => h)
          have hszx := K9.out.size
          have RFX := Lib.hid RFx
          have RowDX := Lib.hid RowDx
          have hbf := BF.out.size
          clear RFx RowDx
          go_wp2_with fail
          refine (add32_row _ _ bs w9 RFX.out (fun b hb => Nat.lt_of_lt_of_le hb (Nat.le_trans hbf hszx)) hl5).mono ?_
          rintro e wy ⟨uy, rfl, hry, hby⟩
          have RY := Lib.hid hry
          have KY := Lib.hid (K9.out.trans (Keeps.new hby))
          have RowDY := Lib.hid (RowDX.out.keeps (Keeps.new hby) (fun _ _ h => h))
          clear hry hby
          go_wp2_with fail
          refine (same_any _ _ _ _ D' (Pure.add32 bs) wy RowDY.out RY.out).mono ?_
          rintro e wz ⟨rfl, hkz⟩
          rw [show decide (D' = Pure.add32 bs) = true by rw [decide_eq_true_eq]; exact ED.out]
          have KZ := Lib.hid (KY.out.trans hkz)
          clear hkz
          go_wp2
          go_ret
          exact ⟨rfl, Below.quiet BF.out KZ.out BF.out.size⟩
end Go.Proofs.Ytkpagfeglpfhkaa
