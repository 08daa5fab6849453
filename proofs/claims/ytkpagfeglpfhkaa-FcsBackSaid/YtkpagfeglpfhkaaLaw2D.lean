/- The walk of the law FcsBack. -/
import Derived.Test.YtkpagfeglpfhkaaLaw2A
import Derived.Test.YtkpagfeglpfhkaaFcsMath
namespace Go.Proofs.Ytkpagfeglpfhkaa
open Go.RowKit

namespace Pure
/-- One bit is turned. -/
def flip (c : List UInt8) (k : Nat) : List UInt8 := c.set (k / 8) (c.getD (k / 8) 0 ^^^ UInt8.ofNat (2 ^ (k % 8)))
theorem flip_length (c : List UInt8) (k : Nat) : (flip c k).length = c.length := by simp [flip]
theorem flip_bit (c : List UInt8) (k j : Nat) (hk : k < 8 * c.length) : bit false (flip c k) j = (bit false c j ^^ decide (j = k)) := by
  unfold bit flip
  simp only [place, Bool.false_eq_true, if_false]
  rw [List.getD_eq_getElem?_getD, List.getElem?_set]
  by_cases h : k / 8 = j / 8
  · rw [if_pos h, if_pos (by omega), Option.getD_some, UInt8.toNat_xor, Nat.testBit_xor, h]
    congr 1
    have h2 : (UInt8.ofNat (2 ^ (k % 8))).toNat = 2 ^ (k % 8) := by
      rw [UInt8.toNat_ofNat']
      exact Nat.mod_eq_of_lt (Nat.pow_lt_pow_right (by omega) (by omega))
    rw [h2, Nat.testBit_two_pow]
    congr 1
    apply propext
    omega
  · rw [if_neg h, List.getD_eq_getElem?_getD]
    have : decide (j = k) = false := by simp; omega
    rw [this, Bool.xor_false]
theorem ends16_flip (b : List UInt8) (k : Nat) (hk : k < 8 * (add16 b).length) : ends16 (flip (add16 b) k) = false := by
  have hl : (add16 b).length = b.length + 2 := by simp [add16, le]
  rw [Bool.eq_false_iff]
  intro h
  have h1 := ends_add16 b
  unfold ends16 at h h1
  simp only [Bool.and_eq_true, decide_eq_true_eq] at h h1
  have e1 := (ends_reg (W := 15) (n := 2) (P := 33800) (ones := 65535) (by omega) (by omega) (by decide) (by decide) (by decide) _ h.1).1 h.2
  have e2 := (ends_reg (W := 15) (n := 2) (P := 33800) (ones := 65535) (by omega) (by omega) (by decide) (by decide) (by decide) _ h1.1).1 h1.2
  have e3 := burst (W := 15) (P := 33800) (ones := 65535) (by decide) (by decide) (add16 b) (flip (add16 b) k) k 1 (flip_length _ _) (by omega) (by decide) (fun j _ => by
    rw [flip_bit _ _ _ hk]
    congr 1
    have : Nat.testBit 1 (j - k) = decide (j - k = 0) := by rw [show (1 : Nat) = 2 ^ 0 from rfl, Nat.testBit_two_pow]; congr 1; apply propext; omega
    rw [this, ← Bool.decide_and]
    congr 1
    apply propext
    omega) (e1.trans e2.symm)
  have e4 := flip_bit (add16 b) k k hk
  rw [e3] at e4
  simp at e4
theorem ends32_flip (b : List UInt8) (k : Nat) (hk : k < 8 * (add32 b).length) : ends32 (flip (add32 b) k) = false := by
  have hl : (add32 b).length = b.length + 4 := by simp [add32, le]
  rw [Bool.eq_false_iff]
  intro h
  have h1 := ends_add32 b
  unfold ends32 at h h1
  simp only [Bool.and_eq_true, decide_eq_true_eq] at h h1
  have e1 := (ends_reg (W := 31) (n := 4) (P := 3988292384) (ones := 4294967295) (by omega) (by omega) (by decide) (by decide) (by decide) _ h.1).1 h.2
  have e2 := (ends_reg (W := 31) (n := 4) (P := 3988292384) (ones := 4294967295) (by omega) (by omega) (by decide) (by decide) (by decide) _ h1.1).1 h1.2
  have e3 := burst (W := 31) (P := 3988292384) (ones := 4294967295) (by decide) (by decide) (add32 b) (flip (add32 b) k) k 1 (flip_length _ _) (by omega) (by decide) (fun j _ => by
    rw [flip_bit _ _ _ hk]
    congr 1
    have : Nat.testBit 1 (j - k) = decide (j - k = 0) := by rw [show (1 : Nat) = 2 ^ 0 from rfl, Nat.testBit_two_pow]; congr 1; apply propext; omega
    rw [this, ← Bool.decide_and]
    congr 1
    apply propext
    omega) (e1.trans e2.symm)
  have e4 := flip_bit (add32 b) k k hk
  rw [e3] at e4
  simp at e4
end Pure

/-- A cell of a row of the call's own is written. -/
theorem ownsRow_set {w : World} {base g : Nat} {e : TypeId} {n c : Nat} {xs : List Value} (h : w.ownsRow base e 1 (.slice (some ⟨g, 0, none⟩) n c) n xs) (j : Nat) (hj : j < n) (u : Value) :
    (w.setCell ⟨g, j, none⟩ u).ownsRow base e 1 (.slice (some ⟨g, 0, none⟩) n c) n (xs.set j u) := by
  obtain ⟨h1, h2⟩ := h
  refine ⟨by simpa using h1, ?_⟩
  rcases h2 with ⟨h2, _⟩ | ⟨g', cap, cur, h2, hg, hh, h3, h4, h5, h6⟩
  · cases h2
  · injection h2 with h2 _ h7
    injection h2 with h2
    injection h2 with h2
    subst h2 h7
    have hb : Blk w g e cur := hh
    refine .inr ⟨g, c, cur.setIfInBounds j u, rfl, hg, hb.set j u, h3, h4, by simpa using h5, ?_⟩
    rw [Array.toList_setIfInBounds, ← h6, List.take_set]

theorem flip_cell (C : List UInt8) (k : Nat) {x : Nat} (h : k / 8 < C.length) (hx : x = (C.getD (k / 8) 0).toNat) : (u8s C).set (k / 8) (.int .u8 (bits .xor .u8 (x : Int) (2 ^ (k % 8) % 256))) = u8s (Pure.flip C k) := by
  have hp : 2 ^ (k % 8) < 256 := Nat.pow_lt_pow_right (n := 8) (a := 2) (by omega) (by omega)
  have e1 : ((2 : Int) ^ (k % 8) % 256) = ((2 ^ (k % 8) : Nat) : Int) := by
    have : ((2 ^ (k % 8) : Nat) : Int) = (2 : Int) ^ (k % 8) := by simp
    rw [← this]
    obtain ⟨p, hpp⟩ : ∃ p, p = 2 ^ (k % 8) := ⟨_, rfl⟩
    rw [← hpp] at hp ⊢
    omega
  have hx2 : x < 256 := by rw [hx]; exact (C.getD (k / 8) 0).toNat_lt
  rw [e1, u8_xor_nat x (2 ^ (k % 8)) hx2 hp]
  unfold Pure.flip
  show (C.map _).set _ _ = (C.set _ _).map _
  rw [List.map_set]
  congr 2
  rw [UInt8.toNat_xor, ← hx, UInt8.toNat_ofNat', Nat.mod_eq_of_lt hp]

set_option maxRecDepth 100000 in
set_option maxHeartbeats 2000000 in
theorem fcsBack_walk (a0 : Option Addr) (len0 cap0 : Nat) (z0 : List Int) (a1 : Int) (w : World) (w0 : IsRow .u8 w a0 len0 cap0 z0) (w1 : (Lit.int .i64 a1).wf = true) :
    Calls Try.prog 12 #[.slice a0 len0 cap0, .int .i64 a1] w fun e w' => e = .returned (.bool true) ∧ Below w.heap.size w w' := by
  obtain ⟨bs, hl, hrow⟩ := w0.bytes
  obtain ⟨hlo, hhi⟩ := i64_of_wf w1
  have HR0 := Lib.hid hrow
  have hmx := hrow.2.1
  unfold maxLen at hmx
  clear hrow w0 w1
  subst hl
  go_enter Try.func12, Try.ntmps12
  go_wp2_with fail
  refine (awake2_any w).mono ?_
  rintro e wa ⟨rfl, hb1⟩
  have BA := Lib.hid hb1
  clear hb1
  by_cases h4 : 4000 < bs.length
  · go_wp2_with fail
    refine (awake2_any wa).mono ?_
    rintro e wb ⟨rfl, hb1⟩
    have BB := Lib.hid (BA.out.trans (hb1.mono BA.out.size))
    clear hb1
    go_wp2
    go_ret
    exact ⟨rfl, BB.out⟩
  · have hl5 : bs.length ≤ 100000000000000 := by omega
    have RA := Lib.hid (HR0.out.keeps (Keeps.new BA.out) (fun _ _ h => h))
    have FA := Lib.hid (fun b (hb : b < w.heap.size) => Nat.lt_of_lt_of_le hb BA.out.size)
    go_wp2_with fail
    refine (add16_any _ _ bs wa RA.out FA.out hl5).mono ?_
    rintro e wc ⟨uc, rfl, hoc, hbc⟩
    rw [add16_len] at hoc
    obtain ⟨Ac, cc, rfl⟩ := own_form hoc
    obtain ⟨gc, rfl, hgc, _⟩ := own_cell hoc (by omega)
    have hgc0 := ownsRow_ge hoc gc rfl
    have OC := Lib.hid hoc
    have KC := Lib.hid (Keeps.new hbc)
    have RC := Lib.hid (RA.out.keeps KC.out (fun _ _ h => h))
    have FC := Lib.hid (fun b hb => Nat.lt_of_lt_of_le (FA.out b hb) hbc.size)
    clear hoc hbc
    go_wp2_with fail
    refine (add32_any _ _ bs wc RC.out FC.out hl5).mono ?_
    rintro e wd ⟨ud, rfl, hod, hbd⟩
    rw [add32_len] at hod
    obtain ⟨Ad, cd, rfl⟩ := own_form hod
    obtain ⟨gd, rfl, hgd, _⟩ := own_cell hod (by omega)
    have hgd0 := ownsRow_ge hod gd rfl
    have OD := Lib.hid hod
    have KD := Lib.hid (Keeps.new hbd)
    have OC1 := Lib.hid (ownsRow_keeps OC.out KD.out (fun _ _ h => h))
    have hszd := hbd.size
    clear hod hbd OC
    go_wp2_with fail
    refine (Check16_row (fun q => q = gc) _ (Pure.add16 bs) wd (by rw [add16_len]; exact (Row.of_own OC1.out).mono (fun q hq => by simpa [Value.ownBlock] using hq.symm)) (fun q hq => by omega) (by rw [add16_len]; omega)).mono ?_
    rintro e we ⟨ue, rfl, hre, hbe⟩
    rw [Pure.ends_add16]
    rw [Pure.rest_add16] at hre
    have RE := Lib.hid hre
    have KE := Lib.hid (Keeps.new hbe)
    have OD1 := Lib.hid (ownsRow_keeps OD.out KE.out (fun _ _ h => h))
    have hsze := hbe.size
    clear hre hbe OD
    go_wp2_with fail
    refine (Check32_row (fun q => q = gd) _ (Pure.add32 bs) we (by rw [add32_len]; exact (Row.of_own OD1.out).mono (fun q hq => by simpa [Value.ownBlock] using hq.symm)) (fun q hq => by omega) (by rw [add32_len]; omega)).mono ?_
    rintro e wf ⟨uf, rfl, hrf, hbf⟩
    rw [Pure.ends_add32]
    rw [Pure.rest_add32] at hrf
    have RF := Lib.hid hrf
    have KF := Lib.hid (Keeps.new hbf)
    have OC2 := Lib.hid (ownsRow_keeps OC1.out (KE.out.trans KF.out) (fun _ _ h => h))
    have OD2 := Lib.hid (ownsRow_keeps OD1.out KF.out (fun _ _ h => h))
    have RE2 := Lib.hid (RE.out.keeps KF.out (fun _ _ h => h))
    have hszf := hbf.size
    clear hrf hbf OD1 OC1 RE
    have t1 := Int.tmod_lt_of_pos a1 (show 0 < ((bs.length : Int) + 2) * 8 by omega)
    have t2 := Int.lt_tmod_of_pos a1 (show 0 < ((bs.length : Int) + 2) * 8 by omega)
    have t3 : 0 ≤ a1.tmod (((bs.length : Int) + 2) * 8) + ((bs.length : Int) + 2) * 8 := by omega
    have t4 : a1.tmod (((bs.length : Int) + 2) * 8) + ((bs.length : Int) + 2) * 8 ≤ 100000 := by omega
    obtain ⟨k, hk⟩ : ∃ k : Nat, a1.tmod (((bs.length : Int) + 2) * 8) % (((bs.length : Int) + 2) * 8) = (k : Int) :=
      ⟨_, (Int.toNat_of_nonneg (Int.emod_nonneg _ (by omega))).symm⟩
    have hkl : (k : Int) < ((bs.length : Int) + 2) * 8 := by rw [← hk]; exact Int.emod_lt_of_pos _ (by omega)
    have hkn : k < 8 * (bs.length + 2) := by omega
    have HK := Lib.hid hk
    clear hk
    go_upto_region 10 with fail
    go_cut [12] (fun s wx => s = .int .i64 k ∧ wf = wx)
    case first =>
      go_wp2
      go_meet
      exact ⟨by rw [← HK.out, Int.add_emod_right], rfl⟩
    case rest =>
     obtain ⟨rfl, rfl⟩ := hcut
     clear t1 t2 t3 t4
     have lc : (Pure.add16 bs).length = bs.length + 2 := add16_len bs
     have ld : (Pure.add32 bs).length = bs.length + 4 := add32_len bs
     obtain ⟨C, hC⟩ : ∃ C, C = Pure.add16 bs := ⟨_, rfl⟩
     obtain ⟨D, hD⟩ : ∃ D, D = Pure.add32 bs := ⟨_, rfl⟩
     rw [← hC] at OC2 lc
     rw [← hD] at OD2 ld
     have cellC := (Row.of_own OC2.out).cellAt (by omega)
     obtain ⟨b1, o1, he1, hf1, hcell1⟩ := (Row.of_own OC2.out).cellAt (by omega)
     obtain ⟨b2, o2, he2, hf2, hcell2⟩ := (Row.of_own OD2.out).cellAt (by omega)
     injection he1 with he1
     injection he1 with he1 he1'
     injection he2 with he2
     injection he2 with he2 he2'
     subst he1 he1' he2 he2'
     have c1 := hcell1 (k / 8) _ (u8s_at C (k / 8) (by omega))
     have c2 := hcell2 (k / 8) _ (u8s_at D (k / 8) (by omega))
     rw [Nat.zero_add] at c1 c2
     obtain ⟨x1, hx1⟩ : ∃ x : Nat, x = (C.getD (k / 8) 0).toNat := ⟨_, rfl⟩
     obtain ⟨x2, hx2⟩ : ∃ x : Nat, x = (D.getD (k / 8) 0).toNat := ⟨_, rfl⟩
     have hx1l : x1 < 256 := by rw [hx1]; exact (C.getD (k / 8) 0).toNat_lt
     have hx2l : x2 < 256 := by rw [hx2]; exact (D.getD (k / 8) 0).toNat_lt
     rw [← hx1] at c1
     rw [← hx2] at c2
     have f1 : wf.frozen? ⟨gc, k / 8, none⟩ = false := OC2.out.frozenAt _
     have f2 : wf.frozen? ⟨gd, k / 8, none⟩ = false := OD2.out.frozenAt _
     have HX1 := Lib.hid hx1
     have HX2 := Lib.hid hx2
     have HC := Lib.hid hC
     have HD := Lib.hid hD
     have LC := Lib.hid lc
     have LD := Lib.hid ld
     have k0 : (0 : Int) ≤ (k : Int) / 8 := by omega
     have k1 : (k : Int) / 8 < (bs.length : Int) + 2 := by omega
     clear cellC hcell1 hcell2 hx1 hx2 hC hD lc ld hf1 hf2
     have hgne : gc ≠ gd := fun e => by have := ownsRow_lt OC2.out gc rfl; have := hszd; omega
     have v1 := flip_cell C k (by have := LC.out; omega) HX1.out
     have v2 := flip_cell D k (by have := LD.out; omega) HX2.out
     have V1 := Lib.hid v1
     have V2 := Lib.hid v2
     clear v1 v2
     go_upto_region 13 with fail
     obtain ⟨W, hW⟩ : ∃ W, W = (wf.setCell ⟨gc, k / 8, none⟩ (.int .u8 (bits .xor .u8 (x1 : Int) (2 ^ (k % 8) % 256)))).setCell ⟨gd, k / 8, none⟩ (.int .u8 (bits .xor .u8 (x2 : Int) (2 ^ (k % 8) % 256))) := ⟨_, rfl⟩
     rw [← hW]
     have kc : Keeps (only gc) wf (wf.setCell ⟨gc, k / 8, none⟩ (.int .u8 (bits .xor .u8 (x1 : Int) (2 ^ (k % 8) % 256)))) := (Keeps.refl _ wf).store gc _ (fun _ => only_self gc) _
     have kd : Keeps (only gd) (wf.setCell ⟨gc, k / 8, none⟩ (.int .u8 (bits .xor .u8 (x1 : Int) (2 ^ (k % 8) % 256)))) W := by rw [hW]; exact (Keeps.refl _ _).store gd _ (fun _ => only_self gd) _
     have o1 := ownsRow_set OC2.out (k / 8) (by omega) (.int .u8 (bits .xor .u8 (x1 : Int) (2 ^ (k % 8) % 256)))
     rw [V1.out] at o1
     have o2 := ownsRow_set (ownsRow_keeps OD2.out kc (fun q hq e => by
       have e : q = gc := e
       have hq : gd = q := by simpa [Value.ownBlock] using hq
       omega)) (k / 8) (by omega) (.int .u8 (bits .xor .u8 (x2 : Int) (2 ^ (k % 8) % 256)))
     rw [V2.out, ← hW] at o2
     have o3 := ownsRow_keeps o1 kd (fun q hq e => by
       have e : q = gd := e
       have hq : gc = q := by simpa [Value.ownBlock] using hq
       omega)
     have kk : Keeps (fun q => q = gc ∨ q = gd) wf W := (kc.mono (fun _ h => .inl h)).trans (kd.mono (fun _ h => .inr h))
     have hsw := kk.size
     have P1 := Lib.hid o3
     have P2 := Lib.hid o2
     have KK := Lib.hid kk
     clear kc kd o1 o2 o3 hW c1 c2 f1 f2 k0 k1 kk
     go_wp2_with fail
     have e1 : Pure.ends16 (Pure.flip C k) = false := by rw [HC.out]; exact Pure.ends16_flip bs k (by rw [add16_len]; exact hkn)
     have e2 : Pure.ends32 (Pure.flip D k) = false := by rw [HD.out]; exact Pure.ends32_flip bs k (by rw [add32_len]; omega)
     have E1 := Lib.hid e1
     have E2 := Lib.hid e2
     clear e1 e2
     refine (Check16_row (fun q => q = gc) _ (Pure.flip C k) W (by rw [Pure.flip_length, LC.out]; exact (Row.of_own P1.out).mono (fun q hq => by simpa [Value.ownBlock] using hq.symm)) (fun q hq => by omega) (by rw [Pure.flip_length, LC.out]; omega)).mono ?_
     rintro e w5 ⟨u5, rfl, _, hb5⟩
     rw [E1.out]
     have K5 := Lib.hid (Keeps.new hb5)
     have P3 := Lib.hid (ownsRow_keeps P2.out K5.out (fun _ _ h => h))
     have hs5 := hb5.size
     clear hb5
     go_wp2_with fail
     refine (Check32_row (fun q => q = gd) _ (Pure.flip D k) w5 (by rw [Pure.flip_length, LD.out]; exact (Row.of_own P3.out).mono (fun q hq => by simpa [Value.ownBlock] using hq.symm)) (fun q hq => by omega) (by rw [Pure.flip_length, LD.out]; omega)).mono ?_
     rintro e w6 ⟨u6, rfl, _, hb6⟩
     rw [E2.out]
     have K6 := Lib.hid (Keeps.new hb6)
     clear hb6
     go_wp2_with fail
     refine (awake2_any w6).mono ?_
     rintro e w7 ⟨rfl, hb7⟩
     have K7 := Lib.hid (K5.out.trans (K6.out.trans (Keeps.new hb7)))
     have B7 := Lib.hid (Below.quiet (Below.keeps (Below.quiet BA.out (KC.out.trans (KD.out.trans (KE.out.trans KF.out))) BA.out.size) KK.out (Nat.le_trans BA.out.size (KC.out.trans (KD.out.trans (KE.out.trans KF.out))).size) (fun q hq => by
       have h1 := BA.out.size
       have h2 := KC.out.size
       rcases hq with rfl | rfl <;> omega)) K7.out (Nat.le_trans (Nat.le_trans BA.out.size (KC.out.trans (KD.out.trans (KE.out.trans KF.out))).size) hsw))
     have hgcl := ownsRow_lt OC2.out gc rfl
     have R7 := Lib.hid (((RC.out.keeps (KD.out.trans (KE.out.trans KF.out)) (fun _ _ h => h)).keeps KK.out (fun q hq e => by
       have h1 := BA.out.size
       have h2 := KC.out.size
       rcases e with rfl | rfl <;> omega)).keeps K7.out (fun _ _ h => h))
     have T1 := Lib.hid ((RE2.out.keeps KK.out (fun q hq e => by
       have := ownsRow_lt OC2.out gc rfl
       rcases e with rfl | rfl
       · omega
       · omega)).keeps K7.out (fun _ _ h => h))
     have T2 := Lib.hid ((RF.out.keeps KK.out (fun q hq e => by
       rcases e with rfl | rfl
       · omega
       · omega)).keeps K7.out (fun _ _ h => h))
     clear hb7
     go_wp2_with fail
     refine (same_any _ _ _ _ bs bs w7 T1.out R7.out).mono ?_
     rintro e w8 ⟨rfl, hk8⟩
     rw [show decide (bs = bs) = true by simp]
     have B8 := Lib.hid (Below.quiet B7.out hk8 B7.out.size)
     have R8 := Lib.hid (R7.out.keeps hk8 (fun _ _ h => h))
     have T3 := Lib.hid (T2.out.keeps hk8 (fun _ _ h => h))
     clear hk8
     go_wp2_with fail
     refine (same_any _ _ _ _ bs bs w8 T3.out R8.out).mono ?_
     rintro e w9 ⟨rfl, hk9⟩
     rw [show decide (bs = bs) = true by simp]
     have B9 := Lib.hid (Below.quiet B8.out hk9 B8.out.size)
     clear hk9
     go_wp2
     go_ret
     exact ⟨rfl, B9.out⟩
end Go.Proofs.Ytkpagfeglpfhkaa
