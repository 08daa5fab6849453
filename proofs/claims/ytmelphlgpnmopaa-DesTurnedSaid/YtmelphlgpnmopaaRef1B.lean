/- Contracts of the document's own bits (package fairleadref1): Left, number, Take, Peek, Align. -/
import Derived.Test.YtmelphlgpnmopaaRef1A
namespace Go.Proofs.Ytmelphlgpnmopaa
open Go.RowKit

/-- The block of an object and that of its slice. -/
def fw0 (g : Nat) (v : Value) : Nat → Prop := fun k => k = g ∨ v.ownBlock = some k
/-- A bit as a byte. -/
def bitV (b : Bool) : Value := .int .u8 (if b then 1 else 0)
abbrev bitsV (l : List Bool) : List Value := l.map bitV
theorem bitsV_one (l : List Bool) : ∀ u ∈ bitsV l, u.oneCell' = true := by
  intro u hu
  obtain ⟨b, _, rfl⟩ := List.mem_map.1 hu
  rfl
/-- The document's bits at block g. -/
structure RefO (w : World) (g : Nat) (v : Value) (high : Bool) (l : List Bool) (at_ : Nat) : Prop where
  blk : Blk w g 56 #[v, .int .i64 at_, .bool high]
  own : w.ownsRow 0 5 1 v l.length (bitsV l)
  len : l.length ≤ 1099511627776
theorem RefO.keeps {S : Nat → Prop} {w w' : World} {g : Nat} {v : Value} {high : Bool} {l : List Bool} {at_ : Nat} (h : RefO w g v high l at_) (k : Keeps S w w') (hs : ∀ b, fw0 g v b → ¬ S b) : RefO w' g v high l at_ :=
  ⟨h.blk.keeps k (hs g (.inl rfl)), ownsRow_keeps h.own k (fun b hb => hs b (.inr hb)), h.len⟩

namespace Pure
theorem num_succ_high (f : Nat → Bool) (k : Nat) : num true f (k + 1) (k + 1) = num true f k k * 2 ||| (if f k then 1 else 0) := by
  apply Nat.eq_of_testBit_eq
  intro j
  rw [Nat.testBit_or, num_testBit]
  have e2 : num true f k k * 2 = num true f k k <<< 1 := by rw [Nat.shiftLeft_eq]
  rw [e2, Nat.testBit_shiftLeft, num_testBit]
  simp only [place, if_true]
  rcases Nat.eq_zero_or_pos j with rfl | hj
  · have e : (if f k = true then 1 else 0).testBit 0 = f k := by cases f k <;> rfl
    rw [e]
    simp
  · have e : (if f k = true then 1 else 0).testBit j = false := by
      cases f k
      · simp
      · simp only [if_true]; exact Nat.testBit_lt_two_pow (Nat.one_lt_two_pow (by omega))
    rw [e]
    by_cases h : j < k + 1
    · simp [h, show j ≥ 1 from hj, show j - 1 < k by omega, show k - 1 - (j - 1) < k by omega, show k - j = k - 1 - (j - 1) by omega]
      intro _; omega
    · simp [h, show ¬ j - 1 < k by omega]
theorem num_succ_low (f : Nat → Bool) (k : Nat) : num false f (k + 1) (k + 1) = num false f k k ||| (if f k then 1 else 0) * 2 ^ k := by
  apply Nat.eq_of_testBit_eq
  intro j
  rw [Nat.testBit_or, num_testBit, num_testBit]
  have e2 : (if f k = true then 1 else 0) * 2 ^ k = (if f k = true then 1 else 0) <<< k := by rw [Nat.shiftLeft_eq]
  rw [e2, Nat.testBit_shiftLeft]
  simp only [place, Bool.false_eq_true, if_false]
  have e : ∀ i, (if f k = true then 1 else 0).testBit i = (decide (i = 0) && f k) := by
    intro i
    cases f k
    · simp
    · simp only [if_true, Bool.and_true]
      rcases Nat.eq_zero_or_pos i with rfl | hi
      · rfl
      · rw [Nat.testBit_lt_two_pow (Nat.one_lt_two_pow (by omega))]
        simp; omega
  rw [e]
  rcases Nat.lt_trichotomy j k with h | h | h
  · simp [h, show j < k + 1 by omega, show ¬ k ≤ j by omega]
  · subst h; simp
  · simp [show ¬ j < k + 1 by omega, show ¬ j < k by omega, show ¬ j - k = 0 by omega]
end Pure

theorem refLeft_any (g : Nat) (v : Value) (high : Bool) (l : List Bool) (at_ : Nat) (w : World) (h : RefO w g v high l at_) (hle : at_ ≤ l.length) :
    Calls Try.prog 40 #[.pointer (some ⟨g, 0, none⟩)] w fun e w' => e = .returned (.int .i64 ((l.length : Int) - at_)) ∧ Keeps nobody w w' := by
  obtain ⟨A, c, rfl⟩ := own_form h.own
  have c0 : w.cell? ⟨g, 0, none⟩ = some (.slice A l.length c) := by rw [h.blk.cell]; rfl
  have c1 : w.cell? ⟨g, 1, none⟩ = some (.int .i64 at_) := by rw [h.blk.cell]; rfl
  have l2 := h.len
  have hw1 : IntKind.i64.wrap ((l.length : Int) - at_) = (l.length : Int) - at_ := IntWalk.i64_in _ (by omega)
  clear h
  go_enter Try.func40, Try.ntmps40
  go_wp2_with fail
  go_quiet (fail)
  go_wp2
  go_ret
  exact ⟨rfl, Keeps.of_drewN rfl⟩

theorem refAlign_any (g : Nat) (v : Value) (high : Bool) (l : List Bool) (at_ : Nat) (w : World) (h : RefO w g v high l at_) (hat : at_ ≤ 1099511627776) :
    Calls Try.prog 39 #[.pointer (some ⟨g, 0, none⟩)] w fun e w' => e = .returned (.tuple #[]) ∧ RefO w' g v high l ((at_ + 7) / 8 * 8) ∧ Keeps (only g) w w' := by
  have c1 : w.cell? ⟨g, 1, none⟩ = some (.int .i64 at_) := by rw [h.blk.cell]; rfl
  have f1 : w.frozen? ⟨g, 1, none⟩ = false := h.blk.frozen 1
  have H := Lib.hid h
  clear h
  have k1 : ∀ u, Keeps (only g) w (w.setCell ⟨g, 1, none⟩ u) := fun u => (Keeps.refl _ w).store g 1 (fun _ => only_self g) _
  have K1 := Lib.hid k1
  clear k1
  go_enter Try.func39, Try.ntmps39
  go_wp2
  go_end0
  have e2 : (((at_ : Int) + 7) / 8 * 8) = (((at_ + 7) / 8 * 8 : Nat) : Int) := by omega
  rw [e2]
  refine ⟨rfl, ⟨?_, ?_, H.out.len⟩, K1.out _⟩
  · have := H.out.blk.set 1 (.int .i64 (((at_ + 7) / 8 * 8 : Nat) : Int))
    simpa using this
  · exact ownsRow_keeps H.out.own (K1.out _) (fun b hb e => by
      have e : b = g := e
      subst e
      exact ownsRow_ne H.out.own H.out.blk (by decide) hb)

set_option maxHeartbeats 2000000 in
theorem refNumber_any (g : Nat) (v : Value) (high : Bool) (l : List Bool) (at_ n : Nat) (w : World) (h : RefO w g v high l at_) (hat : at_ ≤ 1099511627776) (hn : n ≤ 32) :
    Calls Try.prog 42 #[.pointer (some ⟨g, 0, none⟩), .int .i64 n] w fun e w' =>
      e = .returned (.int .i64 (Pure.num high (fun k => l.getD (at_ + k) false) n n)) ∧ Keeps nobody w w' := by
  obtain ⟨A, c, rfl⟩ := own_form h.own
  have H := Lib.hid h
  have l2 := h.len
  clear h
  go_enter Try.func42, Try.ntmps42
  go_wp2_with fail
  go_loopw [5, 6] (fun x i wr => ∃ k : Nat, k ≤ n ∧ i = .int .i64 k ∧ x = .int .i64 (Pure.num high (fun k => l.getD (at_ + k) false) k k) ∧ Keeps nobody w wr) (fun _ i _ => n - (intOf i).toNat)
  case atStart => exact ⟨0, by omega, rfl, by rw [Pure.num_zero]; rfl, Keeps.refl _ _⟩
  case round =>
    obtain ⟨k, hk, rfl, rfl, hkp⟩ := hrel
    have HK := Lib.hid hkp
    clear hkp
    have H2 := Lib.hid (H.out.keeps HK.out (fun _ _ h => h))
    have c0 : wr.cell? ⟨g, 0, none⟩ = some (.slice A l.length c) := by rw [H2.out.blk.cell]; rfl
    have c1 : wr.cell? ⟨g, 1, none⟩ = some (.int .i64 at_) := by rw [H2.out.blk.cell]; rfl
    have c2 : wr.cell? ⟨g, 2, none⟩ = some (.bool high) := by rw [H2.out.blk.cell]; rfl
    by_cases hlt : k < n
    · have hw1 : IntKind.i64.wrap ((at_ : Int) + k) = (at_ : Int) + k := IntWalk.i64_in _ (by omega)
      obtain ⟨X, hX⟩ : ∃ X, X = Pure.num high (fun k => l.getD (at_ + k) false) k k := ⟨_, rfl⟩
      have hXlt : X < 2 ^ k := by rw [hX]; exact Pure.num_lt _ _ _ _
      have h2k : 2 ^ k ≤ 2147483648 := Nat.pow_le_pow_right (n := 2) (by omega) (show k ≤ 31 by omega)
      have hX32 : X ≤ 2147483647 := by omega
      rw [← hX]
      have HX := Lib.hid hX
      clear hX hXlt
      have hj0 : (0 : Int) ≤ (at_ : Int) + k := by omega
      have hs7 : (((at_ : Int) + k)).toNat = at_ + k := by omega
      go_wp2_with fail
      go_quiet (fail)
      go_upto_if 24 with fail
      go_cut [7] (fun s wx => s = .int .i64 (if l.getD (at_ + k) false then 1 else 0) ∧ Keeps nobody w wx)
      case first =>
        by_cases hin : at_ + k < l.length
        · have hin1 : ((at_ : Int) + k) < (l.length : Int) := by omega
          obtain ⟨b, rfl, hblt, hcell⟩ := own_cell H2.out.own (by omega)
          have c3 : wr.cell? ⟨b, at_ + k, none⟩ = some (bitV (l.getD (at_ + k) false)) := hcell _ _ (by
            rw [List.getElem?_map, List.getElem?_eq_getElem hin, List.getD_eq_getElem?_getD, List.getElem?_eq_getElem hin]; rfl)
          clear hcell
          obtain ⟨B, hB⟩ : ∃ B, B = l.getD (at_ + k) false := ⟨_, rfl⟩
          rw [← hB] at c3
          have HB := Lib.hid hB
          clear hB
          unfold bitV at c3
          cases B
          all_goals
            simp only [Bool.false_eq_true, if_false, if_true] at c3
            go_wp2_with fail
            go_quiet (fail)
            go_wp2
            go_meet
            exact ⟨by rw [← HB.out]; rfl, Keeps.drewN (Keeps.drewN HK.out _) _⟩
        · have e : l.getD (at_ + k) false = false := by rw [List.getD_eq_getElem?_getD, List.getElem?_eq_none (by omega)]; rfl
          have E := Lib.hid e
          clear e
          go_wp2
          go_meet
          exact ⟨by rw [E.out]; rfl, HK.out.trans (Keeps.of_drewN rfl)⟩
      case rest =>
        obtain ⟨rfl, hkc⟩ := hcut
        have HKC := Lib.hid hkc
        have H3 := Lib.hid (H.out.keeps hkc (fun _ _ h => h))
        have c2' : wc.cell? ⟨g, 2, none⟩ = some (.bool high) := by rw [H3.out.blk.cell]; rfl
        clear hkc c0 c1 c2
        obtain ⟨B, hB⟩ : ∃ B : Nat, B = if l.getD (at_ + k) false then 1 else 0 := ⟨_, rfl⟩
        have hBi : (if l.getD (at_ + k) false = true then (1 : Int) else 0) = (B : Int) := by rw [hB]; split <;> rfl
        have hB1 : B ≤ 1 := by rw [hB]; split <;> omega
        rw [hBi]
        have hBk : B * 2 ^ k ≤ 2147483648 := by
          calc B * 2 ^ k ≤ 1 * 2 ^ k := Nat.mul_le_mul_right _ hB1
            _ ≤ 2147483648 := by omega
        have hor1 : bits .or .i64 ((X : Int) * 2) (B : Int) = ((X * 2 ||| B : Nat) : Int) := by
          have := i64_or_nat (X * 2) B (by omega) (by omega)
          simpa using this
        have hor2 : bits .or .i64 (X : Int) ((B : Int) * 2 ^ k) = ((X ||| B * 2 ^ k : Nat) : Int) := by
          have := i64_or_nat X (B * 2 ^ k) (by omega) (by omega)
          simpa using this
        have hwr : wrap64 ((B : Int) * 2 ^ k) = (B : Int) * 2 ^ k := IntWalk.wrap64_in _ (by
          have : ((B * 2 ^ k : Nat) : Int) = (B : Int) * 2 ^ k := by simp
          omega)
        have hh := Pure.num_succ_high (fun k => l.getD (at_ + k) false) k
        have hl := Pure.num_succ_low (fun k => l.getD (at_ + k) false) k
        rw [← hB] at hh hl
        have HH := Lib.hid hh
        have HL := Lib.hid hl
        clear hh hl hB hBi hBk h2k
        cases high
        · rw [← HX.out] at HL
          go_wp2
          go_roundw
          case rel => exact ⟨k + 1, by omega, by go_num, by rw [HL.out], HKC.out⟩
          case measure => simp [intOf]; omega
        · rw [← HX.out] at HH
          go_wp2
          go_roundw
          case rel => exact ⟨k + 1, by omega, by go_num, by rw [HH.out], HKC.out⟩
          case measure => simp [intOf]; omega
    · obtain rfl : k = n := by omega
      go_wp2
      go_ret
      exact ⟨rfl, HK.out⟩
end Go.Proofs.Ytmelphlgpnmopaa
