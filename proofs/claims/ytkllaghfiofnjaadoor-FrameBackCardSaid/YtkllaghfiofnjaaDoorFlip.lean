/- One bit turned: of bytes with their sum of 16 bits it is found; a cell of an own row is written. -/
import Derived.Test.YtkllaghfiofnjaaDoorFcsD
import Derived.Test.YtkllaghfiofnjaaDoorFcsMath
import Derived.Test.YtkllaghfiofnjaaDoorNum
namespace Go.Proofs.YtkllaghfiofnjaaDoor
open Go.RowKit

/-- What is left when the sum is taken off, or nothing. -/
def Pure.rest16 (bs : List UInt8) : List UInt8 := if Pure.ends16 bs then bs.take (bs.length - 2) else []

theorem Pure.ends_add16 (bs : List UInt8) : Pure.ends16 (Pure.add16 bs) = true := by
  have hl : (Pure.add16 bs).length - 2 = bs.length := by simp [Pure.add16, Pure.le]
  have h2 : 2 ≤ (Pure.add16 bs).length := by simp [Pure.add16, Pure.le]
  unfold Pure.ends16
  rw [hl, decide_eq_true h2, Bool.true_and, decide_eq_true_eq]
  unfold Pure.add16
  rw [List.drop_left' rfl, List.take_left' rfl]

theorem Pure.rest_add16 (bs : List UInt8) : Pure.rest16 (Pure.add16 bs) = bs := by
  have hl : (Pure.add16 bs).length - 2 = bs.length := by simp [Pure.add16, Pure.le]
  unfold Pure.rest16
  rw [if_pos (Pure.ends_add16 bs), hl]
  unfold Pure.add16
  rw [List.take_left' rfl]

theorem add16_len (bs : List UInt8) : (Pure.add16 bs).length = bs.length + 2 := by simp [Pure.add16, Pure.le]
namespace Pure
/-- One bit is turned. -/
def flip (c : List UInt8) (k : Nat) : List UInt8 := c.set (k / 8) (c.getD (k / 8) 0 ^^^ UInt8.ofNat (2 ^ (k % 8)))

theorem flip_length (c : List UInt8) (k : Nat) : (flip c k).length = c.length := by simp [flip]

theorem flip_bit (c : List UInt8) (k j : Nat) (hk : k < 8 * c.length) : bit false (flip c k) j = (bit false c j ^^ decide (j = k)) := by
  unfold bit flip
  simp only [place, Bool.false_eq_true, if_false]
  rw [List.getD_eq_getElem?_getD, List.getElem?_set]
  by_cases h : k / 8 = j / 8
  · rw [if_pos h, if_pos (by omega), Option.getD_some, UInt8.toNat_xor, Nat.testBit_xor, h]
    congr 1
    have h2 : (UInt8.ofNat (2 ^ (k % 8))).toNat = 2 ^ (k % 8) := by
      rw [UInt8.toNat_ofNat']
      exact Nat.mod_eq_of_lt (Nat.pow_lt_pow_right (by omega) (by omega))
    rw [h2, Nat.testBit_two_pow]
    congr 1
    apply propext
    omega
  · rw [if_neg h, List.getD_eq_getElem?_getD]
    have : decide (j = k) = false := by simp; omega
    rw [this, Bool.xor_false]

theorem ends16_flip (b : List UInt8) (k : Nat) (hk : k < 8 * (add16 b).length) : ends16 (flip (add16 b) k) = false := by
  have hl : (add16 b).length = b.length + 2 := by simp [add16, le]
  rw [Bool.eq_false_iff]
  intro h
  have h1 := ends_add16 b
  unfold ends16 at h h1
  simp only [Bool.and_eq_true, decide_eq_true_eq] at h h1
  have e1 := (ends_reg (W := 15) (n := 2) (P := 33800) (ones := 65535) (by omega) (by omega) (by decide) (by decide) (by decide) _ h.1).1 h.2
  have e2 := (ends_reg (W := 15) (n := 2) (P := 33800) (ones := 65535) (by omega) (by omega) (by decide) (by decide) (by decide) _ h1.1).1 h1.2
  have e3 := burst (W := 15) (P := 33800) (ones := 65535) (by decide) (by decide) (add16 b) (flip (add16 b) k) k 1 (flip_length _ _) (by omega) (by decide) (fun j _ => by
    rw [flip_bit _ _ _ hk]
    congr 1
    have : Nat.testBit 1 (j - k) = decide (j - k = 0) := by rw [show (1 : Nat) = 2 ^ 0 from rfl, Nat.testBit_two_pow]; congr 1; apply propext; omega
    rw [this, ← Bool.decide_and]
    congr 1
    apply propext
    omega) (e1.trans e2.symm)
  have e4 := flip_bit (add16 b) k k hk
  rw [e3] at e4
  simp at e4
end Pure
/-- A cell of a row of the call's own is written. -/
theorem ownsRow_set {w : World} {base g : Nat} {e : TypeId} {n c : Nat} {xs : List Value} (h : w.ownsRow base e 1 (.slice (some ⟨g, 0, none⟩) n c) n xs) (j : Nat) (hj : j < n) (u : Value) :
    (w.setCell ⟨g, j, none⟩ u).ownsRow base e 1 (.slice (some ⟨g, 0, none⟩) n c) n (xs.set j u) := by
  obtain ⟨h1, h2⟩ := h
  refine ⟨by simpa using h1, ?_⟩
  rcases h2 with ⟨h2, _⟩ | ⟨g', cap, cur, h2, hg, hh, h3, h4, h5, h6⟩
  · cases h2
  · injection h2 with h2 _ h7
    injection h2 with h2
    injection h2 with h2
    subst h2 h7
    have hb : Blk w g e cur := hh
    refine .inr ⟨g, c, cur.setIfInBounds j u, rfl, hg, hb.set j u, h3, h4, by simpa using h5, ?_⟩
    rw [Array.toList_setIfInBounds, ← h6, List.take_set]

theorem flip_cell (C : List UInt8) (k : Nat) {x : Nat} (h : k / 8 < C.length) (hx : x = (C.getD (k / 8) 0).toNat) : (u8s C).set (k / 8) (.int .u8 (bits .xor .u8 (x : Int) (2 ^ (k % 8) % 256))) = u8s (Pure.flip C k) := by
  have hp : 2 ^ (k % 8) < 256 := Nat.pow_lt_pow_right (n := 8) (a := 2) (by omega) (by omega)
  have e1 : ((2 : Int) ^ (k % 8) % 256) = ((2 ^ (k % 8) : Nat) : Int) := by
    have : ((2 ^ (k % 8) : Nat) : Int) = (2 : Int) ^ (k % 8) := by simp
    rw [← this]
    obtain ⟨p, hpp⟩ : ∃ p, p = 2 ^ (k % 8) := ⟨_, rfl⟩
    rw [← hpp] at hp ⊢
    omega
  have hx2 : x < 256 := by rw [hx]; exact (C.getD (k / 8) 0).toNat_lt
  rw [e1, u8_xor_nat x (2 ^ (k % 8)) hx2 hp]
  unfold Pure.flip
  show (C.map _).set _ _ = (C.set _ _).map _
  rw [List.map_set]
  congr 2
  rw [UInt8.toNat_xor, ← hx, UInt8.toNat_ofNat', Nat.mod_eq_of_lt hp]
end Go.Proofs.YtkllaghfiofnjaaDoor
