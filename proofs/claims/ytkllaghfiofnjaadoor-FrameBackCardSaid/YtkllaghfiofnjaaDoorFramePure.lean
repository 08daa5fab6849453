/- Frames as plain lists: protocols that may be, heads, what a frame says. -/
import Derived.Test.YtkllaghfiofnjaaDoorBase
namespace Go.Proofs.YtkllaghfiofnjaaDoor
namespace Pure
/-- A protocol that may be. -/
def may (p : Int) : Bool := decide (0 ≤ p) && decide (p ≤ 65535) && decide (p % 2 = 1) && decide (p / 256 % 2 = 0) && decide (p ≠ 255)
theorem may_nat (p : Int) (h : may p = true) : ∃ n : Nat, p = n ∧ n ≤ 65535 ∧ n % 2 = 1 ∧ n / 256 % 2 = 0 ∧ n ≠ 255 := by
  simp only [may, Bool.and_eq_true, decide_eq_true_eq] at h
  exact ⟨p.toNat, by omega, by omega, by omega, by omega, by omega⟩
/-- What is wrong with what is sent. -/
def sendErr (p : Int) (n : Nat) : Nat := if may p then (if 1516 < n then 3 else 0) else 1
theorem sendErr_true (p : Int) (n : Nat) (h : may p = true) : sendErr p n = if 1516 < n then 3 else 0 := by unfold sendErr; rw [if_pos h]
theorem sendErr_false (p : Int) (n : Nat) (h : may p = false) : sendErr p n = 1 := by unfold sendErr; rw [if_neg (by rw [h]; simp)]
def lead (p : Nat) (a : Bool) : List UInt8 := if a && decide (p ≠ 49185) then [] else [255, 3]
def top (p : Nat) (q : Bool) : List UInt8 := if q && decide (p < 256) then [] else [UInt8.ofNat (p / 256)]
def head (p : Nat) (a q : Bool) : List UInt8 := lead p a ++ (top p q ++ [UInt8.ofNat p])
theorem lead_ways (p : Nat) (a : Bool) : (lead p a = [] ∧ a = true ∧ ((p : Int) == 49185) = false) ∨ (lead p a = [255, 3] ∧ (a = false ∨ (a = true ∧ ((p : Int) == 49185) = true))) := by
  by_cases h : p = 49185
  · subst h
    right
    cases a
    · exact ⟨rfl, .inl rfl⟩
    · exact ⟨rfl, .inr ⟨rfl, rfl⟩⟩
  · have h2 : ((p : Int) == 49185) = false := by rw [beq_eq_false_iff_ne]; omega
    cases a
    · exact .inr ⟨by simp [lead], .inl rfl⟩
    · exact .inl ⟨by simp [lead, h], rfl, h2⟩
theorem top_ways (p : Nat) (q : Bool) : (top p q = [] ∧ q = true ∧ ¬ (p : Int) / 256 > 0) ∨ (top p q = [UInt8.ofNat (p / 256)] ∧ ((p : Int) / 256 > 0 ∨ (¬ (p : Int) / 256 > 0 ∧ q = false))) := by
  by_cases h : p < 256
  · have h2 : ¬ (p : Int) / 256 > 0 := by omega
    cases q
    · exact .inr ⟨by simp [top], .inr ⟨h2, rfl⟩⟩
    · exact .inl ⟨by simp [top, h], rfl, h2⟩
  · exact .inr ⟨by simp [top, h], .inl (by omega)⟩
def enc (p : Nat) (i : List UInt8) (a q : Bool) : List UInt8 := head p a q ++ i
/-- What a frame says: protocol, info, what is wrong. -/
abbrev Says := Nat × List UInt8 × Nat
def fits (p : Nat) (i : List UInt8) : Says := if 1516 < i.length then (0, [], 3) else (p, i, 0)
def said (b : List UInt8) (q : Bool) : Says :=
  match b with
  | [] => (0, [], 2)
  | x :: r => if x.toNat % 2 = 1 then (if q then fits x.toNat r else (0, [], 4))
    else match r with
      | [] => (0, [], 2)
      | y :: r' => if y.toNat % 2 = 1 then fits (x.toNat * 256 + y.toNat) r' else (0, [], 4)
def whole (b : List UInt8) : Bool := decide (b.take 2 = [255, 3])
def dec (b : List UInt8) (a q : Bool) : Says := if whole b then said (b.drop 2) q else if a then said b q else (0, [], 4)
theorem fits_zero (p : Nat) (i : List UInt8) : (fits p i).2.2 ≠ 0 → fits p i = (0, [], 3) := by
  unfold fits; split <;> simp
theorem said_err (b : List UInt8) (q : Bool) (h : (said b q).2.2 ≠ 0) : (said b q).1 = 0 ∧ (said b q).2.1 = [] := by
  revert h
  unfold said fits
  split
  · simp
  · split
    · split
      · split <;> simp
      · simp
    · split
      · simp
      · split
        · split <;> simp
        · simp
theorem dec_err (b : List UInt8) (a q : Bool) (h : (dec b a q).2.2 ≠ 0) : (dec b a q).1 = 0 ∧ (dec b a q).2.1 = [] := by
  revert h
  unfold dec
  split
  · exact said_err _ _
  · split
    · exact said_err _ _
    · simp
theorem top_nat (p : Nat) (h : p ≤ 65535) : (UInt8.ofNat (p / 256)).toNat = p / 256 := by rw [UInt8.toNat_ofNat']; omega
theorem low_nat (p : Nat) : (UInt8.ofNat p).toNat = p % 256 := by rw [UInt8.toNat_ofNat']
/-- What stands behind the lead is read. -/
theorem said_enc (p : Nat) (i : List UInt8) (q q' : Bool) (h1 : p ≤ 65535) (h2 : p % 2 = 1) (h3 : p / 256 % 2 = 0) (h4 : i.length ≤ 1516) (hq : p < 256 → q = true → q' = true) :
    said (top p q ++ [UInt8.ofNat p] ++ i) q' = (p, i, 0) := by
  have hf : ∀ x, fits x i = (x, i, 0) := fun x => by unfold fits; rw [if_neg (by omega)]
  have e1 := top_nat p h1
  have e2 := low_nat p
  unfold top
  split
  · rename_i h
    simp only [Bool.and_eq_true, decide_eq_true_eq] at h
    have := hq h.2 h.1
    simp only [List.nil_append, List.cons_append, said, e2]
    rw [if_pos (by omega), this, hf]
    simp
    omega
  · simp only [List.nil_append, List.cons_append, said, e1, e2]
    rw [if_neg (by omega), if_pos (by omega), hf]
    simp
    omega
theorem whole_lead (b : List UInt8) : whole ([255, 3] ++ b) = true := by simp [whole]
theorem not_whole (p : Nat) (q : Bool) (i : List UInt8) (h1 : p ≤ 65535) (h2 : p % 2 = 1) (h3 : p / 256 % 2 = 0) (h4 : p ≠ 255) : whole (top p q ++ [UInt8.ofNat p] ++ i) = false := by
  have e1 := top_nat p h1
  have e2 := low_nat p
  have key : ∀ (x : UInt8) (r : List UInt8), x.toNat ≠ 255 → whole (x :: r) = false := by
    intro x r hx
    unfold whole
    rw [decide_eq_false_iff_not]
    intro h
    rw [List.take_succ_cons] at h
    injection h with h _
    apply hx
    rw [h]
    rfl
  unfold top
  split
  · rename_i h
    simp only [Bool.and_eq_true, decide_eq_true_eq] at h
    exact key _ _ (by rw [e2]; omega)
  · exact key _ _ (by rw [e1]; omega)
/-- There and back. -/
theorem dec_enc (p : Nat) (i : List UInt8) (a q a' q' : Bool) (h1 : p ≤ 65535) (h2 : p % 2 = 1) (h3 : p / 256 % 2 = 0) (h4 : p ≠ 255) (h5 : i.length ≤ 1516)
    (ha : p ≠ 49185 → a = true → a' = true) (hq : p < 256 → q = true → q' = true) : dec (enc p i a q) a' q' = (p, i, 0) := by
  unfold enc head dec lead
  split
  · rename_i h
    simp only [Bool.and_eq_true, decide_eq_true_eq] at h
    have h6 := ha h.2 h.1
    rw [List.nil_append, not_whole p q i h1 h2 h3 h4, h6]
    simpa using said_enc p i q q' h1 h2 h3 h5 hq
  · rw [List.append_assoc, whole_lead]
    simpa using said_enc p i q q' h1 h2 h3 h5 hq
/-- What is left out is refused. -/
theorem dec_short (p : Nat) (i : List UInt8) (q q' : Bool) (h1 : p ≤ 65535) (h2 : p % 2 = 1) (h3 : p / 256 % 2 = 0) (h4 : p ≠ 255) (h6 : p ≠ 49185) : dec (enc p i true q) false q' = (0, [], 4) := by
  have e : enc p i true q = top p q ++ [UInt8.ofNat p] ++ i := by unfold enc head lead; simp [h6]
  rw [e]
  unfold dec
  rw [not_whole p q i h1 h2 h3 h4]
  simp
theorem dec_shortP (p : Nat) (i : List UInt8) (a' : Bool) (h2 : p % 2 = 1) (h6 : p < 256) : dec (enc p i false true) a' false = (0, [], 4) := by
  have e : enc p i false true = [255, 3] ++ ([UInt8.ofNat p] ++ i) := by unfold enc head lead top; simp [h6]
  have e2 := low_nat p
  rw [e]
  unfold dec
  rw [whole_lead]
  simp only [if_true, List.cons_append, List.nil_append, List.drop_succ_cons, List.drop_zero, said, e2]
  rw [if_pos (by omega)]
  simp
theorem lead_length (p : Nat) (a : Bool) : (lead p a).length = if a && decide (p ≠ 49185) then 0 else 2 := by unfold lead; split <;> rfl
theorem top_length (p : Nat) (q : Bool) : (top p q).length = if q && decide (p < 256) then 0 else 1 := by unfold top; split <;> rfl
theorem head_length (p : Nat) (a q : Bool) : (head p a q).length = (if a && decide (p ≠ 49185) then 0 else 2) + (if q && decide (p < 256) then 0 else 1) + 1 := by
  unfold head
  rw [List.length_append, List.length_append, lead_length, top_length]
  simp; omega
theorem head_le (p : Nat) (a q : Bool) : 1 ≤ (head p a q).length ∧ (head p a q).length ≤ 4 := by
  rw [head_length]
  split <;> split <;> omega
theorem enc_length (p : Nat) (i : List UInt8) (a q : Bool) : (enc p i a q).length = (if a && decide (p ≠ 49185) then 0 else 2) + (if q && decide (p < 256) then 0 else 1) + 1 + i.length := by
  unfold enc
  rw [List.length_append, head_length]
end Pure
end Go.Proofs.YtkllaghfiofnjaaDoor
