/- Byte stuffing and deframing over lists of bytes. -/
import Derived.Test.YtkllaghfiofnjaaDoorBase
namespace Go.Proofs.YtkllaghfiofnjaaDoor
namespace Pure
/-- A control character that the map has. -/
def mapd (m : Nat) (c : UInt8) : Bool := decide (c.toNat < 32) && m.testBit c.toNat
/-- A byte that is escaped. -/
def escd (m : Nat) (c : UInt8) : Bool := decide (c.toNat = 126) || decide (c.toNat = 125) || mapd m c
def escOf (m : Nat) (c : UInt8) : List UInt8 := if escd m c then [125, c ^^^ 32] else [c]
def body (m : Nat) (b : List UInt8) : List UInt8 := b.flatMap (escOf m)
def stuff (m : Nat) (b : List UInt8) : List UInt8 := 126 :: (body m b ++ [126])
theorem body_append (m : Nat) (a b : List UInt8) : body m (a ++ b) = body m a ++ body m b := by simp [body]
theorem body_length (m : Nat) (b : List UInt8) : (body m b).length = b.length + b.countP (escd m) := by
  induction b with
  | nil => rfl
  | cons c cs ih =>
    show (escOf m c ++ body m cs).length = _
    rw [List.length_append, ih, List.length_cons, List.countP_cons]
    unfold escOf
    cases escd m c <;> simp <;> omega
theorem body_le (m : Nat) (b : List UInt8) : (body m b).length ≤ 2 * b.length := by
  have := body_length m b
  have := List.countP_le_length (p := escd m) (l := b)
  omega
theorem stuff_length (m : Nat) (b : List UInt8) : (stuff m b).length = b.length + b.countP (escd m) + 2 := by
  simp [stuff, body_length]
theorem stuff_le (m : Nat) (b : List UInt8) : (stuff m b).length ≤ 2 * b.length + 2 := by
  have := body_le m b
  simp [stuff]; omega
set_option maxRecDepth 100000 in
theorem xor32 (c : UInt8) (h : c.toNat = 126 ∨ c.toNat = 125 ∨ c.toNat < 32) : (c ^^^ 32).toNat ≠ 126 ∧ ¬ (c ^^^ 32).toNat < 32 := by
  have key : ∀ k : Fin 256, (k.val = 126 ∨ k.val = 125 ∨ k.val < 32) → (UInt8.ofNat k.val ^^^ 32).toNat ≠ 126 ∧ ¬ (UInt8.ofNat k.val ^^^ 32).toNat < 32 := by decide
  have := key ⟨c.toNat, c.toNat_lt⟩ h
  simpa using this
/-- No byte of a body is a flag, or mapped. -/
theorem body_mem (m : Nat) (b : List UInt8) (x : UInt8) (h : x ∈ body m b) : x.toNat ≠ 126 ∧ mapd m x = false := by
  obtain ⟨c, _, hx⟩ := List.mem_flatMap.1 h
  unfold escOf at hx
  split at hx
  · rename_i he
    simp only [List.mem_cons, List.not_mem_nil, or_false] at hx
    rcases hx with rfl | rfl
    · exact ⟨by decide, by simp [mapd]⟩
    · have h2 : c.toNat = 126 ∨ c.toNat = 125 ∨ c.toNat < 32 := by
        simp only [escd, mapd, Bool.or_eq_true, Bool.and_eq_true, decide_eq_true_eq] at he
        omega
      have := xor32 c h2
      exact ⟨this.1, by rw [mapd, decide_eq_false this.2]; rfl⟩
  · rename_i he
    simp only [List.mem_cons, List.not_mem_nil, or_false] at hx
    subst hx
    simp only [escd, Bool.or_eq_true, decide_eq_true_eq, not_or] at he
    exact ⟨he.1.1, by simpa using he.2⟩

/-- A deframer. -/
structure DF where
  accm : Nat
  most : Nat
  frame : List UInt8
  esc : Bool
  dropped : Nat
def DF.bad (d : DF) : Bool := d.esc || decide (d.most < d.frame.length)
def DF.cut (d : DF) : DF := { d with frame := [], esc := false, dropped := if d.bad then d.dropped + 1 else d.dropped }
def DF.told (d : DF) : List (List UInt8) := if d.bad || d.frame.isEmpty then [] else [d.frame]
def DF.keep (d : DF) (c : UInt8) : DF := { d with frame := d.frame ++ [c], esc := false }
def DF.step (d : DF) (c : UInt8) : DF × List (List UInt8) :=
  if c.toNat = 126 then (d.cut, d.told)
  else if d.esc then (d.keep (c ^^^ 32), [])
  else if c.toNat = 125 then ({ d with esc := true }, [])
  else if mapd d.accm c then (d, [])
  else (d.keep c, [])
def DF.feed (d : DF) : List UInt8 → DF × List (List UInt8)
  | [] => (d, [])
  | c :: cs => (((d.step c).1.feed cs).1, (d.step c).2 ++ ((d.step c).1.feed cs).2)
theorem DF.feed_nil (d : DF) : d.feed [] = (d, []) := rfl
theorem DF.feed_cons (d : DF) (c : UInt8) (cs : List UInt8) : d.feed (c :: cs) = (((d.step c).1.feed cs).1, (d.step c).2 ++ ((d.step c).1.feed cs).2) := rfl
theorem DF.feed_append : ∀ (a b : List UInt8) (d : DF), d.feed (a ++ b) = (((d.feed a).1.feed b).1, (d.feed a).2 ++ ((d.feed a).1.feed b).2)
  | [], b, d => by simp [DF.feed_nil]
  | c :: cs, b, d => by
    rw [List.cons_append, DF.feed_cons, DF.feed_append cs b, DF.feed_cons]
    simp
theorem DF.feed_snoc (d : DF) (a : List UInt8) (c : UInt8) : d.feed (a ++ [c]) = (((d.feed a).1.step c).1, (d.feed a).2 ++ ((d.feed a).1.step c).2) := by
  rw [DF.feed_append, DF.feed_cons, DF.feed_nil]
  simp
theorem DF.feed_take (d : DF) (b : List UInt8) (k : Nat) (h : k < b.length) : d.feed (b.take (k + 1)) = (((d.feed (b.take k)).1.step (b.getD k 0)).1, (d.feed (b.take k)).2 ++ ((d.feed (b.take k)).1.step (b.getD k 0)).2) := by
  rw [List.take_succ_eq_append_getElem h, DF.feed_snoc, List.getD_eq_getElem?_getD, List.getElem?_eq_getElem h]
  rfl
/-- What a byte turns little. -/
structure DF.Near (d e : DF) (n : Nat) : Prop where
  accm : e.accm = d.accm
  most : e.most = d.most
  frame : e.frame.length ≤ d.frame.length + n
  lo : d.dropped ≤ e.dropped
  hi : e.dropped ≤ d.dropped + n
theorem DF.step_near (d : DF) (c : UInt8) : d.Near (d.step c).1 1 := by
  unfold DF.step
  split
  · refine ⟨rfl, rfl, by simp [DF.cut], ?_, ?_⟩ <;> (simp only [DF.cut]; split <;> omega)
  · split
    · exact ⟨rfl, rfl, by simp [DF.keep], Nat.le_refl _, by simp [DF.keep]⟩
    · split
      · exact ⟨rfl, rfl, by simp, Nat.le_refl _, by simp⟩
      · split
        · exact ⟨rfl, rfl, by simp, Nat.le_refl _, by simp⟩
        · exact ⟨rfl, rfl, by simp [DF.keep], Nat.le_refl _, by simp [DF.keep]⟩
theorem DF.feed_near : ∀ (b : List UInt8) (d : DF), d.Near (d.feed b).1 b.length
  | [], d => ⟨rfl, rfl, by simp [DF.feed_nil], Nat.le_refl _, by simp [DF.feed_nil]⟩
  | c :: cs, d => by
    have h1 := DF.step_near d c
    have h2 := DF.feed_near cs (d.step c).1
    rw [DF.feed_cons]
    exact ⟨h2.accm.trans h1.accm, h2.most.trans h1.most, by have := h1.frame; have := h2.frame; simp at *; omega, Nat.le_trans h1.lo h2.lo, by have := h1.hi; have := h2.hi; simp at *; omega⟩
theorem DF.told_le (d : DF) : d.told.length ≤ 1 := by unfold DF.told; split <;> simp
theorem DF.step_told (d : DF) (c : UInt8) : (d.step c).2.length ≤ 1 := by
  unfold DF.step
  split
  · exact DF.told_le d
  · split
    · simp
    · split
      · simp
      · split <;> simp
theorem DF.feed_told : ∀ (b : List UInt8) (d : DF), (d.feed b).2.length ≤ b.length
  | [], d => by simp [DF.feed_nil]
  | c :: cs, d => by
    have := DF.step_told d c
    have := DF.feed_told cs (d.step c).1
    rw [DF.feed_cons]
    simp; omega

/-- Every mapped one is one of the wider map. -/
def Covers (m a : Nat) : Prop := ∀ c : UInt8, mapd a c = true → mapd m c = true
theorem Covers.refl (m : Nat) : Covers m m := fun _ h => h
theorem Covers.zero (m : Nat) : Covers m 0 := fun c h => by simp [mapd] at h
theorem Covers.and (m l : Nat) : Covers m (m &&& l) := fun c h => by
  simp only [mapd, Nat.testBit_and, Bool.and_eq_true, decide_eq_true_eq] at h ⊢
  exact ⟨h.1, h.2.1⟩
theorem DF.feed_escOf {m : Nat} (d : DF) (c : UInt8) (he : d.esc = false) (hm : Covers m d.accm) : d.feed (escOf m c) = (d.keep c, []) := by
  unfold escOf
  have hx : c ^^^ 32 ^^^ 32 = c := by rw [UInt8.xor_assoc]; simp
  split
  · rename_i h
    have h1 : d.step 125 = ({ d with esc := true }, []) := by simp [DF.step, he]
    have h2 : c.toNat = 126 ∨ c.toNat = 125 ∨ c.toNat < 32 := by
      simp only [escd, mapd, Bool.or_eq_true, Bool.and_eq_true, decide_eq_true_eq] at h
      omega
    have h3 := xor32 c h2
    rw [DF.feed_cons, h1, DF.feed_cons, DF.feed_nil]
    unfold DF.step
    rw [if_neg h3.1, if_pos rfl, hx]
    rfl
  · rename_i h
    simp only [escd, Bool.or_eq_true, decide_eq_true_eq, not_or] at h
    have hn : mapd d.accm c = false := by
      have := hm c
      rw [Bool.not_eq_true] at h
      rw [h.2] at this
      simpa using this
    rw [DF.feed_cons, DF.feed_nil]
    unfold DF.step
    rw [if_neg h.1.1, he, hn, if_neg h.1.2]
    simp
theorem DF.feed_body {m : Nat} : ∀ (b : List UInt8) (d : DF), d.esc = false → Covers m d.accm → d.feed (body m b) = ({ d with frame := d.frame ++ b }, [])
  | [], d, _, _ => by simp [body, DF.feed_nil]
  | c :: cs, d, he, hm => by
    show d.feed (escOf m c ++ body m cs) = _
    rw [DF.feed_append, DF.feed_escOf d c he hm, DF.feed_body cs (d.keep c) rfl hm]
    simp [DF.keep, he]
/-- A flag. -/
theorem DF.feed_flag (d : DF) : d.feed [126] = (d.cut, d.told) := by
  rw [DF.feed_cons, DF.feed_nil]
  simp [DF.step]
theorem DF.cut_idle (d : DF) (he : d.esc = false) (hf : d.frame = []) : d.cut = d ∧ d.told = [] := by
  obtain ⟨a, m, f, e, n⟩ := d
  simp only at he hf
  subst he hf
  simp [DF.cut, DF.told, DF.bad]
/-- A stuffed frame, behind a flag. -/
theorem DF.feed_stuff {m : Nat} (b : List UInt8) (d : DF) (he : d.esc = false) (hf : d.frame = []) (hm : Covers m d.accm) :
    d.feed (stuff m b) = if d.most < b.length then ({ d with dropped := d.dropped + 1 }, []) else (d, if b.isEmpty then [] else [b]) := by
  obtain ⟨h1, h2⟩ := d.cut_idle he hf
  show d.feed ([126] ++ (body m b ++ [126])) = _
  rw [DF.feed_append, DF.feed_flag, h1, h2, DF.feed_append, DF.feed_body b d he hm, DF.feed_flag]
  obtain ⟨a, m, f, e, n⟩ := d
  simp only at he hf
  subst he hf
  by_cases hl : m < b.length
  · simp [hl, DF.cut, DF.told, DF.bad]
  · simp [hl, DF.cut, DF.told, DF.bad]
/-- How many were dropped turns nothing else. -/
theorem DF.step_more (d : DF) (c : UInt8) (n : Nat) : ({ d with dropped := n + d.dropped } : DF).step c = ({ (d.step c).1 with dropped := n + (d.step c).1.dropped }, (d.step c).2) := by
  unfold DF.step
  split
  · have e1 : ({ d with dropped := n + d.dropped } : DF).bad = d.bad := rfl
    simp only [DF.cut, DF.told, e1]
    cases d.bad <;> simp [Nat.add_assoc]
  · split
    · rfl
    · split
      · rfl
      · split <;> rfl
theorem DF.feed_more (n : Nat) : ∀ (b : List UInt8) (d : DF), ({ d with dropped := n + d.dropped } : DF).feed b = ({ (d.feed b).1 with dropped := n + (d.feed b).1.dropped }, (d.feed b).2)
  | [], d => rfl
  | c :: cs, d => by
    rw [DF.feed_cons, DF.step_more]
    simp only
    rw [DF.feed_more n cs (d.step c).1, DF.feed_cons]
end Pure
end Go.Proofs.YtkllaghfiofnjaaDoor
