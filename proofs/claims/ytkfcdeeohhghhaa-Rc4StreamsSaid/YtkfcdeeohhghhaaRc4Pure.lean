/- The cipher of chapter 5 over lists of bytes: the table, the key stream, a term. -/
import Derived.Test.YtkfcdeeohhghhaaBase
namespace Go.Proofs.Ytkfcdeeohhghhaa
namespace Pure
/-- Two places are exchanged. -/
def swap (s : List UInt8) (i j : Nat) : List UInt8 := (s.set i (s.getD j 0)).set j (s.getD i 0)
theorem swap_length (s : List UInt8) (i j : Nat) : (swap s i j).length = s.length := by simp [swap]
/-- The key's part of the table: behind k rounds. -/
def ksaAt (key : List UInt8) : Nat → List UInt8 × Nat
  | 0 => ((List.range 256).map UInt8.ofNat, 0)
  | k + 1 =>
    let p := ksaAt key k
    let j := (p.2 + (p.1.getD k 0).toNat + (key.getD (k % key.length) 0).toNat) % 256
    (swap p.1 k j, j)
theorem ksaAt_length (key : List UInt8) : ∀ k, (ksaAt key k).1.length = 256
  | 0 => by simp [ksaAt]
  | k + 1 => by simp only [ksaAt, swap_length]; exact ksaAt_length key k
theorem ksaAt_lt (key : List UInt8) : ∀ k, (ksaAt key k).2 < 256
  | 0 => by simp [ksaAt]
  | k + 1 => by simp only [ksaAt]; omega
/-- A cipher: its table, its two places, how many bytes there were. -/
structure Rc where
  s : List UInt8
  i : Nat
  j : Nat
  n : Nat
def Rc.new (key : List UInt8) : Rc := ⟨(ksaAt key 256).1, 0, 0, 0⟩
def Rc.next (c : Rc) : Rc :=
  let i := (c.i + 1) % 256
  let j := (c.j + (c.s.getD i 0).toNat) % 256
  ⟨swap c.s i j, i, j, c.n + 1⟩
/-- The byte of the key stream, of the cipher behind its step. -/
def Rc.byte (c : Rc) : UInt8 := c.s.getD (((c.s.getD c.i 0).toNat + (c.s.getD c.j 0).toNat) % 256) 0
def Rc.xor (c : Rc) : List UInt8 → Rc × List UInt8
  | [] => (c, [])
  | b :: bs => ((c.next.xor bs).1, (b ^^^ c.next.byte) :: (c.next.xor bs).2)
theorem Rc.xor_nil (c : Rc) : c.xor [] = (c, []) := rfl
theorem Rc.xor_cons (c : Rc) (b : UInt8) (bs : List UInt8) : c.xor (b :: bs) = ((c.next.xor bs).1, (b ^^^ c.next.byte) :: (c.next.xor bs).2) := rfl
theorem Rc.xor_append : ∀ (a b : List UInt8) (c : Rc), c.xor (a ++ b) = (((c.xor a).1.xor b).1, (c.xor a).2 ++ ((c.xor a).1.xor b).2)
  | [], b, c => by simp [Rc.xor_nil]
  | x :: xs, b, c => by
    rw [List.cons_append, Rc.xor_cons, Rc.xor_append xs b, Rc.xor_cons]
    simp
theorem Rc.xor_length : ∀ (b : List UInt8) (c : Rc), (c.xor b).2.length = b.length
  | [], _ => rfl
  | _ :: bs, c => by rw [Rc.xor_cons]; simp [Rc.xor_length bs c.next]
/-- The cipher goes on alike, whatever goes in. -/
theorem Rc.xor_same : ∀ (a b : List UInt8) (c : Rc), a.length = b.length → (c.xor a).1 = (c.xor b).1
  | [], [], _, _ => rfl
  | [], _ :: _, _, h => by simp at h
  | _ :: _, [], _, h => by simp at h
  | _ :: xs, _ :: ys, c, h => Rc.xor_same xs ys c.next (by simpa using h)
/-- There and back. -/
theorem Rc.xor_back : ∀ (b : List UInt8) (c : Rc), (c.xor (c.xor b).2).2 = b
  | [], _ => rfl
  | x :: xs, c => by
    rw [Rc.xor_cons, Rc.xor_cons, Rc.xor_back xs c.next]
    rw [UInt8.xor_assoc, UInt8.xor_self, UInt8.xor_zero]
theorem Rc.xor_n : ∀ (b : List UInt8) (c : Rc), (c.xor b).1.n = c.n + b.length
  | [], _ => rfl
  | _ :: bs, c => by
    rw [Rc.xor_cons]
    simp only [Rc.xor_n bs c.next, List.length_cons]
    show c.n + 1 + bs.length = _
    omega
/-- What comes out of two rows is as unlike as they are. -/
theorem Rc.xor_unlike : ∀ (a b : List UInt8) (c : Rc) (i : Nat), i < a.length → i < b.length → (c.xor a).2.getD i 0 ^^^ (c.xor b).2.getD i 0 = a.getD i 0 ^^^ b.getD i 0
  | [], _, _, _, h, _ => by simp at h
  | _ :: _, [], _, _, _, h => by simp at h
  | x :: xs, y :: ys, c, 0, _, _ => by
    rw [Rc.xor_cons, Rc.xor_cons]
    simp only [List.getD_cons_zero]
    rw [UInt8.xor_comm y, UInt8.xor_assoc, ← UInt8.xor_assoc c.next.byte, UInt8.xor_self, UInt8.zero_xor]
  | x :: xs, y :: ys, c, i + 1, h, k => by
    rw [Rc.xor_cons, Rc.xor_cons]
    simp only [List.getD_cons_succ]
    exact Rc.xor_unlike xs ys c.next i (by simpa using h) (by simpa using k)
theorem Rc.xor_snoc (c : Rc) (b : List UInt8) (x : UInt8) : c.xor (b ++ [x]) = ((c.xor b).1.next, (c.xor b).2 ++ [x ^^^ (c.xor b).1.next.byte]) := by
  rw [Rc.xor_append, Rc.xor_cons, Rc.xor_nil]
theorem Rc.xor_take (c : Rc) (b : List UInt8) (k : Nat) (h : k < b.length) : c.xor (b.take (k + 1)) = ((c.xor (b.take k)).1.next, (c.xor (b.take k)).2 ++ [b.getD k 0 ^^^ (c.xor (b.take k)).1.next.byte]) := by
  rw [List.take_succ_eq_append_getElem h, Rc.xor_snoc, List.getD_eq_getElem?_getD, List.getElem?_eq_getElem h]
  rfl
/-- What keeps. -/
structure Rc.Ok (c : Rc) : Prop where
  s : c.s.length = 256
  i : c.i < 256
  j : c.j < 256
theorem Rc.new_ok (key : List UInt8) : (Rc.new key).Ok := by
  have h := ksaAt_length key 256
  unfold Rc.new
  generalize (ksaAt key 256).1 = s at h
  exact ⟨h, by simp, by simp⟩
theorem Rc.Ok.next {c : Rc} (h : c.Ok) : c.next.Ok := ⟨by simp only [Rc.next, swap_length]; exact h.s, by simp only [Rc.next]; omega, by simp only [Rc.next]; omega⟩
theorem Rc.Ok.xor : ∀ (b : List UInt8) {c : Rc}, c.Ok → (c.xor b).1.Ok
  | [], _, h => h
  | _ :: bs, _, h => Rc.Ok.xor bs h.next
/-- A key that is said twice. -/
theorem ksaAt_twice (key : List UInt8) (h : key ≠ []) : ∀ k, ksaAt (key ++ key) k = ksaAt key k
  | 0 => rfl
  | k + 1 => by
    have hl : 0 < key.length := List.length_pos_iff.2 h
    have e : (key ++ key).getD (k % (key ++ key).length) 0 = key.getD (k % key.length) 0 := by
      have h1 : k % (key.length + key.length) % key.length = k % key.length := by
        rw [← Nat.two_mul, Nat.mul_comm]
        exact Nat.mod_mul_right_mod k key.length 2
      have h2 : k % (key.length + key.length) < key.length + key.length := Nat.mod_lt _ (by omega)
      rw [List.length_append, List.getD_eq_getElem?_getD, List.getD_eq_getElem?_getD]
      by_cases h3 : k % (key.length + key.length) < key.length
      · rw [List.getElem?_append_left h3]
        rw [Nat.mod_eq_of_lt h3] at h1
        rw [h1]
      · rw [List.getElem?_append_right (by omega)]
        have h4 : k % (key.length + key.length) - key.length = k % key.length := by
          have h5 := Nat.mod_eq_sub_mod (a := k % (key.length + key.length)) (b := key.length) (by omega)
          have h6 : (k % (key.length + key.length) - key.length) % key.length = k % (key.length + key.length) - key.length := Nat.mod_eq_of_lt (by omega)
          rw [h5, h6] at h1
          exact h1
        rw [h4]
    simp only [ksaAt, ksaAt_twice key h k, e]
theorem Rc.new_twice (key : List UInt8) (h : key ≠ []) : Rc.new (key ++ key) = Rc.new key := by unfold Rc.new; rw [ksaAt_twice key h]

/-- A term's byte, and a term's row. -/
def termByte (id k : Nat) : UInt8 := UInt8.ofNat (31 * id + 7 * k + k / 256)
def term (id k : Nat) (n : Nat) : List UInt8 := (List.range n).map fun i => termByte id (k + i)
theorem term_length (id k n : Nat) : (term id k n).length = n := by simp [term]
theorem term_succ (id k n : Nat) : term id k (n + 1) = term id k n ++ [termByte id (k + n)] := by simp [term, List.range_succ]
end Pure
end Go.Proofs.Ytkfcdeeohhghhaa
