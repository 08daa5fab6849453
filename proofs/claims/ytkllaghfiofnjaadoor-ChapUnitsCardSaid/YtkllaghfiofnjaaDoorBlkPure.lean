/- package block over lists: bytes of a number, words, blocks, the end of the input; the most significant byte first, or the least. -/
import Derived.Test.YtkllaghfiofnjaaDoorDigB
import Derived.Test.YtkllaghfiofnjaaDoorDigM
namespace Go.Proofs.YtkllaghfiofnjaaDoor
open Go.RowKit
namespace Pure
/-- How many bits stand below byte i of n. -/
def shiftOf (high : Bool) (i n : Nat) : Nat := if high then 8 * (n - 1 - i) else 8 * i
/-- Byte i of the n of a number; the first k of them. -/
def byteAt (high : Bool) (v n i : Nat) : UInt8 := UInt8.ofNat (v / 2 ^ shiftOf high i n)
def bytesOf (high : Bool) (v n k : Nat) : List UInt8 := (List.range k).map (byteAt high v n)
theorem bytesOf_succ (high : Bool) (v n k : Nat) : bytesOf high v n (k + 1) = bytesOf high v n k ++ [byteAt high v n k] := by simp [bytesOf, List.range_succ]
theorem bytesOf_length (high : Bool) (v n k : Nat) : (bytesOf high v n k).length = k := by simp [bytesOf]
theorem bytesOf_len (high : Bool) (L : Nat) : bytesOf high (8 * L) 8 8 = lenBytes (!high) L 8 := by
  unfold bytesOf lenBytes
  apply List.map_congr_left
  intro i hi
  rw [List.mem_range] at hi
  unfold byteAt lenByte shiftOf
  cases high
  · rfl
  · have e : 8 * (8 - 1 - i) = 56 - 8 * i := by omega
    simp [e]
/-- The word of some bytes, behind k of them. -/
def joinTo (high : Bool) (b : List UInt8) : Nat → UInt32
  | 0 => 0
  | k + 1 => joinTo high b k ||| (b.getD k 0).toUInt32 <<< UInt32.ofNat (shiftOf high k b.length)
/-- The sixteen words of a block. -/
def wordsOf (high : Bool) (c : List UInt8) : List UInt32 := (List.range 16).map fun i => joinTo high ((c.drop (4 * i)).take 4) 4
/-- .. behind i of them, noughts then. -/
def wordsTo (high : Bool) (c : List UInt8) (i : Nat) : List UInt32 := (List.range i).map (fun i => joinTo high ((c.drop (4 * i)).take 4) 4) ++ List.replicate (16 - i) 0
theorem wordsTo_zero (high : Bool) (c : List UInt8) : wordsTo high c 0 = List.replicate 16 0 := by simp [wordsTo]
theorem wordsTo_all (high : Bool) (c : List UInt8) : wordsTo high c 16 = wordsOf high c := by simp [wordsTo, wordsOf]
theorem wordsTo_length (high : Bool) (c : List UInt8) (i : Nat) (hi : i ≤ 16) : (wordsTo high c i).length = 16 := by simp [wordsTo]; omega
theorem wordsOf_length (high : Bool) (c : List UInt8) : (wordsOf high c).length = 16 := by simp [wordsOf]
theorem wordsTo_succ (high : Bool) (c : List UInt8) (i : Nat) (hi : i < 16) : (wordsTo high c i).set i (joinTo high ((c.drop (4 * i)).take 4) 4) = wordsTo high c (i + 1) := by
  unfold wordsTo
  have e : 16 - i = (16 - (i + 1)) + 1 := by omega
  rw [List.range_succ, List.map_append, List.set_append_right _ _ (by simp)]
  simp only [List.length_map, List.length_range, Nat.sub_self, List.map_cons, List.map_nil]
  rw [e, List.replicate_succ, List.set_cons_zero, List.append_assoc]
  rfl
/-- The bytes of block k. -/
def blockOf (m : List UInt8) (k : Nat) : List UInt8 := (m.drop (64 * k)).take 64
theorem blockOf_length (m : List UInt8) (k N : Nat) (hm : m.length = 64 * N) (hk : k < N) : (blockOf m k).length = 64 := by simp [blockOf]; omega
theorem getD_take {α : Type} (l : List α) (n i : Nat) (d : α) (h : i < n) : (l.take n).getD i d = l.getD i d := by
  rw [List.getD_eq_getElem?_getD, List.getD_eq_getElem?_getD, List.getElem?_take, if_pos h]
theorem getD_drop {α : Type} (l : List α) (n i : Nat) (d : α) : (l.drop n).getD i d = l.getD (n + i) d := by
  rw [List.getD_eq_getElem?_getD, List.getD_eq_getElem?_getD, List.getElem?_drop]
theorem eq_of_getD {α : Type} (d : α) (a b : List α) (hl : a.length = b.length) (h : ∀ t, t < a.length → a.getD t d = b.getD t d) : a = b := by
  apply List.ext_getElem hl
  intro t h1 h2
  have := h t h1
  rwa [List.getD_eq_getElem?_getD, List.getD_eq_getElem?_getD, List.getElem?_eq_getElem h1, List.getElem?_eq_getElem h2] at this
theorem getD_range {α : Type} (f : Nat → α) (n t : Nat) (d : α) (h : t < n) : ((List.range n).map f).getD t d = f t := by
  rw [List.getD_eq_getElem?_getD, List.getElem?_map, List.getElem?_range h]
  rfl
theorem blockOf_left (a e : List UInt8) (n k : Nat) (ha : a.length = 64 * n) (hk : k < n) : blockOf (a ++ e) k = blockOf a k := by
  unfold blockOf
  rw [List.drop_append_of_le_length (by omega), List.take_append_of_le_length (by simp; omega)]
theorem blockOf_right (a e : List UInt8) (n k : Nat) (ha : a.length = 64 * n) : blockOf (a ++ e) (n + k) = blockOf e k := by
  unfold blockOf
  rw [List.drop_append, ha, show 64 * (n + k) - 64 * n = 64 * k by omega, List.drop_eq_nil_of_le (by omega), List.nil_append]
/-- Blocks, one behind the other, through whatever a block does to a state. -/
def via {σ : Type} (g : List UInt8 → σ → σ) (h : σ) (m : List UInt8) (ks : List Nat) : σ := ks.foldl (fun s k => g (blockOf m k) s) h
theorem via_snoc {σ : Type} (g : List UInt8 → σ → σ) (h : σ) (m : List UInt8) (ks : List Nat) (k : Nat) : via g h m (ks ++ [k]) = g (blockOf m k) (via g h m ks) := by simp [via]
theorem via_left {σ : Type} (g : List UInt8 → σ → σ) (h : σ) (a e : List UInt8) (n : Nat) (ha : a.length = 64 * n) : ∀ k, k ≤ n → via g h (a ++ e) (List.range k) = via g h a (List.range k)
  | 0, _ => rfl
  | k + 1, hk => by rw [List.range_succ, via_snoc, via_snoc, via_left g h a e n ha k (by omega), blockOf_left a e n k ha (by omega)]
theorem via_both {σ : Type} (g : List UInt8 → σ → σ) (h : σ) (a e : List UInt8) (n : Nat) (ha : a.length = 64 * n) : ∀ k, via g h (a ++ e) (List.range (n + k)) = via g (via g h a (List.range n)) e (List.range k)
  | 0 => by rw [Nat.add_zero, via_left g h a e n ha n (Nat.le_refl _)]; rfl
  | k + 1 => by rw [← Nat.add_assoc, List.range_succ, via_snoc, via_both g h a e n ha k, blockOf_right a e n k ha, List.range_succ, via_snoc]
/-- The end of the padded input: what fills no block, and the padding. -/
def endOf (high : Bool) (b : List UInt8) : List UInt8 := b.drop (64 * (b.length / 64)) ++ [128] ++ List.replicate (noughts (b.drop (64 * (b.length / 64))).length) 0 ++ lenBytes (!high) b.length 8
theorem pad_end (high : Bool) (b : List UInt8) : pad (!high) b = b.take (64 * (b.length / 64)) ++ endOf high b := by
  unfold pad endOf
  have e : noughts (b.drop (64 * (b.length / 64))).length = noughts b.length := by
    rw [List.length_drop]
    unfold noughts
    omega
  rw [e]
  have := List.take_append_drop (64 * (b.length / 64)) b
  conv => lhs; rw [← this]
  simp only [List.append_assoc]
  rw [this]
theorem endOf_length (high : Bool) (b : List UInt8) : (endOf high b).length % 64 = 0 := by
  have h := pad_blocks (!high) b
  rw [pad_end, List.length_append, List.length_take] at h
  omega
theorem endOf_le (high : Bool) (b : List UInt8) : (endOf high b).length ≤ 200 := by
  have h1 := pad_le (!high) b
  rw [pad_end, List.length_append, List.length_take] at h1
  have h2 : b.length < 64 * (b.length / 64) + 64 := by omega
  omega
/-- What Fold makes of a state: the whole blocks, and the end's. -/
def foldOf {σ : Type} (high : Bool) (g : List UInt32 → σ → σ) (h : σ) (b : List UInt8) : σ :=
  via (fun c s => g (wordsOf high c) s) (via (fun c s => g (wordsOf high c) s) h (b.take (64 * (b.length / 64))) (List.range (b.length / 64))) (endOf high b) (List.range ((endOf high b).length / 64))
theorem foldOf_pad {σ : Type} (high : Bool) (g : List UInt32 → σ → σ) (h : σ) (b : List UInt8) : foldOf high g h b = via (fun c s => g (wordsOf high c) s) h (pad (!high) b) (List.range ((pad (!high) b).length / 64)) := by
  have hl : (b.take (64 * (b.length / 64))).length = 64 * (b.length / 64) := by rw [List.length_take]; omega
  have h2 : (pad (!high) b).length / 64 = b.length / 64 + (endOf high b).length / 64 := by
    rw [pad_end, List.length_append, hl]
    omega
  rw [h2, pad_end, via_both _ _ _ _ _ hl]
  rfl
/-- The bytes of some words. -/
def wordBytes (high : Bool) (l : List UInt32) : List UInt8 := l.flatMap fun x => bytesOf high x.toNat 4 4
theorem wordBytes_length (high : Bool) : ∀ l, (wordBytes high l).length = 4 * l.length
  | [] => rfl
  | x :: l => by
    have := wordBytes_length high l
    simp only [wordBytes, List.flatMap_cons, List.length_append, bytesOf_length, List.length_cons] at this ⊢
    omega
theorem wordBytes_snoc (high : Bool) (l : List UInt32) (x : UInt32) : wordBytes high (l ++ [x]) = wordBytes high l ++ bytesOf high x.toNat 4 4 := by simp [wordBytes]
end Pure
theorem byteAt_int (high : Bool) (v n i s : Nat) (hs : Pure.shiftOf high i n = s) : ((v : Int) / 2 ^ s) % 256 = (((Pure.byteAt high v n i).toNat : Nat) : Int) := by
  unfold Pure.byteAt
  rw [hs, UInt8.toNat_ofNat', Int.natCast_emod, Int.natCast_ediv, Int.natCast_pow]
  rfl
/-- A piece of 64 bytes. -/
theorem row_piece {w : World} {b off : Nat} {bs : List UInt8} {N : Nat} (hN : bs.length = 64 * N) (hc : ∀ j u, (u8s bs)[j]? = some u → w.cell? ⟨b, off + j, none⟩ = some u) (k : Nat) (hk : k < N) :
    Row w (fun x => x = b) 1 (.slice (some ⟨b, off + 64 * k, none⟩) 64 64) 64 (u8s (Pure.blockOf bs k)) := by
  refine ⟨by rw [List.length_map, Pure.blockOf_length bs k N hN hk], by unfold maxLen; omega, _, 64, rfl, Nat.le_refl _, by simp, fun _ => ⟨b, _, rfl, rfl, fun j u hu => ?_⟩⟩
  have hj : j < 64 := by
    have := (List.getElem?_eq_some_iff.1 hu).1
    rw [List.length_map, Pure.blockOf_length bs k N hN hk] at this
    exact this
  have := hc (64 * k + j) u (by
    rw [← hu]
    unfold Pure.blockOf
    rw [List.getElem?_map, List.getElem?_map, List.getElem?_take, if_pos hj, List.getElem?_drop])
  rwa [← Nat.add_assoc] at this
end Go.Proofs.YtkllaghfiofnjaaDoor
