/- md4 over lists: the document's words and blocks are the program's. -/
import Derived.Test.YtoobacpjlakkkaaDigG
namespace Go.Proofs.Ytoobacpjlakkkaa
namespace Pure
theorem word_congr {m m' : List UInt8} {p p' : Nat} : ∀ (n : Nat), (∀ r, r < n → m.getD (p + r) 0 = m'.getD (p' + r) 0) → word m p n = word m' p' n
  | 0, _ => rfl
  | n + 1, h => by
    simp only [word]
    rw [word_congr n (fun r hr => h r (by omega)), h n (by omega)]
theorem wordsLow_at (m : List UInt8) (p : Nat) : ∀ (i : Nat), i ≤ 64 → ∀ t, t < 16 → (wordsLow m p i).getD t 0 = word m (p + 4 * t) (min 4 (i - 4 * t))
  | 0, _, t, ht => by
    rw [show min 4 (0 - 4 * t) = 0 by omega]
    show (List.replicate 16 (0 : UInt32)).getD t 0 = 0
    rw [List.getD_eq_getElem?_getD, List.getElem?_replicate, if_pos ht]
    rfl
  | i + 1, hi, t, ht => by
    have ih := wordsLow_at m p i (by omega)
    simp only [wordsLow]
    by_cases hti : t = i / 4
    · subst hti
      rw [List.getD_eq_getElem?_getD, List.getElem?_set_self (by rw [wordsLow_length]; omega), Option.getD_some, ih (i / 4) (by omega),
        show min 4 (i - 4 * (i / 4)) = i % 4 by omega, show min 4 (i + 1 - 4 * (i / 4)) = i % 4 + 1 by omega]
      simp only [word]
      rw [show p + 4 * (i / 4) + i % 4 = p + i by omega]
    · rw [List.getD_eq_getElem?_getD, List.getElem?_set_ne (by omega), ← List.getD_eq_getElem?_getD, ih t ht]
      congr 1
      omega
theorem getD_take {α : Type} (l : List α) (n i : Nat) (d : α) (h : i < n) : (l.take n).getD i d = l.getD i d := by
  rw [List.getD_eq_getElem?_getD, List.getD_eq_getElem?_getD, List.getElem?_take, if_pos h]
theorem getD_drop {α : Type} (l : List α) (n i : Nat) (d : α) : (l.drop n).getD i d = l.getD (n + i) d := by
  rw [List.getD_eq_getElem?_getD, List.getD_eq_getElem?_getD, List.getElem?_drop]
theorem eq_of_getD {α : Type} (d : α) (a b : List α) (hl : a.length = b.length) (h : ∀ t, t < a.length → a.getD t d = b.getD t d) : a = b := by
  apply List.ext_getElem hl
  intro t h1 h2
  have := h t h1
  rwa [List.getD_eq_getElem?_getD, List.getD_eq_getElem?_getD, List.getElem?_eq_getElem h1, List.getElem?_eq_getElem h2] at this
theorem getD_range {α : Type} (f : Nat → α) (n t : Nat) (d : α) (h : t < n) : ((List.range n).map f).getD t d = f t := by
  rw [List.getD_eq_getElem?_getD, List.getElem?_map, List.getElem?_range h]
  rfl
theorem wordsOf_low (m : List UInt8) (k : Nat) : wordsOf (blockOf m k) = wordsLow m (64 * k) 64 := by
  refine eq_of_getD 0 _ _ ((wordsOf_length _).trans (wordsLow_length _ _ _).symm) fun t h1 => ?_
  rw [wordsOf_length] at h1
  refine (getD_range _ 16 t 0 h1).trans (Eq.trans ?_ (wordsLow_at m (64 * k) 64 (Nat.le_refl _) t h1).symm)
  have e4 : min 4 (64 - 4 * t) = 4 := by omega
  rw [e4]
  refine word_congr 4 fun r hr => ?_
  rw [Nat.zero_add, getD_take _ _ _ _ hr, getD_drop, blockOf, getD_take _ _ _ _ (by omega), getD_drop, Nat.add_assoc]
theorem md4Blocks_via (m : List UInt8) : ∀ K, md4Blocks m K = md4Via md4Start m (List.range K)
  | 0 => rfl
  | K + 1 => by
    have h1 := md4Via_snoc md4Start m (List.range K) K
    rw [← md4Blocks_via m K, wordsOf_low] at h1
    rw [List.range_succ]
    exact Eq.trans (by rw [md4Blocks]; rfl) h1.symm
theorem blockOf_left (a e : List UInt8) (n k : Nat) (ha : a.length = 64 * n) (hk : k < n) : blockOf (a ++ e) k = blockOf a k := by
  unfold blockOf
  rw [List.drop_append_of_le_length (by omega), List.take_append_of_le_length (by simp; omega)]
theorem blockOf_right (a e : List UInt8) (n k : Nat) (ha : a.length = 64 * n) : blockOf (a ++ e) (n + k) = blockOf e k := by
  unfold blockOf
  rw [List.drop_append, ha, show 64 * (n + k) - 64 * n = 64 * k by omega, List.drop_eq_nil_of_le (by omega), List.nil_append]
/-- Blocks, one behind the other, through whatever a block does to a state. -/
def via {σ : Type} (g : List UInt8 → σ → σ) (h : σ) (m : List UInt8) (ks : List Nat) : σ := ks.foldl (fun s k => g (blockOf m k) s) h
theorem via_snoc {σ : Type} (g : List UInt8 → σ → σ) (h : σ) (m : List UInt8) (ks : List Nat) (k : Nat) : via g h m (ks ++ [k]) = g (blockOf m k) (via g h m ks) := by simp [via]
theorem via_left {σ : Type} (g : List UInt8 → σ → σ) (h : σ) (a e : List UInt8) (n : Nat) (ha : a.length = 64 * n) : ∀ k, k ≤ n → via g h (a ++ e) (List.range k) = via g h a (List.range k)
  | 0, _ => rfl
  | k + 1, hk => by rw [List.range_succ, via_snoc, via_snoc, via_left g h a e n ha k (by omega), blockOf_left a e n k ha (by omega)]
theorem via_both {σ : Type} (g : List UInt8 → σ → σ) (h : σ) (a e : List UInt8) (n : Nat) (ha : a.length = 64 * n) : ∀ k, via g h (a ++ e) (List.range (n + k)) = via g (via g h a (List.range n)) e (List.range k)
  | 0 => by rw [Nat.add_zero, via_left g h a e n ha n (Nat.le_refl _)]; rfl
  | k + 1 => by rw [← Nat.add_assoc, List.range_succ, via_snoc, via_both g h a e n ha k, blockOf_right a e n k ha, List.range_succ, via_snoc]
theorem md4Via_both (h : W4) (a e : List UInt8) (n : Nat) (ha : a.length = 64 * n) (k : Nat) : md4Via h (a ++ e) (List.range (n + k)) = md4Via (md4Via h a (List.range n)) e (List.range k) := via_both (fun c s => md4Blk (wordsOf c) s) h a e n ha k
/-- The end of the padded input: what fills no block, and the padding. -/
def endOf (b : List UInt8) : List UInt8 := b.drop (64 * (b.length / 64)) ++ [128] ++ List.replicate (noughts (b.drop (64 * (b.length / 64))).length) 0 ++ lenBytes true b.length 8
theorem pad_end (b : List UInt8) : pad true b = b.take (64 * (b.length / 64)) ++ endOf b := by
  unfold pad endOf
  have e : noughts (b.drop (64 * (b.length / 64))).length = noughts b.length := by
    rw [List.length_drop]
    unfold noughts
    omega
  rw [e]
  have := List.take_append_drop (64 * (b.length / 64)) b
  conv => lhs; rw [← this]
  simp only [List.append_assoc]
  rw [this]
theorem endOf_length (b : List UInt8) : (endOf b).length % 64 = 0 := by
  have h := pad_blocks true b
  rw [pad_end, List.length_append, List.length_take] at h
  omega
theorem md4_ends (b : List UInt8) : md4Blocks (pad true b) ((pad true b).length / 64) = md4Via (md4Via md4Start (b.take (64 * (b.length / 64))) (List.range (b.length / 64))) (endOf b) (List.range ((endOf b).length / 64)) := by
  have hl : (b.take (64 * (b.length / 64))).length = 64 * (b.length / 64) := by rw [List.length_take]; omega
  have h2 : (pad true b).length / 64 = b.length / 64 + (endOf b).length / 64 := by
    rw [pad_end, List.length_append, hl]
    omega
  rw [md4Blocks_via, h2, pad_end, md4Via_both _ _ _ _ hl]
/-- The digest out of the words. -/
theorem bytesLow_out (h : W4) (i : Nat) (hi : i < 4) : bytesLow (h.list.getD i 0).toNat 4 = (List.range 4).map fun r => outLow h.list (4 * i + r) := by
  unfold bytesLow
  apply List.map_congr_left
  intro r hr
  rw [List.mem_range] at hr
  unfold byteLow outLow
  rw [show (4 * i + r) / 4 = i by omega, show (4 * i + r) % 4 = r by omega]
  apply UInt8.toNat_inj.1
  rw [UInt8.toNat_ofNat', UInt32.toNat_toUInt8, UInt32.toNat_shiftRight]
  have : (UInt32.ofNat (8 * r)).toNat % 32 = 8 * r := by
    rw [UInt32.toNat_ofNat']
    omega
  rw [this, Nat.shiftRight_eq_div_pow]
/-- The first i words' bytes. -/
def outTo (h : W4) (i : Nat) : List UInt8 := (List.range (4 * i)).map (outLow h.list)
theorem outTo_succ (h : W4) (i : Nat) (hi : i < 4) : outTo h (i + 1) = outTo h i ++ bytesLow (h.list.getD i 0).toNat 4 := by
  rw [bytesLow_out h i hi]
  unfold outTo
  rw [show 4 * (i + 1) = 4 * i + 4 by omega, List.range_add, List.map_append, List.map_map]
  rfl
theorem outTo_length (h : W4) (i : Nat) : (outTo h i).length = 4 * i := by simp [outTo]
end Pure
end Go.Proofs.Ytoobacpjlakkkaa
