/- md4 over lists: the document's words and blocks are the program's. -/
import Derived.Test.YtkllaghfiofnjaaDoorBlkPure
namespace Go.Proofs.YtkllaghfiofnjaaDoor
namespace Pure
/-- The first r bytes from p on, as a word, the least significant one first. -/
def word (m : List UInt8) (p : Nat) : Nat → UInt32
  | 0 => 0
  | r + 1 => word m p r ||| (m.getD (p + r) 0).toUInt32 <<< UInt32.ofNat (8 * r)
theorem word_congr {m m' : List UInt8} {p p' : Nat} : ∀ (n : Nat), (∀ r, r < n → m.getD (p + r) 0 = m'.getD (p' + r) 0) → word m p n = word m' p' n
  | 0, _ => rfl
  | n + 1, h => by
    simp only [word]
    rw [word_congr n (fun r hr => h r (by omega)), h n (by omega)]
theorem wordsLow_at (m : List UInt8) (p : Nat) : ∀ (i : Nat), i ≤ 64 → ∀ t, t < 16 → (wordsLow m p i).getD t 0 = word m (p + 4 * t) (min 4 (i - 4 * t))
  | 0, _, t, ht => by
    rw [show min 4 (0 - 4 * t) = 0 by omega]
    show (List.replicate 16 (0 : UInt32)).getD t 0 = 0
    rw [List.getD_eq_getElem?_getD, List.getElem?_replicate, if_pos ht]
    rfl
  | i + 1, hi, t, ht => by
    have ih := wordsLow_at m p i (by omega)
    simp only [wordsLow]
    by_cases hti : t = i / 4
    · subst hti
      rw [List.getD_eq_getElem?_getD, List.getElem?_set_self (by rw [wordsLow_length]; omega), Option.getD_some, ih (i / 4) (by omega),
        show min 4 (i - 4 * (i / 4)) = i % 4 by omega, show min 4 (i + 1 - 4 * (i / 4)) = i % 4 + 1 by omega]
      simp only [word]
      rw [show p + 4 * (i / 4) + i % 4 = p + i by omega]
    · rw [List.getD_eq_getElem?_getD, List.getElem?_set_ne (by omega), ← List.getD_eq_getElem?_getD, ih t ht]
      congr 1
      omega
theorem joinTo_low (b : List UInt8) : ∀ k, joinTo false b k = word b 0 k
  | 0 => rfl
  | k + 1 => by
    simp only [joinTo, word, joinTo_low b k, Nat.zero_add]
    rfl
theorem wordsOf_low (m : List UInt8) (k : Nat) : wordsOf false (blockOf m k) = wordsLow m (64 * k) 64 := by
  refine eq_of_getD 0 _ _ ((wordsOf_length _ _).trans (wordsLow_length _ _ _).symm) fun t h1 => ?_
  rw [wordsOf_length] at h1
  rw [wordsLow_at m (64 * k) 64 (Nat.le_refl _) t h1, show min 4 (64 - 4 * t) = 4 by omega]
  unfold wordsOf
  rw [getD_range _ _ _ _ h1, joinTo_low]
  refine word_congr 4 fun r hr => ?_
  rw [Nat.zero_add, getD_take _ _ _ _ hr, getD_drop, blockOf, getD_take _ _ _ _ (by omega), getD_drop, Nat.add_assoc]
/-- A block's outcome. -/
def md4Blk (x : List UInt32) (h : W4) : W4 :=
  let v := md4Steps x h 48
  ⟨h.a + v.a, h.b + v.b, h.c + v.c, h.d + v.d⟩
/-- Four words out of a list. -/
def w4of (s : List UInt32) : W4 := ⟨s.getD 0 0, s.getD 1 0, s.getD 2 0, s.getD 3 0⟩
theorem w4of_list (s : List UInt32) (hs : s.length = 4) : (w4of s).list = s := by
  match s, hs with
  | [a, b, c, d], _ => rfl
theorem list_w4of (h : W4) : w4of h.list = h := rfl
/-- A block's outcome, over lists. -/
def md4Of (x s : List UInt32) : List UInt32 := (md4Blk x (w4of s)).list
theorem md4Of_length (x s : List UInt32) : (md4Of x s).length = 4 := rfl
theorem md4Blocks_via (m : List UInt8) : ∀ K, (md4Blocks m K).list = via (fun c s => md4Of (wordsOf false c) s) md4Start.list m (List.range K)
  | 0 => rfl
  | K + 1 => by
    rw [List.range_succ, via_snoc, ← md4Blocks_via m K]
    show (md4Blk (wordsLow m (64 * K) 64) (md4Blocks m K)).list = _
    rw [md4Of, list_w4of, wordsOf_low]
/-- The digest out of the words. -/
theorem bytesOf_out (l : List UInt32) (i : Nat) : bytesOf false (l.getD i 0).toNat 4 4 = (List.range 4).map fun r => outLow l (4 * i + r) := by
  unfold bytesOf
  apply List.map_congr_left
  intro r hr
  rw [List.mem_range] at hr
  unfold byteAt outLow shiftOf
  rw [show (4 * i + r) / 4 = i by omega, show (4 * i + r) % 4 = r by omega]
  apply UInt8.toNat_inj.1
  rw [UInt8.toNat_ofNat', UInt32.toNat_toUInt8, UInt32.toNat_shiftRight]
  have : (UInt32.ofNat (8 * r)).toNat % 32 = 8 * r := by
    rw [UInt32.toNat_ofNat']
    omega
  rw [this, Nat.shiftRight_eq_div_pow]
  rfl
theorem wordBytes_out (l : List UInt32) : ∀ k, k ≤ l.length → wordBytes false (l.take k) = (List.range (4 * k)).map (outLow l)
  | 0, _ => rfl
  | k + 1, hk => by
    have et : l.take (k + 1) = l.take k ++ [l.getD k 0] := by
      rw [List.getD_eq_getElem?_getD, List.getElem?_eq_getElem (by omega)]
      exact (List.take_append_getElem (by omega)).symm
    rw [et, wordBytes_snoc, wordBytes_out l k (by omega), bytesOf_out, show 4 * (k + 1) = 4 * k + 4 by omega, List.range_add, List.map_append, List.map_map]
    rfl
theorem md4_fold (b : List UInt8) : md4 b = wordBytes false (foldOf false md4Of md4Start.list b) := by
  rw [foldOf_pad]
  show _ = wordBytes false (via (fun c s => md4Of (wordsOf false c) s) md4Start.list (pad true b) (List.range ((pad true b).length / 64)))
  rw [← md4Blocks_via]
  obtain ⟨h, hh⟩ : ∃ h, h = md4Blocks (pad true b) ((pad true b).length / 64) := ⟨_, rfl⟩
  unfold md4
  rw [← hh]
  exact (wordBytes_out h.list 4 (Nat.le_refl 4)).symm
end Pure
end Go.Proofs.YtkllaghfiofnjaaDoor
