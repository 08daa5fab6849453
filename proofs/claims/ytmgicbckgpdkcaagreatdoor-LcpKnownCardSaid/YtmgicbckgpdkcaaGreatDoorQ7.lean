/- package block over lists: bytes of a number, words, blocks, the end of the input; the most significant byte first, or the least. -/
import Derived.Test.YtmgicbckgpdkcaaGreatDoorQ4
namespace Go.Proofs.YtmgicbckgpdkcaaGreatDoor
open List renaming setIfInBounds_toArray → xqA, getElem_toArray → xqB, getElem_cons_succ → xqC, getElem_cons_zero → xqD, set_cons_succ → xqE, set_cons_zero → xqF
open Go.RowKit
namespace Pure
def shiftOf (high : Bool) (i n : Nat) : Nat := if high then 8 * (n - 1 - i) else 8 * i
def byteAt (high : Bool) (v n i : Nat) : UInt8 := UInt8.ofNat (v / 2 ^ shiftOf high i n)
def bytesOf (high : Bool) (v n k : Nat) : List UInt8 := (List.range k).map (byteAt high v n)
theorem bytesOf_succ (high : Bool) (v n k : Nat) : bytesOf high v n (k + 1) = bytesOf high v n k ++ [byteAt high v n k] := by simp [bytesOf, List.range_succ]
theorem bytesOf_length (high : Bool) (v n k : Nat) : (bytesOf high v n k).length = k := by simp [bytesOf]
theorem bytesOf_len (high : Bool) (L : Nat) : bytesOf high (8 * L) 8 8 = lenBytes (!high) L 8 := by
 unfold bytesOf lenBytes
 apply List.map_congr_left
 intro i hi
 rw [List.mem_range] at hi
 unfold byteAt lenByte shiftOf
 cases high
 ·rfl
 ·have e : 8 * (8 - 1 - i) = 56 - 8 * i := by omega
  simp [e]
def joinTo (high : Bool) (b : List UInt8) : Nat → UInt32
 | 0 => 0
 | k + 1 => joinTo high b k ||| (b.getD k 0).toUInt32 <<< UInt32.ofNat (shiftOf high k b.length)
def wordsOf (high : Bool) (c : List UInt8) : List UInt32 := (List.range 16).map fun i => joinTo high ((c.drop (4 * i)).take 4) 4
def wordsTo (high : Bool) (c : List UInt8) (i : Nat) : List UInt32 := (List.range i).map (fun i => joinTo high ((c.drop (4 * i)).take 4) 4) ++ List.replicate (16 - i) 0
theorem wordsTo_zero (high : Bool) (c : List UInt8) : wordsTo high c 0 = List.replicate 16 0 := by simp [wordsTo]
theorem wordsTo_all (high : Bool) (c : List UInt8) : wordsTo high c 16 = wordsOf high c := by simp [wordsTo, wordsOf]
theorem wordsTo_length (high : Bool) (c : List UInt8) (i : Nat) (hi : i ≤ 16) : (wordsTo high c i).length = 16 := by simp [wordsTo]; omega
theorem wordsOf_length (high : Bool) (c : List UInt8) : (wordsOf high c).length = 16 := by simp [wordsOf]
theorem wordsTo_succ (high : Bool) (c : List UInt8) (i : Nat) (hi : i < 16) : (wordsTo high c i).set i (joinTo high ((c.drop (4 * i)).take 4) 4) = wordsTo high c (i + 1) := by
 unfold wordsTo
 have e : 16 - i = (16 - (i + 1)) + 1 := by omega
 rw [List.range_succ, List.map_append, List.set_append_right _ _ (by simp)]
 simp only [List.length_map, List.length_range, Nat.sub_self, List.map_cons, List.map_nil]
 rw [e, List.replicate_succ, xqF, List.append_assoc]
 rfl
def blockOf (m : List UInt8) (k : Nat) : List UInt8 := (m.drop (64 * k)).take 64
theorem blockOf_length (m : List UInt8) (k N : Nat) (hm : m.length = 64 * N) (hk : k < N) : (blockOf m k).length = 64 := by simp [blockOf]; omega
theorem getD_taken {α : Type} (l : List α) (n i : Nat) (d : α) (h : i < n) : (l.take n).getD i d = l.getD i d := by
 rw [List.getD_eq_getElem?_getD, List.getD_eq_getElem?_getD, List.getElem?_take, if_pos h]
theorem getD_drop {α : Type} (l : List α) (n i : Nat) (d : α) : (l.drop n).getD i d = l.getD (n + i) d := by
 rw [List.getD_eq_getElem?_getD, List.getD_eq_getElem?_getD, List.getElem?_drop]
theorem eq_of_getD {α : Type} (d : α) (a b : List α) (hl : a.length = b.length) (h : ∀ t, t < a.length → a.getD t d = b.getD t d) : a = b := by
 apply List.ext_getElem hl
 intro t h1 h2
 have := h t h1
 rwa [List.getD_eq_getElem?_getD, List.getD_eq_getElem?_getD, List.getElem?_eq_getElem h1, List.getElem?_eq_getElem h2] at this
theorem getD_range {α : Type} (f : Nat → α) (n t : Nat) (d : α) (h : t < n) : ((List.range n).map f).getD t d = f t := by
 rw [List.getD_eq_getElem?_getD, List.getElem?_map, List.getElem?_range h]
 rfl
theorem blockOf_left (a e : List UInt8) (n k : Nat) (ha : a.length = 64 * n) (hk : k < n) : blockOf (a ++ e) k = blockOf a k := by
 unfold blockOf
 rw [List.drop_append_of_le_length (by omega), List.take_append_of_le_length (by simp; omega)]
theorem blockOf_right (a e : List UInt8) (n k : Nat) (ha : a.length = 64 * n) : blockOf (a ++ e) (n + k) = blockOf e k := by
 unfold blockOf
 rw [List.drop_append, ha, show 64 * (n + k) - 64 * n = 64 * k by omega, List.drop_eq_nil_of_le (by omega), List.nil_append]
def via {σ : Type} (g : List UInt8 → σ → σ) (h : σ) (m : List UInt8) (ks : List Nat) : σ := ks.foldl (fun s k => g (blockOf m k) s) h
theorem via_snoc {σ : Type} (g : List UInt8 → σ → σ) (h : σ) (m : List UInt8) (ks : List Nat) (k : Nat) : via g h m (ks ++ [k]) = g (blockOf m k) (via g h m ks) := by simp [via]
theorem via_left {σ : Type} (g : List UInt8 → σ → σ) (h : σ) (a e : List UInt8) (n : Nat) (ha : a.length = 64 * n) : ∀ k, k ≤ n → via g h (a ++ e) (List.range k) = via g h a (List.range k)
 | 0, _ => rfl
 | k + 1, hk => by rw [List.range_succ, via_snoc, via_snoc, via_left g h a e n ha k (by omega), blockOf_left a e n k ha (by omega)]
theorem via_both {σ : Type} (g : List UInt8 → σ → σ) (h : σ) (a e : List UInt8) (n : Nat) (ha : a.length = 64 * n) : ∀ k, via g h (a ++ e) (List.range (n + k)) = via g (via g h a (List.range n)) e (List.range k)
 | 0 => by rw [Nat.add_zero, via_left g h a e n ha n (Nat.le_refl _)]; rfl
 | k + 1 => by rw [← Nat.add_assoc, List.range_succ, via_snoc, via_both g h a e n ha k, blockOf_right a e n k ha, List.range_succ, via_snoc]
def endOf (high : Bool) (b : List UInt8) : List UInt8 := b.drop (64 * (b.length / 64)) ++ [128] ++ List.replicate (noughts (b.drop (64 * (b.length / 64))).length) 0 ++ lenBytes (!high) b.length 8
theorem pad_end (high : Bool) (b : List UInt8) : pad (!high) b = b.take (64 * (b.length / 64)) ++ endOf high b := by
 unfold pad endOf
 have e : noughts (b.drop (64 * (b.length / 64))).length = noughts b.length := by
  rw [List.length_drop]
  unfold noughts
  omega
 rw [e]
 have := List.take_append_drop (64 * (b.length / 64)) b
 conv => lhs; rw [← this]
 simp only [List.append_assoc]
 rw [this]
theorem endOf_length (high : Bool) (b : List UInt8) : (endOf high b).length % 64 = 0 := by
 have h := pad_blocks (!high) b
 rw [pad_end, List.length_append, List.length_take] at h
 omega
theorem endOf_le (high : Bool) (b : List UInt8) : (endOf high b).length ≤ 200 := by
 have h1 := pad_le (!high) b
 rw [pad_end, List.length_append, List.length_take] at h1
 have h2 : b.length < 64 * (b.length / 64) + 64 := by omega
 omega
def foldOf {σ : Type} (high : Bool) (g : List UInt32 → σ → σ) (h : σ) (b : List UInt8) : σ :=
 via (fun c s => g (wordsOf high c) s) (via (fun c s => g (wordsOf high c) s) h (b.take (64 * (b.length / 64))) (List.range (b.length / 64))) (endOf high b) (List.range ((endOf high b).length / 64))
theorem foldOf_pad {σ : Type} (high : Bool) (g : List UInt32 → σ → σ) (h : σ) (b : List UInt8) : foldOf high g h b = via (fun c s => g (wordsOf high c) s) h (pad (!high) b) (List.range ((pad (!high) b).length / 64)) := by
 have hl : (b.take (64 * (b.length / 64))).length = 64 * (b.length / 64) := by rw [List.length_take]; omega
 have h2 : (pad (!high) b).length / 64 = b.length / 64 + (endOf high b).length / 64 := by
  rw [pad_end, List.length_append, hl]
  omega
 rw [h2, pad_end, via_both _ _ _ _ _ hl]
 rfl
def wordBytes (high : Bool) (l : List UInt32) : List UInt8 := l.flatMap fun x => bytesOf high x.toNat 4 4
theorem wordBytes_length (high : Bool) : ∀ l, (wordBytes high l).length = 4 * l.length
 | [] => rfl
 | x :: l => by
  have := wordBytes_length high l
  simp only [wordBytes, List.flatMap_cons, List.length_append, bytesOf_length, List.length_cons] at this ⊢
  omega
theorem wordBytes_snoc (high : Bool) (l : List UInt32) (x : UInt32) : wordBytes high (l ++ [x]) = wordBytes high l ++ bytesOf high x.toNat 4 4 := by simp [wordBytes]
end Pure
theorem byteAt_int (high : Bool) (v n i s : Nat) (hs : Pure.shiftOf high i n = s) : ((v : Int) / 2 ^ s) % 256 = (((Pure.byteAt high v n i).toNat : Nat) : Int) := by
 unfold Pure.byteAt
 rw [hs, UInt8.toNat_ofNat', Int.natCast_emod, Int.natCast_ediv, Int.natCast_pow]
 rfl
theorem row_piece {w : World} {b off : Nat} {bs : List UInt8} {N : Nat} (hN : bs.length = 64 * N) (hc : ∀ j u, (u8s bs)[j]? = some u → w.cell? ⟨b, off + j, none⟩ = some u) (k : Nat) (hk : k < N) :
  Row w (fun x => x = b) 1 (.slice (some ⟨b, off + 64 * k, none⟩) 64 64) 64 (u8s (Pure.blockOf bs k)) := by
 refine ⟨by rw [List.length_map, Pure.blockOf_length bs k N hN hk], by unfold maxLen; omega, _, 64, rfl, Nat.le_refl _, by simp, fun _ => ⟨b, _, rfl, rfl, fun j u hu => ?_⟩⟩
 have hj : j < 64 := by
  have := (List.getElem?_eq_some_iff.1 hu).1
  rw [List.length_map, Pure.blockOf_length bs k N hN hk] at this
  exact this
 have := hc (64 * k + j) u (by
  rw [← hu]
  unfold Pure.blockOf
  rw [List.getElem?_map, List.getElem?_map, List.getElem?_take, if_pos hj, List.getElem?_drop])
 rwa [← Nat.add_assoc] at this
namespace Pure
def word (m : List UInt8) (p : Nat) : Nat → UInt32
 | 0 => 0
 | r + 1 => word m p r ||| (m.getD (p + r) 0).toUInt32 <<< UInt32.ofNat (8 * r)
theorem word_congr {m m' : List UInt8} {p p' : Nat} : ∀ (n : Nat), (∀ r, r < n → m.getD (p + r) 0 = m'.getD (p' + r) 0) → word m p n = word m' p' n
 | 0, _ => rfl
 | n + 1, h => by
  simp only [word]
  rw [word_congr n (fun r hr => h r (by omega)), h n (by omega)]
theorem wordsLow_at (m : List UInt8) (p : Nat) : ∀ (i : Nat), i ≤ 64 → ∀ t, t < 16 → (wordsLow m p i).getD t 0 = word m (p + 4 * t) (min 4 (i - 4 * t))
 | 0, _, t, ht => by
  rw [show min 4 (0 - 4 * t) = 0 by omega]
  show (List.replicate 16 (0 : UInt32)).getD t 0 = 0
  rw [List.getD_eq_getElem?_getD, List.getElem?_replicate, if_pos ht]
  rfl
 | i + 1, hi, t, ht => by
  have ih := wordsLow_at m p i (by omega)
  simp only [wordsLow]
  by_cases hti : t = i / 4
  ·subst hti
   rw [List.getD_eq_getElem?_getD, List.getElem?_set_self (by rw [wordsLow_length]; omega), Option.getD_some, ih (i / 4) (by omega),
    show min 4 (i - 4 * (i / 4)) = i % 4 by omega, show min 4 (i + 1 - 4 * (i / 4)) = i % 4 + 1 by omega]
   simp only [word]
   rw [show p + 4 * (i / 4) + i % 4 = p + i by omega]
  ·rw [List.getD_eq_getElem?_getD, List.getElem?_set_ne (by omega), ← List.getD_eq_getElem?_getD, ih t ht]
   congr 1
   omega
theorem joinTo_low (b : List UInt8) : ∀ k, joinTo false b k = word b 0 k
 | 0 => rfl
 | k + 1 => by
  simp only [joinTo, word, joinTo_low b k, Nat.zero_add]
  rfl
theorem wordsOf_low (m : List UInt8) (k : Nat) : wordsOf false (blockOf m k) = wordsLow m (64 * k) 64 := by
 refine eq_of_getD 0 _ _ ((wordsOf_length _ _).trans (wordsLow_length _ _ _).symm) fun t h1 => ?_
 rw [wordsOf_length] at h1
 rw [wordsLow_at m (64 * k) 64 (Nat.le_refl _) t h1, show min 4 (64 - 4 * t) = 4 by omega]
 unfold wordsOf
 rw [getD_range _ _ _ _ h1, joinTo_low]
 refine word_congr 4 fun r hr => ?_
 rw [Nat.zero_add, getD_taken _ _ _ _ hr, getD_drop, blockOf, getD_taken _ _ _ _ (by omega), getD_drop, Nat.add_assoc]
def md4Blk (x : List UInt32) (h : W4) : W4 :=
 let v := md4Steps x h 48
 ⟨h.a + v.a, h.b + v.b, h.c + v.c, h.d + v.d⟩
def w4of (s : List UInt32) : W4 := ⟨s.getD 0 0, s.getD 1 0, s.getD 2 0, s.getD 3 0⟩
theorem w4of_list (s : List UInt32) (hs : s.length = 4) : (w4of s).list = s := by
 match s, hs with
 | [a, b, c, d], _ => rfl
theorem list_w4of (h : W4) : w4of h.list = h := rfl
def md4Of (x s : List UInt32) : List UInt32 := (md4Blk x (w4of s)).list
theorem md4Of_length (x s : List UInt32) : (md4Of x s).length = 4 := rfl
theorem md4Blocks_via (m : List UInt8) : ∀ K, (md4Blocks m K).list = via (fun c s => md4Of (wordsOf false c) s) md4Start.list m (List.range K)
 | 0 => rfl
 | K + 1 => by
  rw [List.range_succ, via_snoc, ← md4Blocks_via m K]
  show (md4Blk (wordsLow m (64 * K) 64) (md4Blocks m K)).list = _
  rw [md4Of, list_w4of, wordsOf_low]
theorem bytesOf_out (l : List UInt32) (i : Nat) : bytesOf false (l.getD i 0).toNat 4 4 = (List.range 4).map fun r => outLow l (4 * i + r) := by
 unfold bytesOf
 apply List.map_congr_left
 intro r hr
 rw [List.mem_range] at hr
 unfold byteAt outLow shiftOf
 rw [show (4 * i + r) / 4 = i by omega, show (4 * i + r) % 4 = r by omega]
 apply UInt8.toNat_inj.1
 rw [UInt8.toNat_ofNat', UInt32.toNat_toUInt8, UInt32.toNat_shiftRight]
 have : (UInt32.ofNat (8 * r)).toNat % 32 = 8 * r := by
  rw [UInt32.toNat_ofNat']
  omega
 rw [this, Nat.shiftRight_eq_div_pow]
 rfl
theorem wordBytes_out (l : List UInt32) : ∀ k, k ≤ l.length → wordBytes false (l.take k) = (List.range (4 * k)).map (outLow l)
 | 0, _ => rfl
 | k + 1, hk => by
  have et : l.take (k + 1) = l.take k ++ [l.getD k 0] := by
   rw [List.getD_eq_getElem?_getD, List.getElem?_eq_getElem (by omega)]
   exact (List.take_append_getElem (by omega)).symm
  rw [et, wordBytes_snoc, wordBytes_out l k (by omega), bytesOf_out, show 4 * (k + 1) = 4 * k + 4 by omega, List.range_add, List.map_append, List.map_map]
  rfl
theorem md4_fold (b : List UInt8) : md4 b = wordBytes false (foldOf false md4Of md4Start.list b) := by
 rw [foldOf_pad]
 show _ = wordBytes false (via (fun c s => md4Of (wordsOf false c) s) md4Start.list (pad true b) (List.range ((pad true b).length / 64)))
 rw [← md4Blocks_via]
 obtain ⟨h, hh⟩ : ∃ h, h = md4Blocks (pad true b) ((pad true b).length / 64) := ⟨_, rfl⟩
 unfold md4
 rw [← hh]
 exact (wordBytes_out h.list 4 (Nat.le_refl 4)).symm
end Pure
end Go.Proofs.YtmgicbckgpdkcaaGreatDoor
