/- des: the key's table, and the table that puts bits back. -/
import Derived.Test.YtmelphlgpnmopaaEncB
namespace Go.Proofs.Ytmelphlgpnmopaa
open Go.RowKit
theorem ints_put (l : List Nat) (j x : Nat) : (ints l).toArray.setIfInBounds j (.int .i64 (x : Int)) = (ints (l.set j x)).toArray := by
  apply Array.toList_inj.1
  simp [List.map_set]
theorem Blk.int {w : World} {b : Nat} {t : TypeId} {l : List Nat} (h : Blk w b t (ints l).toArray) (k : Nat) (hk : k < l.length) : w.cell? ⟨b, k, none⟩ = some (.int .i64 ((l.getD k 0 : Nat) : Int)) := by
  rw [h.cell, ← ints_at l k hk]; simp
theorem Blk.rowOf {w : World} {b n c : Nat} {t : TypeId} {l : List Nat} (h : Blk w b t (ints l).toArray) (hn : l.length = n) (hc : n ≤ c) (hm : n ≤ 1000) : Row w (fun _ => True) 1 (.slice (some ⟨b, 0, none⟩) n c) n (ints l) :=
  Row.block h trivial (by simp [hn]) (by unfold maxLen; omega) hc
theorem set_walk (F L : List Nat) (k : Nat) (hk : k < F.length) (hl : F.length = L.length) : (F.take k ++ L.drop k).set k (F.getD k 0) = F.take (k + 1) ++ L.drop (k + 1) := by
  rw [take_snoc F 0 k hk, List.set_append_right _ _ (by rw [List.length_take]; omega), List.length_take, Nat.min_eq_left (by omega), Nat.sub_self, List.drop_eq_getElem_cons (by omega), List.set_cons_zero, List.append_assoc]
  rfl
theorem ip_within : ∀ k < 64, 1 ≤ Pure.desIp.getD k 0 ∧ Pure.desIp.getD k 0 ≤ 64 := by decide +kernel
def keyRaw : List Nat := [57, 49, 41, 33, 25, 17, 9, 1, 58, 50, 42, 34, 26, 18, 10, 2, 59, 51, 43, 35, 27, 19, 11, 3, 60, 52, 44, 36, 63, 55, 47, 39, 31, 23, 15, 7, 62, 54, 46, 38, 30, 22, 14, 6, 61, 53, 45, 37, 29, 21, 13, 5, 28, 20, 12, 4]
def keyPicks : List Nat := Pure.desHalf false ++ Pure.desHalf true
theorem keyPicks_at : ∀ k < 56, keyPicks.getD k 0 = keyRaw.getD k 0 - (keyRaw.getD k 0 - 1) / 8 ∧ 1 ≤ keyRaw.getD k 0 ∧ keyRaw.getD k 0 ≤ 64 := by decide +kernel
theorem keyPicks_in : ∀ k < 56, 1 ≤ keyPicks.getD k 0 ∧ keyPicks.getD k 0 ≤ 56 := by decide +kernel
set_option maxRecDepth 100000 in
set_option maxHeartbeats 2000000 in
theorem keyTable_any (w : World) :
    Calls Try.prog 31 #[] w fun e w' => ∃ u, e = .returned u ∧ Row w' (fun _ => True) 1 u keyPicks.length (ints keyPicks) ∧ Keeps nobody w w' := by
  obtain ⟨T, hT⟩ : ∃ T, T = keyPicks := ⟨_, rfl⟩
  obtain ⟨L, hL⟩ : ∃ L, L = keyRaw := ⟨_, rfl⟩
  have hTl : T.length = 56 := by rw [hT]; decide
  have hLl : L.length = 56 := by rw [hL]; decide
  have hTg : ∀ k < 56, T.getD k 0 = L.getD k 0 - (L.getD k 0 - 1) / 8 ∧ 1 ≤ L.getD k 0 ∧ L.getD k 0 ≤ 64 := by rw [hT, hL]; exact keyPicks_at
  rw [← hT]
  clear hT
  have HT := Lib.hid hTl
  have HLL := Lib.hid hLl
  have HG := Lib.hid hTg
  clear hTl hTg hLl
  obtain ⟨b, hb⟩ : ∃ b, b = w.heap.size := ⟨_, rfl⟩
  have HB := Lib.hid hb
  have HL := Lib.hid hL
  clear hL
  go_enter Try.func31, Try.ntmps31
  go_upto_region 2 with fail
  rw [← hb]
  generalize hw1 : w.alloc _ = w1
  have HS := Lib.hid (show Blk w1 b 3 (ints L).toArray by rw [← hw1, hb, HL.out]; exact Blk.new w _ _)
  have HK1 := Lib.hid (show Keeps nobody w w1 by rw [← hw1]; exact (Keeps.refl _ w).alloc _)
  have HNb := Lib.hid (show ¬ b < w.heap.size by omega)
  clear hw1 hb
  go_wp2_with fail
  go_loopw [7] (fun i wr => ∃ k : Nat, k ≤ 56 ∧ i = .int .i64 (k : Int) ∧ Blk wr b 3 (ints (T.take k ++ L.drop k)).toArray ∧ Keeps (only b) w1 wr) (fun i _ => 56 - (intOf i).toNat)
  case atStart => exact ⟨0, by omega, rfl, HS.out, Keeps.refl _ _⟩
  case round =>
    obtain ⟨k, hk, rfl, hB, hK⟩ := hrel
    have HBr := Lib.hid hB
    have HK := Lib.hid hK
    by_cases hkl : k < 56
    · have hi0 : (0 : Int) ≤ (k : Int) := by omega
      have hi1 : (k : Int) < 56 := by omega
      have hcur : (T.take k ++ L.drop k).getD k 0 = L.getD k 0 := by
        rw [List.getD_eq_getElem?_getD, List.getElem?_append_right (by rw [List.length_take]; omega), List.length_take, HT.out, Nat.min_eq_left (by omega), Nat.sub_self, List.getElem?_drop, List.getD_eq_getElem?_getD]
        rfl
      have c1 := hB.int k (by rw [List.length_append, List.length_take, List.length_drop, HT.out, HLL.out]; omega)
      rw [hcur] at c1
      obtain ⟨g1, g2, g3⟩ := HG.out k hkl
      have hset := hB.set k (.int .i64 ((T.getD k 0 : Nat) : Int))
      rw [ints_put, set_walk T L k (by rw [HT.out]; exact hkl) (by rw [HT.out, HLL.out])] at hset
      obtain ⟨p, hp⟩ : ∃ p, p = L.getD k 0 := ⟨_, rfl⟩
      obtain ⟨m, hm⟩ : ∃ m, m = T.getD k 0 := ⟨_, rfl⟩
      rw [← hp] at c1 g1 g2 g3
      rw [← hm] at g1 hset
      obtain ⟨q, hq⟩ : ∃ q, q = p - 1 := ⟨_, rfl⟩
      have e1 : (p : Int) - 1 = (q : Int) := by omega
      have e2 : (p : Int) - (q : Int) / 8 = (m : Int) := by omega
      have q0 : (0 : Int) ≤ (q : Int) := by omega
      have q1 : (q : Int) < 64 := by omega
      have f1 := hB.frozen k
      have HSet := Lib.hid hset
      have HK3 := Lib.hid (hK.store b k (fun _ => only_self b) (.int .i64 (m : Int)))
      clear hB hK hp hm hq hset g1 hcur
      go_wp2_with fail
      go_roundw
      case rel => exact ⟨k + 1, by omega, by go_num, HSet.out, HK3.out⟩
      case measure => simp [intOf]; omega
    · have hkk : k = 56 := by omega
      subst hkk
      clear hK hB hkl hk
      go_wp2
      go_ret
      have h := HBr.out
      rw [List.take_of_length_le (by have := HT.out; omega), List.drop_eq_nil_of_le (by have := HLL.out; omega), List.append_nil] at h
      have hk2 := HK1.out.trans' HK.out (fun i hi h1 => by unfold only at hi; exact absurd (hi ▸ h1) HNb.out)
      refine ⟨_, rfl, ?_, hk2⟩
      rw [HT.out]
      exact h.rowOf HT.out (by omega) (by omega)
set_option maxRecDepth 100000 in
set_option maxHeartbeats 2000000 in
theorem inverse_any (F : Nat → Prop) (x : Value) (w : World) (hr : Row w F 1 x 64 (ints Pure.desIp)) (hF : ∀ b, F b → b < w.heap.size) :
    Calls Try.prog 17 #[x] w fun e w' => ∃ u, e = .returned u ∧ Row w' (fun _ => True) 1 u 64 (ints (Pure.backs 64)) ∧ Keeps nobody w w' := by
  obtain ⟨A, cA, rfl, hc⟩ := hr.form
  have HR := Lib.hid hr
  have HF := Lib.hid hF
  clear hr hF
  obtain ⟨h, hh⟩ : ∃ h, h = w.heap.size := ⟨_, rfl⟩
  have HH := Lib.hid hh
  go_enter Try.func17, Try.ntmps17
  go_wp2_with (at_make; refine stopHere ?_)
  unfold Hid
  refine wpList_make_ints rfl _ _ rfl 64 .i64 .i64 rfl rfl (by omega) ?_
  rw [← hh]
  intro w1 hb1 hk1 hz1
  have HB1 := Lib.hid hb1
  have HK1 := Lib.hid hk1
  have HR1 := Lib.hid (HR.out.keeps hk1 (fun _ _ h => h))
  clear hb1 hk1 hz1 hh
  go_wp2_with fail
  go_loopw [11] (fun i wr => ∃ k : Nat, k ≤ 64 ∧ i = .int .i64 (k : Int) ∧ Blk wr h 3 (ints (Pure.backs k)).toArray ∧ Keeps (only h) w1 wr) (fun i _ => 64 - (intOf i).toNat)
  case atStart => exact ⟨0, by omega, rfl, HB1.out, Keeps.refl _ _⟩
  case round =>
    obtain ⟨k, hk, rfl, hB, hK⟩ := hrel
    have HB := Lib.hid hB
    have HK := Lib.hid hK
    by_cases hkl : k < 64
    · have hi0 : (0 : Int) ≤ (k : Int) := by omega
      have hi1 : (k : Int) < 64 := by omega
      obtain ⟨bx, ox, rfl, _, hcx⟩ := (HR1.out.keeps hK (fun b hb e => by have := HF.out b hb; have := HH.out; unfold only at e; omega)).cellAt (by omega)
      have cx := hcx k _ (ints_at Pure.desIp k (by rw [Pure.ip_length]; exact hkl))
      have hp0 : 1 ≤ Pure.desIp.getD k 0 ∧ Pure.desIp.getD k 0 ≤ 64 := ip_within k hkl
      obtain ⟨p, hp⟩ : ∃ p, p = Pure.desIp.getD k 0 := ⟨_, rfl⟩
      rw [← hp] at cx hp0
      obtain ⟨q, hq⟩ : ∃ q, q = p - 1 := ⟨_, rfl⟩
      have e1 : (p : Int) - 1 = (q : Int) := by omega
      obtain ⟨m, hm⟩ : ∃ m, m = k + 1 := ⟨_, rfl⟩
      have e2 : (k : Int) + 1 = (m : Int) := by omega
      have q0 : (0 : Int) ≤ (q : Int) := by omega
      have q1 : (q : Int) < 64 := by omega
      have c1 := hB.int q (by rw [Pure.backs_length]; omega)
      have f1 := hB.frozen q
      have hset := hB.set q (.int .i64 (m : Int))
      rw [ints_put] at hset
      have eb : (Pure.backs k).set q m = Pure.backs m := by rw [hm, hq, hp]; rfl
      rw [eb] at hset
      have HSet := Lib.hid hset
      have HK3 := Lib.hid (hK.store h q (fun _ => only_self h) (.int .i64 (m : Int)))
      have HM := Lib.hid hm
      clear hB hK hcx hp hq hset hp0 eb hm
      go_wp2_with fail
      go_roundw
      case rel => exact ⟨m, by have := HM.out; omega, rfl, HSet.out, HK3.out⟩
      case measure => have := HM.out; simp [intOf]; omega
    · have hkk : k = 64 := by omega
      subst hkk
      clear hK hB hkl hk
      go_wp2
      go_ret
      exact ⟨_, rfl, HB.out.rowOf (Pure.backs_length 64) (by omega) (by omega), HK1.out.trans' HK.out (fun i hi h1 => by have := HH.out; unfold only at hi; omega)⟩
end Go.Proofs.Ytmelphlgpnmopaa
