/- The document's Xor of a term. -/
import Derived.Test.YtkfcdeeohhghhaaRc4F
namespace Go.Proofs.Ytkfcdeeohhghhaa
open Go.RowKit

theorem and255 (x : Nat) (h : x < 9223372036854775808) : bits .and .i64 (x : Int) 255 = ((x % 256 : Nat) : Int) := by
  have := i64_and_nat x 255 h (by omega)
  rw [show x &&& 255 = x % 256 from Nat.and_two_pow_sub_one_eq_mod x 8] at this
  exact this
theorem docterm_int (id k : Nat) : (31 * ((id % 256 : Nat) : Int) + 7 * ((k % 256 : Nat) : Int) + (k : Int) / 256) % 256 = (((Pure.termByte id k).toNat : Nat) : Int) := by
  unfold Pure.termByte
  rw [UInt8.toNat_ofNat']
  omega

set_option maxRecDepth 100000 in
set_option maxHeartbeats 4000000 in
theorem docxor_term (A : Option Addr) (len cap : Nat) (g id n : Nat) (w : World) (ho : DTObj w g id n) (h1 : id < 1024) (h2 : n + len < 1000000000) :
    Calls Try.prog 17 #[.pointer (some ⟨g, 0, none⟩), .slice A len cap] w fun e w' => ∃ u, e = .returned u ∧ w'.ownsRow w.heap.size 5 1 u len (u8s (Pure.term id n len)) ∧ DTObj w' g id (n + len) ∧ Keeps (only g) w w' := by
  have HO := Lib.hid ho
  have hglt := ho.lt
  clear ho
  go_enter Try.func17, Try.ntmps17
  go_wp2_with fail
  go_loopw [5, 6] (fun u i wr => ∃ k : Nat, k ≤ len ∧ i = .int .i64 k ∧ wr.ownsRow w.heap.size 5 1 u (Pure.term id n k).length (u8s (Pure.term id n k)) ∧ DTObj wr g id (n + k) ∧ Keeps (only g) w wr) (fun _ i _ => len - (intOf i).toNat)
  case atStart => exact ⟨0, by omega, rfl, ⟨by simp, .inl ⟨rfl, rfl⟩⟩, HO.out, Keeps.refl _ w⟩
  case round =>
    clear HO
    obtain ⟨k, hk, rfl, hW, hO, hK⟩ := hrel
    have HW := Lib.hid hW
    have HO := Lib.hid hO
    have HK := Lib.hid hK
    by_cases hkl : k < len
    · have hi0 : (0 : Int) ≤ (k : Int) := by omega
      have hi1 : (k : Int) < (len : Int) := by omega
      obtain ⟨M, hM⟩ : ∃ M, M = n + k := ⟨_, rfl⟩
      have hM2 : M < 1000000000 := by omega
      rw [← hM] at hO
      have HOM := Lib.hid hO
      have c258 : wr.cell? ⟨g, 258, none⟩ = some (.int .i64 M) := by rw [hO.blk.cell]; exact mc_tail zero256_length 2
      have c259 : wr.cell? ⟨g, 259, none⟩ = some (.bool true) := by rw [hO.blk.cell]; exact mc_tail zero256_length 3
      have c260 : wr.cell? ⟨g, 260, none⟩ = some (.int .i64 id) := by rw [hO.blk.cell]; exact mc_tail zero256_length 4
      have a1 := and255 id (by omega)
      have a2 := and255 M (by omega)
      have HT := Lib.hid (docterm_int id M)
      obtain ⟨B, hB⟩ : ∃ B, B = Pure.termByte id M := ⟨_, rfl⟩
      rw [← hB] at HT
      obtain ⟨I2, hI2⟩ : ∃ I2 : Nat, I2 = id % 256 := ⟨_, rfl⟩
      obtain ⟨M2, hM3⟩ : ∃ M2 : Nat, M2 = M % 256 := ⟨_, rfl⟩
      have hI3 : I2 < 256 := by omega
      have hM4 : M2 < 256 := by omega
      rw [← hI2] at a1 HT
      rw [← hM3] at a2 HT
      have HMM := Lib.hid hM
      have HBB := Lib.hid hB
      clear hW hO hK hM hB hI2 hM3
      go_upto_region 6 with fail
      go_quiet (fail)
      obtain ⟨wq, hwq⟩ : ∃ wq, wq = wr.drewN nq := ⟨_, rfl⟩
      rw [← hwq]
      have hkq : Keeps nobody wr wq := by rw [hwq]; exact (Keeps.refl _ wr).drewN nq
      have HW2 := Lib.hid (ownsRow_keeps HW.out hkq (fun _ _ h => h))
      have HO2 := Lib.hid (HOM.out.keeps hkq (fun h => h))
      have HK2 := Lib.hid (HK.out.trans' hkq (fun _ h _ => h.elim))
      have hsz := HK2.out.size
      clear hwq hkq c258 c259 c260 a1 a2 HW HO HK HOM
      go_wp2_with (at_builtin; refine stopHere ?_)
      unfold Hid
      rw [HT.out]
      refine wp_append_u8 rfl (.tmp 38) (.tmp 41) rfl w.heap.size _ _ (Pure.term id n k) rfl rfl (HW2.out.alloc _) _ _ [B] rfl (row_new wq [B] #[.int .u8 B.toNat] 1 rfl rfl (by simp)) (by simp [Pure.term_length]; omega) (by simp; omega) ?_
      intro v3 w3 hown3 hg3 hat3
      have e3 : Pure.term id n k ++ [B] = Pure.term id n (k + 1) := by rw [HBB.out, HMM.out, Pure.term_succ]
      rw [e3] at hown3
      have hne : u5.ownBlock ≠ some g := by
        intro e
        have := ownsRow_ge HW2.out g e
        omega
      have hka : Keeps nobody wq (wq.alloc (.cells #[.int .u8 B.toNat] 5)) := (Keeps.refl _ wq).alloc _
      have hb3 := (HO2.out.keeps hka (fun h => h)).blk.grown hg3 (fun e => hne e.symm)
      have hK3 : Keeps (only g) w w3 := (HK2.out.trans' hka (fun _ h _ => h.elim)).grown hg3 (fun q hq hlt => by have := ownsRow_ge HW2.out q hq; omega)
      have c258 : w3.cell? ⟨g, 258, none⟩ = some (.int .i64 M) := by rw [hb3.cell]; exact mc_tail zero256_length 2
      have f258 := hb3.frozen 258
      have HB3 := Lib.hid hb3
      have HK3 := Lib.hid hK3
      have HW3 := Lib.hid hown3
      have hg4 : v3.ownBlock ≠ some g := by
        intro e
        have := ownsRow_ge hown3 g e
        omega
      have HG4 := Lib.hid hg4
      clear hown3 hg3 hat3 e3 hka hb3 hK3 HW2 HO2 HK2 hne hg4
      go_wp2
      go_roundw
      case rel =>
        refine ⟨k + 1, by omega, by go_num, own_store HW3.out HG4.out, ⟨?_⟩, HK3.out.store _ _ (fun _ => only_self _) _⟩
        have h := HB3.out.set 258 (.int .i64 ((M : Int) + 1))
        rw [mc_set_n zero256_length] at h
        have e : ((n + (k + 1) : Nat) : Int) = (M : Int) + 1 := by rw [HMM.out]; omega
        rw [e]
        exact h
      case measure => simp [intOf]; omega
    · obtain rfl : k = len := by omega
      have hl := Pure.term_length id n k
      rw [hl] at HW
      clear hW hO hK hl
      go_wp2
      go_ret
      exact ⟨_, rfl, HW.out, HO.out, HK.out⟩
end Go.Proofs.Ytkfcdeeohhghhaa
