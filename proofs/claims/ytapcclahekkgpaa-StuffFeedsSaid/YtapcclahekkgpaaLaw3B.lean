/- The walk of the law StuffLengths. -/
import Derived.Test.YtapcclahekkgpaaLaw3A
namespace Go.Proofs.Ytapcclahekkgpaa
open Go.RowKit

theorem count_take (p : UInt8 → Bool) (b : List UInt8) (k : Nat) (h : k < b.length) : (b.take (k + 1)).countP p = (b.take k).countP p + if p (b.getD k 0) then 1 else 0 := by
  rw [List.take_succ_eq_append_getElem h, List.countP_append, List.getD_eq_getElem?_getD, List.getElem?_eq_getElem h]
  simp
theorem stuff_last (m : Nat) (b : List UInt8) (p : Nat) (h : (Pure.stuff m b).length = p + 1) : (u8s (Pure.stuff m b))[p]? = some (.int .u8 126) := by
  have e : Pure.stuff m b = (126 :: Pure.body m b) ++ [126] := rfl
  rw [e] at h ⊢
  have : p = (126 :: Pure.body m b).length := by simp at h ⊢; omega
  subst this
  rw [List.getElem?_map, List.getElem?_append_right (Nat.le_refl _)]
  simp

/-- How a byte is found to be escaped. -/
theorem esc_ways (m : Nat) (x : UInt8) (X : Nat) (hX : X = x.toNat) (hm : m < 4294967296) :
    (Pure.escd m x = true ∧ (X : Int) = 125) ∨ (Pure.escd m x = true ∧ ¬ (X : Int) = 125 ∧ (X : Int) = 126) ∨
    (Pure.escd m x = true ∧ ¬ (X : Int) = 125 ∧ ¬ (X : Int) = 126 ∧ (X : Int) < 32 ∧ bits .and .u32 ((m : Int) / 2 ^ X) 1 = 1) ∨
    (Pure.escd m x = false ∧ ¬ (X : Int) = 125 ∧ ¬ (X : Int) = 126 ∧ (X : Int) < 32 ∧ bits .and .u32 ((m : Int) / 2 ^ X) 1 = 0) ∨
    (Pure.escd m x = false ∧ ¬ (X : Int) = 125 ∧ ¬ (X : Int) = 126 ∧ ¬ (X : Int) < 32) := by
  have ha := and1_u32 m X hm
  unfold Pure.escd Pure.mapd
  rw [← hX]
  by_cases h1 : X = 125
  · exact .inl ⟨by simp [h1], by omega⟩
  · by_cases h2 : X = 126
    · exact .inr (.inl ⟨by simp [h2], by omega, by omega⟩)
    · by_cases h3 : X < 32
      · cases hb : m.testBit X
        · rw [hb] at ha
          exact .inr (.inr (.inr (.inl ⟨by simp [h1, h2], by omega, by omega, by omega, ha⟩)))
        · rw [hb] at ha
          exact .inr (.inr (.inl ⟨by simp [h3], by omega, by omega, by omega, ha⟩))
      · exact .inr (.inr (.inr (.inr ⟨by simp [h1, h2, h3], by omega, by omega, by omega⟩)))

set_option maxRecDepth 100000 in
set_option maxHeartbeats 2000000 in
theorem stuffLengths_walk (a0 : Option Addr) (len0 cap0 : Nat) (z0 : List Int) (a1 : Int) (w : World) (w0 : IsRow .u8 w a0 len0 cap0 z0) (w1 : (Lit.int .u32 a1).wf = true) :
    Calls Try.prog 7 #[.slice a0 len0 cap0, .int .u32 a1] w fun e w' => e = .returned (.bool true) ∧ Below w.heap.size w w' := by
  obtain ⟨bs, hbl, hr⟩ := w0.bytes
  obtain ⟨m, rfl⟩ : ∃ m : Nat, a1 = m := ⟨a1.toNat, by have := u32_of_wf w1; omega⟩
  have hm : m < 4294967296 := by have := u32_of_wf w1; omega
  rw [← hbl] at hr ⊢
  have hmax := hr.2.1
  unfold maxLen at hmax
  have HR := Lib.hid hr
  have HA := Lib.hid (awake_any w)
  clear hr w0 hbl w1
  go_enter Try.func7, Try.ntmps7
  go_wp2_with fail
  refine HA.out.mono ?_
  rintro e wa ⟨rfl, hba⟩
  have BA := Lib.hid hba
  have HRA := Lib.hid (HR.out.keeps (Keeps.new hba) (fun _ _ h => h))
  clear hba HR HA
  by_cases hbig : 3000 < bs.length
  · have hc : (bs.length : Int) > 3000 := by omega
    go_wp2_with fail
    go_ret
    exact ⟨rfl, BA.out⟩
  · have hc : ¬ (bs.length : Int) > 3000 := by omega
    go_wp2_with fail
    go_loopw [5, 6] (fun n i wr => ∃ k : Nat, k ≤ bs.length ∧ i = .int .i64 k ∧ wa = wr ∧ ∃ q : Nat, n = .int .i64 q ∧ q = bs.length + 2 + (bs.take k).countP (Pure.escd m)) (fun _ i _ => bs.length - (intOf i).toNat)
    case atStart => exact ⟨0, by omega, rfl, rfl, bs.length + 2, by simp, by simp⟩
    case round =>
      obtain ⟨k, hk, rfl, rfl, q, rfl, hq⟩ := hrel
      have hcl := List.countP_le_length (p := Pure.escd m) (l := bs.take k)
      rw [List.length_take] at hcl
      have hq2 : q ≤ 10000 := by omega
      have HQ := Lib.hid hq
      clear hcl hq
      by_cases hlt : k < bs.length
      · obtain ⟨b, off, rfl, hbF, hcell⟩ := HRA.out.cellAt (by omega)
        have cb := hcell k _ (u8s_at bs k hlt)
        obtain ⟨x, hx⟩ : ∃ x, x = bs.getD k 0 := ⟨_, rfl⟩
        have hC := count_take (Pure.escd m) bs k hlt
        rw [← hx] at cb hC
        obtain ⟨X, hX⟩ : ∃ X, X = x.toNat := ⟨_, rfl⟩
        have hX2 : X < 256 := by rw [hX]; exact x.toNat_lt
        have hways := esc_ways m x X hX hm
        rw [← hX] at cb
        have hw : IntKind.u64.wrap (X : Int) = (X : Int) := by simp [IntKind.wrap, IntKind.bits, IntKind.signed]; omega
        have hi0 : (0 : Int) ≤ (k : Int) := by omega
        have hi1 : (k : Int) < (bs.length : Int) := by omega
        have HC := Lib.hid hC
        clear hcell hx hX hC
        rcases hways with ⟨he, h1⟩ | ⟨he, h1, h2⟩ | ⟨he, h1, h2, h3, h4⟩ | ⟨he, h1, h2, h3, h4⟩ | ⟨he, h1, h2, h3⟩
        · rw [he] at HC
          clear he
          go_wp2
          go_roundw
          case rel => exact ⟨k + 1, by omega, by go_num, by first | rfl | trivial, q + 1, by go_num, by rw [HC.out, HQ.out]; rfl⟩
          case measure => simp [intOf]; omega
        · rw [he] at HC
          clear he
          go_wp2
          go_roundw
          case rel => exact ⟨k + 1, by omega, by go_num, by first | rfl | trivial, q + 1, by go_num, by rw [HC.out, HQ.out]; rfl⟩
          case measure => simp [intOf]; omega
        · rw [he] at HC
          clear he
          go_wp2
          go_roundw
          case rel => exact ⟨k + 1, by omega, by go_num, by first | rfl | trivial, q + 1, by go_num, by rw [HC.out, HQ.out]; rfl⟩
          case measure => simp [intOf]; omega
        · rw [he] at HC
          have g1 : ((X : Int) == 125) = false := by rw [beq_eq_false_iff_ne]; exact h1
          have g2 : ((X : Int) == 126) = false := by rw [beq_eq_false_iff_ne]; exact h2
          clear he
          go_wp2
          go_roundw
          case rel => exact ⟨k + 1, by omega, by go_num, by first | rfl | trivial, q, rfl, by rw [HC.out, HQ.out]; rfl⟩
          case measure => simp [intOf]; omega
        · rw [he] at HC
          have g1 : ((X : Int) == 125) = false := by rw [beq_eq_false_iff_ne]; exact h1
          have g2 : ((X : Int) == 126) = false := by rw [beq_eq_false_iff_ne]; exact h2
          clear he
          go_wp2
          go_roundw
          case rel => exact ⟨k + 1, by omega, by go_num, by first | rfl | trivial, q, rfl, by rw [HC.out, HQ.out]; rfl⟩
          case measure => simp [intOf]; omega
      · have hk' : k = bs.length := by omega
        have hL : (Pure.stuff m bs).length = q := by
          rw [HQ.out, Pure.stuff_length, hk', List.take_length]; omega
        have HL := Lib.hid hL
        have HS := Lib.hid (stuff_any _ _ bs m wa HRA.out (by omega) hm)
        clear hL hk'
        go_wp2_with fail
        refine HS.out.mono ?_
        rintro e w2 ⟨u, rfl, hu, hb2⟩
        obtain ⟨A, c, rfl⟩ := own_form hu
        rw [HL.out] at hu ⊢
        have hq1 : 2 ≤ q := by rw [HQ.out]; omega
        obtain ⟨p, rfl⟩ : ∃ p, q = p + 1 := ⟨q - 1, by omega⟩
        obtain ⟨b, rfl, _, hcell⟩ := own_cell hu (by omega)
        have c1 : w2.cell? ⟨b, 0, none⟩ = some (.int .u8 126) := hcell 0 _ rfl
        have c2 := hcell p _ (stuff_last m bs p HL.out)
        have B2 := Lib.hid (BA.out.trans (hb2.mono BA.out.size))
        clear hu hb2 hcell HS
        go_wp2
        go_ret
        exact ⟨rfl, B2.out⟩
end Go.Proofs.Ytapcclahekkgpaa
