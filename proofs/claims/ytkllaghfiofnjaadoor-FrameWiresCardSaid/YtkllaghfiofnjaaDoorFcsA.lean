/- Contracts of package fcs: the sums. -/
import Derived.Test.YtkllaghfiofnjaaDoorBase
import Derived.Test.YtkllaghfiofnjaaDoorFcsPure
import Derived.Laws.BitsAllLaws
namespace Go.Proofs.YtkllaghfiofnjaaDoor
open Go.RowKit

set_option maxHeartbeats 1000000 in
theorem sum16_any (F : Nat → Prop) (x : Value) (bs : List UInt8) (w : World) (hr : Row w F 1 x bs.length (u8s bs)) :
    Calls Tryd.prog 75 #[x, .int .u16 33800] w fun e w' => e = .returned (.int .u16 (Pure.crc 33800 65535 bs)) ∧ w = w' := by
  obtain ⟨A, c, rfl, hc⟩ := hr.form
  have hm := hr.2.1
  unfold maxLen at hm
  have HR := Lib.hid hr
  clear hr
  go_enter Tryd.func75, Tryd.ntmps75
  go_wp2_with fail
  go_loop [5, 13] (fun r i => ∃ k : Nat, k ≤ bs.length ∧ i = .int .i64 k ∧ r = .int .u16 (Pure.reg 33800 65535 (bs.take k))) (fun _ i => bs.length - (intOf i).toNat)
  case atStart => exact ⟨0, by omega, rfl, by simp [Pure.reg]; rfl⟩
  case round =>
    obtain ⟨k, hk, rfl, rfl⟩ := hrel
    obtain ⟨R, hR⟩ : ∃ R, R = Pure.reg 33800 65535 (bs.take k) := ⟨_, rfl⟩
    have hRlt : R < 65536 := by rw [hR]; exact Pure.reg_lt (W := 16) (by omega) (by decide) _ _ (by decide)
    rw [← hR]
    have HRR := Lib.hid hR
    clear hR
    by_cases hlt : k < bs.length
    · obtain ⟨b, off, rfl, _, hcell⟩ := HR.out.cellAt (by omega)
      have cb := hcell k _ (u8s_at bs k hlt)
      obtain ⟨B, hB⟩ : ∃ B : Nat, B = (bs.getD k 0).toNat := ⟨_, rfl⟩
      have hB2 : B < 256 := by rw [hB]; exact (bs.getD k 0).toNat_lt
      rw [← hB] at cb
      have HBB := Lib.hid hB
      have hi0 : (0 : Int) ≤ (k : Int) := by omega
      have hi1 : (k : Int) < (bs.length : Int) := by omega
      have hx1 := u16_xor_nat R B hRlt (by omega)
      have hsx : R ^^^ B < 65536 := Nat.xor_lt_two_pow (n := 16) hRlt (by omega)
      obtain ⟨S, hS⟩ : ∃ S, S = R ^^^ B := ⟨_, rfl⟩
      rw [← hS] at hx1 hsx
      have HS := Lib.hid hS
      clear hB hcell hS
      go_wp2_with fail
      clear hx1
      go_loop [5, 21] (fun r i => ∃ m : Nat, m ≤ 8 ∧ i = .int .i64 m ∧ r = .int .u16 (Pure.steps 33800 m S)) (fun _ i => 8 - (intOf i).toNat)
      case atStart => exact ⟨0, by omega, rfl, rfl⟩
      case round =>
        obtain ⟨m, hm8, rfl, rfl⟩ := hrel
        obtain ⟨T, hT⟩ : ∃ T, T = Pure.steps 33800 m S := ⟨_, rfl⟩
        have hTlt : T < 65536 := by rw [hT]; exact Pure.steps_lt (W := 16) (by decide) hsx m
        have hT1 : Pure.steps 33800 (m + 1) S = Pure.step 33800 T := by rw [hT]; rfl
        rw [← hT]
        have HT := Lib.hid hT1
        have HTT := Lib.hid hT
        clear hT hT1
        by_cases hm8' : m < 8
        · have ha : bits .and .u16 (T : Int) 1 = ((T % 2 : Nat) : Int) := by
            have := u16_and_nat T 1 hTlt (by omega)
            rwa [nat_mask1] at this
          by_cases hp : T % 2 = 1
          · rw [hp] at ha
            have hx2 : bits .xor .u16 ((T : Int) / 2) 33800 = ((T / 2 ^^^ 33800 : Nat) : Int) := by
              have := u16_xor_nat (T / 2) 33800 (by omega) (by omega)
              simpa using this
            have hst : Pure.step 33800 T = T / 2 ^^^ 33800 := by unfold Pure.step; rw [if_pos hp]
            rw [hst] at HT
            clear hp hst
            go_wp2
            go_round
            case rel => exact ⟨m + 1, by omega, by go_num, by rw [HT.out]⟩
            case measure => simp [intOf]; omega
          · have hp0 : T % 2 = 0 := by omega
            rw [hp0] at ha
            have hst : Pure.step 33800 T = T / 2 := by unfold Pure.step; rw [if_neg (by omega)]
            rw [hst] at HT
            clear hp hp0 hst
            go_wp2
            go_round
            case rel => exact ⟨m + 1, by omega, by go_num, by rw [HT.out]; rfl⟩
            case measure => simp [intOf]; omega
        · obtain rfl : m = 8 := by omega
          go_wp2
          go_round
          case rel =>
            refine ⟨k + 1, by omega, by go_num, ?_⟩
            rw [List.take_succ_eq_append_getElem hlt, Pure.reg_snoc, ← HRR.out]
            have e : bs[k].toNat = B := by
              have := HBB.out
              rw [List.getD_eq_getElem?_getD, List.getElem?_eq_getElem hlt] at this
              exact this.symm
            rw [e]
            unfold Pure.feed
            rw [← HS.out, ← HTT.out]
          case measure => simp [intOf]; omega
    · have hk' : k = bs.length := by omega
      have hfin : bits .xor .u16 IntKind.u16.max (R : Int) = ((R ^^^ 65535 : Nat) : Int) := by
        have := u16_xor_nat 65535 R (by omega) hRlt
        rw [Nat.xor_comm] at this
        exact this
      have hcrc : R ^^^ 65535 = Pure.crc 33800 65535 bs := by
        rw [HRR.out, hk', List.take_length]
        rfl
      rw [hcrc] at hfin
      have HF := Lib.hid hfin
      clear hfin hcrc hk'
      go_wp2
      go_ret
      exact ⟨by rw [HF.out]; rfl, rfl⟩

end Go.Proofs.YtkllaghfiofnjaaDoor
