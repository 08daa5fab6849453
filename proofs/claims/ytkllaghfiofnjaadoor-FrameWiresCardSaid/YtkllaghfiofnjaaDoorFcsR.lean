/- Contracts of the document's own sums: Copy, sum, Sum16, Sum32. -/
import Derived.Test.YtkllaghfiofnjaaDoorFcsD
import Derived.Test.YtkllaghfiofnjaaDoorCopy
namespace Go.Proofs.YtkllaghfiofnjaaDoor
open Go.RowKit

set_option maxHeartbeats 1000000 in
theorem refsum_any (F : Nat → Prop) (x : Value) (bs : List UInt8) (ones P : Nat) (w : World) (hr : Row w F 1 x bs.length (u8s bs)) (ho : ones < 4294967296) (hP : P < 4294967296) :
    Calls Tryd.prog 76 #[x, .int .u32 ones, .int .u32 P] w fun e w' => e = .returned (.int .u32 (Pure.crc P ones bs)) ∧ w = w' := by
  obtain ⟨A, c, rfl, hc⟩ := hr.form
  have hm := hr.2.1
  unfold maxLen at hm
  have HR := Lib.hid hr
  clear hr
  go_enter Tryd.func76, Tryd.ntmps76
  go_wp2_with fail
  go_loop [7, 8] (fun r i => ∃ k : Nat, k ≤ bs.length ∧ i = .int .i64 k ∧ r = .int .u32 (Pure.reg P ones (bs.take k))) (fun _ i => bs.length - (intOf i).toNat)
  case atStart => exact ⟨0, by omega, rfl, by simp [Pure.reg]⟩
  case round =>
    obtain ⟨k, hk, rfl, rfl⟩ := hrel
    obtain ⟨R, hR⟩ : ∃ R, R = Pure.reg P ones (bs.take k) := ⟨_, rfl⟩
    have hRlt : R < 4294967296 := by rw [hR]; exact Pure.reg_lt (W := 32) (by omega) hP _ _ ho
    rw [← hR]
    have HRR := Lib.hid hR
    clear hR
    by_cases hlt : k < bs.length
    · obtain ⟨b, off, rfl, _, hcell⟩ := HR.out.cellAt (by omega)
      have cb := hcell k _ (u8s_at bs k hlt)
      obtain ⟨B, hB⟩ : ∃ B : Nat, B = (bs.getD k 0).toNat := ⟨_, rfl⟩
      have hB2 : B < 256 := by rw [hB]; exact (bs.getD k 0).toNat_lt
      rw [← hB] at cb
      have HBB := Lib.hid hB
      have hi0 : (0 : Int) ≤ (k : Int) := by omega
      have hi1 : (k : Int) < (bs.length : Int) := by omega
      have hx1 := u32_xor_nat R B hRlt (by omega)
      have hsx : R ^^^ B < 4294967296 := Nat.xor_lt_two_pow (n := 32) hRlt (by omega)
      obtain ⟨S, hS⟩ : ∃ S, S = R ^^^ B := ⟨_, rfl⟩
      rw [← hS] at hx1 hsx
      have HS := Lib.hid hS
      clear hB hcell hS
      go_wp2_with fail
      clear hx1
      go_loop [7, 9] (fun r i => ∃ m : Nat, m ≤ 8 ∧ i = .int .i64 m ∧ r = .int .u32 (Pure.steps P m S)) (fun _ i => 8 - (intOf i).toNat)
      case atStart => exact ⟨0, by omega, rfl, rfl⟩
      case round =>
        obtain ⟨m, hm8, rfl, rfl⟩ := hrel
        obtain ⟨T, hT⟩ : ∃ T, T = Pure.steps P m S := ⟨_, rfl⟩
        have hTlt : T < 4294967296 := by rw [hT]; exact Pure.steps_lt (W := 32) hP hsx m
        have hT1 : Pure.steps P (m + 1) S = Pure.step P T := by rw [hT]; rfl
        rw [← hT]
        have HT := Lib.hid hT1
        have HTT := Lib.hid hT
        clear hT hT1
        by_cases hm8' : m < 8
        · have ha : bits .and .u32 (T : Int) 1 = ((T % 2 : Nat) : Int) := by
            have := u32_and_nat T 1 hTlt (by omega)
            rwa [nat_mask1] at this
          by_cases hp : T % 2 = 1
          · rw [hp] at ha
            have hx2 : bits .xor .u32 ((T : Int) / 2) (P : Int) = ((T / 2 ^^^ P : Nat) : Int) := by
              have := u32_xor_nat (T / 2) P (by omega) (by omega)
              simpa using this
            have hst : Pure.step P T = T / 2 ^^^ P := by unfold Pure.step; rw [if_pos hp]
            rw [hst] at HT
            clear hp hst
            go_wp2
            go_round
            case rel => exact ⟨m + 1, by omega, by go_num, by rw [HT.out]⟩
            case measure => simp [intOf]; omega
          · have hp0 : T % 2 = 0 := by omega
            rw [hp0] at ha
            have hst : Pure.step P T = T / 2 := by unfold Pure.step; rw [if_neg (by omega)]
            rw [hst] at HT
            clear hp hp0 hst
            go_wp2
            go_round
            case rel => exact ⟨m + 1, by omega, by go_num, by rw [HT.out]; rfl⟩
            case measure => simp [intOf]; omega
        · obtain rfl : m = 8 := by omega
          go_wp2
          go_round
          case rel =>
            refine ⟨k + 1, by omega, by go_num, ?_⟩
            rw [List.take_succ_eq_append_getElem hlt, Pure.reg_snoc, ← HRR.out]
            have e : bs[k].toNat = B := by
              have := HBB.out
              rw [List.getD_eq_getElem?_getD, List.getElem?_eq_getElem hlt] at this
              exact this.symm
            rw [e]
            unfold Pure.feed
            rw [← HS.out, ← HTT.out]
          case measure => simp [intOf]; omega
    · have hk' : k = bs.length := by omega
      have hfin := u32_xor_nat R ones hRlt ho
      have hcrc : R ^^^ ones = Pure.crc P ones bs := by
        rw [HRR.out, hk', List.take_length]
        rfl
      rw [hcrc] at hfin
      have HF := Lib.hid hfin
      clear hfin hcrc hk'
      go_wp2
      go_ret
      exact ⟨by rw [HF.out]; rfl, rfl⟩

theorem refSum16_any (F : Nat → Prop) (x : Value) (bs : List UInt8) (w : World) (hr : Row w F 1 x bs.length (u8s bs)) :
    Calls Tryd.prog 63 #[x] w fun e w' => e = .returned (.int .u16 (Pure.crc16 bs)) ∧ w = w' := by
  have HS := Lib.hid (refsum_any F x bs 65535 33800 w hr (by omega) (by omega))
  obtain ⟨A, c, rfl, hc⟩ := hr.form
  have hlt : Pure.crc16 bs < 65536 := Pure.crc_lt (W := 16) (by omega) (by decide) (by decide) bs
  clear hr
  go_enter Tryd.func63, Tryd.ntmps63
  go_wp2_with fail
  refine HS.out.mono ?_
  rintro e w' ⟨rfl, rfl⟩
  rw [show Pure.crc 33800 65535 bs = Pure.crc16 bs from rfl]
  go_wp2
  go_ret
  exact ⟨rfl, rfl⟩
theorem le16_cells (s : Nat) (h : s < 65536) : u8s (Pure.le s 2) = [.int .u8 ((s : Int) % 256), .int .u8 ((s : Int) / 256)] := by
  simp [Pure.le, List.range_succ, UInt8.toNat_ofNat']
  omega

set_option maxHeartbeats 1000000 in
theorem refAdd16_any (F : Nat → Prop) (x : Value) (bs : List UInt8) (w : World) (hr : Row w F 1 x bs.length (u8s bs)) (hF : ∀ b, F b → b < w.heap.size) (hl : bs.length ≤ 100000000000000) :
    Calls Tryd.prog 42 #[x] w fun e w' => ∃ u, e = .returned u ∧ w'.ownsRow w.heap.size 5 1 u (Pure.add16 bs).length (u8s (Pure.add16 bs)) ∧ Below w.heap.size w w' := by
  have HS := Lib.hid (refSum16_any F x bs w hr)
  have HC := Lib.hid (copy_any F x bs w hr hF hl)
  obtain ⟨A, c, rfl, hc⟩ := hr.form
  have hlt : Pure.crc16 bs < 65536 := Pure.crc_lt (W := 16) (by omega) (by decide) (by decide) bs
  have hlen : (Pure.add16 bs).length = bs.length + 2 := by simp [Pure.add16, Pure.le]
  have hcel : u8s (Pure.add16 bs) = u8s bs ++ u8s (Pure.le (Pure.crc16 bs) 2) := by simp [Pure.add16]
  rw [le16_cells _ hlt] at hcel
  have HLEN := Lib.hid hlen
  have HCEL := Lib.hid hcel
  clear hr hF hlen hcel
  obtain ⟨s, hs⟩ : ∃ s, s = Pure.crc16 bs := ⟨_, rfl⟩
  rw [← hs] at hlt HCEL HS
  clear hs
  go_enter Tryd.func42, Tryd.ntmps42
  go_wp2_with fail
  refine HS.out.mono ?_
  rintro e w' ⟨rfl, rfl⟩
  go_wp2_with fail
  refine HC.out.mono ?_
  rintro e w1 ⟨u1, rfl, hown1, hb1⟩
  have O1 := Lib.hid hown1
  have B1 := Lib.hid hb1
  have hsz := hb1.size
  clear hown1 hb1
  obtain ⟨i0, hi0, hz0, hz1, hz2⟩ := info_parts u8_info
  go_wp2_with (at_builtin; refine stopHere ?_)
  unfold Hid
  refine wpList_append_row rfl (.tmp 7) (.tmp 13) _ rfl w.heap.size 5 i0 _ 1 1 Tryd.underlying25 hi0 hz0 hz1 hz2 rfl (by omega) u1 bs.length (u8s bs)
    rfl (O1.out.alloc _) (fun _ => True) _ 2 [.int .u8 ((s : Int) % 256), .int .u8 ((s : Int) / 256)] rfl (Row.block (Blk.new w1 5 #[.int .u8 ((s : Int) % 256), .int .u8 ((s : Int) / 256)]) trivial rfl (by simp [maxLen]) (Nat.le_refl _)) (by simp [Value.oneCell']) (by simp only [maxLen]; omega) (by omega) (by simp; omega) ?_
  intro v3 w3 hown3 hg3 hat3
  rw [← HCEL.out, ← HLEN.out] at hown3
  have O3 := Lib.hid hown3
  have B3 := Lib.hid (Below.grown (B1.out.alloc hsz (.cells #[.int .u8 ((s : Int) % 256), .int .u8 ((s : Int) / 256)] 5)) hg3 (by simp; omega) (fun q hq => (ownsRow_ge O1.out q hq)))
  clear hown3 hg3 hat3 hi0 hz0 hz1 hz2
  go_wp2
  go_ret
  exact ⟨_, rfl, O3.out, B3.out⟩

theorem ends16_iff (bs : List UInt8) (h : 2 ≤ bs.length) : Pure.ends16 bs = decide (Pure.add16 (bs.take (bs.length - 2)) = bs) := by
  unfold Pure.ends16 Pure.add16
  rw [decide_eq_true h, Bool.true_and]
  congr 1
  apply propext
  constructor
  · intro e
    rw [← e, List.take_append_drop]
  · intro e
    have h2 := congrArg (List.drop (bs.length - 2)) e
    rw [List.drop_left' (by simp)] at h2
    exact h2.symm

set_option maxHeartbeats 1000000 in
theorem refCheck16_any (F : Nat → Prop) (x : Value) (bs : List UInt8) (w : World) (hr : Row w F 1 x bs.length (u8s bs)) (hF : ∀ b, F b → b < w.heap.size) (hl : bs.length ≤ 100000000000000) :
    Calls Tryd.prog 44 #[x] w fun e w' => Below w.heap.size w w' ∧
      ((Pure.ends16 bs = false ∧ e = .returned (.tuple #[.slice none 0 0, .bool false])) ∨ (Pure.ends16 bs = true ∧ ∃ u, e = .returned (.tuple #[u, .bool true]) ∧
        w'.ownsRow w.heap.size 5 1 u (bs.length - 2) (u8s (bs.take (bs.length - 2))))) := by
  obtain ⟨A, c, rfl, hc⟩ := hr.form
  have HR := Lib.hid hr
  have HF := Lib.hid hF
  clear hr hF
  by_cases hs : bs.length < 2
  · have e : Pure.ends16 bs = false := by unfold Pure.ends16; simp; omega
    have E := Lib.hid e
    clear e
    have hneg : (bs.length : Int) - 2 < 0 := by omega
    go_enter Tryd.func44, Tryd.ntmps44
    go_wp2
    go_ret2
    exact ⟨Below.refl _ _, .inl ⟨E.out, rfl⟩⟩
  · have hn0 : (0 : Int) ≤ (bs.length : Int) - 2 := by omega
    have hnt : ((bs.length : Int) - 2).toNat = bs.length - 2 := by omega
    obtain ⟨b, off, rfl, hFb, hcell⟩ := HR.out.cellAt (by omega)
    have hrest := HR.out.take1 (bs.length - 2) (by omega)
    rw [← u8s_take] at hrest
    obtain ⟨R, hRR⟩ : ∃ R, R = bs.take (bs.length - 2) := ⟨_, rfl⟩
    have hRl : R.length = bs.length - 2 := by rw [hRR]; simp
    have hen := ends16_iff bs (by omega)
    rw [← hRR] at hrest hen ⊢
    rw [← hRl] at hrest
    have HRest := Lib.hid hrest
    have HRl := Lib.hid hRl
    have HEN := Lib.hid hen
    have hRle : R.length ≤ 100000000000000 := by omega
    have HA := Lib.hid (refAdd16_any F _ R w hrest HF.out hRle)
    clear hcell hrest hRR hen
    rw [hRl] at HA
    clear hRl
    go_enter Tryd.func44, Tryd.ntmps44
    go_wp2_with fail
    refine HA.out.mono ?_
    rintro e w1 ⟨u1, rfl, hown1, hb1⟩
    have O1 := Lib.hid hown1
    have B1 := Lib.hid hb1
    clear hown1 hb1 HA
    go_wp2_with fail
    refine (same_any _ F _ _ (Pure.add16 R) bs w1 (Row.of_own O1.out) (HR.out.keeps (Keeps.new B1.out) (fun _ _ h => h))).mono ?_
    rintro e w2 ⟨rfl, hk2⟩
    rw [← HEN.out]
    have B2 := Lib.hid (Below.quiet B1.out hk2 B1.out.size)
    clear hk2
    cases hc2 : Pure.ends16 bs
    · have HCC := Lib.hid hc2
      clear hc2
      go_wp2
      go_ret2
      exact ⟨B2.out, .inl ⟨HCC.out, rfl⟩⟩
    · have HCC := Lib.hid hc2
      clear hc2
      go_wp2_with fail
      have hr2 := HRest.out.keeps (Keeps.new B2.out) (fun _ _ h => h)
      refine (copy_any F (.slice (some ⟨b, off, none⟩) (bs.length - 2) c) R w2 (by rw [HRl.out] at hr2 ⊢; exact hr2) (fun q hq => Nat.lt_of_lt_of_le (HF.out q hq) B2.out.size) hRle).mono ?_
      rintro e w3 ⟨u3, rfl, hown3, hb3⟩
      have O3 := Lib.hid (ownsRow_base (base' := w.heap.size) hown3 (by have := B2.out.size; omega))
      have B3 := Lib.hid (B2.out.trans (hb3.mono B2.out.size))
      clear hown3 hb3 hr2
      go_wp2
      go_ret2
      exact ⟨B3.out, .inr ⟨HCC.out, u3, rfl, by rw [← HRl.out]; exact O3.out⟩⟩

end Go.Proofs.YtkllaghfiofnjaaDoor
