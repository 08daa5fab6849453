/- The walk of the law BitsTurned. -/
import Derived.Test.YtekocdiccfpkdaaLaw1A
import Derived.Test.YtekocdiccfpkdaaFrame
namespace Go.Proofs.Ytekocdiccfpkdaa
open Go.RowKit
namespace Pure
/-- A byte, its bits turned round. -/
def turn (B : UInt8) : UInt8 := UInt8.ofNat (num true (fun k => B.toNat.testBit k) 8 8)
theorem turn_toNat (B : UInt8) : (turn B).toNat = num true (fun k => B.toNat.testBit k) 8 8 := by
  unfold turn
  rw [UInt8.toNat_ofNat', Nat.mod_eq_of_lt (num_lt _ _ _ _)]
theorem turn_testBit (B : UInt8) (j : Nat) (h : j < 8) : (turn B).toNat.testBit j = B.toNat.testBit (7 - j) := by
  rw [turn_toNat, num_testBit]
  simp only [place, if_true]
  simp [h, show 7 - j < 8 by omega]
theorem turn_step (B k : Nat) (hk : k < 8) : num true (fun k => B.testBit k) 8 k ||| ((B >>> k) % 2) <<< (7 - k) = num true (fun k => B.testBit k) 8 (k + 1) := by
  have := num_step true (fun k => B.testBit k) 8 k 1 B (7 - k) (by omega) (by omega) (by omega) (fun i hi => by
    show B.testBit (k + i) = B.testBit (8 - 1 - (7 - k + i))
    congr 1
    omega)
  rw [show up true 8 (7 - k) 1 = k by unfold up; simp; omega, show up true 8 k 1 = 7 - k by unfold up; simp; omega] at this
  exact this
theorem bit_turn (bs : List UInt8) (i : Nat) (h : i < 8 * bs.length) : bit false (bs.map turn) i = bit true bs i := by
  unfold bit
  rw [List.getD_eq_getElem?_getD, List.getD_eq_getElem?_getD, List.getElem?_map, List.getElem?_eq_getElem (show i / 8 < bs.length by omega)]
  simp only [Option.map_some, Option.getD_some, place, Bool.false_eq_true, if_false, if_true]
  rw [turn_testBit _ _ (by omega)]
theorem peek_one (high : Bool) (bs : List UInt8) (i : Nat) (h : i < 8 * bs.length) : peek high bs i 1 = if bit high bs i then 1 else 0 := by
  unfold peek num natOf natOf
  have : place high 1 0 = 0 := by unfold place; split <;> rfl
  rw [this, Nat.min_eq_left (by omega)]
  simp
end Pure

theorem turn_go (X B m : Nat) (hX : X < 256) (hB : B < 256) (hm : m < 8) :
    bits .or .u8 (X : Int) (bits .and .u8 ((B : Int) / 2 ^ m) 1 * 2 ^ (7 - m) % 256) = ((X ||| (B >>> m % 2) <<< (7 - m) : Nat) : Int) := by
  have e1 : ((B : Int) / 2 ^ m) = ((B >>> m : Nat) : Int) := by rw [Nat.shiftRight_eq_div_pow]; simp
  have hle : B >>> m < 256 := Nat.lt_of_le_of_lt (by rw [Nat.shiftRight_eq_div_pow]; exact Nat.div_le_self _ _) hB
  have e2 : bits .and .u8 ((B : Int) / 2 ^ m) 1 = ((B >>> m % 2 : Nat) : Int) := by
    rw [e1]
    have := u8_and_nat (B >>> m) 1 hle (by omega)
    rw [nat_mask1] at this
    exact this
  have h2 : B >>> m % 2 < 2 := Nat.mod_lt _ (by omega)
  have hY : (B >>> m % 2) * 2 ^ (7 - m) < 256 := by
    calc (B >>> m % 2) * 2 ^ (7 - m) < 2 * 2 ^ (7 - m) := Nat.mul_lt_mul_of_pos_right h2 (Nat.two_pow_pos _)
      _ = 2 ^ (7 - m + 1) := by rw [Nat.pow_succ]; omega
      _ ≤ 2 ^ 8 := Nat.pow_le_pow_right (by omega) (by omega)
  have e3 : ((B >>> m % 2 : Nat) : Int) * 2 ^ (7 - m) % 256 = (((B >>> m % 2) <<< (7 - m) : Nat) : Int) := by
    rw [Nat.shiftLeft_eq]
    have : (((B >>> m % 2) * 2 ^ (7 - m) : Nat) : Int) = ((B >>> m % 2 : Nat) : Int) * 2 ^ (7 - m) := by simp
    omega
  rw [e2, e3]
  exact u8_or_nat _ _ hX (by rw [Nat.shiftLeft_eq]; exact hY)

set_option maxRecDepth 100000 in
set_option maxHeartbeats 4000000 in
theorem bitsTurned_walk (a0 : Option Addr) (len0 cap0 : Nat) (z0 : List Int) (w : World) (w0 : IsRow .u8 w a0 len0 cap0 z0) :
    Calls Try.prog 8 #[.slice a0 len0 cap0] w fun e w' => e = .returned (.bool true) ∧ Below w.heap.size w w' := by
  obtain ⟨bs, hl, hrow⟩ := w0.bytes
  have HR0 := Lib.hid hrow
  have hmx := hrow.2.1
  unfold maxLen at hmx
  clear hrow w0
  go_enter Try.func8, Try.ntmps8
  go_wp2_with fail
  refine (awake_any w).mono ?_
  rintro e wa ⟨rfl, hb0⟩
  have BA := Lib.hid hb0
  clear hb0
  by_cases h5 : 500 < len0
  · go_wp2_with fail
    go_ret
    exact ⟨rfl, BA.out⟩
  · subst hl
    have HR1 := Lib.hid (HR0.out.keeps (Keeps.new BA.out) (fun _ _ h => h))
    go_wp2_with fail
    go_loopw [3, 4] (fun c i wr => ∃ k : Nat, k ≤ bs.length ∧ i = .int .i64 k ∧ wr.ownsRow w.heap.size 5 1 c k (u8s ((bs.take k).map Pure.turn)) ∧ Below w.heap.size w wr) (fun _ i _ => bs.length - (intOf i).toNat)
    case atStart => exact ⟨0, by omega, rfl, ⟨rfl, .inl ⟨rfl, rfl⟩⟩, BA.out⟩
    case round =>
      obtain ⟨k, hk, rfl, hown, hbr⟩ := hrel
      have OW := Lib.hid hown
      have BR := Lib.hid hbr
      clear hown hbr
      by_cases hlt : k < bs.length
      · obtain ⟨_, _, A', c', e, _, _, hcell⟩ := HR0.out.keeps (Keeps.new BR.out) (fun _ _ h => h)
        injection e with e1 e2 e3
        subst e1 e3
        obtain ⟨b, off, rfl, hb, hcell⟩ := hcell (by omega)
        have ck : _ := hcell k _ (u8s_at bs k hlt)
        obtain ⟨B, hB⟩ : ∃ B : Nat, B = (bs.getD k 0).toNat := ⟨_, rfl⟩
        have hB2 : B < 256 := by rw [hB]; exact (bs.getD k 0).toNat_lt
        rw [← hB] at ck
        have HB := Lib.hid hB
        clear hB hcell e2
        go_wp2_with fail
        go_loop [5, 6] (fun x i => ∃ m : Nat, m ≤ 8 ∧ i = .int .i64 m ∧ x = .int .u8 (Pure.num true (fun k => B.testBit k) 8 m)) (fun _ i => 8 - (intOf i).toNat)
        case atStart => exact ⟨0, by omega, rfl, by rw [Pure.num_zero]; rfl⟩
        case round =>
          obtain ⟨m, hm, rfl, rfl⟩ := hrel
          by_cases hm8 : m < 8
          · have hst := Pure.turn_step B m hm8
            obtain ⟨X, hX⟩ : ∃ X, X = Pure.num true (fun k => B.testBit k) 8 m := ⟨_, rfl⟩
            have hXlt : X < 256 := by rw [hX]; exact Pure.num_lt _ _ _ _
            rw [← hX] at hst ⊢
            have HX := Lib.hid hX
            clear hX
            have hgo := turn_go X B m hXlt hB2 hm8
            rw [hst] at hgo
            have HGO := Lib.hid hgo
            clear hst hgo
            go_wp2
            go_round
            case rel => exact ⟨m + 1, by omega, by go_num, by rw [HGO.out]⟩
            case measure => simp [intOf]; omega
          · obtain rfl : m = 8 := by omega
            have et := Pure.turn_toNat (bs.getD k 0)
            rw [← HB.out] at et
            rw [← et]
            obtain ⟨T, hT⟩ : ∃ T, T = Pure.turn (bs.getD k 0) := ⟨_, rfl⟩
            rw [← hT]
            have HT := Lib.hid hT
            clear hT et
            obtain ⟨i0, hi0, hz0, hz1, hz2⟩ := info_parts u8_info
            have hrow1 : Row (wr.alloc (.cells #[.int .u8 T.toNat] 5)) (fun _ => True) 1 (.slice (some ⟨wr.heap.size, 0, none⟩) 1 1) 1 [.int .u8 T.toNat] :=
              Row.block (Blk.new wr 5 #[.int .u8 T.toNat]) trivial rfl (by simp [maxLen]) (Nat.le_refl _)
            have HRow := Lib.hid hrow1
            clear hrow1
            go_wp2_with (at_builtin; refine stopHere ?_)
            unfold Hid
            have hbs := BR.out.size
            refine wpList_append_row rfl (.tmp 43) (.tmp 45) _ rfl w.heap.size 5 i0 _ 1 1 Try.underlying26 hi0 hz0 hz1 hz2 rfl (by omega) u3 k _
              rfl (OW.out.alloc _) _ _ 1 [.int .u8 T.toNat] rfl HRow.out (by simp [Value.oneCell']) (by simp only [maxLen]; omega) (by omega) (by simp; omega) ?_
            intro v1 w1 hown1 hg1 hat1
            have e1 : u8s ((bs.take k).map Pure.turn) ++ [.int .u8 T.toNat] = u8s ((bs.take (k + 1)).map Pure.turn) := by
              rw [List.take_succ_eq_append_getElem hlt, HT.out, List.getD_eq_getElem?_getD, List.getElem?_eq_getElem hlt]
              simp only [u8s, List.map_append, List.map_cons, List.map_nil, Option.getD_some]
            rw [e1] at hown1
            have HO1 := Lib.hid hown1
            have HB1 := Lib.hid ((BR.out.alloc BR.out.size _).grown hg1 (by simp; omega) (fun q hq => (ownsRow_ge OW.out q hq)))
            clear hown1 hg1 hat1 e1 hi0 hz0 hz1 hz2
            go_wp2
            go_roundw
            case rel => exact ⟨k + 1, by omega, by go_num, HO1.out, HB1.out⟩
            case measure => simp [intOf]; omega
      · obtain rfl : k = bs.length := by omega
        rw [List.take_length] at OW
        have HR2 := Lib.hid (HR0.out.keeps (Keeps.new BR.out) (fun _ _ h => h))
        clear HR1 BA hk
        go_wp2_with fail
        refine (newReader_any _ _ true bs wr HR2.out (by omega)).mono ?_
        rintro e w1 ⟨g1, v1, rfl, hg1, hr1, hv1, hb1⟩
        have O1 := Lib.hid (Row.of_own (ownsRow_keeps OW.out (Keeps.new hb1) (fun _ _ h => h)))
        have R1 := Lib.hid hr1
        have B1 := Lib.hid (BR.out.trans (hb1.mono BR.out.size))
        have hg1' : w.heap.size ≤ g1 := Nat.le_trans BR.out.size hg1
        have V1 := Lib.hid (fun q hq => Nat.le_trans BR.out.size (hv1 q hq))
        clear hr1 hb1 hv1 OW BR
        have hcl : (bs.map Pure.turn).length = bs.length := by simp
        rw [← hcl] at O1
        go_wp2_with fail
        refine (newReader_any _ _ false (bs.map Pure.turn) w1 O1.out (by simp; omega)).mono ?_
        rintro e w2 ⟨g2, v2, rfl, hg2, hr2, hv2, hb2⟩
        have R1' := Lib.hid (R1.out.keeps (Keeps.new hb2) (fun h => h) (fun _ _ h => h))
        have R2 := Lib.hid hr2
        have B2 := Lib.hid (B1.out.trans (hb2.mono B1.out.size))
        have hg2' : w.heap.size ≤ g2 := Nat.le_trans B1.out.size hg2
        have D12 := Lib.hid (show g1 ≠ g2 ∧ (∀ q, v1.ownBlock = some q → q ≠ g2) ∧ (∀ q, v2.ownBlock = some q → q ≠ g1) from
          ⟨fun e => by have := R1.out.blk.lt; omega, fun q hq e => by have := ownsRow_lt R1.out.own q hq; omega, fun q hq e => by have := hv2 q hq; have := R1.out.blk.lt; omega⟩)
        clear hr2 hb2 hv2 R1 O1 B1 V1 hcl hg1 hg2
        have HBL := Lib.hid (show (bs.map Pure.turn).length = bs.length by simp)
        go_wp2_with fail
        go_loopw [9] (fun i wr => ∃ k : Nat, k ≤ bs.length * 8 ∧ i = .int .i64 k ∧ RObj wr g1 v1 true bs k ∧ RObj wr g2 v2 false (bs.map Pure.turn) k ∧ Below w.heap.size w wr) (fun i _ => bs.length * 8 - (intOf i).toNat)
        case atStart => exact ⟨0, by omega, rfl, R1'.out, R2.out, B2.out⟩
        case round =>
          obtain ⟨k, hk, rfl, hr1, hr2, hb⟩ := hrel
          have P1 := Lib.hid hr1
          have P2 := Lib.hid hr2
          have PB := Lib.hid hb
          clear hr1 hr2 hb R1' R2 B2
          by_cases hlt : k < bs.length * 8
          · have hp1 := Pure.peek_one true bs k (by omega)
            have hp2 := Pure.peek_one false (bs.map Pure.turn) k (by simp; omega)
            rw [Pure.bit_turn bs k (by omega), ← hp1] at hp2
            have HP := Lib.hid hp2
            clear hp1 hp2
            go_wp2_with fail
            refine (take_ok g1 v1 true bs k 1 _ P1.out (by omega) (by omega)).mono ?_
            rintro e w3 ⟨rfl, hr3, hk3⟩
            have P3 := Lib.hid hr3
            have P4 := Lib.hid (P2.out.keeps hk3 (fun e => D12.out.1 (show g2 = g1 from e).symm) (fun q hq e => D12.out.2.2 q hq e))
            have PB3 := Lib.hid (Below.keeps PB.out hk3 PB.out.size (fun i hi => by have hi : i = g1 := hi; omega))
            clear hr3 hk3 P1 P2 PB
            go_wp2_with fail
            refine (take_ok g2 v2 false (bs.map Pure.turn) k 1 _ P4.out (by omega) (by simp; omega)).mono ?_
            rintro e w4 ⟨rfl, hr4, hk4⟩
            have P5 := Lib.hid hr4
            have P6 := Lib.hid (P3.out.keeps hk4 (fun e => D12.out.1 e) (fun q hq e => D12.out.2.1 q hq e))
            have PB4 := Lib.hid (Below.keeps PB3.out hk4 PB3.out.size (fun i hi => by have hi : i = g2 := hi; omega))
            clear hr4 hk4 P3 P4 PB3
            rw [HP.out]
            go_wp2_with fail
            go_roundw
            case rel => exact ⟨k + 1, by omega, by go_num, P6.out, P5.out, PB4.out⟩
            case measure => simp [intOf]; omega
          · obtain rfl : k = bs.length * 8 := by omega
            go_wp2_with fail
            refine (left_any g1 v1 true bs _ _ P1.out).mono ?_
            rintro e w3 ⟨rfl, n3, hw3⟩
            have K3 := Keeps.of_drewN hw3
            have P3 := Lib.hid (P2.out.keeps K3 (fun h => h) (fun _ _ h => h))
            have PB3 := Lib.hid (Below.quiet PB.out K3 PB.out.size)
            clear K3 hw3 P1 P2 PB
            have e0 : (bs.length : Int) * 8 - (bs.length * 8 : Nat) = 0 := by omega
            rw [e0]
            clear e0
            go_wp2_with fail
            refine (left_any g2 v2 false _ _ _ P3.out).mono ?_
            rintro e w4 ⟨rfl, n4, hw4⟩
            have K4 := Keeps.of_drewN hw4
            have PB4 := Lib.hid (Below.quiet PB3.out K4 PB3.out.size)
            clear K4 hw4 P3 PB3
            have e0 : ((bs.map Pure.turn).length : Int) * 8 - (bs.length * 8 : Nat) = 0 := by rw [HBL.out]; omega
            rw [e0]
            clear e0
            go_wp2
            go_ret
            exact ⟨rfl, PB4.out⟩
end Go.Proofs.Ytekocdiccfpkdaa
