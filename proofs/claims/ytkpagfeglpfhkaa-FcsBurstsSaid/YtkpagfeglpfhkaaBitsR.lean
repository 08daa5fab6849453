/- Contracts of the reader of package bits. -/
import Derived.Test.YtkpagfeglpfhkaaBitsA
import Derived.Test.YtkpagfeglpfhkaaPure
namespace Go.Proofs.Ytkpagfeglpfhkaa
open Go.RowKit

/-- The reader at block g: its bytes bs (a row of its own, the slice v), 'at_' bits read. -/
structure RObj (w : World) (g : Nat) (v : Value) (high : Bool) (bs : List UInt8) (at_ : Nat) : Prop where
  blk : Blk w g 72 #[v, .int .i64 at_, placeV high]
  own : w.ownsRow 0 5 1 v bs.length (u8s bs)
  le : at_ ≤ 8 * bs.length
  len : bs.length ≤ 140737488355328

theorem RObj.keeps {S : Nat → Prop} {w w' : World} {g : Nat} {v : Value} {high : Bool} {bs : List UInt8} {at_ : Nat} (h : RObj w g v high bs at_) (k : Keeps S w w')
    (h1 : ¬ S g) (h2 : ∀ b, v.ownBlock = some b → ¬ S b) : RObj w' g v high bs at_ :=
  ⟨h.blk.keeps k h1, ownsRow_keeps h.own k h2, h.le, h.len⟩
theorem RObj.drewN {w : World} {g : Nat} {v : Value} {high : Bool} {bs : List UInt8} {at_ : Nat} (h : RObj w g v high bs at_) (n : Nat) : RObj (w.drewN n) g v high bs at_ :=
  ⟨h.blk, h.own, h.le, h.len⟩
theorem own_form {w : World} {base : Nat} {e : TypeId} {size : Nat} {v : Value} {n : Nat} {xs : List Value} (h : w.ownsRow base e size v n xs) : ∃ A c, v = .slice A n c := by
  rcases h.2 with ⟨rfl, rfl⟩ | ⟨g, cap, cur, rfl, _⟩
  · exact ⟨_, _, rfl⟩
  · exact ⟨_, _, rfl⟩

theorem left_any (g : Nat) (v : Value) (high : Bool) (bs : List UInt8) (at_ : Nat) (w : World) (h : RObj w g v high bs at_) :
    Calls Try.prog 21 #[.pointer (some ⟨g, 0, none⟩)] w fun e w' => e = .returned (.int .i64 ((bs.length : Int) * 8 - at_)) ∧ ∃ n, w' = w.drewN n := by
  have hm := rmade_any g high v (.int .i64 at_) w h.blk
  have HM := Lib.hid hm
  clear hm
  obtain ⟨A, c, rfl⟩ := own_form h.own
  have c0 : w.cell? ⟨g, 0, none⟩ = some (.slice A bs.length c) := by rw [h.blk.cell]; rfl
  have c1 : w.cell? ⟨g, 1, none⟩ = some (.int .i64 at_) := by rw [h.blk.cell]; rfl
  have l1 := h.le
  have l2 := h.len
  have l3 : (bs.length : Int) ≤ 140737488355328 := by omega
  clear h
  go_enter Try.func21, Try.ntmps21
  go_wp2_with (go_at_call 60; refine HM.out.mono ?_; rintro e w' ⟨rfl, rfl⟩)
  go_quiet (fail)
  go_wp2
  go_ret
  exact ⟨rfl, _, rfl⟩

theorem own_cell {w : World} {base : Nat} {t : TypeId} {A : Option Addr} {n c : Nat} {xs : List Value} (h : w.ownsRow base t 1 (.slice A n c) n xs) (hn : 0 < n) :
    ∃ b, A = some ⟨b, 0, none⟩ ∧ b < w.heap.size ∧ ∀ j u, xs[j]? = some u → w.cell? ⟨b, j, none⟩ = some u := by
  have hr := Row.of_own h
  obtain ⟨_, _, A', c', e, _, _, hh⟩ := hr
  injection e with e1 e2 e3
  subst e1
  obtain ⟨b, off, rfl, hf, hc⟩ := hh hn
  rcases h.2 with ⟨e, _⟩ | ⟨g, cap, cur, e, _, hh, _⟩
  · cases e
  · injection e with e1 e2 e3
    injection e1 with e1
    injection e1 with e1 e4
    subst e1 e4
    have hb : Blk w b t cur := by assumption
    exact ⟨b, rfl, hb.lt, fun j u hu => by have := hc j u hu; rwa [Nat.zero_add] at this⟩
theorem u8s_at (bs : List UInt8) (j : Nat) (h : j < bs.length) : (u8s bs)[j]? = some (.int .u8 ((bs.getD j 0).toNat)) := by
  rw [List.getElem?_map, List.getElem?_eq_getElem h, List.getD_eq_getElem?_getD, List.getElem?_eq_getElem h]; rfl

set_option maxHeartbeats 1000000 in
theorem peek_any (g : Nat) (v : Value) (high : Bool) (bs : List UInt8) (at_ n : Nat) (w : World) (h : RObj w g v high bs at_) (hn : n ≤ 32) :
    Calls Try.prog 26 #[.pointer (some ⟨g, 0, none⟩), .int .i64 n] w fun e w' =>
      e = .returned (.tuple #[.int .i64 (Pure.peek high bs at_ n), .int .i64 (min n (8 * bs.length - at_) : Nat)]) ∧ Below w.heap.size w w' := by
  have HM := Lib.hid (rmade_any g high v (.int .i64 at_) w h.blk)
  have HW := Lib.hid (isWidth_any n w)
  have hL := left_any g v high bs at_ w h
  obtain ⟨A, c, rfl⟩ := own_form h.own
  have HO := Lib.hid h.own
  have hbk := h.blk
  have l1 := h.le
  have l2 := h.len
  have HL := Lib.hid hL
  clear hL h
  have hd1 : decide ((0 : Int) ≤ n) = true := by simp
  have hd2 : decide ((n : Int) ≤ 32) = true := by simp; omega
  go_enter Try.func26, Try.ntmps26
  go_upto_region 3 with (first
   | (go_at_call 60; refine HM.out.mono ?_; rintro e w' ⟨rfl, rfl⟩)
   | (go_at_call 57; refine HW.out.mono ?_; rintro e w' ⟨rfl, rfl⟩))
  go_cut [6, 7] (fun s6 s7 wx => s6 = .int .i64 0 ∧ s7 = .int .i64 (min n (8 * bs.length - at_) : Nat) ∧ Below w.heap.size w wx)
  case first =>
    go_wp2_with (go_at_call 21; refine HL.out.mono ?_; rintro e w' ⟨rfl, nl, rfl⟩)
    all_goals
      go_meet
      exact ⟨rfl, by congr 1; omega, Below.drewN (Below.refl _ _) _⟩
  case rest =>
    obtain ⟨rfl, rfl, hbw⟩ := hcut
    obtain ⟨m, hm⟩ : ∃ m, m = min n (8 * bs.length - at_) := ⟨_, rfl⟩
    rw [← hm]
    have m1 : m ≤ n := by omega
    have m2 : m ≤ 8 * bs.length - at_ := by omega
    have HMM := Lib.hid hm
    clear hm
    go_wp2
    go_loopw [6, 8] (fun x i wr => ∃ k : Nat, k ≤ m ∧ i = .int .i64 k ∧ x = .int .i64 (Pure.num high (fun k => Pure.bit high bs (at_ + k)) n k) ∧ Below w.heap.size w wr) (fun _ i _ => m - (intOf i).toNat)
    case atStart => exact ⟨0, by omega, rfl, by rw [Pure.num_zero]; rfl, hbw⟩
    case round =>
      obtain ⟨k, hk, rfl, rfl, hbr⟩ := hrel
      clear hbw wc
      have hbk2 := hbk.below hbr hbk.lt
      have c0 : wr.cell? ⟨g, 0, none⟩ = some (.slice A bs.length c) := by rw [hbk2.cell]; rfl
      have c1 : wr.cell? ⟨g, 1, none⟩ = some (.int .i64 at_) := by rw [hbk2.cell]; rfl
      have c2 : wr.cell? ⟨g, 2, none⟩ = some (placeV high) := by rw [hbk2.cell]; rfl
      by_cases hlt : k < m
      · go_upto_region 8 with fail
        go_cut [11] (fun s11 wx => ∃ q : Nat, s11 = .int .i64 q ∧ 0 < q ∧ k + q ≤ m ∧ (at_ + k) % 8 + q ≤ 8 ∧ wx = wr)
        case first =>
          go_wp2
          · go_meet
            exact ⟨(8 - (at_ + k) % 8), by congr 1; omega, by omega, by omega, by omega, rfl⟩
          · go_meet
            exact ⟨m - k, by congr 1; omega, by omega, by omega, by omega, rfl⟩
        case rest =>
          obtain ⟨q, rfl, hq1, hq2, hq3, rfl⟩ := hcut
          have hidx : (at_ + k) / 8 < bs.length := by omega
          obtain ⟨b, rfl, hblt, hcell⟩ := own_cell HO.out (by omega)
          have c3 : w.cell? ⟨b, (at_ + k) / 8, none⟩ = some (.int .u8 ((bs.getD ((at_ + k) / 8) 0).toNat)) := hcell _ _ (u8s_at bs _ hidx)
          clear hcell
          have c3' : wc.cell? ⟨b, (at_ + k) / 8, none⟩ = some (.int .u8 ((bs.getD ((at_ + k) / 8) 0).toNat)) := (hbr.cell (p := ⟨b, (at_ + k) / 8, none⟩) hblt).trans c3
          obtain ⟨B, hB⟩ : ∃ B : Nat, B = (bs.getD ((at_ + k) / 8) 0).toNat := ⟨_, rfl⟩
          have hB2 : B < 256 := by rw [hB]; exact (bs.getD ((at_ + k) / 8) 0).toNat_lt
          rw [← hB] at c3'
          have HB := Lib.hid hB
          clear hB c3
          have hblt2 : b < wc.heap.size := Nat.lt_of_lt_of_le hblt hbr.size
          have hglt2 : g < wc.heap.size := hbk2.lt
          have hi0 : (0 : Int) ≤ ((at_ : Int) + k) / 8 := by omega
          have hi1 : ((at_ : Int) + k) / 8 < (bs.length : Int) := by omega
          have hi2 : IntKind.i64.wrap (((at_ : Int) + k).tdiv 8) = ((at_ : Int) + k) / 8 := by
            rw [Int.tdiv_eq_ediv_of_nonneg (by omega)]; exact IntWalk.i64_in _ (by omega)
          have hi3 : (((at_ : Int) + k) / 8).toNat = (at_ + k) / 8 := by omega
          have hcp := run_callPlace high
          obtain ⟨S, hS⟩ : ∃ S : Nat, S = Pure.up high 8 ((at_ + k) % 8) q := ⟨_, rfl⟩
          have hS8 : S ≤ 8 := by rw [hS]; unfold Pure.up; split <;> omega
          have hpl : placeN high 8 (((at_ : Int) + k) % 8) q = (S : Int) := by rw [hS]; unfold placeN Pure.up; split <;> omega
          have HS := Lib.hid hS
          clear hS
          have hi4 : IntKind.i64.wrap (B : Int) = B := IntWalk.i64_in _ (by omega)
          have hBS : 0 ≤ (B : Int) / 2 ^ S := Int.ediv_nonneg (by omega) (Int.le_of_lt (two_pow_pos S))
          have hBS2 : (B : Int) / 2 ^ S ≤ 255 := Int.le_trans (Int.ediv_le_self _ (by omega)) (by omega)
          go_upto_region 9 with fail
          go_cut [12] (fun s12 wx => s12 = .int .i64 ((B >>> S % 2 ^ q : Nat)) ∧ Below w.heap.size w wx)
          case first =>
            go_region_held3 (fun w' => w'.cell? ⟨g, 0, none⟩ = some (.slice (some ⟨b, 0, none⟩) bs.length c) ∧ w'.cell? ⟨g, 2, none⟩ = some (placeV high) ∧ w'.cell? ⟨b, (at_ + k) / 8, none⟩ = some (.int .u8 B))
              (go_keep)
              (first
                | (with_reducible refine (placeF_any high _ _ _ _ ?_ ?_ ?_ ?_ ?_ ?_).mono ?_; (iterate 6 omega); rintro e w' ⟨rfl, rfl⟩)
                | (go_at_call 58; refine (low_any _ _ _ ?_ ?_ ?_ ?_).mono ?_; (iterate 4 omega); rintro e w' ⟨rfl, rfl⟩))
            go_wp2_with fail
            go_meet
            refine ⟨?_, (hbr.drew.alloc (by simp; exact hbr.size) _)⟩
            rw [Nat.shiftRight_eq_div_pow]
            simp
          case rest =>
            obtain ⟨rfl, hbc⟩ := hcut
            clear hpl hBS hBS2 hi0 hi1 hi2 hi3 hi4 c0 c1 c2 c3' hbk2
            obtain ⟨p, hp⟩ : ∃ p : Nat, p = B >>> S % 2 ^ q := ⟨_, rfl⟩
            have hstep := Pure.num_step high (fun k => Pure.bit high bs (at_ + k)) n k q B ((at_ + k) % 8) (by omega) (by omega) hq1 (fun i hi => by
              show Pure.bit high bs (at_ + (k + i)) = _
              unfold Pure.bit
              rw [HB.out, show (at_ + (k + i)) / 8 = (at_ + k) / 8 by omega, show (at_ + (k + i)) % 8 = (at_ + k) % 8 + i by omega])
            obtain ⟨T, hT⟩ : ∃ T : Nat, T = Pure.up high n k q := ⟨_, rfl⟩
            rw [← HS.out, ← hp, ← hT] at hstep
            rw [← hp]
            have hTn : T + q ≤ n := by rw [hT]; unfold Pure.up; split <;> omega
            have hplt : p < 2 ^ q := by rw [hp]; exact Nat.mod_lt _ (Nat.two_pow_pos q)
            have hpT : p * 2 ^ T < 2 ^ n := by
              calc p * 2 ^ T < 2 ^ q * 2 ^ T := Nat.mul_lt_mul_of_pos_right hplt (Nat.two_pow_pos T)
                _ = 2 ^ (q + T) := (Nat.pow_add ..).symm
                _ ≤ 2 ^ n := Nat.pow_le_pow_right (by omega) (by omega)
            have h32 : 2 ^ n ≤ 4294967296 := Nat.pow_le_pow_right (n := 2) (by omega) hn
            obtain ⟨X, hX⟩ : ∃ X : Nat, X = Pure.num high (fun k => Pure.bit high bs (at_ + k)) n k := ⟨_, rfl⟩
            rw [← hX]
            have hXlt : X < 2 ^ n := by rw [hX]; exact Pure.num_lt _ _ _ _
            rw [← hX, Nat.shiftLeft_eq] at hstep
            obtain ⟨Y, hY⟩ : ∃ Y : Nat, Y = p * 2 ^ T := ⟨_, rfl⟩
            have hYi : ((p : Int) * 2 ^ T) = (Y : Int) := by rw [hY]; simp
            have hor : bits .or .i64 (X : Int) (Y : Int) = ((X ||| Y : Nat) : Int) := i64_or_nat X Y (by omega) (by omega)
            have hpl : placeN high n k q = (T : Int) := by rw [hT]; unfold placeN Pure.up; split <;> omega
            have hY32 : Y ≤ 4294967295 := by omega
            have hT32 : T ≤ 32 := by omega
            have HST := Lib.hid hstep
            have HYY := Lib.hid hY
            have HXX := Lib.hid hX
            clear hstep hY hX hT hp h32 hpT hplt HB HS hXlt
            have hbk3 := hbk.below hbc hbk.lt
            have c2 : wc.cell? ⟨g, 2, none⟩ = some (placeV high) := by rw [hbk3.cell]; rfl
            go_wp2_with (with_reducible refine (placeF_any high _ _ _ _ ?_ ?_ ?_ ?_ ?_ ?_).mono ?_; (iterate 6 omega); rintro e w' ⟨rfl, rfl⟩)
            go_roundw
            case rel => exact ⟨k + q, by omega, by go_num, by rw [← HST.out, ← HYY.out], hbc.alloc hbc.size _⟩
            case measure => simp [intOf]; omega
      · obtain rfl : k = m := by omega
        have hfin : Pure.num high (fun k => Pure.bit high bs (at_ + k)) n k = Pure.peek high bs at_ n := by unfold Pure.peek; rw [← HMM.out]
        rw [hfin]
        have H1 := HMM
        clear hfin
        go_wp2
        go_ret2
        exact ⟨by rw [← H1.out]; rfl, hbr⟩

theorem peek_bad (g : Nat) (v : Value) (high : Bool) (bs : List UInt8) (at_ : Nat) (n : Int) (w : World) (h : RObj w g v high bs at_) (hn : n < 0 ∨ 32 < n) :
    Calls Try.prog 26 #[.pointer (some ⟨g, 0, none⟩), .int .i64 n] w fun e w' =>
      e = .returned (.tuple #[.int .i64 0, .int .i64 0]) ∧ w = w' := by
  have HM := Lib.hid (rmade_any g high v (.int .i64 at_) w h.blk)
  have HW := Lib.hid (isWidth_any n w)
  have hd : (decide ((0 : Int) ≤ n) && decide (n ≤ 32)) = false := by rcases hn with h | h <;> simp <;> omega
  rw [hd] at HW
  clear h
  go_enter Try.func26, Try.ntmps26
  go_wp2_with (first
   | (go_at_call 60; refine HM.out.mono ?_; rintro e w' ⟨rfl, rfl⟩)
   | (go_at_call 57; refine HW.out.mono ?_; rintro e w' ⟨rfl, rfl⟩))
  go_ret2
  exact ⟨rfl, rfl⟩

theorem take_bad (g : Nat) (v : Value) (high : Bool) (bs : List UInt8) (at_ : Nat) (n : Int) (w : World) (h : RObj w g v high bs at_) (hn : n < 0 ∨ 32 < n) :
    Calls Try.prog 20 #[.pointer (some ⟨g, 0, none⟩), .int .i64 n] w fun e w' =>
      e = .returned (.tuple #[.int .i64 0, .bool false]) ∧ w = w' := by
  have HM := Lib.hid (rmade_any g high v (.int .i64 at_) w h.blk)
  have HW := Lib.hid (isWidth_any n w)
  have hd : (decide ((0 : Int) ≤ n) && decide (n ≤ 32)) = false := by rcases hn with h | h <;> simp <;> omega
  rw [hd] at HW
  clear h
  go_enter Try.func20, Try.ntmps20
  go_wp2_with (first
   | (go_at_call 60; refine HM.out.mono ?_; rintro e w' ⟨rfl, rfl⟩)
   | (go_at_call 57; refine HW.out.mono ?_; rintro e w' ⟨rfl, rfl⟩))
  go_ret2
  exact ⟨rfl, rfl⟩

theorem take_no (g : Nat) (v : Value) (high : Bool) (bs : List UInt8) (at_ n : Nat) (w : World) (h : RObj w g v high bs at_) (hn : n ≤ 32) (hl : 8 * bs.length - at_ < n) :
    Calls Try.prog 20 #[.pointer (some ⟨g, 0, none⟩), .int .i64 n] w fun e w' =>
      e = .returned (.tuple #[.int .i64 0, .bool false]) ∧ ∃ k, w' = w.drewN k := by
  have HM := Lib.hid (rmade_any g high v (.int .i64 at_) w h.blk)
  have HW := Lib.hid (isWidth_any n w)
  have HL := Lib.hid (left_any g v high bs at_ w h)
  have hd : (decide ((0 : Int) ≤ n) && decide ((n : Int) ≤ 32)) = true := by simp; omega
  rw [hd] at HW
  have l1 := h.le
  have l3 : (bs.length : Int) * 8 - at_ < n := by omega
  clear h
  go_enter Try.func20, Try.ntmps20
  go_wp2_with (first
   | (go_at_call 60; refine HM.out.mono ?_; rintro e w' ⟨rfl, rfl⟩)
   | (go_at_call 57; refine HW.out.mono ?_; rintro e w' ⟨rfl, rfl⟩)
   | (go_at_call 21; refine HL.out.mono ?_; rintro e w' ⟨rfl, nl, rfl⟩))
  go_ret2
  exact ⟨rfl, _, rfl⟩

theorem take_ok (g : Nat) (v : Value) (high : Bool) (bs : List UInt8) (at_ n : Nat) (w : World) (h : RObj w g v high bs at_) (hn : n ≤ 32) (hl : n ≤ 8 * bs.length - at_) :
    Calls Try.prog 20 #[.pointer (some ⟨g, 0, none⟩), .int .i64 n] w fun e w' =>
      e = .returned (.tuple #[.int .i64 (Pure.peek high bs at_ n), .bool true]) ∧ RObj w' g v high bs (at_ + n) ∧ Keeps (only g) w w' := by
  have HM := Lib.hid (rmade_any g high v (.int .i64 at_) w h.blk)
  have HW := Lib.hid (isWidth_any n w)
  have HL := Lib.hid (left_any g v high bs at_ w h)
  have HP := Lib.hid (fun k => peek_any g v high bs at_ n (w.drewN k) (h.drewN k) hn)
  have hd : (decide ((0 : Int) ≤ n) && decide ((n : Int) ≤ 32)) = true := by simp; omega
  rw [hd] at HW
  have l1 := h.le
  have l2 := h.len
  have l3 : ¬ (bs.length : Int) * 8 - at_ < n := by omega
  have H0 := Lib.hid h
  have hbk := h.blk
  clear h
  go_enter Try.func20, Try.ntmps20
  go_upto_region 4 with (first
   | (go_at_call 60; refine HM.out.mono ?_; rintro e w' ⟨rfl, rfl⟩)
   | (go_at_call 57; refine HW.out.mono ?_; rintro e w' ⟨rfl, rfl⟩)
   | (go_at_call 21; refine HL.out.mono ?_; rintro e w' ⟨rfl, nl, rfl⟩)
   | (go_at_call 26; refine (HP.out nl).mono ?_; rintro e w1 ⟨rfl, hb1⟩))
  have hb0 : Below w.heap.size w w1 := (Below.drewN (Below.refl _ _) nl).trans hb1
  have hbk1 := hbk.below hb0 hbk.lt
  have c1 : w1.cell? ⟨g, 1, none⟩ = some (.int .i64 at_) := by rw [hbk1.cell]; rfl
  have f1 : w1.frozen? ⟨g, 1, none⟩ = false := hbk1.frozen 1
  have HX := Lib.hid hbk1
  clear hbk1 hbk
  go_wp2
  go_ret2
  refine ⟨rfl, ⟨?_, ?_, by omega, l2⟩, ?_⟩
  · have := HX.out.set 1 (.int .i64 ((at_ : Int) + n))
    simpa using this
  · have k1 : Keeps (only g) w (w1.setCell ⟨g, 1, none⟩ (.int .i64 ((at_ : Int) + n))) := ((Keeps.of_below hb0).mono (fun _ h => h.elim)).store g 1 (fun _ => only_self g) _
    exact ownsRow_keeps H0.out.own k1 (fun b hb e => by subst e; exact ownsRow_ne H0.out.own H0.out.blk (by decide) hb)
  · exact ((Keeps.of_below hb0).mono (fun _ h => h.elim)).store g 1 (fun _ => only_self g) _

theorem ralign_any (g : Nat) (v : Value) (high : Bool) (bs : List UInt8) (at_ : Nat) (w : World) (h : RObj w g v high bs at_) :
    Calls Try.prog 28 #[.pointer (some ⟨g, 0, none⟩)] w fun e w' =>
      e = .returned (.tuple #[]) ∧ RObj w' g v high bs ((at_ + 7) / 8 * 8) ∧ Keeps (only g) w w' := by
  have HM := Lib.hid (rmade_any g high v (.int .i64 at_) w h.blk)
  have l1 := h.le
  have l2 := h.len
  have H0 := Lib.hid h
  have hbk := h.blk
  have c1 : w.cell? ⟨g, 1, none⟩ = some (.int .i64 at_) := by rw [hbk.cell]; rfl
  have f1 : w.frozen? ⟨g, 1, none⟩ = false := hbk.frozen 1
  have HX := Lib.hid hbk
  clear hbk h
  have k1 : ∀ u, Keeps (only g) w (w.setCell ⟨g, 1, none⟩ u) := fun u => (Keeps.refl _ w).store g 1 (fun _ => only_self g) _
  have K1 := Lib.hid k1
  clear k1
  by_cases hu : at_ % 8 = 0
  · have e8 : (at_ + 7) / 8 * 8 = at_ := by omega
    rw [e8]
    have hu2 : ¬ (0 : Int) < (at_ : Int) % 8 := by omega
    clear e8 hu
    go_enter Try.func28, Try.ntmps28
    go_wp2_with (go_at_call 60; refine HM.out.mono ?_; rintro e w' ⟨rfl, rfl⟩)
    go_end0
    exact ⟨rfl, H0.out, Keeps.refl _ _⟩
  · have e8 : (at_ + 7) / 8 * 8 = at_ + (8 - at_ % 8) := by omega
    have hu2 : (0 : Int) < (at_ : Int) % 8 := by omega
    have E := Lib.hid e8
    clear e8
    go_enter Try.func28, Try.ntmps28
    go_wp2_with (go_at_call 60; refine HM.out.mono ?_; rintro e w' ⟨rfl, rfl⟩)
    go_end0
    refine ⟨rfl, ?_, K1.out _⟩
    have e2 : ((at_ : Int) + (8 - (at_ : Int) % 8)) = (((at_ + 7) / 8 * 8 : Nat) : Int) := by rw [E.out]; omega
    rw [e2]
    refine ⟨?_, ?_, by omega, l2⟩
    · have := HX.out.set 1 (.int .i64 (((at_ + 7) / 8 * 8 : Nat) : Int))
      simpa using this
    · exact ownsRow_keeps H0.out.own (K1.out _) (fun b hb e => by subst e; exact ownsRow_ne H0.out.own H0.out.blk (by decide) hb)
end Go.Proofs.Ytkpagfeglpfhkaa
