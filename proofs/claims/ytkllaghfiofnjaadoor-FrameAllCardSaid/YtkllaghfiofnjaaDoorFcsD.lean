/- Contracts of package fcs: check, Check, Check32; slices.Equal over bytes. -/
import Derived.Test.YtkllaghfiofnjaaDoorFcsC
import Derived.Test.YtkllaghfiofnjaaDoorClone
namespace Go.Proofs.YtkllaghfiofnjaaDoor
open Go.RowKit
set_option maxHeartbeats 1000000 in
theorem equal_any (F G : Nat → Prop) (x y : Value) (a b : List UInt8) (w : World) (hx : Row w F 1 x a.length (u8s a)) (hy : Row w G 1 y b.length (u8s b)) :
    Calls Tryd.prog 77 #[x, y] w fun e w' => e = .returned (.bool (decide (a = b))) ∧ Keeps nobody w w' := by
  obtain ⟨A, c, rfl, hc⟩ := hx.form
  obtain ⟨B, d, rfl, hd⟩ := hy.form
  have ha := hx.2.1
  have hb := hy.2.1
  unfold maxLen at ha hb
  by_cases hl : a.length = b.length
  · have e1 : ((a.length : Int) != (b.length : Int)) = false := by rw [hl]; simp
    have HX := Lib.hid hx
    have HY := Lib.hid hy
    clear hx hy
    have HL := Lib.hid hl
    rw [← hl] at HY ⊢
    clear hl hb
    rw [← HL.out] at e1
    go_enter Tryd.func77, Tryd.ntmps77
    go_wp2
    clear e1
    go_loopw [13] (fun i wr => ∃ k : Nat, k ≤ a.length ∧ i = .int .i64 k ∧ a.take k = b.take k ∧ Keeps nobody w wr) (fun i _ => a.length - (intOf i).toNat)
    case atStart => exact ⟨0, by omega, rfl, by simp, Keeps.refl _ _⟩
    case round =>
      obtain ⟨k, hk, rfl, htake, hkeep⟩ := hrel
      have HT := Lib.hid htake
      have HK := Lib.hid hkeep
      clear htake hkeep
      by_cases hlt : k < a.length
      · obtain ⟨p, o, rfl, _, hcx⟩ := (HX.out.keeps HK.out (fun _ _ h => h)).cellAt (by omega)
        obtain ⟨p2, o2, rfl, _, hcy⟩ := (HY.out.keeps HK.out (fun _ _ h => h)).cellAt (by omega)
        have hlb : k < b.length := by have := HL.out; omega
        have c1 := hcx k _ (u8s_at a k hlt)
        have c2 := hcy k _ (u8s_at b k hlb)
        have hi0 : (0 : Int) ≤ (k : Int) := by omega
        have hi1 : (k : Int) < (a.length : Int) := by omega
        obtain ⟨X, hX⟩ : ∃ X : Nat, X = (a.getD k 0).toNat := ⟨_, rfl⟩
        obtain ⟨Y, hY⟩ : ∃ Y : Nat, Y = (b.getD k 0).toNat := ⟨_, rfl⟩
        rw [← hX] at c1
        rw [← hY] at c2
        have HX1 := Lib.hid hX
        have HY1 := Lib.hid hY
        clear hX hY hcx hcy
        by_cases hxy : X = Y
        · subst hxy
          have hne : ((X : Int) != (X : Int)) = false := by simp
          go_wp2_with fail
          go_quiet (fail)
          go_wp2
          go_roundw
          case rel =>
            refine ⟨k + 1, by omega, by go_num, ?_, HK.out.trans (Keeps.of_drewN rfl)⟩
            rw [List.take_succ_eq_append_getElem hlt, List.take_succ_eq_append_getElem hlb, HT.out]
            have : a[k] = b[k] := by
              apply UInt8.toNat_inj.1
              have h1 := HX1.out
              have h2 := HY1.out
              rw [List.getD_eq_getElem?_getD, List.getElem?_eq_getElem hlt] at h1
              rw [List.getD_eq_getElem?_getD, List.getElem?_eq_getElem hlb] at h2
              exact h1.symm.trans h2
            rw [this]
          case measure => simp [intOf]; omega
        · have hne : ((X : Int) != (Y : Int)) = true := by rw [bne_iff_ne]; omega
          have hno : decide (a = b) = false := by
            rw [decide_eq_false_iff_not]
            rintro rfl
            exact hxy (HX1.out.trans HY1.out.symm)
          have HNO := Lib.hid hno
          clear hno
          go_wp2_with fail
          go_quiet (fail)
          go_wp2
          go_ret
          exact ⟨by rw [HNO.out]; rfl, HK.out.trans (Keeps.of_drewN rfl)⟩
      · have hk' : k = a.length := by omega
        have hyes : decide (a = b) = true := by
          rw [decide_eq_true_eq]
          have := HT.out
          rw [hk', List.take_length, HL.out, List.take_length] at this
          exact this
        have HYES := Lib.hid hyes
        clear hyes hk'
        go_wp2
        go_ret
        exact ⟨by rw [HYES.out]; rfl, HK.out⟩
  · have e1 : ((a.length : Int) != (b.length : Int)) = true := by rw [bne_iff_ne]; omega
    have hno : decide (a = b) = false := by
      rw [decide_eq_false_iff_not]
      rintro rfl
      exact hl rfl
    have HNO := Lib.hid hno
    clear hno hl hx hy
    go_enter Tryd.func77, Tryd.ntmps77
    go_wp2
    go_ret
    exact ⟨by rw [HNO.out]; rfl, Keeps.refl _ _⟩

/-- The row ends in its sum. -/
def Pure.ends16 (bs : List UInt8) : Bool := decide (2 ≤ bs.length) && decide (bs.drop (bs.length - 2) = Pure.le (Pure.crc16 (bs.take (bs.length - 2))) 2)
theorem run_call16 (args : Array Value) (w : World) : (callFunc 62 args).run Tryd.prog w = .ok (.enter 62 args) w := by kernel_rfl

set_option maxHeartbeats 1000000 in
theorem check16_any (F : Nat → Prop) (x : Value) (bs : List UInt8) (w : World) (hr : Row w F 1 x bs.length (u8s bs)) (hF : ∀ b, F b → b < w.heap.size) (hl : bs.length ≤ 100000000000000) :
    Calls Tryd.prog 64 #[x, .func (.func 62) #[] #[], .int .i64 2] w fun e w' => Below w.heap.size w w' ∧
      ((Pure.ends16 bs = false ∧ e = .returned (.tuple #[.slice none 0 0, .bool false])) ∨ (Pure.ends16 bs = true ∧ ∃ u, e = .returned (.tuple #[u, .bool true]) ∧
        w'.ownsRow w.heap.size 5 1 u (bs.length - 2) (u8s (bs.take (bs.length - 2))))) := by
  obtain ⟨A, c, rfl, hc⟩ := hr.form
  have HR := Lib.hid hr
  have HF := Lib.hid hF
  clear hr hF
  by_cases hs : bs.length < 2
  · have e : Pure.ends16 bs = false := by unfold Pure.ends16; simp; omega
    have E := Lib.hid e
    clear e
    go_enter Tryd.func64, Tryd.ntmps64
    go_wp2
    go_ret2
    exact ⟨Below.refl _ _, .inl ⟨E.out, rfl⟩⟩
  · have hw1 : IntKind.i64.wrap ((bs.length : Int) - 2) = (bs.length : Int) - 2 := IntWalk.i64_in _ (by omega)
    have hn0 : (0 : Int) ≤ (bs.length : Int) - 2 := by omega
    have hnt : ((bs.length : Int) - 2).toNat = bs.length - 2 := by omega
    obtain ⟨b, off, rfl, hFb, hcell⟩ := HR.out.cellAt (by omega)
    have hrest := HR.out.take1 (bs.length - 2) (by omega)
    rw [← u8s_take] at hrest
    have hend := HR.out.cut1 (bs.length - 2) (bs.length - (bs.length - 2)) (by omega)
    obtain ⟨R, hRR⟩ : ∃ R, R = bs.take (bs.length - 2) := ⟨_, rfl⟩
    obtain ⟨E, hEE⟩ : ∃ E, E = bs.drop (bs.length - 2) := ⟨_, rfl⟩
    have hRl : R.length = bs.length - 2 := by rw [hRR]; simp
    have hEl : E.length = bs.length - (bs.length - 2) := by rw [hEE]; simp
    have hEu : ((u8s bs).drop (bs.length - 2)).take (bs.length - (bs.length - 2)) = u8s E := by
      rw [List.take_of_length_le (by simp), hEE]; simp
    have hen : Pure.ends16 bs = decide (E = Pure.le (Pure.crc16 R) 2) := by unfold Pure.ends16; rw [hEE, hRR]; simp; omega
    rw [hEu, Option.map_some, addr_add] at hend
    rw [← hRR] at hrest ⊢
    have HRest := Lib.hid hrest
    have HEnd := Lib.hid hend
    have HRl := Lib.hid hRl
    have HEl := Lib.hid hEl
    have HEN := Lib.hid hen
    clear hcell hrest hend hRR hEE hRl hEl hEu hen
    go_enter Tryd.func64, Tryd.ntmps64
    go_wp2_with fail
    go_quiet (fail)
    go_wp2_with fail
    refine (Sum16_any F _ R (w.drewN nq) (by rw [HRl.out]; exact HRest.out)).mono ?_
    rintro e w' ⟨rfl, rfl⟩
    go_wp2_with fail
    refine (split16_any (Pure.crc16 R) (w.drewN nq)).mono ?_
    rintro e w1 ⟨u1, rfl, hown1, hb1⟩
    have K1 := Lib.hid ((Keeps.of_drewN (w := w) (n := nq) rfl).trans (Keeps.new hb1))
    have B1 := Lib.hid ((Below.drewN (Below.refl _ w) nq).trans hb1)
    have hl2 : (Pure.le (Pure.crc16 R) 2).length = 2 := by simp [Pure.le]
    have hrow1 : Row w1 (fun b => u1.ownBlock = some b) 1 u1 (Pure.le (Pure.crc16 R) 2).length (u8s (Pure.le (Pure.crc16 R) 2)) := by rw [hl2]; exact Row.of_own hown1
    have HRow1 := Lib.hid hrow1
    clear hown1 hb1 hl2 hrow1
    go_wp2_with fail
    refine (equal_any F _ _ _ E (Pure.le (Pure.crc16 R) 2) w1 (by rw [HEl.out]; exact HEnd.out.keeps (S := nobody) K1.out (fun _ _ h => h)) HRow1.out).mono ?_
    rintro e w2 ⟨rfl, hk2⟩
    rw [← HEN.out]
    have B2 := Lib.hid (Below.quiet B1.out hk2 B1.out.size)
    have K2 := Lib.hid (K1.out.trans hk2)
    clear hk2
    cases hc2 : Pure.ends16 bs
    · have HCC := Lib.hid hc2
      clear hc2
      go_wp2
      go_ret2
      exact ⟨B2.out, .inl ⟨HCC.out, rfl⟩⟩
    · have HCC := Lib.hid hc2
      clear hc2
      go_wp2_with fail
      refine (clone_any F _ (bs.length - 2) R w2 (HRest.out.keeps (S := nobody) K2.out (fun _ _ h => h)) (by omega)).mono ?_
      rintro e w3 ⟨u3, rfl, hown3, hb3⟩
      have O3 := Lib.hid (ownsRow_base (base' := w.heap.size) hown3 (by have := B2.out.size; omega))
      have B3 := Lib.hid (B2.out.trans (hb3.mono B2.out.size))
      clear hown3 hb3
      go_wp2
      go_ret2
      exact ⟨B3.out, .inr ⟨HCC.out, u3, rfl, O3.out⟩⟩

set_option maxHeartbeats 1000000 in
theorem Check16_any (F : Nat → Prop) (x : Value) (bs : List UInt8) (w : World) (hr : Row w F 1 x bs.length (u8s bs)) (hF : ∀ b, F b → b < w.heap.size) (hl : bs.length ≤ 100000000000000) :
    Calls Tryd.prog 43 #[x] w fun e w' => Below w.heap.size w w' ∧
      ((Pure.ends16 bs = false ∧ e = .returned (.tuple #[.slice none 0 0, .bool false])) ∨ (Pure.ends16 bs = true ∧ ∃ u, e = .returned (.tuple #[u, .bool true]) ∧
        w'.ownsRow w.heap.size 5 1 u (bs.length - 2) (u8s (bs.take (bs.length - 2))))) := by
  have HC := Lib.hid (check16_any F x bs w hr hF hl)
  obtain ⟨A, c, rfl, hc⟩ := hr.form
  clear hr hF
  go_enter Tryd.func43, Tryd.ntmps43
  go_wp2_with fail
  refine HC.out.mono ?_
  rintro e w1 ⟨hb, h⟩
  have B := Lib.hid hb
  rcases h with ⟨hh, rfl⟩ | ⟨hh, u, rfl, ho⟩
  · have H := Lib.hid hh
    clear hb hh
    go_wp2
    go_ret2
    exact ⟨B.out, .inl ⟨H.out, rfl⟩⟩
  · have H := Lib.hid hh
    have O := Lib.hid ho
    clear hb hh ho
    go_wp2
    go_ret2
    exact ⟨B.out, .inr ⟨H.out, u, rfl, O.out⟩⟩

end Go.Proofs.YtkllaghfiofnjaaDoor
