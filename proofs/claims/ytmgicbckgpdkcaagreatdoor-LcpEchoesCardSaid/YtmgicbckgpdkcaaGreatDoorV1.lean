/- Rows of bytes, slices as rows, and the document's Same. -/
import Derived.Test.YtmgicbckgpdkcaaGreatDoorC1
namespace Go.Proofs.YtmgicbckgpdkcaaGreatDoor
set_option maxRecDepth 100000
set_option maxHeartbeats 1000000
open _root_.Go.Lib renaming hid → xhd
open Go.RowKit
theorem same_q (F G : Nat → Prop) (x y : Value) (a b : List UInt8) (w : World) (hx : Row w F 1 x a.length (u8s a)) (hy : Row w G 1 y b.length (u8s b)) :
  Calls Tryz.prog 15 #[x, y] w fun e w' => e = .returned (.bool (decide (a = b))) ∧ ∃ n, w' = w.drewN n := by
 obtain ⟨A, c, rfl, hc⟩ := hx.form
 obtain ⟨B, d, rfl, hd⟩ := hy.form
 have ha := hx.2.1
 have hb := hy.2.1
 unfold maxLen at ha hb
 by_cases hl : a.length = b.length
 ·have e1 : ((a.length : Int) != (b.length : Int)) = false := by rw [hl]; simp
  have HX := xhd hx
  have HY := xhd hy
  clear hx hy
  have HL := xhd hl
  rw [← hl] at HY ⊢
  clear hl hb
  rw [← HL.out] at e1
  go_enter Tryz.func15, Tryz.ntmps15
  go_wp2
  clear e1
  go_loopw [5] (fun i wr => ∃ k : Nat, k ≤ a.length ∧ i = .int .i64 k ∧ a.take k = b.take k ∧ ∃ n, wr = w.drewN n) (fun i _ => a.length - (intOf i).toNat)
  case atStart => exact ⟨0, by omega, rfl, by simp, 0, rfl⟩
  case round =>
   obtain ⟨k, hk, rfl, htake, q, hq⟩ := hrel
   have HT := xhd htake
   have HQ := xhd hq
   have HK := xhd (Keeps.of_drewN hq)
   clear htake hq
   by_cases hlt : k < a.length
   ·obtain ⟨p, o, rfl, _, hcx⟩ := (HX.out.keeps HK.out (fun _ _ h => h)).cellAt (by omega)
    obtain ⟨p2, o2, rfl, _, hcy⟩ := (HY.out.keeps HK.out (fun _ _ h => h)).cellAt (by omega)
    have hlb : k < b.length := by have := HL.out; omega
    have c1 := hcx k _ (y3t a k hlt)
    have c2 := hcy k _ (y3t b k hlb)
    have hi0 : (0 : Int) ≤ (k : Int) := by omega
    have hi1 : (k : Int) < (a.length : Int) := by omega
    obtain ⟨X, hX⟩ : ∃ X : Nat, X = (a.getD k 0).toNat := ⟨_, rfl⟩
    obtain ⟨Y, hY⟩ : ∃ Y : Nat, Y = (b.getD k 0).toNat := ⟨_, rfl⟩
    rw [← hX] at c1
    rw [← hY] at c2
    have HX1 := xhd hX
    have HY1 := xhd hY
    clear hX hY hcx hcy
    by_cases hxy : X = Y
    ·subst hxy
     have hne : ((X : Int) != (X : Int)) = false := by simp
     go_wp2_with fail
     go_quiet (fail)
     go_wp2
     go_roundw
     case rel =>
      refine ⟨k + 1, by omega, by go_num, ?_, _, by rw [HQ.out, World.drewN_drewN]⟩
      rw [List.take_succ_eq_append_getElem hlt, List.take_succ_eq_append_getElem hlb, HT.out]
      have : a[k] = b[k] := by
       apply UInt8.toNat_inj.1
       have h1 := HX1.out
       have h2 := HY1.out
       rw [List.getD_eq_getElem?_getD, List.getElem?_eq_getElem hlt] at h1
       rw [List.getD_eq_getElem?_getD, List.getElem?_eq_getElem hlb] at h2
       exact h1.symm.trans h2
      rw [this]
     case measure => simp [intOf]; omega
    ·have hne : ((X : Int) != (Y : Int)) = true := by rw [bne_iff_ne]; omega
     have hno : decide (a = b) = false := by
      rw [decide_eq_false_iff_not]
      rintro rfl
      exact hxy (HX1.out.trans HY1.out.symm)
     have HNO := xhd hno
     clear hno
     go_wp2_with fail
     go_quiet (fail)
     go_wp2
     go_ret
     exact ⟨by rw [HNO.out]; rfl, _, by rw [HQ.out, World.drewN_drewN]⟩
   ·have hk' : k = a.length := by omega
    have hyes : decide (a = b) = true := by
     rw [decide_eq_true_eq]
     have := HT.out
     rw [hk', List.take_length, HL.out, List.take_length] at this
     exact this
    have HYES := xhd hyes
    clear hyes hk'
    go_wp2
    go_ret
    exact ⟨by rw [HYES.out]; rfl, _, HQ.out⟩
 ·have e1 : ((a.length : Int) != (b.length : Int)) = true := by rw [bne_iff_ne]; omega
  have hno : decide (a = b) = false := by
   rw [decide_eq_false_iff_not]
   rintro rfl
   exact hl rfl
  have HNO := xhd hno
  clear hno hl hx hy
  go_enter Tryz.func15, Tryz.ntmps15
  go_wp2
  go_ret
  exact ⟨by rw [HNO.out]; rfl, 0, rfl⟩
theorem same_any (F G : Nat → Prop) (x y : Value) (a b : List UInt8) (w : World) (hx : Row w F 1 x a.length (u8s a)) (hy : Row w G 1 y b.length (u8s b)) :
  Calls Tryz.prog 15 #[x, y] w fun e w' => e = .returned (.bool (decide (a = b))) ∧ Keeps y01 w w' :=
 (same_q F G x y a b w hx hy).mono fun _ _ ⟨h, _, h2⟩ => ⟨h, Keeps.of_drewN h2⟩
end Go.Proofs.YtmgicbckgpdkcaaGreatDoor
