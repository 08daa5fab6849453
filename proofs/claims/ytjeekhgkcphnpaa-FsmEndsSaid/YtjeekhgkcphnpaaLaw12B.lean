/- The law FsmKnown. -/
import Derived.Test.YtjeekhgkcphnpaaLaw12A
namespace Go.Proofs.Ytjeekhgkcphnpaa
open Go.RowKit
theorem known0 : Pure.Mach.act2 (Pure.newMach 2 3 : Pure.Mach) 0 = ([], ⟨2, 0, 0, 2, 3⟩) := by decide +kernel
theorem known1 : Pure.Mach.act2 (⟨2, 0, 0, 2, 3⟩ : Pure.Mach) 2 = ([4, 6], ⟨6, 1, 3, 2, 3⟩) := by decide +kernel
theorem known2 : Pure.Mach.tick (⟨6, 1, 3, 2, 3⟩ : Pure.Mach) = ([], ⟨6, 1, 2, 2, 3⟩) := by decide +kernel
theorem known3 : Pure.Mach.tick (⟨6, 1, 2, 2, 3⟩ : Pure.Mach) = ([], ⟨6, 1, 1, 2, 3⟩) := by decide +kernel
theorem known4 : Pure.Mach.tick (⟨6, 1, 1, 2, 3⟩ : Pure.Mach) = ([6], ⟨6, 0, 3, 2, 3⟩) := by decide +kernel
theorem known5 : Pure.Mach.tick (⟨6, 0, 3, 2, 3⟩ : Pure.Mach) = ([], ⟨6, 0, 2, 2, 3⟩) := by decide +kernel
theorem known6 : Pure.Mach.tick (⟨6, 0, 2, 2, 3⟩ : Pure.Mach) = ([], ⟨6, 0, 1, 2, 3⟩) := by decide +kernel
theorem known7 : Pure.Mach.tick (⟨6, 0, 1, 2, 3⟩ : Pure.Mach) = ([3], ⟨3, 0, 0, 2, 3⟩) := by decide +kernel
theorem known8 : Pure.Mach.tick (⟨3, 0, 0, 2, 3⟩ : Pure.Mach) = ([], ⟨3, 0, 0, 2, 3⟩) := by decide +kernel
section
variable {Obj : World → (Nat → Prop) → Value → Pure.Mach → Prop}
/-- A list beside a new one. -/
theorem ints_new (F : Nat → Prop) (x : Value) (a l : List Nat) (cs : Array Value) (n : Nat) (w : World) (hx : Row w F 1 x a.length (ints a)) (hc : cs = (ints l).toArray) (hn : n = l.length) (hl : l.length ≤ 1000) :
    Calls Try.prog 17 #[x, .slice (some ⟨w.heap.size, 0, none⟩) n n] (w.alloc (.cells cs 3)) fun e w' => e = .returned (.bool (decide (a = l))) ∧ Keeps nobody w w' := by
  have hk := (Keeps.refl nobody w).alloc (.cells cs 3)
  exact (ints_any F _ x _ a l _ (hx.keeps hk (fun _ _ h => h)) (irow_new w l cs n hc hn (by omega))).mono fun e w' ⟨he, h⟩ => ⟨he, hk.trans h⟩
set_option maxRecDepth 100000 in
set_option maxHeartbeats 4000000 in
theorem fsmKnown_walk' (H : FsmOk Obj) (w : World) : Calls Try.prog 3 #[] w fun e w' => e = .returned (.bool true) ∧ Below w.heap.size w w' := by
  have HA := Lib.hid (awake_any H w)
  go_enter Try.func3, Try.ntmps3
  go_wp2_with fail
  refine HA.out.mono ?_
  rintro e w1 ⟨rfl, hb1⟩
  have HN := Lib.hid (H.make hb1 2 3 (by decide))
  clear hb1 HA
  go_wp2_with fail
  refine HN.out.mono ?_
  rintro e w2 ⟨S, a, rfl, h2, _, _⟩
  have HNB := Lib.hid (H.newBad 0 3 w2 (by decide))
  have X2 := Lib.hid h2
  clear h2 HN
  go_wp2_with fail
  refine HNB.out.mono ?_
  rintro e w3 ⟨rfl, hk3⟩
  have h3 := X2.out.quiet H hk3
  clear hk3 X2 HNB
  have P3 := Lib.hid (h3.actAs H 0 known0)
  have HL3 := Lib.hid (H.lt h3.obj)
  clear h3
  go_wp2_with fail
  refine P3.out.mono ?_
  rintro e w4 ⟨A4, c4, rfl, r4, h4, k4⟩
  clear P3 HL3 r4 k4 
  have P4 := Lib.hid (h4.actAs H 2 known1)
  have HL4 := Lib.hid (H.lt h4.obj)
  clear h4
  go_wp2_with fail
  refine P4.out.mono ?_
  rintro e w5 ⟨A5, c5, rfl, r5, h5, k5⟩
  clear P4 HL4 r5 k5 
  have P5 := Lib.hid (h5.tickAs H known2)
  have HL5 := Lib.hid (H.lt h5.obj)
  clear h5
  go_wp2_with fail
  refine P5.out.mono ?_
  rintro e w6 ⟨A6, c6, rfl, r6, h6, k6⟩
  clear P5 HL5 r6 k6 
  have P6 := Lib.hid (h6.tickAs H known3)
  have HL6 := Lib.hid (H.lt h6.obj)
  clear h6
  go_wp2_with fail
  refine P6.out.mono ?_
  rintro e w7 ⟨A7, c7, rfl, r7, h7, k7⟩
  clear P6 HL6 r7 k7 
  have P7 := Lib.hid (h7.tickAs H known4)
  have HL7 := Lib.hid (H.lt h7.obj)
  clear h7
  go_wp2_with fail
  refine P7.out.mono ?_
  rintro e w8 ⟨A8, c8, rfl, r8, h8, k8⟩
  have R4_8 := Lib.hid (r8.mono (G := fun b => ¬ S b) (fun b hb hs => by have := HL7.out b hs; omega))
  clear P7 HL7 r8 k8 
  have P8 := Lib.hid (h8.tickAs H known5)
  have HL8 := Lib.hid (H.lt h8.obj)
  clear h8
  go_wp2_with fail
  refine P8.out.mono ?_
  rintro e w9 ⟨A9, c9, rfl, r9, h9, k9⟩
  have R4_9 := Lib.hid (R4_8.out.keeps k9 (fun b hb hs => hb hs))
  clear P8 HL8 r9 k9 R4_8
  have P9 := Lib.hid (h9.tickAs H known6)
  have HL9 := Lib.hid (H.lt h9.obj)
  clear h9
  go_wp2_with fail
  refine P9.out.mono ?_
  rintro e w10 ⟨A10, c10, rfl, r10, h10, k10⟩
  have R4_10 := Lib.hid (R4_9.out.keeps k10 (fun b hb hs => hb hs))
  clear P9 HL9 r10 k10 R4_9
  have P10 := Lib.hid (h10.tickAs H known7)
  have HL10 := Lib.hid (H.lt h10.obj)
  clear h10
  go_wp2_with fail
  refine P10.out.mono ?_
  rintro e w11 ⟨A11, c11, rfl, r11, h11, k11⟩
  have R4_11 := Lib.hid (R4_10.out.keeps k11 (fun b hb hs => hb hs))
  have R7_11 := Lib.hid (r11.mono (G := fun b => ¬ S b) (fun b hb hs => by have := HL10.out b hs; omega))
  clear P10 HL10 r11 k11 R4_10
  have P11 := Lib.hid (h11.tickAs H known8)
  have HL11 := Lib.hid (H.lt h11.obj)
  clear h11
  go_wp2_with fail
  refine P11.out.mono ?_
  rintro e w12 ⟨A12, c12, rfl, r12, h12, k12⟩
  have R4_12 := Lib.hid (R4_11.out.keeps k12 (fun b hb hs => hb hs))
  have R7_12 := Lib.hid (R7_11.out.keeps k12 (fun b hb hs => hb hs))
  clear P11 HL11 r12 k12 R4_11 R7_11
  have HH := Lib.hid h12
  clear h12
  go_wp2_with fail
  refine (ints_new _ _ [6] [6] _ 1 w12 R4_12.out rfl rfl (by decide)).mono ?_
  rintro e w13 ⟨rfl, k13⟩
  have R7_13 := Lib.hid (R7_12.out.keeps k13 (fun _ _ h => h))
  have HH2 := Lib.hid (HH.out.quiet H k13)
  clear k13 R4_12 R7_12 HH
  go_wp2_with fail
  refine (ints_new _ _ [3] [3] _ 1 w13 R7_13.out rfl rfl (by decide)).mono ?_
  rintro e w14 ⟨rfl, k14⟩
  have h14 := HH2.out.quiet H k14
  have Q1 := Lib.hid (H.state S _ _ w14 h14.obj)
  have Q3 := Lib.hid (H.running S _ _ w14 h14.obj)
  have HB := Lib.hid h14.below
  clear k14 R7_13 HH2 h14
  go_wp2_with fail
  refine Q1.out.mono ?_
  rintro e w15 ⟨rfl, rfl⟩
  go_wp2_with fail
  refine Q3.out.mono ?_
  rintro e w15 ⟨rfl, rfl⟩
  go_wp2
  go_ret
  exact ⟨rfl, HB.out⟩
end
end Go.Proofs.Ytjeekhgkcphnpaa
