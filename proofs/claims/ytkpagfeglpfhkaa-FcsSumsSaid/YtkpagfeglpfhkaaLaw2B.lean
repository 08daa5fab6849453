/- The walk of the law FcsSums. -/
import Derived.Test.YtkpagfeglpfhkaaLaw2A
namespace Go.Proofs.Ytkpagfeglpfhkaa
open Go.RowKit

set_option maxRecDepth 100000 in
set_option maxHeartbeats 2000000 in
theorem fcsSums_walk (a0 : Option Addr) (len0 cap0 : Nat) (z0 : List Int) (w : World) (w0 : IsRow .u8 w a0 len0 cap0 z0) :
    Calls Try.prog 11 #[.slice a0 len0 cap0] w fun e w' => e = .returned (.bool true) ∧ Below w.heap.size w w' := by
  obtain ⟨bs, hl, hrow⟩ := w0.bytes
  have HR0 := Lib.hid hrow
  have hmx := hrow.2.1
  unfold maxLen at hmx
  clear hrow w0
  subst hl
  go_enter Try.func11, Try.ntmps11
  go_wp2_with fail
  refine (awake2_any w).mono ?_
  rintro e w1 ⟨rfl, hb1⟩
  have B1 := Lib.hid hb1
  clear hb1
  by_cases h5 : 5000 < bs.length
  · go_wp2_with fail
    go_ret
    exact ⟨rfl, B1.out⟩
  · have hl5 : bs.length ≤ 100000000000000 := by omega
    have R1 := Lib.hid (HR0.out.keeps (Keeps.new B1.out) (fun _ _ h => h))
    have hF1 : ∀ b, b < w.heap.size → b < w1.heap.size := fun b hb => Nat.lt_of_lt_of_le hb B1.out.size
    have F1 := Lib.hid hF1
    clear hF1
    go_wp2_with fail
    refine (Check16_row _ _ bs w1 R1.out F1.out hl5).mono ?_
    rintro e w2 ⟨u2, rfl, hr2, hb2⟩
    have P2 := Lib.hid hr2
    have K2 := Lib.hid (Keeps.new hb2)
    have R2 := Lib.hid (R1.out.keeps K2.out (fun _ _ h => h))
    have F2 := Lib.hid (fun b hb => Nat.lt_of_lt_of_le (F1.out b hb) hb2.size)
    clear hr2 hb2
    go_wp2_with fail
    refine (refCheck16_row _ _ bs w2 R2.out F2.out hl5).mono ?_
    rintro e w3 ⟨u3, rfl, hr3, hb3⟩
    have P3 := Lib.hid hr3
    have K3 := Lib.hid (Keeps.new hb3)
    have R3 := Lib.hid (R2.out.keeps K3.out (fun _ _ h => h))
    have F3 := Lib.hid (fun b hb => Nat.lt_of_lt_of_le (F2.out b hb) hb3.size)
    clear hr3 hb3
    go_wp2_with fail
    refine (Check32_row _ _ bs w3 R3.out F3.out hl5).mono ?_
    rintro e w4 ⟨u4, rfl, hr4, hb4⟩
    have P4 := Lib.hid hr4
    have K4 := Lib.hid (Keeps.new hb4)
    have R4 := Lib.hid (R3.out.keeps K4.out (fun _ _ h => h))
    have F4 := Lib.hid (fun b hb => Nat.lt_of_lt_of_le (F3.out b hb) hb4.size)
    clear hr4 hb4
    go_wp2_with fail
    refine (refCheck32_row _ _ bs w4 R4.out F4.out hl5).mono ?_
    rintro e w5 ⟨u5, rfl, hr5, hb5⟩
    have P5 := Lib.hid hr5
    have K5 := Lib.hid (Keeps.new hb5)
    have R5 := Lib.hid (R4.out.keeps K5.out (fun _ _ h => h))
    have F5 := Lib.hid (fun b hb => Nat.lt_of_lt_of_le (F4.out b hb) hb5.size)
    clear hr5 hb5
    go_wp2_with fail
    refine (Sum16_any _ _ bs w5 R5.out).mono ?_
    rintro e w' ⟨rfl, rfl⟩
    go_wp2_with fail
    refine (refSum16_any _ _ bs w5 R5.out).mono ?_
    rintro e w' ⟨rfl, rfl⟩
    go_wp2_with fail
    refine (Sum32_any _ _ bs w5 R5.out).mono ?_
    rintro e w' ⟨rfl, rfl⟩
    go_wp2_with fail
    refine (refSum32_any _ _ bs w5 R5.out).mono ?_
    rintro e w' ⟨rfl, rfl⟩
    go_wp2_with fail
    refine (add16_row _ _ bs w5 R5.out F5.out hl5).mono ?_
    rintro e w6 ⟨u6, rfl, hr6, hb6⟩
    have P6 := Lib.hid hr6
    have K6 := Lib.hid (Keeps.new hb6)
    have R6 := Lib.hid (R5.out.keeps K6.out (fun _ _ h => h))
    have F6 := Lib.hid (fun b hb => Nat.lt_of_lt_of_le (F5.out b hb) hb6.size)
    clear hr6 hb6
    go_wp2_with fail
    refine (refAdd16_row _ _ bs w6 R6.out F6.out hl5).mono ?_
    rintro e w7 ⟨u7, rfl, hr7, hb7⟩
    have P7 := Lib.hid hr7
    have K7 := Lib.hid (Keeps.new hb7)
    have R7 := Lib.hid (R6.out.keeps K7.out (fun _ _ h => h))
    have F7 := Lib.hid (fun b hb => Nat.lt_of_lt_of_le (F6.out b hb) hb7.size)
    have Q6 := Lib.hid (P6.out.keeps K7.out (fun _ _ h => h))
    clear hr7 hb7
    go_wp2_with fail
    refine (same_any _ _ _ _ (Pure.add16 bs) (Pure.add16 bs) w7 Q6.out P7.out).mono ?_
    rintro e w8 ⟨rfl, hk8⟩
    rw [show decide (Pure.add16 bs = Pure.add16 bs) = true by simp]
    have K8 := Lib.hid hk8
    have R8 := Lib.hid (R7.out.keeps K8.out (fun _ _ h => h))
    have F8 := Lib.hid (fun b hb => Nat.lt_of_lt_of_le (F7.out b hb) hk8.size)
    clear hk8 Q6 P6 P7
    go_wp2_with fail
    refine (add32_row _ _ bs w8 R8.out F8.out hl5).mono ?_
    rintro e w9 ⟨u9, rfl, hr9, hb9⟩
    have P9 := Lib.hid hr9
    have K9 := Lib.hid (Keeps.new hb9)
    have R9 := Lib.hid (R8.out.keeps K9.out (fun _ _ h => h))
    have F9 := Lib.hid (fun b hb => Nat.lt_of_lt_of_le (F8.out b hb) hb9.size)
    clear hr9 hb9
    go_wp2_with fail
    refine (refAdd32_row _ _ bs w9 R9.out F9.out hl5).mono ?_
    rintro e w10 ⟨u10, rfl, hr10, hb10⟩
    have P10 := Lib.hid hr10
    have K10 := Lib.hid (Keeps.new hb10)
    have Q9 := Lib.hid (P9.out.keeps K10.out (fun _ _ h => h))
    clear hr10 hb10
    go_wp2_with fail
    refine (same_any _ _ _ _ (Pure.add32 bs) (Pure.add32 bs) w10 Q9.out P10.out).mono ?_
    rintro e w11 ⟨rfl, hk11⟩
    rw [show decide (Pure.add32 bs = Pure.add32 bs) = true by simp]
    have K11 := Lib.hid hk11
    have KA := Lib.hid (K6.out.trans (K7.out.trans (K8.out.trans (K9.out.trans (K10.out.trans K11.out)))))
    have Q2 := Lib.hid (P2.out.keeps (K3.out.trans (K4.out.trans (K5.out.trans KA.out))) (fun _ _ h => h))
    have Q3 := Lib.hid (P3.out.keeps (K4.out.trans (K5.out.trans KA.out)) (fun _ _ h => h))
    have Q4 := Lib.hid (P4.out.keeps (K5.out.trans KA.out) (fun _ _ h => h))
    have Q5 := Lib.hid (P5.out.keeps KA.out (fun _ _ h => h))
    have B11 := Lib.hid (Below.quiet B1.out (K2.out.trans (K3.out.trans (K4.out.trans (K5.out.trans KA.out)))) B1.out.size)
    clear hk11 Q9 P9 P10 P2 P3 P4 P5 KA K2 K3 K4 K5 K6 K7 K8 K9 K10 K11
    have hbb : ∀ b : Bool, (b == b) = true := fun b => by cases b <;> rfl
    have h16 := hbb (Pure.ends16 bs)
    have h32 := hbb (Pure.ends32 bs)
    clear hbb
    go_wp2_with fail
    refine (same_any _ _ _ _ (Pure.rest16 bs) (Pure.rest16 bs) w11 Q2.out Q3.out).mono ?_
    rintro e w12 ⟨rfl, hk12⟩
    rw [show decide (Pure.rest16 bs = Pure.rest16 bs) = true by simp]
    have K12 := Lib.hid hk12
    have S4 := Lib.hid (Q4.out.keeps hk12 (fun _ _ h => h))
    have S5 := Lib.hid (Q5.out.keeps hk12 (fun _ _ h => h))
    have B12 := Lib.hid (Below.quiet B11.out hk12 B11.out.size)
    clear hk12
    go_wp2_with fail
    refine (same_any _ _ _ _ (Pure.rest32 bs) (Pure.rest32 bs) w12 S4.out S5.out).mono ?_
    rintro e w13 ⟨rfl, hk13⟩
    rw [show decide (Pure.rest32 bs = Pure.rest32 bs) = true by simp]
    have B13 := Lib.hid (Below.quiet B12.out hk13 B12.out.size)
    clear hk13
    go_wp2
    go_ret
    exact ⟨rfl, B13.out⟩
end Go.Proofs.Ytkpagfeglpfhkaa
