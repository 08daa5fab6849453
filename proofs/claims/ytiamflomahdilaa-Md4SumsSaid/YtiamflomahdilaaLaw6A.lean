/- The laws of md4: awake, Md4Known, Md4Sums. -/
import Derived.Test.YtiamflomahdilaaFrame
import Derived.Test.YtiamflomahdilaaDigS
import Derived.Test.YtiamflomahdilaaDigR
import Derived.Test.YtiamflomahdilaaLawL
namespace Go.Proofs.Ytiamflomahdilaa
open Go.RowKit
section
variable {w0 wr : World}
theorem sumL {F : Nat → Prop} {x : Value} {bs : List UInt8} (B : Below w0.heap.size w0 wr) (hr : Row wr F 1 x bs.length (u8s bs)) (hF : ∀ b, F b → b < wr.heap.size) (hl : bs.length ≤ 100000000) :
    Calls Try.prog 7 #[x] wr fun e w' => ∃ A c, e = .returned (.slice A 16 c) ∧ w'.ownsRow wr.heap.size 5 1 (.slice A 16 c) 16 (u8s (Pure.md4 bs)) ∧ Keeps nobody wr w' ∧ Below w0.heap.size w0 w' :=
  (sum_any F x bs wr hF hl hr).mono fun e w' ⟨u, he, hu, hb⟩ => by
    obtain ⟨A, c, rfl⟩ := own_form hu
    exact ⟨A, c, he, hu, Keeps.new hb, B.trans (hb.mono B.size)⟩
theorem docsumL {F : Nat → Prop} {x : Value} {bs : List UInt8} (B : Below w0.heap.size w0 wr) (hr : Row wr F 1 x bs.length (u8s bs)) (hF : ∀ b, F b → b < wr.heap.size) (hl : bs.length ≤ 10000000) :
    Calls Try.prog 9 #[x] wr fun e w' => ∃ A c, e = .returned (.slice A 16 c) ∧ w'.ownsRow wr.heap.size 5 1 (.slice A 16 c) 16 (u8s (Pure.md4 bs)) ∧ Keeps nobody wr w' ∧ Below w0.heap.size w0 w' :=
  (docmd4_any F x bs wr hF hl hr).mono fun e w' ⟨u, he, hu, hb⟩ => by
    obtain ⟨A, c, rfl⟩ := own_form hu
    exact ⟨A, c, he, hu, Keeps.new hb, B.trans (hb.mono B.size)⟩
end
theorem md4_nil : Pure.md4 [] = [0x31, 0xd6, 0xcf, 0xe0, 0xd1, 0x6a, 0xe9, 0x31, 0xb7, 0x3c, 0x59, 0xd7, 0xe0, 0xc0, 0x89, 0xc0] := md4_none

set_option maxRecDepth 100000 in
set_option maxHeartbeats 2000000 in
theorem awake_any (w : World) : Calls Try.prog 5 #[] w fun e w' => e = .returned (.bool true) ∧ Below w.heap.size w w' := by
  have HS := Lib.hid (sumL (bs := []) (F := nobody) (Below.refl _ w) (Row.nil w nobody 1) (fun _ h => False.elim h) (by simp))
  go_enter Try.func5, Try.ntmps5
  go_wp2_with fail
  refine HS.out.mono ?_
  rintro e w1 ⟨A, c, rfl, hu, _, hb1⟩
  rw [md4_nil] at hu
  have hk2 : Keeps nobody w1 (w1.alloc (.cells #[.int .u8 49, .int .u8 214, .int .u8 207, .int .u8 224] 5)) := (Keeps.refl _ w1).alloc _
  have hr1 := (Row.of_own (own_quiet hu hk2)).take1 4 (by omega)
  have HSM := Lib.hid (sameY (a := [49, 214, 207, 224]) (Below.quiet hb1 hk2 hb1.size) hr1 (row_new w1 [49, 214, 207, 224] #[.int .u8 49, .int .u8 214, .int .u8 207, .int .u8 224] 4 rfl rfl (by simp)) rfl rfl)
  obtain ⟨_, _, A', c', e, hcc, _⟩ := Row.of_own hu
  injection e with e1 _ e3
  subst e1 e3
  have H1 := Lib.hid hb1
  clear hu hk2 hr1 hb1 HS
  go_wp2_with fail
  refine HSM.out.mono ?_
  rintro e w3 ⟨rfl, _, hb3⟩
  have H3 := Lib.hid hb3
  clear hb3 HSM
  go_wp2
  go_ret
  exact ⟨rfl, H3.out⟩

set_option maxRecDepth 100000 in
set_option maxHeartbeats 2000000 in
theorem md4Known_walk (w : World) : Calls Try.prog 3 #[] w fun e w' => e = .returned (.bool true) ∧ Below w.heap.size w w' := by
  go_enter Try.func3, Try.ntmps3
  go_wp2_with fail
  refine (awake_any w).mono ?_
  rintro e w1 ⟨rfl, hb1⟩
  have kc := fun (w : World) (C : Array Value) (n c : Nat) => Lib.run_convert_bytes_const (P := Try.prog) w 24 5 C n c Try.underlying24 Try.underlying5
  have B1 := Lib.hid (hb1.alloc hb1.size (.cells #[.int .u8 97, .int .u8 98, .int .u8 99] 5 (3, 4)))
  have HS := Lib.hid (sumL B1.out (row_mark w1 [97, 98, 99] #[.int .u8 97, .int .u8 98, .int .u8 99] 3 (3, 4) rfl rfl (by simp)) (fun b hb => by simp [hb]) (by simp))
  clear hb1
  go_wp2_with fail
  refine HS.out.mono ?_
  rintro e w3 ⟨A3, c3, rfl, hu, _, hb3⟩
  rw [md4_abc] at hu
  have hk4 : Keeps nobody w3 (w3.alloc (.cells #[.int .u8 164, .int .u8 72, .int .u8 1, .int .u8 122, .int .u8 175, .int .u8 33, .int .u8 216, .int .u8 82, .int .u8 95, .int .u8 193, .int .u8 10, .int .u8 232, .int .u8 122, .int .u8 166, .int .u8 114, .int .u8 157] 5)) := (Keeps.refl _ w3).alloc _
  have HSM := Lib.hid (sameY (a := [164, 72, 1, 122, 175, 33, 216, 82, 95, 193, 10, 232, 122, 166, 114, 157]) (Below.quiet hb3 hk4 hb3.size) (Row.of_own (own_quiet hu hk4)) (row_new w3 [164, 72, 1, 122, 175, 33, 216, 82, 95, 193, 10, 232, 122, 166, 114, 157] #[.int .u8 164, .int .u8 72, .int .u8 1, .int .u8 122, .int .u8 175, .int .u8 33, .int .u8 216, .int .u8 82, .int .u8 95, .int .u8 193, .int .u8 10, .int .u8 232, .int .u8 122, .int .u8 166, .int .u8 114, .int .u8 157] 16 rfl rfl (by simp)) rfl rfl)
  clear hu hk4 hb3 HS
  go_wp2_with fail
  refine HSM.out.mono ?_
  rintro e w5 ⟨rfl, _, hb5⟩
  have B5 := Lib.hid hb5
  clear hb5 HSM
  go_wp2
  go_ret
  exact ⟨rfl, B5.out⟩
set_option maxRecDepth 100000 in
set_option maxHeartbeats 2000000 in
theorem md4Sums_walk (a0 : Option Addr) (len0 cap0 : Nat) (z0 : List Int) (w : World) (w0 : IsRow .u8 w a0 len0 cap0 z0) :
    Calls Try.prog 4 #[.slice a0 len0 cap0] w fun e w' => e = .returned (.bool true) ∧ Below w.heap.size w w' := by
  obtain ⟨bs, hbl, hr⟩ := w0.bytes
  rw [← hbl] at hr ⊢
  have HR := Lib.hid hr.strong
  clear hr w0 hbl
  go_enter Try.func4, Try.ntmps4
  go_wp2_with fail
  refine (awake_any w).mono ?_
  rintro e w1 ⟨rfl, hb1⟩
  have H1 := Lib.hid hb1
  clear hb1
  by_cases hl : (bs.length : Int) > 5000
  · go_wp2
    go_ret
    exact ⟨rfl, H1.out⟩
  · have hl2 : bs.length ≤ 5000 := by omega
    have R1 := Lib.hid (HR.out.keeps (Keeps.new H1.out) (fun _ _ h => h))
    have HC := Lib.hid (copyL H1.out R1.out (fun b hb => Nat.lt_of_lt_of_le hb.2 H1.out.size) (by omega))
    go_wp2_with fail
    refine HC.out.mono ?_
    rintro e w2 ⟨A2, c2, rfl, hu2, hk2, hb2⟩
    have B2 := Lib.hid hb2
    have U2 := Lib.hid hu2
    have R2 := Lib.hid (R1.out.keeps hk2 (fun _ _ h => h))
    have HS := Lib.hid (sumL B2.out R2.out (fun b hb => Nat.lt_of_lt_of_le hb.2 B2.out.size) (by omega))
    clear hu2 hk2 hb2 HC R1
    go_wp2_with fail
    refine HS.out.mono ?_
    rintro e w3 ⟨A3, c3, rfl, hu3, hk3, hb3⟩
    have B3 := Lib.hid hb3
    have U3 := Lib.hid hu3
    have R3 := Lib.hid (R2.out.keeps hk3 (fun _ _ h => h))
    have U2' := Lib.hid (own_quiet U2.out hk3)
    have HD := Lib.hid (docsumL B3.out R3.out (fun b hb => Nat.lt_of_lt_of_le hb.2 B3.out.size) (by omega))
    clear hu3 hk3 hb3 HS R2 U2
    go_wp2_with fail
    refine HD.out.mono ?_
    rintro e w4 ⟨A4, c4, rfl, hu4, hk4, hb4⟩
    have R4 := Lib.hid (R3.out.keeps hk4 (fun _ _ h => h))
    have U24 := Lib.hid (own_quiet U2'.out hk4)
    have HSM := Lib.hid (sameY hb4 (Row.of_own (own_quiet U3.out hk4)) (Row.of_own hu4) (Pure.md4_length bs) rfl)
    clear hu4 hk4 hb4 HD R3 U2' U3
    go_wp2_with fail
    refine HSM.out.mono ?_
    rintro e w5 ⟨rfl, hk5, hb5⟩
    have HSM2 := Lib.hid (sameY hb5 (Row.of_own (own_quiet U24.out hk5)) (R4.out.keeps hk5 (fun _ _ h => h)) rfl rfl)
    clear hk5 hb5 HSM R4 U24
    go_wp2_with fail
    refine HSM2.out.mono ?_
    rintro e w6 ⟨rfl, _, hb6⟩
    have B6 := Lib.hid hb6
    clear hb6 HSM2
    go_wp2
    go_ret
    exact ⟨rfl, B6.out⟩
end Go.Proofs.Ytiamflomahdilaa
