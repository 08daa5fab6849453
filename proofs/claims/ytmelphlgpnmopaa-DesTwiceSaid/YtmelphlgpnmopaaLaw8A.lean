/- The laws of des: awake, DesKnown, DesBlocks. -/
import Derived.Test.YtmelphlgpnmopaaFrame
import Derived.Test.YtmelphlgpnmopaaEnc
import Derived.Test.YtmelphlgpnmopaaLawL
namespace Go.Proofs.Ytmelphlgpnmopaa
open Go.RowKit
section
variable {w0 wr : World}
theorem encL {F G : Nat → Prop} {x y : Value} {key block : List UInt8} (B : Below w0.heap.size w0 wr) (hx : Row wr F 1 x 7 (u8s key)) (hy : Row wr G 1 y 8 (u8s block)) (hk : key.length = 7) (hb : block.length = 8) (hF : ∀ b, F b → b < wr.heap.size) (hG : ∀ b, G b → b < wr.heap.size) :
    Calls Try.prog 8 #[x, y] wr fun e w' => ∃ A c, e = .returned (.tuple #[.slice A 8 c, .int .i64 0]) ∧ w'.ownsRow wr.heap.size 5 1 (.slice A 8 c) 8 (u8s (Pure.des key block)) ∧ Keeps nobody wr w' ∧ Below w0.heap.size w0 w' :=
  (encrypt_ok F G x y key block wr hx hy hk hb hF hG).mono fun e w' ⟨u, he, hu, hb⟩ => by
    obtain ⟨A, c, rfl⟩ := own_form hu
    exact ⟨A, c, he, hu, Keeps.new hb, B.trans (hb.mono B.size)⟩
theorem encN {F G : Nat → Prop} {x y : Value} {key block : List UInt8} (B : Below w0.heap.size w0 wr) (hx : Row wr F 1 x key.length (u8s key)) (hy : Row wr G 1 y block.length (u8s block)) (hbad : key.length ≠ 7 ∨ block.length ≠ 8) :
    Calls Try.prog 8 #[x, y] wr fun e w' => ∃ A c, e = .returned (.tuple #[.slice A 0 c, .int .i64 1]) ∧ Row w' nobody 1 (.slice A 0 c) 0 [] ∧ Keeps nobody wr w' ∧ Below w0.heap.size w0 w' :=
  (encrypt_bad F G x y key block wr hx hy hbad).mono fun e w' ⟨u, he, hu, hb⟩ => by
    obtain ⟨A, c, rfl, _⟩ := hu.form
    exact ⟨A, c, he, hu, Keeps.new hb, B.trans (hb.mono B.size)⟩
theorem docL {F G : Nat → Prop} {x y : Value} {key block : List UInt8} (B : Below w0.heap.size w0 wr) (hx : Row wr F 1 x 7 (u8s key)) (hy : Row wr G 1 y 8 (u8s block)) (hk : key.length = 7) (hb : block.length = 8) (hF : ∀ b, F b → b < wr.heap.size) (hG : ∀ b, G b → b < wr.heap.size) :
    Calls Try.prog 9 #[x, y] wr fun e w' => ∃ A c, e = .returned (.tuple #[.slice A 8 c, .int .i64 0]) ∧ w'.ownsRow wr.heap.size 5 1 (.slice A 8 c) 8 (u8s (Pure.des key block)) ∧ Keeps nobody wr w' ∧ Below w0.heap.size w0 w' :=
  (docdes_ok F G x y key block wr hx hy hk hb hF hG).mono fun e w' ⟨u, he, hu, hb⟩ => by
    obtain ⟨A, c, rfl⟩ := own_form hu
    exact ⟨A, c, he, hu, Keeps.new hb, B.trans (hb.mono B.size)⟩
end

set_option maxRecDepth 100000 in
set_option maxHeartbeats 2000000 in
theorem awake_any (w : World) : Calls Try.prog 7 #[] w fun e w' => e = .returned (.bool true) ∧ Below w.heap.size w w' := by
  go_enter Try.func7, Try.ntmps7
  go_wp2_with fail
  obtain ⟨w1, hw1⟩ : ∃ w1, w1 = w.alloc (.cells (u8s [0x12, 0x69, 0x5b, 0xc9, 0xb7, 0xb7, 0xf8]).toArray 5) := ⟨_, rfl⟩
  obtain ⟨w2, hw2⟩ : ∃ w2, w2 = w1.alloc (.cells (u8s [0x01, 0x23, 0x45, 0x67, 0x89, 0xab, 0xcd, 0xef]).toArray 5) := ⟨_, rfl⟩
  have hk1 : Keeps nobody w w1 := by rw [hw1]; exact (Keeps.refl _ w).alloc _
  have hk2 : Keeps nobody w1 w2 := by rw [hw2]; exact (Keeps.refl _ w1).alloc _
  have hr1 : Row w2 (fun b => b = w.heap.size) 1 (.slice (some ⟨w.heap.size, 0, none⟩) 7 7) 7 (u8s [0x12, 0x69, 0x5b, 0xc9, 0xb7, 0xb7, 0xf8]) := by
    have := row_new w [0x12, 0x69, 0x5b, 0xc9, 0xb7, 0xb7, 0xf8] _ 7 rfl rfl (by simp)
    rw [← hw1] at this
    exact this.keeps hk2 (fun _ _ h => h)
  have hz1 : w1.heap.size = w.heap.size + 1 := by rw [hw1]; simp
  have hr2 : Row w2 (fun b => b = w.heap.size + 1) 1 (.slice (some ⟨w.heap.size + 1, 0, none⟩) 8 8) 8 (u8s [0x01, 0x23, 0x45, 0x67, 0x89, 0xab, 0xcd, 0xef]) := by
    have := row_new w1 [0x01, 0x23, 0x45, 0x67, 0x89, 0xab, 0xcd, 0xef] _ 8 rfl rfl (by simp)
    rw [← hw2, hz1] at this
    exact this
  have hz2 : w2.heap.size = w.heap.size + 2 := by rw [hw2, World.size_alloc, hz1]
  have B2 : Below w.heap.size w w2 := Keeps.to_below (hk1.trans hk2)
  have HE := Lib.hid (encL B2 hr1 hr2 rfl rfl (fun b hb => by have hb : b = _ := hb; omega) (fun b hb => by have hb : b = _ := hb; omega))
  have e2 : (w.alloc (.cells #[.int .u8 18, .int .u8 105, .int .u8 91, .int .u8 201, .int .u8 183, .int .u8 183, .int .u8 248] 5)).alloc (.cells #[.int .u8 1, .int .u8 35, .int .u8 69, .int .u8 103, .int .u8 137, .int .u8 171, .int .u8 205, .int .u8 239] 5) = w2 := by rw [hw2, hw1]; rfl
  rw [e2]
  clear hw1 hw2 hk1 hk2 hr1 hr2 hz1 hz2 B2 e2
  refine HE.out.mono ?_
  rintro e w3 ⟨A, c, rfl, hu, _, hb3⟩
  rw [Pure.des_known] at hu
  have hk4 : Keeps nobody w3 (w3.alloc (.cells (u8s [0x85, 0xe8, 0x13, 0x54, 0x0f, 0x0a, 0xb4, 0x05]).toArray 5)) := (Keeps.refl _ w3).alloc _
  have HSM := Lib.hid (sameY (a := [0x85, 0xe8, 0x13, 0x54, 0x0f, 0x0a, 0xb4, 0x05]) (Below.quiet hb3 hk4 hb3.size) (Row.of_own (own_quiet hu hk4)) (row_new w3 [0x85, 0xe8, 0x13, 0x54, 0x0f, 0x0a, 0xb4, 0x05] _ 8 rfl rfl (by simp)) rfl rfl)
  clear hu hb3 hk4 HE
  go_wp2_with fail
  refine HSM.out.mono ?_
  rintro e w5 ⟨rfl, _, hb5⟩
  have H5 := Lib.hid hb5
  clear hb5 HSM
  go_wp2
  go_ret
  exact ⟨rfl, H5.out⟩
end Go.Proofs.Ytmelphlgpnmopaa
