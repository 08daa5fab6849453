/- What the laws on frames begin with. -/
import Derived.Test.YtkllaghfiofnjaaDoorFrameG
import Derived.Test.YtkllaghfiofnjaaDoorFrame
namespace Go.Proofs.YtkllaghfiofnjaaDoor
open Go.RowKit

set_option maxRecDepth 100000 in
set_option maxHeartbeats 1000000 in
theorem awake4_any (w : World) (hg : Handle w) : Calls Tryd.prog 12 #[] w fun e w' => e = .returned (.bool true) ∧ Below w.heap.size w w' := by
  have b1 := (Below.refl w.heap.size w).alloc (Nat.le_refl _) (.cells #[.int .u8 69] 5)
  have hrow := row_new w [69] #[.int .u8 69] 1 rfl rfl (by simp)
  have B1 := Lib.hid b1
  have HE := Lib.hid (Encode_any _ 33 _ [69] true true _ (hg.below b1) hrow (fun b hb => by subst hb; simp))
  have k0 : Pure.sendErr 33 [(69 : UInt8)].length = 0 := by decide
  have k1 : Pure.enc (33 : Int).toNat [69] true true = [33, 69] := by decide
  have k2 : Pure.dec [33, 69] true true = (33, [69], 0) := by decide
  have K0 := Lib.hid k0
  have K1 := Lib.hid k1
  have K2 := Lib.hid k2
  have HG := Lib.hid hg
  clear b1 hrow k0 k1 k2 hg
  go_enter Tryd.func12, Tryd.ntmps12
  go_wp2_with fail
  refine HE.out.mono ?_
  rintro e w1 ⟨hb1, h⟩
  rw [K0.out, K1.out] at h
  rcases h with ⟨h, _⟩ | ⟨_, u, rfl, ho⟩
  · exact absurd rfl h
  · have B2 := Lib.hid (B1.out.trans (hb1.mono B1.out.size))
    have HD := Lib.hid (Decode_any _ u [33, 69] true true w1 (HG.out.below B2.out) (Row.of_own ho) (fun b hb => ownsRow_lt ho b hb) (by simp))
    rw [K2.out] at HD
    obtain ⟨A1, c1, rfl⟩ := own_form ho
    clear hb1 ho HE
    go_wp2_with fail
    refine HD.out.mono ?_
    rintro e w2 ⟨hb2, u2, rfl, ho2⟩
    have B3 := Lib.hid (B2.out.trans (hb2.mono B2.out.size))
    obtain ⟨A2, c2, rfl⟩ := own_form ho2
    clear hb2 ho2 HD
    go_wp2
    go_ret
    exact ⟨rfl, B3.out⟩
end Go.Proofs.YtkllaghfiofnjaaDoor
