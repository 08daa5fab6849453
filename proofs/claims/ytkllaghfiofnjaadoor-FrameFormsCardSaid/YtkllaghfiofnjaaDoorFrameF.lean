/- Contracts of package frame: Decode, Wire, Read. -/
import Derived.Test.YtkllaghfiofnjaaDoorFrameE
import Derived.Test.YtkllaghfiofnjaaDoorFcsD
import Derived.Test.YtkllaghfiofnjaaDoorStuffC
namespace Go.Proofs.YtkllaghfiofnjaaDoor
open Go.RowKit

/-- What Decode and Read answer. -/
def Decodes (s : Pure.Says) (w : World) (e : Ending) (w' : World) : Prop :=
  Below w.heap.size w w' ∧ ∃ u, e = .returned (.tuple #[.int .i64 s.1, u, .int .i64 s.2.2]) ∧ w'.ownsRow w.heap.size 5 1 u s.2.1.length (u8s s.2.1)
set_option maxHeartbeats 1000000 in
theorem Decode_any (F : Nat → Prop) (x : Value) (bs : List UInt8) (a q : Bool) (w : World) (hg : Handle w) (hr : Row w F 1 x bs.length (u8s bs)) (hF : ∀ b, F b → b < w.heap.size) (hl : bs.length ≤ 100000000000000) :
    Calls Tryd.prog 14 #[x, .agg #[.bool a, .bool q]] w (Decodes (Pure.dec bs a q) w) := by
  have HR := Lib.hid hr
  have HF := Lib.hid hF
  obtain ⟨A, c, rfl, hc⟩ := hr.form
  have HG := Lib.hid hg
  have B0 := Lib.hid ((Below.refl w.heap.size w).alloc (Nat.le_refl _) (.cells #[.bool a, .bool q] 24))
  have HD := Lib.hid (decode_any F _ bs a q (w.alloc (.cells #[.bool a, .bool q] 24)) (HR.out.keeps (Keeps.new B0.out) (fun _ _ h => h)) (fun b hb => Nat.lt_of_lt_of_le (HF.out b hb) B0.out.size))
  have DE := Lib.hid (Pure.dec_err bs a q)
  have DL : (Pure.dec bs a q).2.1.length ≤ 1516 := by
    have key : ∀ p i, (Pure.fits p i).2.1.length ≤ 1516 := by intro p i; unfold Pure.fits; split <;> simp; omega
    have kb : ∀ b, (Pure.said b q).2.1.length ≤ 1516 := by
      intro b
      rw [Pure.said_pb]
      split
      · exact key _ _
      · simp
    unfold Pure.dec
    split
    · exact kb _
    · split
      · exact kb _
      · simp
  obtain ⟨S, hS⟩ : ∃ S, S = Pure.dec bs a q := ⟨_, rfl⟩
  rw [← hS] at HD DE DL ⊢
  clear hr hF hg hS
  go_enter Tryd.func14, Tryd.ntmps14
  go_wp2_with fail
  refine HD.out.mono ?_
  rintro e w1 ⟨hb1, P, I, v, rfl, he, hok⟩
  have B1 := Lib.hid (B0.out.trans (hb1.mono B0.out.size))
  have HE := Lib.hid he
  have OK := Lib.hid hok
  clear hb1 he hok HD
  go_wp2_with fail
  refine (number_any v _ w1 (HG.out.below B1.out) HE.out).mono ?_
  rintro e w2 ⟨rfl, hb2⟩
  have B2 := Lib.hid (B1.out.trans (hb2.mono B1.out.size))
  have W2 := Lib.hid hb2
  clear hb2
  by_cases h0 : S.2.2 = 0
  · obtain ⟨rfl, hI⟩ := OK.out h0
    have hr2 := hI.keeps (Keeps.new W2.out) (fun _ _ h => h)
    obtain ⟨A2, c2, rfl, _⟩ := hr2.form
    have CL := Lib.hid (bclone_any F _ _ S.2.1 w2 hr2 (by omega))
    have hn : ((S.2.2 : Int) != 0) = false := by simp; omega
    have H0 := Lib.hid h0
    clear h0 hI hr2 OK
    go_wp2_with fail
    refine CL.out.mono ?_
    rintro e w3 ⟨u, rfl, hown, hb3⟩
    have B3 := Lib.hid (B2.out.trans (hb3.mono B2.out.size))
    have O3 := Lib.hid (ownsRow_base (base' := w.heap.size) hown B2.out.size)
    clear hown hb3
    go_wp2
    go_ret3
    exact ⟨B3.out, u, by rw [H0.out]; rfl, O3.out⟩
  · obtain ⟨h1, h2⟩ := DE.out h0
    have hn : ((S.2.2 : Int) != 0) = true := by simp; omega
    have H1 := Lib.hid h1
    have H2 := Lib.hid h2
    clear h0 h1 h2 OK
    go_wp2_with fail
    go_ret3
    exact ⟨B2.out, _, by rw [H1.out]; rfl, by rw [H2.out]; exact ⟨rfl, .inl ⟨rfl, rfl⟩⟩⟩
end Go.Proofs.YtkllaghfiofnjaaDoor
