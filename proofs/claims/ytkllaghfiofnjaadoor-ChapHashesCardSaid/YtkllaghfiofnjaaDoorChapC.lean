/- The document's Hash of a secret. -/
import Derived.Test.YtkllaghfiofnjaaDoorChapB
import Derived.Test.YtkllaghfiofnjaaDoorDigR
namespace Go.Proofs.YtkllaghfiofnjaaDoor
open Go.RowKit
namespace Pure
/-- What is wrong with a secret, or nothing, and its hash. -/
def hash (l : List UInt8) : Nat × List UInt8 := if (secret l).1 = 0 then (0, md4 (secret l).2) else ((secret l).1, [])
theorem hash_ok {l : List UInt8} (h : (secret l).1 = 0) : hash l = (0, md4 (secret l).2) := if_pos h
theorem hash_bad {l : List UInt8} (h : (secret l).1 ≠ 0) : hash l = ((secret l).1, []) := if_neg h
theorem secret_length (l : List UInt8) : (secret l).2.length ≤ 512 := by
  unfold secret
  split
  · simp
  · split <;> simp; omega
theorem secret_lt (l : List UInt8) : (secret l).1 ≤ 4 := by
  unfold secret
  split
  · simp
  · split <;> simp
end Pure
theorem dochash_any (s : ByteArray) (l : List UInt8) (hl : s.data.toList = l) (hsz : l.length ≤ 1000000) (w : World) :
    Calls Tryd.prog 29 #[.string s] w fun e w' => ∃ v, e = .returned (.tuple #[v, .int .i64 (((Pure.hash l).1 : Nat) : Int)]) ∧ w'.ownsRow w.heap.size 5 1 v (Pure.hash l).2.length (u8s (Pure.hash l).2) ∧ Below w.heap.size w w' := by
  have HU := Lib.hid (units_any s l hl hsz)
  have hlen := Pure.secret_length l
  have hcode := Pure.secret_lt l
  obtain ⟨E, hE⟩ : ∃ E, E = (Pure.secret l).1 := ⟨_, rfl⟩
  obtain ⟨U, hUU⟩ : ∃ U, U = (Pure.secret l).2 := ⟨_, rfl⟩
  have hok := fun h => Pure.hash_ok (l := l) h
  have hbad := fun h => Pure.hash_bad (l := l) h
  rw [← hE] at HU hcode hok hbad
  rw [← hUU] at HU hlen hok
  have HOK := Lib.hid hok
  have HBAD := Lib.hid hbad
  clear hok hbad hE hUU hl
  go_enter Tryd.func29, Tryd.ntmps29
  go_wp2_with fail
  refine (HU.out w).mono ?_
  rintro e w1 ⟨v, rfl, hu, hb1⟩
  obtain ⟨A1, c1, rfl⟩ := own_form hu
  have HW := Lib.hid hu
  have HB := Lib.hid hb1
  clear hu hb1 HU
  by_cases h0 : E = 0
  · subst h0
    have HM := Lib.hid (docmd4_any (fun b => (Value.slice A1 U.length c1).ownBlock = some b) _ U w1 (fun b hb => ownsRow_lt HW.out b hb) (by omega) (Row.of_own HW.out))
    have HH := Lib.hid (HOK.out rfl)
    clear HOK HBAD
    go_wp2_with fail
    refine HM.out.mono ?_
    rintro e w2 ⟨u, rfl, hu2, hb2⟩
    obtain ⟨A2, c2, rfl⟩ := own_form hu2
    have HW2 := Lib.hid hu2
    have HB2 := Lib.hid hb2
    clear hu2 hb2 HM
    go_wp2
    go_ret2
    refine ⟨_, by rw [HH.out]; rfl, ?_, HB.out.trans (HB2.out.mono HB.out.size)⟩
    rw [HH.out]
    have h := ownsRow_base HW2.out HB.out.size
    have e16 : (Pure.md4 U).length = 16 := by have := h.1; simpa using this
    rw [show ((0, Pure.md4 U) : Nat × List UInt8).2 = Pure.md4 U from rfl, e16]
    exact h
  · have HH := Lib.hid (HBAD.out h0)
    have d0 : ((E : Int) != 0) = true := by rw [bne_iff_ne]; omega
    clear HOK HBAD
    go_wp2
    go_ret2
    exact ⟨_, by rw [HH.out]; rfl, by rw [HH.out]; exact World.ownsRow_nil _ _ _ _, HB.out⟩
end Go.Proofs.YtkllaghfiofnjaaDoor
