/- The laws of chap: awake, ChapHashes. -/
import Derived.Test.YtkllaghfiofnjaaDoorFrame
import Derived.Test.YtkllaghfiofnjaaDoorHash
import Derived.Test.YtkllaghfiofnjaaDoorLawL
namespace Go.Proofs.YtkllaghfiofnjaaDoor
open Go.RowKit
section
variable {w0 wr : World}
theorem hashL (E : Env w0) {s : ByteArray} {l : List UInt8} (B : Below w0.heap.size w0 wr) (hl : s.data.toList = l) (hsz : l.length ≤ 1000000) :
    Calls Tryd.prog 28 #[.string s] wr fun e w' => ∃ A c, e = .returned (.tuple #[.slice A (Pure.hash l).2.length c, .int .i64 (((Pure.hash l).1 : Nat) : Int)]) ∧ w'.ownsRow wr.heap.size 5 1 (.slice A (Pure.hash l).2.length c) (Pure.hash l).2.length (u8s (Pure.hash l).2) ∧ Keeps nobody wr w' ∧ Below w0.heap.size w0 w' :=
  (hash_any s l hl hsz wr (E.below B)).mono fun e w' ⟨u, he, hu, hb⟩ => by
    obtain ⟨A, c, rfl⟩ := own_form hu
    exact ⟨A, c, he, hu, Keeps.new hb, B.trans (hb.mono B.size)⟩
theorem dochashL {s : ByteArray} {l : List UInt8} (B : Below w0.heap.size w0 wr) (hl : s.data.toList = l) (hsz : l.length ≤ 1000000) :
    Calls Tryd.prog 29 #[.string s] wr fun e w' => ∃ A c, e = .returned (.tuple #[.slice A (Pure.hash l).2.length c, .int .i64 (((Pure.hash l).1 : Nat) : Int)]) ∧ w'.ownsRow wr.heap.size 5 1 (.slice A (Pure.hash l).2.length c) (Pure.hash l).2.length (u8s (Pure.hash l).2) ∧ Keeps nobody wr w' ∧ Below w0.heap.size w0 w' :=
  (dochash_any s l hl hsz wr).mono fun e w' ⟨u, he, hu, hb⟩ => by
    obtain ⟨A, c, rfl⟩ := own_form hu
    exact ⟨A, c, he, hu, Keeps.new hb, B.trans (hb.mono B.size)⟩
end
theorem md4_pass : Pure.md4 [99, 0, 108, 0, 105, 0, 101, 0, 110, 0, 116, 0, 80, 0, 97, 0, 115, 0, 115, 0] = [0x44, 0xeb, 0xba, 0x8d, 0x53, 0x12, 0xb8, 0xd6, 0x11, 0x47, 0x44, 0x11, 0xf5, 0x69, 0x89, 0xae] := by decide +kernel
theorem hash_plain (s : List UInt8) (h : ∀ c ∈ s, c.toNat < 128) (hl : s.length ≤ 256) : Pure.hash s = (0, Pure.md4 (s.flatMap fun c => [c, 0])) := by
  have hu : Pure.units s = some (s.flatMap fun c => [c, 0]) := by
    have := Pure.units_plain s [] h
    simpa [Pure.units] using this
  have hlen : (s.flatMap fun c => [c, 0]).length = 2 * s.length := by
    induction s with
    | nil => rfl
    | cons c s ih =>
      have := Pure.units_plain s [] (fun x hx => h x (by simp [hx]))
      rw [List.flatMap_cons, List.length_append, ih (fun x hx => h x (by simp [hx])) (by simp at hl; omega) (by simpa [Pure.units] using this)]
      simp; omega
  have hs := Pure.secret_some hu (by rw [hlen]; omega)
  rw [Pure.hash_ok (by rw [hs]), hs]
theorem hash_pass : Pure.hash [99, 108, 105, 101, 110, 116, 80, 97, 115, 115] = (0, [0x44, 0xeb, 0xba, 0x8d, 0x53, 0x12, 0xb8, 0xd6, 0x11, 0x47, 0x44, 0x11, 0xf5, 0x69, 0x89, 0xae]) := by
  rw [hash_plain _ (by decide) (by decide)]
  show (0, Pure.md4 [99, 0, 108, 0, 105, 0, 101, 0, 110, 0, 116, 0, 80, 0, 97, 0, 115, 0, 115, 0]) = _
  rw [md4_pass]
set_option maxRecDepth 100000 in
set_option maxHeartbeats 2000000 in
theorem awake_any (w : World) (E : Env w) : Calls Tryd.prog 27 #[] w fun e w' => e = .returned (.bool true) ∧ Below w.heap.size w w' := by
  have HS := Lib.hid (hashL (w0 := w) E (s := ⟨#[99, 108, 105, 101, 110, 116, 80, 97, 115, 115]⟩) (l := [99, 108, 105, 101, 110, 116, 80, 97, 115, 115]) (Below.refl _ w) rfl (by decide))
  rw [hash_pass] at HS
  go_enter Tryd.func27, Tryd.ntmps27
  go_wp2_with fail
  refine HS.out.mono ?_
  rintro e w1 ⟨A, c, rfl, hu, hk1, hb1⟩
  obtain ⟨b, rfl, _, hc⟩ := own_cell hu (by decide)
  have c0 := hc 0 _ rfl
  have c15 := hc 15 _ rfl
  have H1 := Lib.hid hb1
  clear hu hk1 hb1 HS hc
  go_wp2_with fail
  go_ret
  exact ⟨rfl, H1.out⟩
set_option maxRecDepth 100000 in
set_option maxHeartbeats 2000000 in
theorem chapHashes_walk (s : ByteArray) (w : World) (E : Env w) (hs : s.size ≤ maxLen) : Calls Tryd.prog 9 #[.string s] w fun e w' => e = .returned (.bool true) ∧ Below w.heap.size w w' := by
  unfold maxLen at hs
  obtain ⟨l, hl⟩ : ∃ l, s.data.toList = l := ⟨_, rfl⟩
  have hsl : s.size = l.length := by rw [← hl]; simp
  rw [hsl] at hs
  have HL := Lib.hid hl
  clear hl
  go_enter Tryd.func9, Tryd.ntmps9
  go_wp2_with fail
  refine (awake_any w E).mono ?_
  rintro e w1 ⟨rfl, hb1⟩
  have H1 := Lib.hid hb1
  clear hb1
  by_cases hlong : 3000 < l.length
  · have d0 : decide ((3000 : Int) < (l.length : Int)) = true := decide_eq_true (by omega)
    have d1 : decide (3000 < l.length) = true := decide_eq_true hlong
    go_wp2
    go_ret
    exact ⟨rfl, H1.out⟩
  · have d0 : decide ((3000 : Int) < (l.length : Int)) = false := decide_eq_false (by omega)
    have HP := Lib.hid (hashL (w0 := w) E H1.out HL.out (by omega))
    go_wp2_with fail
    refine HP.out.mono ?_
    rintro e w2 ⟨A2, c2, rfl, hu2, _, hb2⟩
    have HD := Lib.hid (dochashL (w0 := w) hb2 HL.out (by omega))
    have HU2 := Lib.hid hu2
    clear hu2 hb2 HP H1
    go_wp2_with fail
    refine HD.out.mono ?_
    rintro e w3 ⟨A3, c3, rfl, hu3, hk3, hb3⟩
    have HSM := Lib.hid (sameY (w0 := w) hb3 (Row.of_own (own_quiet HU2.out hk3)) (Row.of_own hu3) rfl rfl)
    clear hu3 hk3 hb3 HU2 HD
    go_wp2_with fail
    refine HSM.out.mono ?_
    rintro e w4 ⟨rfl, _, hb4⟩
    have H4 := Lib.hid hb4
    clear hb4 HSM
    go_wp2
    go_ret
    exact ⟨rfl, H4.out⟩
end Go.Proofs.YtkllaghfiofnjaaDoor
