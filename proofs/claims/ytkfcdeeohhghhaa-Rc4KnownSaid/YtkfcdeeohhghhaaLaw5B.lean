/- The walk of the law Rc4Known. -/
import Derived.Test.YtkfcdeeohhghhaaLaw5A
namespace Go.Proofs.Ytkfcdeeohhghhaa
open Go.RowKit

theorem key_nine : ((Pure.Rc.new [75, 101, 121]).xor [80, 108, 97, 105, 110, 116, 101, 120, 116]).2 = [187, 243, 22, 232, 217, 64, 175, 10, 211] := by decide +kernel
theorem term_two : Pure.term 1 0 2 = [31, 38] := by decide +kernel
/-- Bytes that were just made, behind a mark. -/
theorem row_mark (w : World) (l : List UInt8) (cs : Array Value) (n : Nat) (m : Nat × Nat) (hc : cs = (u8s l).toArray) (hn : n = l.length) (hl : l.length ≤ 100000) : Row (w.alloc (.cells cs 5 m)) (fun b => b = w.heap.size) 1 (.slice (some ⟨w.heap.size, 0, none⟩) n n) l.length (u8s l) := by
  subst hc hn
  have h := Row.marked (F := fun b => b = w.heap.size) (n := l.length) (c := l.length) w 5 (u8s l).toArray m rfl (by simp) (by unfold maxLen; omega) (Nat.le_refl _)
  exact h

set_option maxRecDepth 100000 in
set_option maxHeartbeats 4000000 in
theorem rc4Known_walk (w : World) : Calls Try.prog 3 #[] w fun e w' => e = .returned (.bool true) ∧ Below w.heap.size w w' := by
  have kc := fun (w : World) (C : Array Value) (n c : Nat) => Lib.run_convert_bytes_const (P := Try.prog) w 27 5 C n c Try.underlying27 Try.underlying5
  go_enter Try.func3, Try.ntmps3
  go_wp2_with fail
  refine (awake_any w).mono ?_
  rintro e w1 ⟨rfl, hb1⟩
  have B1 := Lib.hid (hb1.alloc hb1.size (.cells #[.int .u8 75, .int .u8 101, .int .u8 121] 5 (3, 4)))
  have HN := Lib.hid (newL B1.out (row_mark w1 [75, 101, 121] #[.int .u8 75, .int .u8 101, .int .u8 121] 3 (3, 4) rfl rfl (by simp)) (by simp) (by simp))
  have hs1 := hb1.size
  clear hb1
  go_wp2_with fail
  refine HN.out.mono ?_
  rintro e w2 ⟨g, rfl, hg, ho, _, hb2⟩
  have h2 := key_nine
  obtain ⟨c, hc⟩ : ∃ c, c = Pure.Rc.new [75, 101, 121] := ⟨_, rfl⟩
  have hn0 : c.n = 0 := by rw [hc]; rfl
  rw [← hc] at ho h2
  have hg2 : w.heap.size ≤ g := by simp at hg; omega
  have O2 := Lib.hid ho
  have H2 := Lib.hid h2
  have B2 := Lib.hid hb2
  have HBAD := Lib.hid (new_bad none 0 0 w2 (.inl (by omega)) (by simp [maxLen]))
  clear ho h2 hc hg hb2 HN
  go_wp2_with (go_at_call 10; refine HBAD.out.mono ?_; rintro e w' ⟨rfl, rfl⟩)
  have HSY := Lib.hid (symbolL (id := 1) B2.out)
  refine HSY.out.mono ?_
  rintro e w3 ⟨s, rfl, hs, hT, hk3, hb3⟩
  have O3 := Lib.hid (O2.out.keeps hk3 (fun h => h))
  have T3 := Lib.hid hT
  have B3 := Lib.hid hb3
  have hlt := O2.out.lt
  have hs3 := hk3.size
  have hsg : s ≠ g := by omega
  have hs2 : w.heap.size ≤ s := by have := B2.out.size; omega
  have hk4 : Keeps nobody w3 (w3.alloc (.cells #[.int .u8 80, .int .u8 108, .int .u8 97, .int .u8 105, .int .u8 110, .int .u8 116, .int .u8 101, .int .u8 120, .int .u8 116] 5 (9, 10))) := (Keeps.refl _ w3).alloc _
  have hg3 : g < w3.heap.size := by omega
  have HX := Lib.hid (xorL (Below.quiet B3.out hk4 B3.out.size) (O3.out.keeps hk4 (fun h => h)) hg2 (row_mark w3 [80, 108, 97, 105, 110, 116, 101, 120, 116] #[.int .u8 80, .int .u8 108, .int .u8 97, .int .u8 105, .int .u8 110, .int .u8 116, .int .u8 101, .int .u8 120, .int .u8 116] 9 (9, 10) rfl rfl (by simp)) (by omega) (by simp) (by omega))
  have T4 := Lib.hid (T3.out.keeps hk4 (fun h => h))
  clear hk3 hT hb3 hs hk4 HSY HBAD O2
  go_wp2_with fail
  refine HX.out.mono ?_
  rintro e w5 ⟨A5, c5, rfl, hu, _, hK, hB5⟩
  rw [H2.out] at hu
  have T5 := Lib.hid (T4.out.keeps hK (fun h => hsg h))
  have hk6 : Keeps nobody w5 (w5.alloc (.cells #[.int .u8 187, .int .u8 243, .int .u8 22, .int .u8 232, .int .u8 217, .int .u8 64, .int .u8 175, .int .u8 10, .int .u8 211] 5)) := (Keeps.refl _ w5).alloc _
  have HS := Lib.hid (sameL (Below.quiet hB5 hk6 hB5.size) (Row.of_own (own_quiet hu hk6)) (row_new w5 [187, 243, 22, 232, 217, 64, 175, 10, 211] #[.int .u8 187, .int .u8 243, .int .u8 22, .int .u8 232, .int .u8 217, .int .u8 64, .int .u8 175, .int .u8 10, .int .u8 211] 9 rfl rfl (by simp)))
  have T6 := Lib.hid (T5.out.keeps hk6 (fun h => h))
  clear hu hK hB5 hk6 HX T4 T3 O3 B3
  go_wp2_with fail
  refine HS.out.mono ?_
  rintro e w7 ⟨rfl, hk7, hb7⟩
  have hk8 : Keeps nobody w7 (w7.alloc (.cells #[.int .u8 9, .int .u8 9] 5)) := (Keeps.refl _ w7).alloc _
  have HX2 := Lib.hid (xorT (A := some ⟨w7.heap.size, 0, none⟩) (len := 2) (cap := 2) (Below.quiet hb7 hk8 hb7.size) ((T6.out.keeps hk7 (fun h => h)).keeps hk8 (fun h => h)) hs2 (by omega) (by omega))
  clear hk7 hb7 hk8 HS T5 T6
  go_wp2_with fail
  refine HX2.out.mono ?_
  rintro e w9 ⟨A9, c9, rfl, hu, _, hK, hB9⟩
  rw [term_two] at hu
  have hk10 : Keeps nobody w9 (w9.alloc (.cells #[.int .u8 31, .int .u8 38] 5)) := (Keeps.refl _ w9).alloc _
  have HS := Lib.hid (sameL (a := [31, 38]) (Below.quiet hB9 hk10 hB9.size) (Row.of_own (own_quiet hu hk10)) (row_new w9 [31, 38] #[.int .u8 31, .int .u8 38] 2 rfl rfl (by simp)))
  clear hu hK hB9 hk10 HX2
  go_wp2_with fail
  refine HS.out.mono ?_
  rintro e w11 ⟨rfl, _, hb11⟩
  have B11 := Lib.hid hb11
  clear hb11 HS
  go_wp2
  go_ret
  exact ⟨rfl, B11.out⟩
end Go.Proofs.Ytkfcdeeohhghhaa
