/- What the laws on check sums begin with; the walks of FcsKnown and FcsSums. -/
import Derived.Test.YtkpagfeglpfhkaaFcsR
import Derived.Test.YtkpagfeglpfhkaaFrame
import Derived.Lib.SlBytesConst
namespace Go.Proofs.Ytkpagfeglpfhkaa
open Go.RowKit

/-- What is left when the sum is taken off, or nothing. -/
def Pure.rest16 (bs : List UInt8) : List UInt8 := if Pure.ends16 bs then bs.take (bs.length - 2) else []
theorem Pure.ends_add16 (bs : List UInt8) : Pure.ends16 (Pure.add16 bs) = true := by
  have hl : (Pure.add16 bs).length - 2 = bs.length := by simp [Pure.add16, Pure.le]
  have h2 : 2 ≤ (Pure.add16 bs).length := by simp [Pure.add16, Pure.le]
  unfold Pure.ends16
  rw [hl, decide_eq_true h2, Bool.true_and, decide_eq_true_eq]
  unfold Pure.add16
  rw [List.drop_left' rfl, List.take_left' rfl]
theorem Pure.rest_add16 (bs : List UInt8) : Pure.rest16 (Pure.add16 bs) = bs := by
  have hl : (Pure.add16 bs).length - 2 = bs.length := by simp [Pure.add16, Pure.le]
  unfold Pure.rest16
  rw [if_pos (Pure.ends_add16 bs), hl]
  unfold Pure.add16
  rw [List.take_left' rfl]
theorem Check16_row (F : Nat → Prop) (x : Value) (bs : List UInt8) (w : World) (hr : Row w F 1 x bs.length (u8s bs)) (hF : ∀ b, F b → b < w.heap.size) (hl : bs.length ≤ 100000000000000) :
    Calls Try.prog 42 #[x] w fun e w' => ∃ u, e = .returned (.tuple #[u, .bool (Pure.ends16 bs)]) ∧ Row w' (fun b => w.heap.size ≤ b ∧ b < w'.heap.size) 1 u (Pure.rest16 bs).length (u8s (Pure.rest16 bs)) ∧ Below w.heap.size w w' :=
  (Check16_any F x bs w hr hF hl).mono fun e w' ⟨hb, h⟩ => by
    rcases h with ⟨h, rfl⟩ | ⟨h, u, rfl, ho⟩
    · exact ⟨_, by rw [h], by unfold Pure.rest16; rw [h]; exact Row.nil _ _ _, hb⟩
    · refine ⟨u, by rw [h], ?_, hb⟩
      unfold Pure.rest16
      rw [if_pos h, List.length_take, Nat.min_eq_left (by omega)]
      exact (Row.of_own ho).mono (fun b hb => ⟨ownsRow_ge ho b hb, ownsRow_lt ho b hb⟩)
theorem refCheck16_row (F : Nat → Prop) (x : Value) (bs : List UInt8) (w : World) (hr : Row w F 1 x bs.length (u8s bs)) (hF : ∀ b, F b → b < w.heap.size) (hl : bs.length ≤ 100000000000000) :
    Calls Try.prog 47 #[x] w fun e w' => ∃ u, e = .returned (.tuple #[u, .bool (Pure.ends16 bs)]) ∧ Row w' (fun b => w.heap.size ≤ b ∧ b < w'.heap.size) 1 u (Pure.rest16 bs).length (u8s (Pure.rest16 bs)) ∧ Below w.heap.size w w' :=
  (refCheck16_any F x bs w hr hF hl).mono fun e w' ⟨hb, h⟩ => by
    rcases h with ⟨h, rfl⟩ | ⟨h, u, rfl, ho⟩
    · exact ⟨_, by rw [h], by unfold Pure.rest16; rw [h]; exact Row.nil _ _ _, hb⟩
    · refine ⟨u, by rw [h], ?_, hb⟩
      unfold Pure.rest16
      rw [if_pos h, List.length_take, Nat.min_eq_left (by omega)]
      exact (Row.of_own ho).mono (fun b hb => ⟨ownsRow_ge ho b hb, ownsRow_lt ho b hb⟩)
theorem add16_row (F : Nat → Prop) (x : Value) (bs : List UInt8) (w : World) (hr : Row w F 1 x bs.length (u8s bs)) (hF : ∀ b, F b → b < w.heap.size) (hl : bs.length ≤ 100000000000000) :
    Calls Try.prog 51 #[x] w fun e w' => ∃ u, e = .returned u ∧ Row w' (fun b => w.heap.size ≤ b ∧ b < w'.heap.size) 1 u (Pure.add16 bs).length (u8s (Pure.add16 bs)) ∧ Below w.heap.size w w' :=
  (add16_any F x bs w hr hF hl).mono fun _ _ ⟨u, he, ho, hb⟩ => ⟨u, he, (Row.of_own ho).mono (fun b hb => ⟨ownsRow_ge ho b hb, ownsRow_lt ho b hb⟩), hb⟩
theorem refAdd16_row (F : Nat → Prop) (x : Value) (bs : List UInt8) (w : World) (hr : Row w F 1 x bs.length (u8s bs)) (hF : ∀ b, F b → b < w.heap.size) (hl : bs.length ≤ 100000000000000) :
    Calls Try.prog 52 #[x] w fun e w' => ∃ u, e = .returned u ∧ Row w' (fun b => w.heap.size ≤ b ∧ b < w'.heap.size) 1 u (Pure.add16 bs).length (u8s (Pure.add16 bs)) ∧ Below w.heap.size w w' :=
  (refAdd16_any F x bs w hr hF hl).mono fun _ _ ⟨u, he, ho, hb⟩ => ⟨u, he, (Row.of_own ho).mono (fun b hb => ⟨ownsRow_ge ho b hb, ownsRow_lt ho b hb⟩), hb⟩
theorem add16_len (bs : List UInt8) : (Pure.add16 bs).length = bs.length + 2 := by simp [Pure.add16, Pure.le]

/-- What is left when the sum is taken off, or nothing. -/
def Pure.rest32 (bs : List UInt8) : List UInt8 := if Pure.ends32 bs then bs.take (bs.length - 4) else []
theorem Pure.ends_add32 (bs : List UInt8) : Pure.ends32 (Pure.add32 bs) = true := by
  have hl : (Pure.add32 bs).length - 4 = bs.length := by simp [Pure.add32, Pure.le]
  have h2 : 4 ≤ (Pure.add32 bs).length := by simp [Pure.add32, Pure.le]
  unfold Pure.ends32
  rw [hl, decide_eq_true h2, Bool.true_and, decide_eq_true_eq]
  unfold Pure.add32
  rw [List.drop_left' rfl, List.take_left' rfl]
theorem Pure.rest_add32 (bs : List UInt8) : Pure.rest32 (Pure.add32 bs) = bs := by
  have hl : (Pure.add32 bs).length - 4 = bs.length := by simp [Pure.add32, Pure.le]
  unfold Pure.rest32
  rw [if_pos (Pure.ends_add32 bs), hl]
  unfold Pure.add32
  rw [List.take_left' rfl]
theorem Check32_row (F : Nat → Prop) (x : Value) (bs : List UInt8) (w : World) (hr : Row w F 1 x bs.length (u8s bs)) (hF : ∀ b, F b → b < w.heap.size) (hl : bs.length ≤ 100000000000000) :
    Calls Try.prog 43 #[x] w fun e w' => ∃ u, e = .returned (.tuple #[u, .bool (Pure.ends32 bs)]) ∧ Row w' (fun b => w.heap.size ≤ b ∧ b < w'.heap.size) 1 u (Pure.rest32 bs).length (u8s (Pure.rest32 bs)) ∧ Below w.heap.size w w' :=
  (Check32_any F x bs w hr hF hl).mono fun e w' ⟨hb, h⟩ => by
    rcases h with ⟨h, rfl⟩ | ⟨h, u, rfl, ho⟩
    · exact ⟨_, by rw [h], by unfold Pure.rest32; rw [h]; exact Row.nil _ _ _, hb⟩
    · refine ⟨u, by rw [h], ?_, hb⟩
      unfold Pure.rest32
      rw [if_pos h, List.length_take, Nat.min_eq_left (by omega)]
      exact (Row.of_own ho).mono (fun b hb => ⟨ownsRow_ge ho b hb, ownsRow_lt ho b hb⟩)
theorem refCheck32_row (F : Nat → Prop) (x : Value) (bs : List UInt8) (w : World) (hr : Row w F 1 x bs.length (u8s bs)) (hF : ∀ b, F b → b < w.heap.size) (hl : bs.length ≤ 100000000000000) :
    Calls Try.prog 48 #[x] w fun e w' => ∃ u, e = .returned (.tuple #[u, .bool (Pure.ends32 bs)]) ∧ Row w' (fun b => w.heap.size ≤ b ∧ b < w'.heap.size) 1 u (Pure.rest32 bs).length (u8s (Pure.rest32 bs)) ∧ Below w.heap.size w w' :=
  (refCheck32_any F x bs w hr hF hl).mono fun e w' ⟨hb, h⟩ => by
    rcases h with ⟨h, rfl⟩ | ⟨h, u, rfl, ho⟩
    · exact ⟨_, by rw [h], by unfold Pure.rest32; rw [h]; exact Row.nil _ _ _, hb⟩
    · refine ⟨u, by rw [h], ?_, hb⟩
      unfold Pure.rest32
      rw [if_pos h, List.length_take, Nat.min_eq_left (by omega)]
      exact (Row.of_own ho).mono (fun b hb => ⟨ownsRow_ge ho b hb, ownsRow_lt ho b hb⟩)
theorem add32_row (F : Nat → Prop) (x : Value) (bs : List UInt8) (w : World) (hr : Row w F 1 x bs.length (u8s bs)) (hF : ∀ b, F b → b < w.heap.size) (hl : bs.length ≤ 100000000000000) :
    Calls Try.prog 44 #[x] w fun e w' => ∃ u, e = .returned u ∧ Row w' (fun b => w.heap.size ≤ b ∧ b < w'.heap.size) 1 u (Pure.add32 bs).length (u8s (Pure.add32 bs)) ∧ Below w.heap.size w w' :=
  (add32_any F x bs w hr hF hl).mono fun _ _ ⟨u, he, ho, hb⟩ => ⟨u, he, (Row.of_own ho).mono (fun b hb => ⟨ownsRow_ge ho b hb, ownsRow_lt ho b hb⟩), hb⟩
theorem refAdd32_row (F : Nat → Prop) (x : Value) (bs : List UInt8) (w : World) (hr : Row w F 1 x bs.length (u8s bs)) (hF : ∀ b, F b → b < w.heap.size) (hl : bs.length ≤ 100000000000000) :
    Calls Try.prog 53 #[x] w fun e w' => ∃ u, e = .returned u ∧ Row w' (fun b => w.heap.size ≤ b ∧ b < w'.heap.size) 1 u (Pure.add32 bs).length (u8s (Pure.add32 bs)) ∧ Below w.heap.size w w' :=
  (refAdd32_any F x bs w hr hF hl).mono fun _ _ ⟨u, he, ho, hb⟩ => ⟨u, he, (Row.of_own ho).mono (fun b hb => ⟨ownsRow_ge ho b hb, ownsRow_lt ho b hb⟩), hb⟩
theorem add32_len (bs : List UInt8) : (Pure.add32 bs).length = bs.length + 4 := by simp [Pure.add32, Pure.le]

theorem Row.marked {F : Nat → Prop} {n c : Nat} (w : World) (t : TypeId) (cs : Array Value) (m : Nat × Nat) (hF : F w.heap.size) (hn : cs.size = n) (hm : n ≤ maxLen) (hc : n ≤ c) :
    Row (w.alloc (.cells cs t m)) F 1 (.slice (some ⟨w.heap.size, 0, none⟩) n c) n cs.toList := by
  refine ⟨by simpa using hn, hm, _, c, rfl, hc, by simp, fun _ => ⟨w.heap.size, 0, rfl, hF, fun j u hu => ?_⟩⟩
  rw [Nat.zero_add]
  have h : (w.alloc (.cells cs t m)).heap[w.heap.size]? = some (.cells cs t m) := by
    show (w.heap.push _)[w.heap.size]? = _
    simp
  rw [Array.getElem?_toList] at hu
  simp only [World.cell?, h]
  exact hu
set_option maxHeartbeats 1000000 in
theorem awake2_any (w : World) : Calls Try.prog 41 #[] w fun e w' => e = .returned (.bool true) ∧ Below w.heap.size w w' := by
  have hb0 : Below w.heap.size w (w.alloc (.cells #[.int .u8 1, .int .u8 2] 5)) := (Below.refl _ w).alloc (Nat.le_refl _) _
  have hr0 : Row (w.alloc (.cells #[.int .u8 1, .int .u8 2] 5)) (fun b => b < (w.alloc (.cells #[.int .u8 1, .int .u8 2] 5)).heap.size) 1 (.slice (some ⟨w.heap.size, 0, none⟩) 2 2) 2 (u8s [1, 2]) :=
    Row.block (Blk.new w 5 #[.int .u8 1, .int .u8 2]) (by simp) rfl (by simp [maxLen]) (Nat.le_refl _)
  have R0 := Lib.hid hr0
  have B0 := Lib.hid hb0
  clear hr0 hb0
  go_enter Try.func41, Try.ntmps41
  go_wp2_with fail
  refine (add16_row _ _ [1, 2] _ R0.out (fun _ h => h) (by simp)).mono ?_
  rintro e w1 ⟨u1, rfl, hr1, hb1⟩
  have R1 := Lib.hid hr1
  have B1 := Lib.hid (B0.out.trans (hb1.mono B0.out.size))
  clear hr1 hb1 R0 B0
  go_wp2_with fail
  refine (Check16_row _ _ _ _ R1.out (fun _ h => h.2) (by rw [add16_len]; simp)).mono ?_
  rintro e w2 ⟨u2, rfl, hr2, hb2⟩
  rw [Pure.ends_add16]
  rw [Pure.rest_add16] at hr2
  obtain ⟨A, c, rfl, _⟩ := hr2.form
  obtain ⟨b, off, rfl, _, hcell⟩ := hr2.cellAt (by simp)
  have c1 : w2.cell? ⟨b, off + 1, none⟩ = some (.int .u8 2) := hcell 1 _ rfl
  have B2 := Lib.hid (B1.out.trans (hb2.mono B1.out.size))
  clear hr2 hb2 R1 B1 hcell
  go_wp2
  go_ret
  exact ⟨rfl, B2.out⟩

set_option maxRecDepth 100000 in
set_option maxHeartbeats 2000000 in
theorem fcsKnown_walk (w : World) : Calls Try.prog 10 #[] w fun e w' => e = .returned (.bool true) ∧ Below w.heap.size w w' := by
  go_enter Try.func10, Try.ntmps10
  go_wp2_with fail
  refine (awake2_any w).mono ?_
  rintro e w1 ⟨rfl, hb1⟩
  have B1 := Lib.hid hb1
  clear hb1
  have kc := fun (w : World) (C : Array Value) (n c : Nat) => Lib.run_convert_bytes_const (P := Try.prog) w 26 5 C n c Try.underlying26 Try.underlying5
  have hb2 : Below w.heap.size w (w1.alloc (.cells #[.int .u8 49, .int .u8 50, .int .u8 51, .int .u8 52, .int .u8 53, .int .u8 54, .int .u8 55, .int .u8 56, .int .u8 57] 5 (9, 10))) := B1.out.alloc B1.out.size _
  have hr2 : Row (w1.alloc (.cells #[.int .u8 49, .int .u8 50, .int .u8 51, .int .u8 52, .int .u8 53, .int .u8 54, .int .u8 55, .int .u8 56, .int .u8 57] 5 (9, 10))) (fun b => b < w1.heap.size + 1) 1 (.slice (some ⟨w1.heap.size, 0, none⟩) 9 9) 9 (u8s [49, 50, 51, 52, 53, 54, 55, 56, 57]) :=
    Row.marked w1 5 #[.int .u8 49, .int .u8 50, .int .u8 51, .int .u8 52, .int .u8 53, .int .u8 54, .int .u8 55, .int .u8 56, .int .u8 57] (9, 10) (by omega) rfl (by simp [maxLen]) (Nat.le_refl _)
  have hz2 : (w1.alloc (.cells #[.int .u8 49, .int .u8 50, .int .u8 51, .int .u8 52, .int .u8 53, .int .u8 54, .int .u8 55, .int .u8 56, .int .u8 57] 5 (9, 10))).heap.size = w1.heap.size + 1 := by simp
  obtain ⟨W, hW⟩ : ∃ W, W = w1.alloc (.cells #[.int .u8 49, .int .u8 50, .int .u8 51, .int .u8 52, .int .u8 53, .int .u8 54, .int .u8 55, .int .u8 56, .int .u8 57] 5 (9, 10)) := ⟨_, rfl⟩
  have HW := Lib.hid hW
  rw [← hW] at hb2 hr2 hz2
  have R2 := Lib.hid hr2
  have B2 := Lib.hid hb2
  have hr3 : Row (W.alloc (.cells #[.int .u8 1] 5)) (fun b => b < (W.alloc (.cells #[.int .u8 1] 5)).heap.size) 1 (.slice (some ⟨W.heap.size, 0, none⟩) 1 1) 1 (u8s [1]) :=
    Row.block (Blk.new W 5 #[.int .u8 1]) (by simp) rfl (by simp [maxLen]) (Nat.le_refl _)
  rw [hz2] at hr3
  have R3 := Lib.hid hr3
  have HZ := Lib.hid hz2
  clear hW hr2 hb2 hr3 hz2
  have h16 : Pure.crc16 [49, 50, 51, 52, 53, 54, 55, 56, 57] = 36974 := by decide +kernel
  have h32 : Pure.crc32 [49, 50, 51, 52, 53, 54, 55, 56, 57] = 3421780262 := by decide +kernel
  have hno : Pure.ends16 [1] = false := by decide +kernel
  have H16 := Lib.hid h16
  have H32 := Lib.hid h32
  have HNO := Lib.hid hno
  clear h16 h32 hno
  go_wp2_with fail
  clear kc
  rw [← HW.out]
  refine (Check16_row _ _ [1] _ R3.out (fun _ h => h) (by simp)).mono ?_
  rintro e w4 ⟨u4, rfl, _, hb4⟩
  rw [HNO.out]
  have K4 := Lib.hid ((Keeps.new ((Below.refl _ W).alloc (Nat.le_refl _) (.cells #[.int .u8 1] 5))).trans (Keeps.new hb4))
  have B4 := Lib.hid (Below.quiet B2.out K4.out B2.out.size)
  have R4 := Lib.hid (R2.out.keeps K4.out (fun _ _ h => h))
  have hs4 := K4.out.size
  rw [HZ.out] at hs4
  clear hb4
  go_wp2_with fail
  refine (add32_row _ _ [49, 50, 51, 52, 53, 54, 55, 56, 57] w4 R4.out (fun _ h => by omega) (by simp)).mono ?_
  rintro e w5 ⟨u5, rfl, hr5, hb5⟩
  have R5 := Lib.hid hr5
  have B5 := Lib.hid (Below.quiet B4.out (Keeps.new hb5) B4.out.size)
  have K5 := Lib.hid (K4.out.trans (Keeps.new hb5))
  clear hr5 hb5
  go_wp2_with fail
  refine (Check32_row _ _ _ w5 R5.out (fun _ h => h.2) (by rw [add32_len]; simp)).mono ?_
  rintro e w6 ⟨u6, rfl, _, hb6⟩
  rw [Pure.ends_add32]
  have B6 := Lib.hid (Below.quiet B5.out (Keeps.new hb6) B5.out.size)
  have K6 := Lib.hid (K5.out.trans (Keeps.new hb6))
  have R6 := Lib.hid (R2.out.keeps K6.out (fun _ _ h => h))
  clear hb6
  go_wp2_with fail
  refine (Sum16_any _ _ [49, 50, 51, 52, 53, 54, 55, 56, 57] w6 R6.out).mono ?_
  rintro e w7 ⟨rfl, rfl⟩
  rw [H16.out]
  go_wp2_with fail
  refine (Sum32_any _ _ [49, 50, 51, 52, 53, 54, 55, 56, 57] w6 R6.out).mono ?_
  rintro e w7 ⟨rfl, rfl⟩
  rw [H32.out]
  go_wp2
  go_ret
  exact ⟨rfl, B6.out⟩
end Go.Proofs.Ytkpagfeglpfhkaa
