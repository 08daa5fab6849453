/- FsmTwo: what the other one hears of actions. -/
import Derived.Test.YtjeekhgkcphnpaaLaw12E
namespace Go.Proofs.Ytjeekhgkcphnpaa
open Go.RowKit
namespace Pure
/-- What the other one hears of actions. -/
def told (l : List Nat) : List Nat := l.flatMap fun a => if a = 6 then [6] else if a = 7 then [8] else []
theorem told_snoc (l : List Nat) (a : Nat) : told (l ++ [a]) = told l ++ (if a = 6 then [6] else if a = 7 then [8] else []) := by simp [told]
theorem told_le (l : List Nat) : (told l).length ≤ l.length := by
  induction l with
  | nil => simp [told]
  | cons a l ih =>
    have : told (a :: l) = (if a = 6 then [6] else if a = 7 then [8] else []) ++ told l := by simp [told]
    rw [this, List.length_append]
    split
    · simp; omega
    · split
      · simp; omega
      · simp; omega
end Pure
set_option maxRecDepth 100000 in
set_option maxHeartbeats 4000000 in
theorem told_any (F : Nat → Prop) (x : Value) (l : List Nat) (w : World) (hF : ∀ b, F b → b < w.heap.size) (hx : Row w F 1 x l.length (ints l)) (hl : l.length ≤ 1000) :
    Calls Try.prog 26 #[x] w fun e w' => ∃ A c, e = .returned (.slice A (Pure.told l).length c) ∧ w'.ownsRow w.heap.size 3 1 (.slice A (Pure.told l).length c) (Pure.told l).length (ints (Pure.told l)) ∧ Below w.heap.size w w' := by
  obtain ⟨A, c, rfl, _⟩ := hx.form
  have HX := Lib.hid hx
  have HF := Lib.hid hF
  clear hx hF
  go_enter Try.func26, Try.ntmps26
  go_wp2_with fail
  go_loopw [3, 4] (fun v i wr => ∃ k : Nat, k ≤ l.length ∧ i = .int .i64 (k : Int) ∧ wr.ownsRow w.heap.size 3 1 v (Pure.told (l.take k)).length (ints (Pure.told (l.take k))) ∧ Below w.heap.size w wr) (fun _ i _ => l.length - (intOf i).toNat)
  case atStart => exact ⟨0, by omega, rfl, World.ownsRow_nil _ _ _ _, Below.refl _ _⟩
  case round =>
    obtain ⟨k, hk, rfl, hW, hB⟩ := hrel
    obtain ⟨A3, c3, rfl⟩ := own_form hW
    have HW := Lib.hid hW
    have HB := Lib.hid hB
    clear hW hB
    by_cases hkl : k < l.length
    · have d1 : decide ((k : Int) < (l.length : Int)) = true := decide_eq_true (by omega)
      have d2 : decide (k < l.length) = true := decide_eq_true hkl
      have k0 : (0 : Int) ≤ (k : Int) := by omega
      have k1 : (k : Int) < (l.length : Int) := by omega
      obtain ⟨b, off, rfl, _, hcell⟩ := (HX.out.keeps (Keeps.new HB.out) (fun _ _ h => h)).ints_at k hkl
      obtain ⟨a, ha⟩ : ∃ a, a = l.getD k 0 := ⟨_, rfl⟩
      rw [← ha] at hcell
      have hT := show Pure.told (l.take (k + 1)) = Pure.told (l.take k) ++ (if a = 6 then [6] else if a = 7 then [8] else []) by rw [take_snoc l 0 k hkl, ← ha, Pure.told_snoc]
      have hle := Pure.told_le (l.take k)
      rw [List.length_take] at hle
      obtain ⟨M, hM⟩ : ∃ M, M = Pure.told (l.take k) := ⟨_, rfl⟩
      rw [← hM] at HW hT hle ⊢
      have HLE := Lib.hid (show M.length ≤ 1000 by omega)
      clear ha hM hle
      by_cases h6 : a = 6
      · subst h6
        have HT := Lib.hid (show Pure.told (l.take (k + 1)) = M ++ [6] by rw [hT, if_pos rfl])
        have hcell : wr.cell? ⟨b, off + k, none⟩ = some (.int .i64 6) := hcell
        clear hT
        go_wp2_with (at_builtin; refine stopHere ?_)
        unfold Hid
        obtain ⟨wb, hwb⟩ : ∃ wb, wb = wr.alloc (.cells #[.int .i64 6] 3) := ⟨_, rfl⟩
        rw [← hwb]
        have hkb : Keeps nobody wr wb := by rw [hwb]; exact (Keeps.refl _ wr).alloc _
        have hrb : Row wb (fun b => b = wr.heap.size) 1 (.slice (some ⟨wr.heap.size, 0, none⟩) 1 1) [6].length (ints [6]) := by
          rw [hwb]; exact irow_new wr [6] _ 1 rfl rfl (by simp)
        have hWb := ownsRow_keeps HW.out hkb (fun _ _ h => h)
        have hBb := Below.quiet HB.out hkb HB.out.size
        clear hwb
        refine wp_append_int rfl (.tmp 17) (.tmp 18) rfl w.heap.size (.slice A3 M.length c3) M.length M rfl rfl hWb _ _ [6] rfl hrb (by have := HLE.out; simp; omega) hBb.size ?_
        intro v5 w5 hown5 hg5 hat5
        rw [← HT.out] at hown5
        have HO5 := Lib.hid hown5
        have HB5 := Lib.hid (hBb.grown hg5 hBb.size (fun k hk => ownsRow_ge hWb k hk))
        clear hown5 hg5 hat5 hkb hrb hWb hBb
        go_wp2_with fail
        go_roundw
        case rel => exact ⟨k + 1, by omega, by go_num, HO5.out, HB5.out⟩
        case measure => simp [intOf]; omega
      · by_cases h7 : a = 7
        · subst h7
          have HT := Lib.hid (show Pure.told (l.take (k + 1)) = M ++ [8] by rw [hT, if_neg (by decide), if_pos rfl])
          have hcell : wr.cell? ⟨b, off + k, none⟩ = some (.int .i64 7) := hcell
          clear hT h6
          go_wp2_with (at_builtin; refine stopHere ?_)
          unfold Hid
          obtain ⟨wb, hwb⟩ : ∃ wb, wb = wr.alloc (.cells #[.int .i64 8] 3) := ⟨_, rfl⟩
          rw [← hwb]
          have hkb : Keeps nobody wr wb := by rw [hwb]; exact (Keeps.refl _ wr).alloc _
          have hrb : Row wb (fun b => b = wr.heap.size) 1 (.slice (some ⟨wr.heap.size, 0, none⟩) 1 1) [8].length (ints [8]) := by
            rw [hwb]; exact irow_new wr [8] _ 1 rfl rfl (by simp)
          have hWb := ownsRow_keeps HW.out hkb (fun _ _ h => h)
          have hBb := Below.quiet HB.out hkb HB.out.size
          clear hwb
          refine wp_append_int rfl (.tmp 22) (.tmp 23) rfl w.heap.size (.slice A3 M.length c3) M.length M rfl rfl hWb _ _ [8] rfl hrb (by have := HLE.out; simp; omega) hBb.size ?_
          intro v5 w5 hown5 hg5 hat5
          rw [← HT.out] at hown5
          have HO5 := Lib.hid hown5
          have HB5 := Lib.hid (hBb.grown hg5 hBb.size (fun k hk => ownsRow_ge hWb k hk))
          clear hown5 hg5 hat5 hkb hrb hWb hBb
          go_wp2_with fail
          go_roundw
          case rel => exact ⟨k + 1, by omega, by go_num, HO5.out, HB5.out⟩
          case measure => simp [intOf]; omega
        · have HT := Lib.hid (show Pure.told (l.take (k + 1)) = M by rw [hT, if_neg h6, if_neg h7, List.append_nil])
          have a6 : ((a : Int) == 6) = false := by rw [beq_eq_false_iff_ne]; omega
          have a7 : ((a : Int) == 7) = false := by rw [beq_eq_false_iff_ne]; omega
          clear hT h6 h7
          go_wp2_with fail
          go_roundw
          case rel => exact ⟨k + 1, by omega, by go_num, by rw [HT.out]; exact HW.out, HB.out⟩
          case measure => simp [intOf]; omega
    · have hkk : k = l.length := by omega
      subst hkk
      have d1 : decide ((l.length : Int) < (l.length : Int)) = false := decide_eq_false (by omega)
      have d2 : decide (l.length < l.length) = false := decide_eq_false (by omega)
      rw [List.take_length] at HW ⊢
      go_wp2
      go_ret
      exact ⟨_, _, rfl, HW.out, HB.out⟩
namespace Pure
/-- The first that either hears is the other one's request, the second one the answer to its own. -/
theorem two_first {m : Mach} (h : m.state = 6) : (m.act2 6).1 = [7] ∧ (m.act2 6).2.state = 8 := by
  have e : m.act2 6 = m.step 6 := act2_step (e := 6) (by decide) m
  rw [e]
  exact ⟨by show (fsmAt m.state 6).1 = _; rw [h]; rfl, by rw [step_state, h]; rfl⟩
theorem two_second {m : Mach} (h : m.state = 8) : (m.act2 8).1 = [4, 0] ∧ (m.act2 8).2.state = 9 := by
  have e : m.act2 8 = m.step 8 := act2_step (e := 8) (by decide) m
  rw [e]
  exact ⟨by show (fsmAt m.state 8).1 = _; rw [h]; rfl, by rw [step_state, h]; rfl⟩
theorem two_start : ((newMach 100 100).act2 2) = ([2], ⟨1, 0, 0, 100, 100⟩) ∧ ((⟨1, 0, 0, 100, 100⟩ : Mach).act2 0) = ([4, 6], ⟨6, 99, 100, 100, 100⟩) ∧ told [2] = [] ∧ told [4, 6] = [6] ∧ told [7] = [8] ∧ told [4, 0] = [] := by decide +kernel
/-- How far each is: 0, 1 or 2 events heard: its state, and what waits for it. -/
def twoState (p : Nat) : Nat := if p = 0 then 6 else if p = 1 then 8 else 9
def twoQueue (p other : Nat) : List Nat := (if p = 0 then [6] else []) ++ (if 1 ≤ other ∧ p < 2 then [8] else [])
/-- One hears what waits for it first. -/
theorem two_step : ∀ p < 3, ∀ q < 3, (p ≠ 0 ∨ q < 2) → ∀ h t, twoQueue p q = h :: t → (h = 6 ∧ p = 0 ∧ twoQueue 1 q = t ∧ twoQueue q 1 = twoQueue q 0 ++ [8]) ∨ (h = 8 ∧ p = 1 ∧ 1 ≤ q ∧ twoQueue 2 q = t ∧ twoQueue q 2 = twoQueue q 1) := by
  intro p hp q hq hx h t e
  obtain rfl | rfl | rfl : p = 0 ∨ p = 1 ∨ p = 2 := by omega
  all_goals (obtain rfl | rfl | rfl : q = 0 ∨ q = 1 ∨ q = 2 := by omega)
  all_goals (simp [twoQueue] at e hx ⊢)
  all_goals (try (obtain ⟨rfl, rfl⟩ := e; simp))
end Pure
end Go.Proofs.Ytjeekhgkcphnpaa
