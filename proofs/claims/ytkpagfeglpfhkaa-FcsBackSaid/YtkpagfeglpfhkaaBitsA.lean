/- Contracts of the small functions of package bits. No conditions but those that each names. -/
import Derived.Test.YtkpagfeglpfhkaaRows
import Derived.Test.YtkpagfeglpfhkaaKit
namespace Go.Proofs.Ytkpagfeglpfhkaa
open Go.RowKit

theorem isWidth_any (n : Int) (w : World) :
    Calls Try.prog 57 #[.int .i64 n] w fun e w' => e = .returned (.bool (decide (0 ≤ n) && decide (n ≤ 32))) ∧ w = w' := by
  by_cases a : 0 ≤ n
  · by_cases b : n ≤ 32
    · go_enter Try.func57, Try.ntmps57
      go_wp2
      go_ret
      exact ⟨by simp [a, b], rfl⟩
    · go_enter Try.func57, Try.ntmps57
      go_wp2
      go_ret
      exact ⟨by simp [b], rfl⟩
  · have hd : decide (0 ≤ n) = false := by simp [a]
    go_enter Try.func57, Try.ntmps57
    go_wp2
    go_ret
    exact ⟨by simp, rfl⟩

theorem low_any (x n : Int) (w : World) (h0 : 0 ≤ n) (h1 : n ≤ 32) (h2 : 0 ≤ x) (h3 : x < 9223372036854775808):
    Calls Try.prog 58 #[.int .i64 x, .int .i64 n] w fun e w' => e = .returned (.int .i64 (x % 2 ^ n.toNat)) ∧ w = w' := by
  have H := Lib.hid (mask_any x n.toNat (by omega) h2 h3)
  go_enter Try.func58, Try.ntmps58
  go_wp2
  go_ret
  exact ⟨by simp [H.out], rfl⟩

theorem highFirst_any (a b c : Int) (w : World) (ha : 0 ≤ a) (ha' : a ≤ 64) (hb : 0 ≤ b) (hb' : b ≤ 64) (hc : 0 ≤ c) (hc' : c ≤ 64) :
    Calls Try.prog 71 #[.agg #[], .int .i64 a, .int .i64 b, .int .i64 c] w fun e w' => e = .returned (.int .i64 (a - b - c)) ∧ w.alloc (.cells #[] 83) = w' := by
  go_enter Try.func71, Try.ntmps71
  go_wp2
  go_ret
  exact ⟨rfl, rfl⟩
theorem lowFirst_any (a b c : Int) (w : World) :
    Calls Try.prog 72 #[.agg #[], .int .i64 a, .int .i64 b, .int .i64 c] w fun e w' => e = .returned (.int .i64 b) ∧ w.alloc (.cells #[] 83) = w' := by
  go_enter Try.func72, Try.ntmps72
  go_wp2
  go_ret
  exact ⟨rfl, rfl⟩

def placeF (high : Bool) : FuncId := if high then 71 else 72
abbrev placeV (high : Bool) : Value := .func (.func (placeF high)) #[.agg #[]] #[]

theorem run_callPlace (high : Bool) (args : Array Value) (w : World) : (callFunc (placeF high) args).run Try.prog w = .ok (.enter (placeF high) args) w := by
  cases high <;> kernel_rfl
/-- How far above the lowest bit. -/
def placeN (high : Bool) (a b c : Int) : Int := if high then a - b - c else b
theorem placeF_any (high : Bool) (a b c : Int) (w : World) (ha : 0 ≤ a) (ha' : a ≤ 64) (hb : 0 ≤ b) (hb' : b ≤ 64) (hc : 0 ≤ c) (hc' : c ≤ 64) :
    Calls Try.prog (placeF high) #[.agg #[], .int .i64 a, .int .i64 b, .int .i64 c] w fun e w' => e = .returned (.int .i64 (placeN high a b c)) ∧ w.alloc (.cells #[] 83) = w' := by
  cases high
  · exact lowFirst_any a b c w
  · exact highFirst_any a b c w ha ha' hb hb' hc hc'

theorem placeOf_any (high : Bool) (w : World) :
    Calls Try.prog 55 #[.bool high] w fun e w' => e = .returned (placeV high) ∧ w.alloc (.cells #[] 83) = w' := by
  cases high
  · go_enter Try.func55, Try.ntmps55
    go_wp2
    go_ret
    exact ⟨rfl, rfl⟩
  · go_enter Try.func55, Try.ntmps55
    go_wp2
    go_ret
    exact ⟨rfl, rfl⟩

theorem run_place_neq (high : Bool) (w : World) : (binOp .neq 65 (.func (.func (placeF high)) #[.agg #[]] #[]) .nilFunc).run Try.prog w = .ok (.bool true) w := by
  cases high <;> kernel_rfl

theorem wmade_any (g : Nat) (high : Bool) (v u : Value) (w : World) (hb : Blk w g 68 #[v, u, placeV high]) :
    Calls Try.prog 56 #[.pointer (some ⟨g, 0, none⟩)] w fun e w' => e = .returned (.bool true) ∧ w = w' := by
  have h2 : w.cell? ⟨g, 2, none⟩ = some (placeV high) := by rw [hb.cell]; rfl
  have hr := run_place_neq high
  go_enter Try.func56, Try.ntmps56
  go_wp2
  go_ret
  exact ⟨rfl, rfl⟩
theorem rmade_any (g : Nat) (high : Bool) (v u : Value) (w : World) (hb : Blk w g 72 #[v, u, placeV high]) :
    Calls Try.prog 60 #[.pointer (some ⟨g, 0, none⟩)] w fun e w' => e = .returned (.bool true) ∧ w = w' := by
  have h2 : w.cell? ⟨g, 2, none⟩ = some (placeV high) := by rw [hb.cell]; rfl
  have hr := run_place_neq high
  go_enter Try.func60, Try.ntmps60
  go_wp2
  go_ret
  exact ⟨rfl, rfl⟩

/- NewWriter -/
theorem newWriter_any (high : Bool) (w : World) :
    Calls Try.prog 16 #[.bool high] w fun e w' => e = .returned (.pointer (some ⟨w.heap.size + 1, 0, none⟩)) ∧
      (w.alloc (.cells #[] 83)).alloc (.cells #[.slice none 0 0, .int .i64 0, placeV high] 68) = w' := by
  go_enter Try.func16, Try.ntmps16
  go_wp2_with (go_at_call 55; refine (placeOf_any _ _).mono ?_; rintro e w' ⟨rfl, rfl⟩)
  go_ret
  exact ⟨rfl, rfl⟩

theorem u8_info : (Try.prog.info? 5).map (fun i => (i.zero, i.size, i.bytes)) = some (some (.int .u8 0), 1, 1) := by kernel_rfl

theorem u8s_cells (l : List UInt8) : ∀ u ∈ l.map (fun b => Value.int .u8 b.toNat), u.oneCell' = true := by
  intro u hu
  obtain ⟨b, _, rfl⟩ := List.mem_map.1 hu
  rfl
/-- The values of bytes. -/
abbrev u8s (l : List UInt8) : List Value := l.map fun b => Value.int .u8 b.toNat

set_option maxHeartbeats 400000 in
theorem clone_any (F : Nat → Prop) (x : Value) (n : Nat) (l : List UInt8) (w : World) (hr : Row w F 1 x n (u8s l)) (hn : n ≤ 140737488355328) :
    Calls Try.prog 59 #[x] w fun e w' => ∃ v, e = .returned v ∧ w'.ownsRow w.heap.size 5 1 v n (u8s l) ∧ Below w.heap.size w w' := by
  obtain ⟨i0, hi0, hz0, hz1, hz2⟩ := info_parts u8_info
  have hr' := hr
  obtain ⟨hl, hm, A, c, rfl, hc, hA, hcell⟩ := hr
  rcases A with _ | ad
  · obtain rfl := hA rfl
    have hl0 : u8s l = [] := List.eq_nil_of_length_eq_zero (by simpa using hl)
    clear hcell hA hl
    have hq := fun (W : World) => Lib.run_eql_slice_nil (P := Try.prog) W 26 5 none 0 c 0 0 Try.underlying26
    go_enter Try.func59, Try.ntmps59
    go_wp2
    go_ret
    refine ⟨_, rfl, ⟨by rw [hl0]; rfl, .inl ⟨rfl, rfl⟩⟩, Below.refl _ _⟩
  · have HL := Lib.hid hl
    have hbw : Row (w.alloc (.cells #[] 5)) F 1 (.slice (some ad) n c) n (u8s l) :=
      hr'.cellsOf fun b off u _ hu => (World.cell?_alloc_lt w _ ⟨b, off, none⟩ (cell_lt hu)).trans hu
    clear hl hcell hA hr'
    have hq := fun (W : World) => Lib.run_eql_slice_nil (P := Try.prog) W 26 5 (some ad) n c 0 0 Try.underlying26
    go_enter Try.func59, Try.ntmps59
    go_wp2_with (at_builtin; refine stopHere ?_)
    unfold Hid
    refine wpList_append_row rfl (.tmp 5) (.tmp 6) _ rfl w.heap.size 5 i0 _ 1 1 Try.underlying26 hi0 hz0 hz1 hz2 rfl (by omega) (.slice (some ⟨w.heap.size, 0, none⟩) 0 0) 0 []
      rfl (ownsRow_made _ _ _ _ (Nat.le_refl _)) F _ n (u8s l) rfl hbw (u8s_cells l) (by omega) (by omega) (by simp) ?_
    intro v1 w1 hown1 hg1 hat1
    go_wp2
    go_ret
    refine ⟨v1, rfl, by simpa using hown1, ((Below.refl _ _).alloc (Nat.le_refl _) _).grown hg1 (by simp) ?_⟩
    intro k hk
    simp [Value.ownBlock] at hk
    omega
end Go.Proofs.Ytkpagfeglpfhkaa
