/- Rows of numbers of 16 bits: append; a letter's units as numbers. -/
import Derived.Test.YtkllaghfiofnjaaDoorAppend
import Derived.Test.YtkllaghfiofnjaaDoorUtfPure
namespace Go.Proofs.YtkllaghfiofnjaaDoor
open Go.RowKit
namespace Pure
/-- The units of a letter's number, as numbers. -/
def unit16 (n : Nat) : List Nat := if n ≤ 65535 then [n] else [55296 + (n - 65536) / 1024, 56320 + (n - 65536) % 1024]
/-- Units as bytes, the lowest first. -/
def low (us : List Nat) : List UInt8 := us.flatMap unit
theorem low_append (a b : List Nat) : low (a ++ b) = low a ++ low b := List.flatMap_append
theorem low_length (us : List Nat) : (low us).length = 2 * us.length := by
  induction us with
  | nil => rfl
  | cons a us ih =>
    have : low (a :: us) = unit a ++ low us := rfl
    rw [this, List.length_append, ih, show (unit a).length = 2 from rfl, List.length_cons]
    omega
theorem low_unit16 (n : Nat) : low (unit16 n) = unitsOf n := by
  unfold unit16 unitsOf low
  by_cases h : n ≤ 65535
  · rw [if_pos h, if_neg (by omega)]; simp
  · rw [if_neg h, if_pos (by omega)]; simp
theorem unit16_length (n : Nat) : 1 ≤ (unit16 n).length ∧ (unit16 n).length ≤ 2 := by unfold unit16; split <;> simp
theorem unit16_lt (n : Nat) (h : n ≤ 1114111) : ∀ u ∈ unit16 n, u < 65536 := by
  unfold unit16
  split
  · intro u hu; simp at hu; omega
  · intro u hu; simp at hu; omega
/-- What was told stays. -/
theorem unitsFrom_length : ∀ (k : Nat) (s acc u : List UInt8), s.length ≤ k → unitsFrom s acc = some u → acc.length ≤ u.length
  | 0, s, acc, u, hk, h => by
    have : s = [] := List.eq_nil_of_length_eq_zero (by omega)
    subst this
    rw [unitsFrom_nil] at h
    injection h with h
    rw [h]; exact Nat.le_refl _
  | k + 1, s, acc, u, hk, h => by
    by_cases hs : s = []
    · subst hs
      rw [unitsFrom_nil] at h
      injection h with h
      rw [h]; exact Nat.le_refl _
    · by_cases hz : (letter s).2 = 0
      · rw [unitsFrom_bad acc hs hz] at h; cases h
      · rw [unitsFrom_step acc hs hz] at h
        have h0 : 0 < s.length := List.length_pos_iff.2 hs
        have := unitsFrom_length k _ _ _ (by rw [List.length_drop]; omega) h
        rw [List.length_append] at this
        omega
end Pure
/-- The values of numbers of 16 bits. -/
abbrev u16s (l : List Nat) : List Value := l.map fun (b : Nat) => Value.int .u16 (b : Int)
theorem u16_info : (Tryd.prog.info? 52).map (fun i => (i.zero, i.size, i.bytes)) = some (some (.int .u16 0), 1, 2) := by kernel_rfl
theorem u16s_cells (l : List Nat) : ∀ u ∈ u16s l, u.oneCell' = true := by
  intro u hu
  obtain ⟨b, _, rfl⟩ := List.mem_map.1 hu
  rfl
theorem u16s_at (l : List Nat) (j : Nat) (h : j < l.length) : (u16s l)[j]? = some (.int .u16 ((l.getD j 0 : Nat) : Int)) := by
  rw [List.getElem?_map, List.getElem?_eq_getElem h, List.getD_eq_getElem?_getD, List.getElem?_eq_getElem h]; rfl
theorem u16row_new (w : World) (l : List Nat) (cs : Array Value) (n : Nat) (hc : cs = (u16s l).toArray) (hn : n = l.length) (hl : l.length ≤ 100000) : Row (w.alloc (.cells cs 52)) (fun b => b = w.heap.size) 1 (.slice (some ⟨w.heap.size, 0, none⟩) n n) l.length (u16s l) := by
  subst hc hn
  exact Row.block (Blk.new w 52 (u16s l).toArray) rfl (by simp) (by unfold maxLen; omega) (Nat.le_refl _)
section
variable {w : World} {ops : Array Oper} {rest : List Oper} {o : Oper} {a : Act} {Q : Exit → Act → World → Prop}
theorem wp_append_u16 (hgd : o.guard = none) (s x : Operand) (ho : o.op = .call { callee := .builtin .append, args := #[s, x], argTypes := #[102, 102] })
    (base : Nat) (v : Value) (n : Nat) (l : List Nat) (hn : l.length = n) (hs : a.eval s = v) (hown : w.ownsRow base 52 1 v n (u16s l))
    (F : Nat → Prop) (y : Value) (m : List Nat) (hx : a.eval x = y) (hr : Row w F 1 y m.length (u16s m)) (hlen : n + m.length ≤ 17592186044416) (hbase : base ≤ w.heap.size)
    (h : ∀ v' w', w'.ownsRow base 52 1 v' (l ++ m).length (u16s (l ++ m)) → w.grownBy w' v.ownBlock → (v'.ownBlock = v.ownBlock ∨ v'.ownBlock = some w.heap.size) → wpList Tryd.prog ops Q rest (a.put o.dst v') w') :
    wpList Tryd.prog ops Q (o :: rest) a w := by
  obtain ⟨i0, hi0, hz0, hz1, hz2⟩ := info_parts u16_info
  subst hn
  refine wpList_append_row hgd s x _ ho base 52 i0 _ 1 2 Tryd.underlying102 hi0 hz0 hz1 hz2 rfl (by omega) v _ (u16s l) hs hown F y m.length (u16s m) hx hr (u16s_cells m) (by simp only [maxLen]; omega) (by omega) hbase ?_
  intro v' w' h1 h2 h3
  refine h v' w' ?_ h2 h3
  rw [List.length_append]
  simpa using h1
end
/-- The units of one letter. -/
theorem unitsOfOne_any (n : Nat) (hn : n ≤ 1114111) (w : World) : Calls Tryd.prog 80 #[.int .i32 (n : Int)] w fun e w' => ∃ v, e = .returned v ∧ Row w' (fun b => b = w.heap.size) 1 v (Pure.unit16 n).length (u16s (Pure.unit16 n)) ∧ Below w.heap.size w w' := by
  by_cases h : n ≤ 65535
  · have e1 : Pure.unit16 n = [n] := by unfold Pure.unit16; rw [if_pos h]
    rw [e1]
    have d : decide ((n : Int) ≤ 65535) = true := decide_eq_true (by omega)
    have r := u16row_new w [n] _ 1 rfl rfl (by simp)
    have R := Lib.hid r
    clear r e1
    go_enter Tryd.func80, Tryd.ntmps80
    go_wp2
    go_ret
    exact ⟨_, rfl, R.out, (Below.refl _ _).alloc (Nat.le_refl _) _⟩
  · obtain ⟨m, hm⟩ : ∃ m, m = n - 65536 := ⟨_, rfl⟩
    obtain ⟨p, hp⟩ : ∃ p, p = 55296 + m / 1024 := ⟨_, rfl⟩
    obtain ⟨q, hq⟩ : ∃ q, q = 56320 + m % 1024 := ⟨_, rfl⟩
    have e1 : Pure.unit16 n = [p, q] := by unfold Pure.unit16; rw [if_neg h, ← hm, ← hp, ← hq]
    rw [e1]
    have d : decide ((n : Int) ≤ 65535) = false := decide_eq_false (by omega)
    have em : (n : Int) - 65536 = (m : Int) := by omega
    have ep : 55296 + (m : Int) / 1024 = (p : Int) := by omega
    have etm : (m : Int).tmod 1024 = (m : Int) % 1024 := Int.tmod_eq_emod_of_nonneg (by omega)
    have eq' : 56320 + (m : Int) % 1024 = (q : Int) := by omega
    have hp2 : p < 65536 := by omega
    have hq2 : q < 65536 := by omega
    have r := u16row_new w [p, q] _ 2 rfl rfl (by simp)
    have R := Lib.hid r
    clear r e1 hp hq hm h
    go_enter Tryd.func80, Tryd.ntmps80
    go_wp2
    go_ret
    exact ⟨_, rfl, R.out, (Below.refl _ _).alloc (Nat.le_refl _) _⟩
end Go.Proofs.YtkllaghfiofnjaaDoor
