/- A window of an own row of numbers: cut at its front, appended to. -/
import Derived.Test.YtjeekhgkcphnpaaInts
import Derived.Test.YtjeekhgkcphnpaaCut
import Derived.Deep.AppendSrc
import Derived.Deep.Upon
namespace Go.Proofs.Ytjeekhgkcphnpaa
open Go.RowKit
/-- The slice value v reads as the numbers l; where it has room it is a window of a block of F. -/
def Win (w : World) (F : Nat → Prop) (v : Value) (l : List Nat) : Prop :=
  ∃ A cap, v = .slice A l.length cap ∧ l.length ≤ cap ∧ cap ≤ maxLen ∧ (cap = 0 ∨ ∃ g off cur, A = some ⟨g, off, none⟩ ∧ F g ∧ Blk w g 3 cur ∧ off + cap ≤ cur.size ∧ ∀ j u, (ints l)[j]? = some u → cur[off + j]? = some u)
theorem Win.nil (w : World) (F : Nat → Prop) : Win w F (.slice none 0 0) [] := ⟨none, 0, rfl, Nat.le_refl _, by simp [maxLen], .inl rfl⟩
theorem Win.keeps {S F : Nat → Prop} {w w' : World} {v : Value} {l : List Nat} (h : Win w F v l) (k : Keeps S w w') (hs : ∀ b, F b → ¬ S b) : Win w' F v l := by
  obtain ⟨A, cap, e, h1, h2, h3⟩ := h
  refine ⟨A, cap, e, h1, h2, h3.imp id ?_⟩
  rintro ⟨g, off, cur, hA, hF, hB, r⟩
  exact ⟨g, off, cur, hA, hF, hB.keeps k (hs g hF), r⟩
theorem Win.mono {F G : Nat → Prop} {w : World} {v : Value} {l : List Nat} (h : Win w F v l) (hG : ∀ b, F b → b < w.heap.size → G b) : Win w G v l := by
  obtain ⟨A, cap, e, h1, h2, h3⟩ := h
  refine ⟨A, cap, e, h1, h2, h3.imp id ?_⟩
  rintro ⟨g, off, cur, hA, hF, hB, r⟩
  exact ⟨g, off, cur, hA, hG g hF hB.lt, hB, r⟩
theorem Win.form {F : Nat → Prop} {w : World} {v : Value} {l : List Nat} (h : Win w F v l) : ∃ A c, v = .slice A l.length c := by
  obtain ⟨A, cap, e, _⟩ := h
  exact ⟨A, cap, e⟩
theorem Win.head {F : Nat → Prop} {w : World} {v : Value} {a : Nat} {t : List Nat} (h : Win w F v (a :: t)) : ∃ g off c, v = .slice (some ⟨g, off, none⟩) (t.length + 1) c ∧ w.cell? ⟨g, off, none⟩ = some (.int .i64 (a : Int)) ∧ t.length + 1 ≤ c ∧ c ≤ maxLen := by
  obtain ⟨A, cap, e, h1, h2, h3⟩ := h
  simp only [List.length_cons] at h1 e
  rcases h3 with h3 | ⟨g, off, cur, rfl, _, hB, _, hc⟩
  · omega
  · exact ⟨g, off, cap, e, by rw [hB.cell]; exact hc 0 _ rfl, h1, h2⟩
theorem Win.tail {F : Nat → Prop} {w : World} {A : Option Addr} {n c a : Nat} {t : List Nat} (h : Win w F (.slice A n c) (a :: t)) : Win w F (cutV A c 1 t.length) t := by
  obtain ⟨B, cap, e, h1, h2, h3⟩ := h
  simp only [List.length_cons] at h1 e
  injection e with e1 e2 e3
  subst e1 e2 e3
  unfold cutV
  split
  · rename_i hc
    subst hc
    have ht : t = [] := List.eq_nil_of_length_eq_zero (by omega)
    subst ht
    exact ⟨_, 0, rfl, Nat.le_refl _, by simp [maxLen], .inl rfl⟩
  · rcases h3 with h3 | ⟨g, off, cur, rfl, hF, hB, hs, hcell⟩
    · omega
    · refine ⟨_, c - 1, rfl, by omega, by omega, .inr ⟨g, off + 1, cur, rfl, hF, hB, by omega, fun j u hu => ?_⟩⟩
      rw [show off + 1 + j = off + (j + 1) by omega]
      exact hcell (j + 1) u (by simpa using hu)
theorem setCells_blk (g : Nat) (t : TypeId) : ∀ (vs : List Value) (o : Nat) (w : World) (cur : Array Value), Blk w g t cur → o + vs.length ≤ cur.size →
    Keeps (only g) w (w.setCells g o vs) ∧ ∃ cur', Blk (w.setCells g o vs) g t cur' ∧ cur'.size = cur.size ∧ (∀ j, j < o → cur'[j]? = cur[j]?) ∧ ∀ j u, vs[j]? = some u → cur'[o + j]? = some u := by
  intro vs
  induction vs with
  | nil => intro o w cur h _; exact ⟨Keeps.refl _ _, cur, h, rfl, fun _ _ => rfl, fun j u hu => by simp at hu⟩
  | cons v vs ih =>
    intro o w cur h hs
    simp only [List.length_cons] at hs
    have hb := h.set o v
    obtain ⟨k, cur', h1, h2, h3, h4⟩ := ih (o + 1) (w.setCell ⟨g, o, none⟩ v) _ hb (by rw [Array.size_setIfInBounds]; omega)
    rw [Array.size_setIfInBounds] at h2
    refine ⟨((Keeps.refl (only g) w).store g o (fun _ => rfl) v).trans k, cur', h1, h2, fun j hj => ?_, fun j u hu => ?_⟩
    · rw [h3 j (by omega), Array.getElem?_setIfInBounds_ne (by omega)]
    · cases j with
      | zero =>
        have hu : v = u := by simpa using hu
        subst hu
        rw [Nat.add_zero, h3 o (by omega), Array.getElem?_setIfInBounds_self_of_lt (by omega)]
      | succ j =>
        have := h4 j u (by simpa using hu)
        rwa [show o + 1 + j = o + (j + 1) by omega] at this
theorem src_row {G : Nat → Prop} {w : World} {y : Value} {m : List Nat} (hr : Row w G 1 y m.length (ints m)) : Src Try.prog 1 27 y m.length (ints m) w := by
  obtain ⟨h1, h0, A, c, rfl, h3, h4, h5⟩ := hr
  cases A with
  | none =>
    have hm : m = [] := List.eq_nil_of_length_eq_zero (h4 rfl)
    subst hm
    exact Src.ofNil w Try.underlying27 c
  | some x =>
    refine Src.ofSlice w Try.underlying27 x m.length c (ints m) h1 (fun j u hu => ?_) (ints_cells m)
    have hj : j < m.length := by
      have := (List.getElem?_eq_some_iff.1 hu).1
      simpa using this
    obtain ⟨b, off, e, _, hc⟩ := h5 (by omega)
    injection e with e
    subst e
    rw [Addr.add_lit]
    exact hc j u hu
theorem win_append {F G : Nat → Prop} {w : World} {v y : Value} {l m : List Nat} (h : Win w F v l) (hr : Row w G 1 y m.length (ints m)) (hlen : l.length + m.length ≤ 100000) (ty : TypeId) :
    ∃ v' w', (Builtin.append_ #[27, 27] ty #[v, y]).run Try.prog w = .ok v' w' ∧ Win w' (fun b => F b ∨ w.heap.size ≤ b) v' (l ++ m) ∧ Keeps F w w' := by
  obtain ⟨i0, hi0, hz0, hz1, hz2⟩ := info_parts int_info
  have hsrc := src_row hr
  obtain ⟨A, cap, rfl, h1, h2, h3⟩ := h
  have hs1 : i0.size = 1 := hz1
  by_cases hm : m = []
  · subst hm
    refine ⟨_, _, run_append_nothing (P := Try.prog) w 27 27 ty 3 i0 Try.underlying27 hi0 A l.length cap h1 y (by rw [hs1]; exact hsrc), ?_, Keeps.refl _ _⟩
    rw [List.append_nil]
    exact ⟨A, cap, rfl, h1, h2, h3.imp id fun ⟨g, off, cur, a, b, c⟩ => ⟨g, off, cur, a, .inl b, c⟩⟩
  · have hmp : 0 < m.length := (by cases m with | nil => exact absurd rfl hm | cons a t => simp)
    by_cases hfit : l.length + m.length ≤ cap
    · rcases h3 with h3 | ⟨g, off, cur, rfl, hF, hB, hs, hcell⟩
      · omega
      · obtain ⟨k, cur', q1, q2, q3, q4⟩ := setCells_blk g 3 (ints m) (off + l.length) w cur hB (by simp; omega)
        have hrun := run_append_room_src (P := Try.prog) w 27 27 ty 3 i0 Try.underlying27 hi0 g off l.length cap y m.length (ints m) (by rw [hs1]; exact hsrc) hfit
          (fun j hj => by rw [hB.cell, hs1, Array.getElem?_eq_getElem (by simp at hj; omega)]; rfl) (fun j _ => hB.frozen _)
        rw [hs1, Nat.mul_one] at hrun
        refine ⟨_, _, hrun, ⟨_, cap, by rw [List.length_append], by rw [List.length_append]; exact hfit, h2, .inr ⟨g, off, cur', rfl, .inl hF, q1, by omega, fun j u hu => ?_⟩⟩, k.mono (fun b hb => by have hb : b = g := hb; rw [hb]; exact hF)⟩
        rw [show ints (l ++ m) = ints l ++ ints m from List.map_append] at hu
        by_cases hj : j < l.length
        · rw [List.getElem?_append_left (by simpa using hj)] at hu
          rw [q3 _ (by omega)]
          exact hcell j u hu
        · rw [List.getElem?_append_right (by simp; omega)] at hu
          have := q4 _ u hu
          rw [List.length_map] at this
          rwa [show off + l.length + (j - l.length) = off + j by omega] at this
    · have hold : (Builtin.firstCells i0.size l.length (.slice A l.length cap)).run Try.prog w.drew = .ok (ints l).toArray w.drew := by
        rw [hs1]
        cases A with
        | none =>
          have : l = [] := by
            rcases h3 with h3 | ⟨g, off, cur, e, _⟩
            · exact List.eq_nil_of_length_eq_zero (by omega)
            · cases e
          subst this
          exact run_firstCells_none w.drew 1 0 0 cap
        | some x =>
          refine run_firstCells_some w.drew 1 l.length x l.length cap (ints l) (by simp) (fun j u hu => ?_)
          rcases h3 with h3 | ⟨g, off, cur, e, _, hB, _, hcell⟩
          · have : l = [] := List.eq_nil_of_length_eq_zero (by omega)
            subst this
            simp at hu
          · injection e with e
            subst e
            rw [Addr.add_lit]
            show w.cell? _ = _
            rw [hB.cell]
            exact hcell j u hu
      have hrun := run_append_grow_src (P := Try.prog) w 27 27 ty 3 i0 _ Try.underlying27 hi0 hz0 A l.length cap (ints l) hold y m.length (ints m) (by rw [hs1]; exact hsrc) (by omega) (by omega) (growslice_fits (by omega) (by rw [hz2]; omega))
      have hge := grownCap_ge w (l.length + m.length) cap 3
      have hcm := grownCap_le_maxLen w (l.length + m.length) cap 3 (by unfold maxLen; omega)
      refine ⟨_, _, hrun, ⟨_, _, by rw [List.length_append], by rw [List.length_append]; exact hge, hcm, .inr ⟨w.heap.size, 0, _, rfl, .inr (Nat.le_refl _), Blk.new w.drew 3 _, ?_, fun j u hu => ?_⟩⟩, ((Keeps.refl F w).drew).alloc _⟩
      · rw [Array.size_append, List.size_toArray, size_zeroCells, Nat.zero_add, List.length_append, List.length_map, List.length_map]
        show _ ≤ _ + (_ - _) * 1
        omega
      · rw [Nat.zero_add, Array.getElem?_append_left (by
          have := (List.getElem?_eq_some_iff.1 hu).1
          rw [List.size_toArray, show ints l ++ ints m = ints (l ++ m) from List.map_append.symm]; exact this), List.getElem?_toArray, show ints l ++ ints m = ints (l ++ m) from List.map_append.symm]
        exact hu
section
variable {w : World} {ops : Array Oper} {rest : List Oper} {o : Oper} {a : Act} {Q : Exit → Act → World → Prop}
theorem wpList_append_win (hgd : o.guard = none) (s x : Operand) (ho : o.op = .call { callee := .builtin .append, args := #[s, x], argTypes := #[27, 27] })
    {F G : Nat → Prop} {v y : Value} {l m : List Nat} (hs : a.eval s = v) (h : Win w F v l) (hx : a.eval x = y) (hr : Row w G 1 y m.length (ints m)) (hlen : l.length + m.length ≤ 100000)
    (hK : ∀ v' w', Win w' (fun b => F b ∨ w.heap.size ≤ b) v' (l ++ m) → Keeps F w w' → wpList Try.prog ops Q rest (a.put o.dst v') w') : wpList Try.prog ops Q (o :: rest) a w := by
  refine wpList_plain hgd fun K hK' => ?_
  obtain ⟨v', w', hrun, r1, r2⟩ := win_append h hr hlen o.type
  unfold Oper.wp
  simp [execOp, ho, resolve, invoke, builtin, hs, hx, hrun, Result.andThen]
  exact hK' _ _ (hK v' w' r1 r2)
theorem wpo_append_win {K : Act → World → Prop} (s x : Operand) (ho : o.op = .call { callee := .builtin .append, args := #[s, x], argTypes := #[27, 27] })
    {F G : Nat → Prop} {v y : Value} {l m : List Nat} (hs : a.eval s = v) (h : Win w F v l) (hx : a.eval x = y) (hr : Row w G 1 y m.length (ints m)) (hlen : l.length + m.length ≤ 100000)
    (hK : ∀ v' w', Win w' (fun b => F b ∨ w.heap.size ≤ b) v' (l ++ m) → Keeps F w w' → K (a.put o.dst v') w') : o.wp Try.prog a w K Q := by
  obtain ⟨v', w', hrun, r1, r2⟩ := win_append h hr hlen o.type
  unfold Oper.wp
  simp [execOp, ho, resolve, invoke, builtin, hs, hx, hrun, Result.andThen]
  exact hK _ _ r1 r2
end
end Go.Proofs.Ytjeekhgkcphnpaa
