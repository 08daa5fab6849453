/- A window of an own row of elements of any size: cut at its front, appended to. -/
import Derived.Test.YtjomcffhbaplcaaGreatDoorQ1
import Derived.Deep.AppendSrc
import Derived.Deep.Upon
namespace Go.Proofs.YtjomcffhbaplcaaGreatDoor
open Go.RowKit
/-- The slice value v reads as n elements, the cells xs; where it has room it is a window of a block of F that is known whole. -/
def WinOf (w : World) (F : Nat → Prop) (e : TypeId) (size : Nat) (v : Value) (n : Nat) (xs : List Value) : Prop :=
  xs.length = n * size ∧ ∃ A cap, v = .slice A n cap ∧ n ≤ cap ∧ cap ≤ maxLen ∧ (cap = 0 ∨ ∃ g off cur, A = some ⟨g, off, none⟩ ∧ F g ∧ Blk w g e cur ∧ off + cap * size ≤ cur.size ∧ ∀ j u, xs[j]? = some u → cur[off + j]? = some u)
section
variable {w w' : World} {S F G : Nat → Prop} {e : TypeId} {size n : Nat} {v : Value} {xs : List Value}
theorem WinOf.nil (w : World) (F : Nat → Prop) (e : TypeId) (size : Nat) : WinOf w F e size (.slice none 0 0) 0 [] := ⟨by simp, none, 0, rfl, Nat.le_refl _, by simp [maxLen], .inl rfl⟩
theorem WinOf.keeps (h : WinOf w F e size v n xs) (k : Keeps S w w') (hs : ∀ b, F b → ¬ S b) : WinOf w' F e size v n xs := by
  obtain ⟨hx, A, cap, e, h1, h2, h3⟩ := h
  refine ⟨hx, A, cap, e, h1, h2, h3.imp id ?_⟩
  rintro ⟨g, off, cur, hA, hF, hB, r⟩
  exact ⟨g, off, cur, hA, hF, hB.keeps k (hs g hF), r⟩
theorem WinOf.mono (h : WinOf w F e size v n xs) (hG : ∀ b, F b → b < w.heap.size → G b) : WinOf w G e size v n xs := by
  obtain ⟨hx, A, cap, e, h1, h2, h3⟩ := h
  refine ⟨hx, A, cap, e, h1, h2, h3.imp id ?_⟩
  rintro ⟨g, off, cur, hA, hF, hB, r⟩
  exact ⟨g, off, cur, hA, hG g hF hB.lt, hB, r⟩
theorem WinOf.form (h : WinOf w F e size v n xs) : ∃ A c, v = .slice A n c ∧ n ≤ c ∧ c ≤ maxLen := by
  obtain ⟨_, A, cap, e, h1, h2, _⟩ := h
  exact ⟨A, cap, e, h1, h2⟩
/-- As a row. -/
theorem WinOf.row (h : WinOf w F e size v n xs) : Row w (fun b => F b ∨ n = 0) size v n xs := by
  obtain ⟨hx, A, cap, rfl, h1, h2, h3⟩ := h
  have hn : n ≤ maxLen := by omega
  rcases h3 with h3 | ⟨g, off, cur, rfl, hF, hB, _, hc⟩
  · have h0 : n = 0 := by omega
    exact ⟨hx, hn, A, cap, rfl, h1, fun _ => h0, fun h => absurd h (by omega)⟩
  · exact ⟨hx, hn, _, cap, rfl, h1, by simp, fun _ => ⟨g, off, rfl, .inl hF, fun j u hu => by rw [hB.cell]; exact hc j u hu⟩⟩
/-- The slice x[lo:] of elements of so many cells. -/
def cutS (A : Option Addr) (c lo m size : Nat) : Value := if c = lo then .slice A m 0 else .slice (A.map (fun x => x.add (lo * size))) m (c - lo)
theorem cutS_form (A : Option Addr) (c lo m size : Nat) : ∃ A' c', cutS A c lo m size = .slice A' m c' := by
  unfold cutS
  split
  · exact ⟨_, _, rfl⟩
  · exact ⟨_, _, rfl⟩
theorem WinOf.tail {A : Option Addr} {c : Nat} (h : WinOf w F e size (.slice A (n + 1) c) (n + 1) xs) : WinOf w F e size (cutS A c 1 n size) n (xs.drop size) := by
  obtain ⟨hx, B, cap, e, h1, h2, h3⟩ := h
  injection e with e1 _ e3
  subst e1 e3
  have hl : (xs.drop size).length = n * size := by rw [List.length_drop, hx, Nat.add_mul, Nat.one_mul]; omega
  refine ⟨hl, ?_⟩
  unfold cutS
  split
  · rename_i hc
    have hn : n = 0 := by omega
    exact ⟨A, 0, rfl, by omega, by simp [maxLen], .inl rfl⟩
  · rcases h3 with h3 | ⟨g, off, cur, rfl, hF, hB, hs, hcell⟩
    · omega
    · refine ⟨_, c - 1, rfl, by omega, by omega, .inr ⟨g, off + 1 * size, cur, by rw [Option.map_some, Addr.add_lit], hF, hB, ?_, fun j u hu => ?_⟩⟩
      · rw [Nat.sub_mul, Nat.one_mul]
        have : size ≤ c * size := Nat.le_mul_of_pos_left size (by omega)
        omega
      · rw [Nat.one_mul, Nat.add_assoc]
        exact hcell (size + j) u (by rw [List.getElem?_drop] at hu; exact hu)
end
theorem setCells_blk' (g : Nat) (t : TypeId) : ∀ (vs : List Value) (o : Nat) (w : World) (cur : Array Value), Blk w g t cur → o + vs.length ≤ cur.size →
    Keeps (only g) w (w.setCells g o vs) ∧ ∃ cur', Blk (w.setCells g o vs) g t cur' ∧ cur'.size = cur.size ∧ (∀ j, j < o → cur'[j]? = cur[j]?) ∧ ∀ j u, vs[j]? = some u → cur'[o + j]? = some u := by
  intro vs
  induction vs with
  | nil => intro o w cur h _; exact ⟨Keeps.refl _ _, cur, h, rfl, fun _ _ => rfl, fun j u hu => by simp at hu⟩
  | cons v vs ih =>
    intro o w cur h hs
    simp only [List.length_cons] at hs
    have hb := h.set o v
    obtain ⟨k, cur', h1, h2, h3, h4⟩ := ih (o + 1) (w.setCell ⟨g, o, none⟩ v) _ hb (by rw [Array.size_setIfInBounds]; omega)
    rw [Array.size_setIfInBounds] at h2
    refine ⟨((Keeps.refl (only g) w).store g o (fun _ => rfl) v).trans k, cur', h1, h2, fun j hj => ?_, fun j u hu => ?_⟩
    · rw [h3 j (by omega), Array.getElem?_setIfInBounds_ne (by omega)]
    · cases j with
      | zero =>
        have hu : v = u := by simpa using hu
        subst hu
        rw [Nat.add_zero, h3 o (by omega), Array.getElem?_setIfInBounds_self_of_lt (by omega)]
      | succ j =>
        have := h4 j u (by simpa using hu)
        rwa [show o + 1 + j = o + (j + 1) by omega] at this
section
variable {P : Program} {w : World}
theorem src_of_row {G : Nat → Prop} {y : Value} {size m : Nat} {xs : List Value} {tx e' : TypeId} (hk : P.underlying tx = some (.slice e')) (h1 : ∀ u ∈ xs, u.oneCell' = true) (hr : Row w G size y m xs) : Src P size tx y m xs w := by
  obtain ⟨hx, h0, A, c, rfl, h3, h4, h5⟩ := hr
  cases A with
  | none =>
    have hm : m = 0 := h4 rfl
    subst hm
    have hxs : xs = [] := List.eq_nil_of_length_eq_zero (by simpa using hx)
    subst hxs
    exact Src.ofNil w hk c
  | some x =>
    refine Src.ofSlice w hk x m c xs hx (fun j u hu => ?_) h1
    have hj : j < xs.length := (List.getElem?_eq_some_iff.1 hu).1
    have hm : 0 < m := by
      rcases Nat.eq_zero_or_pos m with e | e
      · rw [hx, e, Nat.zero_mul] at hj; omega
      · exact e
    obtain ⟨b, off, e, _, hc⟩ := h5 hm
    injection e with e
    subst e
    rw [Addr.add_lit]
    exact hc j u hu
theorem winof_append {F : Nat → Prop} {e tx t : TypeId} {size n m : Nat} {v y : Value} {xs ys : List Value} {i : TypeInfo} {z : Value} (ht : P.underlying t = some (.slice e)) (hi : P.info? e = some i) (hz : i.zero = some z) (hs1 : i.size = size) (hzs : z.cells.size = size)
    (h : WinOf w F e size v n xs) (hsrc : Src P size tx y m ys w) (hlen : n + m ≤ 100000) (hby : i.bytes ≤ 10000) (ty : TypeId) :
    ∃ v' w', (Builtin.append_ #[t, tx] ty #[v, y]).run P w = .ok v' w' ∧ WinOf w' (fun b => F b ∨ w.heap.size ≤ b) e size v' (n + m) (xs ++ ys) ∧ Keeps F w w' := by
  have hyl := hsrc.newsLen
  obtain ⟨hx, A, cap, rfl, h1, h2, h3⟩ := h
  have hall : (xs ++ ys).length = (n + m) * size := by rw [List.length_append, hx, hyl, Nat.add_mul]
  by_cases hm : m = 0
  · subst hm
    have hys : ys = [] := List.eq_nil_of_length_eq_zero (by simpa using hyl)
    subst hys
    refine ⟨_, _, run_append_nothing (P := P) w t tx ty e i ht hi A n cap h1 y (by rw [hs1]; exact hsrc), ?_, Keeps.refl _ _⟩
    rw [List.append_nil]
    exact ⟨hx, A, cap, rfl, h1, h2, h3.imp id fun ⟨g, off, cur, a, b, c⟩ => ⟨g, off, cur, a, .inl b, c⟩⟩
  · by_cases hfit : n + m ≤ cap
    · rcases h3 with h3 | ⟨g, off, cur, rfl, hF, hB, hs, hcell⟩
      · omega
      · have hmul : (n + m) * size ≤ cap * size := Nat.mul_le_mul_right _ hfit
        rw [Nat.add_mul] at hmul
        obtain ⟨k, cur', q1, q2, q3, q4⟩ := setCells_blk' g e ys (off + n * size) w cur hB (by omega)
        have hrun := run_append_room_src (P := P) w t tx ty e i ht hi g off n cap y m ys (by rw [hs1]; exact hsrc) hfit
          (fun j hj => by rw [hB.cell, hs1, Array.getElem?_eq_getElem (by omega)]; rfl) (fun j _ => hB.frozen _)
        rw [hs1] at hrun
        refine ⟨_, _, hrun, ⟨hall, _, cap, rfl, hfit, h2, .inr ⟨g, off, cur', rfl, .inl hF, q1, by omega, fun j u hu => ?_⟩⟩, k.mono (fun b hb => by have hb : b = g := hb; rw [hb]; exact hF)⟩
        by_cases hj : j < xs.length
        · rw [List.getElem?_append_left hj] at hu
          rw [q3 _ (by omega)]
          exact hcell j u hu
        · rw [List.getElem?_append_right (by omega)] at hu
          have := q4 _ u hu
          rwa [show off + n * size + (j - xs.length) = off + j by omega] at this
    · have hold : (Builtin.firstCells i.size n (.slice A n cap)).run P w.drew = .ok xs.toArray w.drew := by
        rw [hs1]
        cases A with
        | none =>
          have hn : n = 0 := by
            rcases h3 with h3 | ⟨g, off, cur, e, _⟩
            · omega
            · cases e
          subst hn
          have : xs = [] := List.eq_nil_of_length_eq_zero (by simpa using hx)
          subst this
          exact run_firstCells_none w.drew size 0 0 cap
        | some x =>
          refine run_firstCells_some w.drew size n x n cap xs hx (fun j u hu => ?_)
          rcases h3 with h3 | ⟨g, off, cur, e, _, hB, _, hcell⟩
          · have hn : n = 0 := by omega
            subst hn
            have : xs = [] := List.eq_nil_of_length_eq_zero (by simpa using hx)
            subst this
            simp at hu
          · injection e with e
            subst e
            rw [Addr.add_lit]
            show w.cell? _ = _
            rw [hB.cell]
            exact hcell j u hu
      have hbytes : (n + m) * i.bytes ≤ 140737488355328 := Nat.le_trans (Nat.mul_le_mul hlen hby) (by decide)
      have hrun := run_append_grow_src (P := P) w t tx ty e i z ht hi hz A n cap xs hold y m ys (by rw [hs1]; exact hsrc) (by omega) (by omega) (growslice_fits (by omega) hbytes)
      have hge := grownCap_ge w (n + m) cap e
      have hcm := grownCap_le_maxLen w (n + m) cap e (by unfold maxLen; omega)
      refine ⟨_, _, hrun, ⟨hall, _, _, rfl, hge, hcm, .inr ⟨w.heap.size, 0, _, rfl, .inr (Nat.le_refl _), Blk.new w.drew e _, ?_, fun j u hu => ?_⟩⟩, ((Keeps.refl F w).drew).alloc _⟩
      · rw [Array.size_append, List.size_toArray, size_zeroCells, Nat.zero_add, hall, hzs, ← Nat.add_mul]
        exact Nat.mul_le_mul_right _ (by omega)
      · rw [Nat.zero_add, Array.getElem?_append_left (by
          have := (List.getElem?_eq_some_iff.1 hu).1
          rw [List.size_toArray]; exact this), List.getElem?_toArray]
        exact hu
variable {ops : Array Oper} {rest : List Oper} {o : Oper} {a : Act} {Q : Exit → Act → World → Prop}
theorem wpList_append_winof (hgd : o.guard = none) (s x : Operand) {e tx t : TypeId} (ho : o.op = .call { callee := .builtin .append, args := #[s, x], argTypes := #[t, tx] })
    {F : Nat → Prop} {size n m : Nat} {v y : Value} {xs ys : List Value} {i : TypeInfo} {z : Value} (ht : P.underlying t = some (.slice e)) (hi : P.info? e = some i) (hz : i.zero = some z) (hs1 : i.size = size) (hzs : z.cells.size = size) (hby : i.bytes ≤ 10000)
    (hs : a.eval s = v) (h : WinOf w F e size v n xs) (hx : a.eval x = y) (hsrc : Src P size tx y m ys w) (hlen : n + m ≤ 100000)
    (hK : ∀ v' w', WinOf w' (fun b => F b ∨ w.heap.size ≤ b) e size v' (n + m) (xs ++ ys) → Keeps F w w' → wpList P ops Q rest (a.put o.dst v') w') : wpList P ops Q (o :: rest) a w := by
  refine wpList_plain hgd fun K hK' => ?_
  obtain ⟨v', w', hrun, r1, r2⟩ := winof_append ht hi hz hs1 hzs h hsrc hlen hby o.type
  unfold Oper.wp
  simp [execOp, ho, resolve, invoke, builtin, hs, hx, hrun, Result.andThen]
  exact hK' _ _ (hK v' w' r1 r2)
theorem wpo_append_winof {K : Act → World → Prop} (s x : Operand) {e tx t : TypeId} (ho : o.op = .call { callee := .builtin .append, args := #[s, x], argTypes := #[t, tx] })
    {F : Nat → Prop} {size n m : Nat} {v y : Value} {xs ys : List Value} {i : TypeInfo} {z : Value} (ht : P.underlying t = some (.slice e)) (hi : P.info? e = some i) (hz : i.zero = some z) (hs1 : i.size = size) (hzs : z.cells.size = size) (hby : i.bytes ≤ 10000)
    (hs : a.eval s = v) (h : WinOf w F e size v n xs) (hx : a.eval x = y) (hsrc : Src P size tx y m ys w) (hlen : n + m ≤ 100000)
    (hK : ∀ v' w', WinOf w' (fun b => F b ∨ w.heap.size ≤ b) e size v' (n + m) (xs ++ ys) → Keeps F w w' → K (a.put o.dst v') w') : o.wp P a w K Q := by
  obtain ⟨v', w', hrun, r1, r2⟩ := winof_append ht hi hz hs1 hzs h hsrc hlen hby o.type
  unfold Oper.wp
  simp [execOp, ho, resolve, invoke, builtin, hs, hx, hrun, Result.andThen]
  exact hK _ _ r1 r2
end
end Go.Proofs.YtjomcffhbaplcaaGreatDoor
