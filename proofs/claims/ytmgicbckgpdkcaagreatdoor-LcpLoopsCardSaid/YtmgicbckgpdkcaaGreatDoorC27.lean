/- A window of an own row of elements of any size: cut at its front, appended to. -/
import Derived.Deep.AppendSrc
import Derived.Deep.Upon
import Derived.Deep.MidRow
import Derived.Test.YtmgicbckgpdkcaaGreatDoorC26
namespace Go.Proofs.YtmgicbckgpdkcaaGreatDoor
set_option maxRecDepth 100000
set_option maxHeartbeats 16000000
open _root_.Go.Lib renaming hid → xhd
open Go.RowKit
def y14 (w : World) (F : Nat → Prop) (e : TypeId) (size : Nat) (v : Value) (n : Nat) (xs : List Value) : Prop :=
 xs.length = n * size ∧ ∃ A cap, v = .slice A n cap ∧ n ≤ cap ∧ cap ≤ maxLen ∧ (cap = 0 ∨ ∃ g off cur, A = some ⟨g, off, none⟩ ∧ F g ∧ Blk w g e cur ∧ off + cap * size ≤ cur.size ∧ ∀ j u, xs[j]? = some u → cur[off + j]? = some u)
section
variable {w w' : World} {S F G : Nat → Prop} {e : TypeId} {size n : Nat} {v : Value} {xs : List Value}
theorem y14.nil (w : World) (F : Nat → Prop) (e : TypeId) (size : Nat) : y14 w F e size (.slice none 0 0) 0 [] := ⟨by simp, none, 0, rfl, Nat.le_refl _, by simp [maxLen], .inl rfl⟩
theorem y14.keeps (h : y14 w F e size v n xs) (k : Keeps S w w') (hs : ∀ b, F b → ¬ S b) : y14 w' F e size v n xs := by
 obtain ⟨hx, A, cap, e, h1, h2, h3⟩ := h
 refine ⟨hx, A, cap, e, h1, h2, h3.imp id ?_⟩
 rintro ⟨g, off, cur, hA, hF, hB, r⟩
 exact ⟨g, off, cur, hA, hF, hB.keeps k (hs g hF), r⟩
theorem y14.mono (h : y14 w F e size v n xs) (hG : ∀ b, F b → b < w.heap.size → G b) : y14 w G e size v n xs := by
 obtain ⟨hx, A, cap, e, h1, h2, h3⟩ := h
 refine ⟨hx, A, cap, e, h1, h2, h3.imp id ?_⟩
 rintro ⟨g, off, cur, hA, hF, hB, r⟩
 exact ⟨g, off, cur, hA, hG g hF hB.lt, hB, r⟩
theorem y14.form (h : y14 w F e size v n xs) : ∃ A c, v = .slice A n c ∧ n ≤ c ∧ c ≤ maxLen := by
 obtain ⟨_, A, cap, e, h1, h2, _⟩ := h
 exact ⟨A, cap, e, h1, h2⟩
theorem y14.row (h : y14 w F e size v n xs) : Row w (fun b => F b ∨ n = 0) size v n xs := by
 obtain ⟨hx, A, cap, rfl, h1, h2, h3⟩ := h
 have hn : n ≤ maxLen := by omega
 rcases h3 with h3 | ⟨g, off, cur, rfl, hF, hB, _, hc⟩
 ·have h0 : n = 0 := by omega
  exact ⟨hx, hn, A, cap, rfl, h1, fun _ => h0, fun h => absurd h (by omega)⟩
 ·exact ⟨hx, hn, _, cap, rfl, h1, by simp, fun _ => ⟨g, off, rfl, .inl hF, fun j u hu => by rw [hB.cell]; exact hc j u hu⟩⟩
def cutS (A : Option Addr) (c lo m size : Nat) : Value := if c = lo then .slice A m 0 else .slice (A.map (fun x => x.add (lo * size))) m (c - lo)
theorem y14.tail {A : Option Addr} {c : Nat} (h : y14 w F e size (.slice A (n + 1) c) (n + 1) xs) : y14 w F e size (cutS A c 1 n size) n (xs.drop size) := by
 obtain ⟨hx, B, cap, e, h1, h2, h3⟩ := h
 injection e with e1 _ e3
 subst e1 e3
 have hl : (xs.drop size).length = n * size := by rw [List.length_drop, hx, Nat.add_mul, Nat.one_mul]; omega
 refine ⟨hl, ?_⟩
 unfold cutS
 split
 ·rename_i hc
  have hn : n = 0 := by omega
  exact ⟨A, 0, rfl, by omega, by simp [maxLen], .inl rfl⟩
 ·rcases h3 with h3 | ⟨g, off, cur, rfl, hF, hB, hs, hcell⟩
  ·omega
  ·refine ⟨_, c - 1, rfl, by omega, by omega, .inr ⟨g, off + 1 * size, cur, by rw [Option.map_some, Addr.add_lit], hF, hB, ?_, fun j u hu => ?_⟩⟩
   ·rw [Nat.sub_mul, Nat.one_mul]
    have : size ≤ c * size := Nat.le_mul_of_pos_left size (by omega)
    omega
   ·rw [Nat.one_mul, Nat.add_assoc]
    exact hcell (size + j) u (by rw [List.getElem?_drop] at hu; exact hu)
end
theorem yeo (g : Nat) (t : TypeId) : ∀ (vs : List Value) (o : Nat) (w : World) (cur : Array Value), Blk w g t cur → o + vs.length ≤ cur.size →
  Keeps (only g) w (w.setCells g o vs) ∧ ∃ cur', Blk (w.setCells g o vs) g t cur' ∧ cur'.size = cur.size ∧ (∀ j, j < o → cur'[j]? = cur[j]?) ∧ ∀ j u, vs[j]? = some u → cur'[o + j]? = some u := by
 intro vs
 induction vs with
 | nil => intro o w cur h _; exact ⟨Keeps.refl _ _, cur, h, rfl, fun _ _ => rfl, fun j u hu => by simp at hu⟩
 | cons v vs ih =>
  intro o w cur h hs
  simp only [List.length_cons] at hs
  have hb := h.set o v
  obtain ⟨k, cur', h1, h2, h3, h4⟩ := ih (o + 1) (w.setCell ⟨g, o, none⟩ v) _ hb (by rw [Array.size_setIfInBounds]; omega)
  rw [Array.size_setIfInBounds] at h2
  refine ⟨((Keeps.refl (only g) w).store g o (fun _ => rfl) v).trans k, cur', h1, h2, fun j hj => ?_, fun j u hu => ?_⟩
  ·rw [h3 j (by omega), Array.getElem?_setIfInBounds_ne (by omega)]
  ·cases j with
   | zero =>
    have hu : v = u := by simpa using hu
    subst hu
    rw [Nat.add_zero, h3 o (by omega), Array.getElem?_setIfInBounds_self_of_lt (by omega)]
   | succ j =>
    have := h4 j u (by simpa using hu)
    rwa [show o + 1 + j = o + (j + 1) by omega] at this
section
variable {P : Program} {w : World}
theorem src_of_row {G : Nat → Prop} {y : Value} {size m : Nat} {xs : List Value} {tx e' : TypeId} (hk : P.underlying tx = some (.slice e')) (h1 : ∀ u ∈ xs, u.oneCell' = true) (hr : Row w G size y m xs) : Src P size tx y m xs w := by
 obtain ⟨hx, h0, A, c, rfl, h3, h4, h5⟩ := hr
 cases A with
 | none =>
  have hm : m = 0 := h4 rfl
  subst hm
  have hxs : xs = [] := List.eq_nil_of_length_eq_zero (by simpa using hx)
  subst hxs
  exact Src.ofNil w hk c
 | some x =>
  refine Src.ofSlice w hk x m c xs hx (fun j u hu => ?_) h1
  have hj : j < xs.length := (List.getElem?_eq_some_iff.1 hu).1
  have hm : 0 < m := by
   rcases Nat.eq_zero_or_pos m with e | e
   ·rw [hx, e, Nat.zero_mul] at hj; omega
   ·exact e
  obtain ⟨b, off, e, _, hc⟩ := h5 hm
  injection e with e
  subst e
  rw [Addr.add_lit]
  exact hc j u hu
theorem yfl {F : Nat → Prop} {e tx t : TypeId} {size n m : Nat} {v y : Value} {xs ys : List Value} {i : TypeInfo} {z : Value} (ht : P.underlying t = some (.slice e)) (hi : P.info? e = some i) (hz : i.zero = some z) (hs1 : i.size = size) (hzs : z.cells.size = size)
  (h : y14 w F e size v n xs) (hsrc : Src P size tx y m ys w) (hlen : n + m ≤ 100000) (hby : i.bytes ≤ 10000) (ty : TypeId) :
  ∃ v' w', (Builtin.append_ #[t, tx] ty #[v, y]).run P w = .ok v' w' ∧ y14 w' (fun b => F b ∨ w.heap.size ≤ b) e size v' (n + m) (xs ++ ys) ∧ Keeps F w w' := by
 have hyl := hsrc.newsLen
 obtain ⟨hx, A, cap, rfl, h1, h2, h3⟩ := h
 have hall : (xs ++ ys).length = (n + m) * size := by rw [List.length_append, hx, hyl, Nat.add_mul]
 by_cases hm : m = 0
 ·subst hm
  have hys : ys = [] := List.eq_nil_of_length_eq_zero (by simpa using hyl)
  subst hys
  refine ⟨_, _, run_append_nothing (P := P) w t tx ty e i ht hi A n cap h1 y (by rw [hs1]; exact hsrc), ?_, Keeps.refl _ _⟩
  rw [List.append_nil]
  exact ⟨hx, A, cap, rfl, h1, h2, h3.imp id fun ⟨g, off, cur, a, b, c⟩ => ⟨g, off, cur, a, .inl b, c⟩⟩
 ·by_cases hfit : n + m ≤ cap
  ·rcases h3 with h3 | ⟨g, off, cur, rfl, hF, hB, hs, hcell⟩
   ·omega
   ·have hmul : (n + m) * size ≤ cap * size := Nat.mul_le_mul_right _ hfit
    rw [Nat.add_mul] at hmul
    obtain ⟨k, cur', q1, q2, q3, q4⟩ := yeo g e ys (off + n * size) w cur hB (by omega)
    have hrun := run_append_room_src (P := P) w t tx ty e i ht hi g off n cap y m ys (by rw [hs1]; exact hsrc) hfit
     (fun j hj => by rw [hB.cell, hs1, Array.getElem?_eq_getElem (by omega)]; rfl) (fun j _ => hB.frozen _)
    rw [hs1] at hrun
    refine ⟨_, _, hrun, ⟨hall, _, cap, rfl, hfit, h2, .inr ⟨g, off, cur', rfl, .inl hF, q1, by omega, fun j u hu => ?_⟩⟩, k.mono (fun b hb => by have hb : b = g := hb; rw [hb]; exact hF)⟩
    by_cases hj : j < xs.length
    ·rw [List.getElem?_append_left hj] at hu
     rw [q3 _ (by omega)]
     exact hcell j u hu
    ·rw [List.getElem?_append_right (by omega)] at hu
     have := q4 _ u hu
     rwa [show off + n * size + (j - xs.length) = off + j by omega] at this
  ·have hold : (Builtin.firstCells i.size n (.slice A n cap)).run P w.drew = .ok xs.toArray w.drew := by
    rw [hs1]
    cases A with
    | none =>
     have hn : n = 0 := by
      rcases h3 with h3 | ⟨g, off, cur, e, _⟩
      ·omega
      ·cases e
     subst hn
     have : xs = [] := List.eq_nil_of_length_eq_zero (by simpa using hx)
     subst this
     exact run_firstCells_none w.drew size 0 0 cap
    | some x =>
     refine run_firstCells_some w.drew size n x n cap xs hx (fun j u hu => ?_)
     rcases h3 with h3 | ⟨g, off, cur, e, _, hB, _, hcell⟩
     ·have hn : n = 0 := by omega
      subst hn
      have : xs = [] := List.eq_nil_of_length_eq_zero (by simpa using hx)
      subst this
      simp at hu
     ·injection e with e
      subst e
      rw [Addr.add_lit]
      show w.cell? _ = _
      rw [hB.cell]
      exact hcell j u hu
   have hbytes : (n + m) * i.bytes ≤ 140737488355328 := Nat.le_trans (Nat.mul_le_mul hlen hby) (by decide)
   have hrun := run_append_grow_src (P := P) w t tx ty e i z ht hi hz A n cap xs hold y m ys (by rw [hs1]; exact hsrc) (by omega) (by omega) (growslice_fits (by omega) hbytes)
   have hge := grownCap_ge w (n + m) cap e
   have hcm := grownCap_le_maxLen w (n + m) cap e (by unfold maxLen; omega)
   refine ⟨_, _, hrun, ⟨hall, _, _, rfl, hge, hcm, .inr ⟨w.heap.size, 0, _, rfl, .inr (Nat.le_refl _), Blk.new w.drew e _, ?_, fun j u hu => ?_⟩⟩, ((Keeps.refl F w).drew).alloc _⟩
   ·rw [Array.size_append, List.size_toArray, size_zeroCells, Nat.zero_add, hall, hzs, ← Nat.add_mul]
    exact Nat.mul_le_mul_right _ (by omega)
   ·rw [Nat.zero_add, Array.getElem?_append_left (by
     have := (List.getElem?_eq_some_iff.1 hu).1
     rw [List.size_toArray]; exact this), List.getElem?_toArray]
    exact hu
variable {ops : Array Oper} {rest : List Oper} {o : Oper} {a : Act} {Q : Exit → Act → World → Prop}
theorem yap {K : Act → World → Prop} (s x : Operand) {e tx t : TypeId} (ho : o.op = .call { callee := .builtin .append, args := #[s, x], argTypes := #[t, tx] })
  {F : Nat → Prop} {size n m : Nat} {v y : Value} {xs ys : List Value} {i : TypeInfo} {z : Value} (ht : P.underlying t = some (.slice e)) (hi : P.info? e = some i) (hz : i.zero = some z) (hs1 : i.size = size) (hzs : z.cells.size = size) (hby : i.bytes ≤ 10000)
  (hs : a.eval s = v) (h : y14 w F e size v n xs) (hx : a.eval x = y) (hsrc : Src P size tx y m ys w) (hlen : n + m ≤ 100000)
  (hK : ∀ v' w', y14 w' (fun b => F b ∨ w.heap.size ≤ b) e size v' (n + m) (xs ++ ys) → Keeps F w w' → K (a.put o.dst v') w') : o.wp P a w K Q := by
 obtain ⟨v', w', hrun, r1, r2⟩ := yfl ht hi hz hs1 hzs h hsrc hlen hby o.type
 unfold Oper.wp
 simp [execOp, ho, resolve, invoke, builtin, hs, hx, hrun, Result.andThen]
 exact hK _ _ r1 r2
end
structure LQWin (w : World) (F : Nat → Prop) (c : Nat → Nat) (v : Value) (ps : List (Value × Pure.Pkt)) : Prop where
 win : y14 w F 56 3 v ps.length (y0l ps)
 rows : ∀ p ∈ ps, Row w (fun b => c b = 0 ∧ b < w.heap.size) 1 p.1 p.2.data.length (u8s p.2.data)
theorem LQWin.keeps {w w' : World} {F S : Nat → Prop} {c c' : Nat → Nat} {v : Value} {ps : List (Value × Pure.Pkt)} (h : LQWin w F c v ps) (k : Keeps S w w') (hF : ∀ b, F b → ¬ S b) (h0 : ∀ b, c b = 0 → b < w.heap.size → ¬ S b ∧ c' b = 0) : LQWin w' F c' v ps :=
 ⟨h.win.keeps k hF, fun p hp => ((h.rows p hp).keeps k (fun b hb => (h0 b hb.1 hb.2).1)).mono (fun b hb => ⟨(h0 b hb.1 hb.2).2, Nat.lt_of_lt_of_le hb.2 k.size⟩)⟩
def LR (k : LF) (R : Nat → Prop) (b : Nat) : Prop := b = k.l ∨ R b
def LAt (w : World) (k : LF) (R : Nat → Prop) (x : Pure.Lcp) : Prop := ∃ f, LObj w k R f x
theorem LAt.keeps {w w' : World} {k : LF} {R S : Nat → Prop} {x : Pure.Lcp} (h : LAt w k R x) (K : Keeps S w w') (hg : ¬ S k.g) (hm : ¬ S k.gm) (hs : ∀ b, LR k R b → ¬ S b) : LAt w' k R x := by
 obtain ⟨f, h1⟩ := h
 exact ⟨f, h1.keeps K (hs _ (.inl rfl)) hg hm (fun b hb => hs b (.inr hb))⟩
theorem LAt.lt {w : World} {k : LF} {R : Nat → Prop} {x : Pure.Lcp} (h : LAt w k R x) : k.g < w.heap.size ∧ k.gm < w.heap.size ∧ ∀ b, LR k R b → b < w.heap.size := by
 obtain ⟨f, h1⟩ := h
 refine ⟨h1.obj.blk.lt, by rw [← h1.gm']; exact Blk.lt h1.obj.mach, fun b hb => ?_⟩
 rcases hb with rfl | hb
 ·exact h1.blk.lt
 ·exact h1.obj.lt b hb
theorem Env14.below {w w' : World} (h : Env14 w) (k : Below w.heap.size w w') : Env14 w' :=
 ⟨⟨(show y17 w' from h.env.hd.keeps (Keeps.new k) (fun e => e)), h.env.tb.below k⟩, h.sent.keeps (Keeps.new k) (fun e => e)⟩
section
variable {w0 w w' : World} {g mb i : Nat} {gx gy : LF} {Vm Vo : Value} {lm lo : List Pure.Pkt} {Mm Mo : Pure.Lcp}
end
theorem y3a (v : Value) (a b c d : Bool) (w : World) : (Instr.field 59 (.agg #[v, .bool a, .bool b, .bool c, .bool d]) 0).run Tryz.prog w = .ok v w := by kernel_rfl
theorem y50 (A : Option Addr) (n c : Nat) (h : n + 1 ≤ c) (w : World) : (Instr.slice 57 (.slice A (n + 1) c) (some (.int .i64 1)) none none).run Tryz.prog w = .ok (cutS A c 1 n 3) w := by
 obtain ⟨i0, hi0, hz0, hz1, hz2⟩ := info_parts y79
 have e : Tryz.prog.elem 57 = 56 := by kernel_rfl
 have hu : Tryz.prog.underlying 57 = some (.slice (Tryz.prog.elem 57)) := by rw [e]; exact Tryz.underlying57
 rw [run_slice_l (P := Tryz.prog) w 57 A (n + 1) c hu .i64 1 (by omega) (by omega), e]
 simp [sizeOf, typeInfo, hi0, hz1, sliced, Result.andThen, cutS]
 split <;> simp_all
theorem y0u {w : World} {o : Oper} {a : Act} {Q : Exit → Act → World → Prop} {K : Act → World → Prop} (s x : Operand) (ho : o.op = .call { callee := .builtin .append, args := #[s, x], argTypes := #[57, 57] })
  {F G : Nat → Prop} {n m : Nat} {v y : Value} {xs ys : List Value} (hs : a.eval s = v) (hx : a.eval x = y) (h : y14 w F 56 3 v n xs) (hr : Row w G 3 y m ys) (h1 : ∀ u ∈ ys, u.oneCell' = true) (hlen : n + m ≤ 100000)
  (hK : ∀ v' w', y14 w' (fun b => F b ∨ w.heap.size ≤ b) 56 3 v' (n + m) (xs ++ ys) → Keeps F w w' → K (a.put o.dst v') w') : o.wp Tryz.prog a w K Q := by
 obtain ⟨i0, hi0, hz0, hz1, hz2⟩ := info_parts y79
 exact yap s x ho Tryz.underlying57 hi0 hz0 hz1 rfl (by rw [hz2]; omega) hs h hx (src_of_row Tryz.underlying57 h1 hr) hlen hK
theorem lwithin_as (c : Pure.Cfg) (nm sc : ByteArray) (b1 b2 b3 b4 b5 b6 z1 z2 z3 : Bool) (h1 : (decide (64 ≤ c.mru) && decide (c.mru ≤ 1500)) = b1) (h2 : (decide (64 ≤ c.mrru) && decide (c.mrru ≤ 1500)) = b2) (h3 : (decide (c.bits = 40) || decide (c.bits = 56) || decide (c.bits = 128)) = b3) (h4 : (decide (1 ≤ c.timeout) && decide (c.timeout ≤ 1000)) = b4) (h5 : (decide (1 ≤ c.tries) && decide (c.tries ≤ 1000)) = b5) (h6 : (decide (16 ≤ c.fragment) && decide (c.fragment ≤ 1500)) = b6) (q1 : (c.mrru == 0) = z1) (q2 : (c.bits == 0) = z2) (q3 : (c.fragment == 0) = z3) (w : World) :
  Calls Tryz.prog 54 #[cfgV c nm sc] w fun e w' => e = .returned (.bool (b1 && (z1 || b2) && (z2 || b3) && b4 && b5 && (z3 || b6))) ∧ Keeps y01 w w' := by
 obtain ⟨cb, hcb⟩ : ∃ q, q = w.heap.size := ⟨_, rfl⟩
 obtain ⟨w1, hw1⟩ : ∃ q, q = w.alloc (.cells (y0d c nm sc).toArray 25) := ⟨_, rfl⟩
 have HK := xhd (show Keeps y01 w w1 by rw [hw1]; exact (Keeps.refl _ w).alloc _)
 have hC : Blk w1 cb 25 (y0d c nm sc).toArray := by rw [hw1, hcb]; exact Blk.new w _ _
 have c3 : w1.cell? ⟨cb, 3, none⟩ = some (.int .i64 c.mru) := by rw [hC.cell]; rfl
 have c7 : w1.cell? ⟨cb, 7, none⟩ = some (.int .i64 c.mrru) := by rw [hC.cell]; rfl
 have c9 : w1.cell? ⟨cb, 9, none⟩ = some (.int .i64 c.bits) := by rw [hC.cell]; rfl
 have c15 : w1.cell? ⟨cb, 15, none⟩ = some (.int .i64 c.timeout) := by rw [hC.cell]; rfl
 have c16 : w1.cell? ⟨cb, 16, none⟩ = some (.int .i64 c.tries) := by rw [hC.cell]; rfl
 have c17 : w1.cell? ⟨cb, 17, none⟩ = some (.int .i64 c.fragment) := by rw [hC.cell]; rfl
 have H1 := xhd (y4o c.mru 64 1500 w1)
 have H2 := xhd (y4o c.mrru 64 1500 w1)
 have H3 := xhd (yct c.bits w1)
 have H4 := xhd (y4o c.timeout 1 1000 w1)
 have H5 := xhd (y4o c.tries 1 1000 w1)
 have H6 := xhd (y4o c.fragment 16 1500 w1)
 rw [h1] at H1
 rw [h2] at H2
 rw [h3] at H3
 rw [h4] at H4
 rw [h5] at H5
 rw [h6] at H6
 clear hC h1 h2 h3 h4 h5 h6
 go_enter Tryz.func54, Tryz.ntmps54
 go_upto_region 1 with fail
 rw [← hcb, ← hw1]
 clear hcb hw1
 go_wp2_with fail
 refine H1.out.mono ?_
 rintro e w2 ⟨rfl, rfl⟩
 cases b1
 ·go_wp2_with fail
  go_ret
  exact ⟨rfl, HK.out⟩
 ·cases z1
  ·go_wp2_with fail
   refine H2.out.mono ?_
   rintro e w2 ⟨rfl, rfl⟩
   cases b2
   ·go_wp2_with fail
    go_ret
    exact ⟨rfl, HK.out⟩
   ·cases z2
    ·go_wp2_with fail
     refine H3.out.mono ?_
     rintro e w2 ⟨rfl, rfl⟩
     cases b3
     ·go_wp2_with fail
      go_ret
      exact ⟨rfl, HK.out⟩
     ·go_wp2_with fail
      refine H4.out.mono ?_
      rintro e w2 ⟨rfl, rfl⟩
      cases b4
      ·go_wp2_with fail
       go_ret
       exact ⟨rfl, HK.out⟩
      ·go_wp2_with fail
       refine H5.out.mono ?_
       rintro e w2 ⟨rfl, rfl⟩
       cases b5
       ·go_wp2_with fail
        go_ret
        exact ⟨rfl, HK.out⟩
       ·cases z3
        ·go_wp2_with fail
         refine H6.out.mono ?_
         rintro e w2 ⟨rfl, rfl⟩
         cases b6
         ·go_wp2_with fail
          go_ret
          exact ⟨rfl, HK.out⟩
         ·go_wp2_with fail
          go_ret
          exact ⟨rfl, HK.out⟩
        ·go_wp2_with fail
         go_ret
         exact ⟨rfl, HK.out⟩
    ·go_wp2_with fail
     refine H4.out.mono ?_
     rintro e w2 ⟨rfl, rfl⟩
     cases b4
     ·go_wp2_with fail
      go_ret
      exact ⟨rfl, HK.out⟩
     ·go_wp2_with fail
      refine H5.out.mono ?_
      rintro e w2 ⟨rfl, rfl⟩
      cases b5
      ·go_wp2_with fail
       go_ret
       exact ⟨rfl, HK.out⟩
      ·cases z3
       ·go_wp2_with fail
        refine H6.out.mono ?_
        rintro e w2 ⟨rfl, rfl⟩
        cases b6
        ·go_wp2_with fail
         go_ret
         exact ⟨rfl, HK.out⟩
        ·go_wp2_with fail
         go_ret
         exact ⟨rfl, HK.out⟩
       ·go_wp2_with fail
        go_ret
        exact ⟨rfl, HK.out⟩
  ·cases z2
   ·go_wp2_with fail
    refine H3.out.mono ?_
    rintro e w2 ⟨rfl, rfl⟩
    cases b3
    ·go_wp2_with fail
     go_ret
     exact ⟨rfl, HK.out⟩
    ·go_wp2_with fail
     refine H4.out.mono ?_
     rintro e w2 ⟨rfl, rfl⟩
     cases b4
     ·go_wp2_with fail
      go_ret
      exact ⟨rfl, HK.out⟩
     ·go_wp2_with fail
      refine H5.out.mono ?_
      rintro e w2 ⟨rfl, rfl⟩
      cases b5
      ·go_wp2_with fail
       go_ret
       exact ⟨rfl, HK.out⟩
      ·cases z3
       ·go_wp2_with fail
        refine H6.out.mono ?_
        rintro e w2 ⟨rfl, rfl⟩
        cases b6
        ·go_wp2_with fail
         go_ret
         exact ⟨rfl, HK.out⟩
        ·go_wp2_with fail
         go_ret
         exact ⟨rfl, HK.out⟩
       ·go_wp2_with fail
        go_ret
        exact ⟨rfl, HK.out⟩
   ·go_wp2_with fail
    refine H4.out.mono ?_
    rintro e w2 ⟨rfl, rfl⟩
    cases b4
    ·go_wp2_with fail
     go_ret
     exact ⟨rfl, HK.out⟩
    ·go_wp2_with fail
     refine H5.out.mono ?_
     rintro e w2 ⟨rfl, rfl⟩
     cases b5
     ·go_wp2_with fail
      go_ret
      exact ⟨rfl, HK.out⟩
     ·cases z3
      ·go_wp2_with fail
       refine H6.out.mono ?_
       rintro e w2 ⟨rfl, rfl⟩
       cases b6
       ·go_wp2_with fail
        go_ret
        exact ⟨rfl, HK.out⟩
       ·go_wp2_with fail
        go_ret
        exact ⟨rfl, HK.out⟩
      ·go_wp2_with fail
       go_ret
       exact ⟨rfl, HK.out⟩
theorem ycv (c : Pure.Cfg) (nm sc : ByteArray) (z1 z2 z3 : Bool) (q1 : (c.mrru == 0) = z1) (q2 : (c.bits == 0) = z2) (q3 : (c.fragment == 0) = z3) (w : World) :
  Calls Tryz.prog 55 #[cfgV c nm sc] w fun e w' => e = .returned (.bool ((z3 || !z1) && (!(c.must || c.stateless || c.symbol) || !z2))) ∧ Keeps y01 w w' := by
 obtain ⟨cb, hcb⟩ : ∃ q, q = w.heap.size := ⟨_, rfl⟩
 obtain ⟨w1, hw1⟩ : ∃ q, q = w.alloc (.cells (y0d c nm sc).toArray 25) := ⟨_, rfl⟩
 have HK := xhd (show Keeps y01 w w1 by rw [hw1]; exact (Keeps.refl _ w).alloc _)
 have hC : Blk w1 cb 25 (y0d c nm sc).toArray := by rw [hw1, hcb]; exact Blk.new w _ _
 have c7 : w1.cell? ⟨cb, 7, none⟩ = some (.int .i64 c.mrru) := by rw [hC.cell]; rfl
 have c9 : w1.cell? ⟨cb, 9, none⟩ = some (.int .i64 c.bits) := by rw [hC.cell]; rfl
 have c17 : w1.cell? ⟨cb, 17, none⟩ = some (.int .i64 c.fragment) := by rw [hC.cell]; rfl
 have c13 : w1.cell? ⟨cb, 13, none⟩ = some (.bool c.must) := by rw [hC.cell]; rfl
 have c10 : w1.cell? ⟨cb, 10, none⟩ = some (.bool c.stateless) := by rw [hC.cell]; rfl
 have c14 : w1.cell? ⟨cb, 14, none⟩ = some (.bool c.symbol) := by rw [hC.cell]; rfl
 have n1 : (c.mrru != 0) = !z1 := by rw [← q1]; rfl
 have n2 : (c.bits != 0) = !z2 := by rw [← q2]; rfl
 generalize c.must = m1 at *
 generalize c.stateless = m2 at *
 generalize c.symbol = m3 at *
 clear hC q1 q2
 go_enter Tryz.func55, Tryz.ntmps55
 go_upto_region 1 with fail
 rw [← hcb, ← hw1]
 clear hcb hw1
 cases m1 <;> cases m2 <;> cases m3 <;> cases z3 <;> cases z1 <;> cases z2
 all_goals
  go_wp2_with fail
  go_ret
  exact ⟨rfl, HK.out⟩
theorem ye6 (c : Pure.Cfg) : c.fine = (((decide (64 ≤ c.mru) && decide (c.mru ≤ 1500)) && ((c.mrru == 0) || (decide (64 ≤ c.mrru) && decide (c.mrru ≤ 1500))) && ((c.bits == 0) || (decide (c.bits = 40) || decide (c.bits = 56) || decide (c.bits = 128))) && (decide (1 ≤ c.timeout) && decide (c.timeout ≤ 1000)) && (decide (1 ≤ c.tries) && decide (c.tries ≤ 1000)) && ((c.fragment == 0) || (decide (16 ≤ c.fragment) && decide (c.fragment ≤ 1500)))) && (((c.fragment == 0) || !(c.mrru == 0)) && (!(c.must || c.stateless || c.symbol) || !(c.bits == 0)))) := by
 unfold Pure.Cfg.fine Pure.inInfo
 generalize (c.must || c.stateless || c.symbol) = m
 rw [Bool.eq_iff_iff]
 cases m
 ·simp only [Bool.and_eq_true, Bool.or_eq_true, decide_eq_true_eq, beq_iff_eq, Bool.not_eq_true', beq_eq_false_iff_ne, Bool.not_false, ne_eq, true_or, or_true, and_true]
  omega
 ·simp only [Bool.and_eq_true, Bool.or_eq_true, decide_eq_true_eq, beq_iff_eq, Bool.not_eq_true', beq_eq_false_iff_ne, Bool.not_true, ne_eq, Bool.false_eq_true, or_false, false_or]
  omega
theorem y24 : (Tryz.prog.info? 25).map (·.size) = some 18 := by kernel_rfl
theorem hash_code (l : List UInt8) : (Pure.hash l).1 = (Pure.secret l).1 := by
 by_cases h : (Pure.secret l).1 = 0
 ·rw [Pure.hash_ok h, h]
 ·rw [Pure.hash_bad h]
theorem yb9 {P : Program} {ops : Array Oper} {rest : List Oper} {op : Oper} {a : Act} {w : World} {Q : Exit → Act → World → Prop} (hgw : Region.wanted op (yielded ops a.tmps) = true) (ty : TypeId) (x : Operand) (ho : op.op = .load ty x)
  (b o : Nat) (hx : a.eval x = .pointer (some ⟨b, o, none⟩)) (cs : List Value) (V : Value) (hV : V = .agg cs.toArray) (d : TypeDesc) (hc : w.rangeAt b o cs)
  (hu : P.underlying ty = some d) (hd : d.isRow = true) (hi : (P.info? ty).map (·.size) = some cs.length)
  (h : wpList P ops Q rest (a.put op.dst V) w) : wpList P ops Q (op :: rest) a w := by
 subst hV
 exact wpList_step fun K hK => by rw [if_pos hgw]; exact wp_load_mid ty x ho b o hx cs d hc hu hd hi (hK _ _ h)
theorem lcheck_any (c : Pure.Cfg) (nm sc : ByteArray) (hn : nm.data.toList = c.name) (hs : sc.data.toList = c.secret) (hl : c.secret.length ≤ 1000000) (w : World) (E : Env w) :
  Calls Tryz.prog 16 #[cfgV c nm sc] w fun e w' => e = .returned (.int .i64 (c.check : Int)) ∧ Keeps y01 w w' := by
 obtain ⟨cb, hcb⟩ : ∃ q, q = w.heap.size := ⟨_, rfl⟩
 obtain ⟨w1, hw1⟩ : ∃ q, q = w.alloc (.cells (y0d c nm sc).toArray 25) := ⟨_, rfl⟩
 have hk1 : Keeps y01 w w1 := by rw [hw1]; exact (Keeps.refl _ w).alloc _
 have hC : Blk w1 cb 25 (y0d c nm sc).toArray := by rw [hw1, hcb]; exact Blk.new w _ _
 have c1 : w1.cell? ⟨cb, 1, none⟩ = some (.string nm) := by rw [hC.cell]; rfl
 have c2 : w1.cell? ⟨cb, 2, none⟩ = some (.string sc) := by rw [hC.cell]; rfl
 have hsz : nm.size = c.name.length := by rw [← hn]; rfl
 have HA := xhd (hash_any sc c.secret hs hl w1 (E.below hk1.to_below))
 rw [hash_code] at HA
 have HC := xhd hC
 have HK := xhd hk1
 obtain ⟨CK, hCK⟩ : ∃ q, q = c.check := ⟨_, rfl⟩
 rw [← hCK]
 have HCK := xhd hCK
 clear hn hs hl hk1 hC hCK E
 go_enter Tryz.func16, Tryz.ntmps16
 go_upto_region 1 with fail
 rw [← hcb, ← hw1]
 clear hcb hw1
 obtain ⟨CV, hCV⟩ : ∃ q, q = cfgV c nm sc := ⟨_, rfl⟩
 rw [← hCV]
 have HCV := xhd hCV
 clear hCV
 by_cases h1 : 64 < c.name.length
 ·have d1 : decide ((64 : Int) < (nm.size : Int)) = true := decide_eq_true (by rw [hsz]; omega)
  have d2 : decide (64 < nm.size) = true := decide_eq_true (by rw [hsz]; exact h1)
  have HE := xhd (show CK = 3 from HCK.out.trans (if_pos h1))
  clear h1 hsz
  go_wp2_with fail
  go_ret
  exact ⟨by rw [HE.out]; rfl, HK.out⟩
 have d1 : decide ((64 : Int) < (nm.size : Int)) = false := decide_eq_false (by rw [hsz]; omega)
 have d2 : decide (64 < nm.size) = false := decide_eq_false (by rw [hsz]; exact h1)
 have H1 := xhd h1
 clear h1 hsz
 go_wp2_with fail
 refine HA.out.mono ?_
 rintro e w2 ⟨v, rfl, hown, hbel⟩
 obtain ⟨A2, c22, rfl⟩ := y0c hown
 have hk2 : Keeps y01 w1 w2 := Keeps.new hbel
 have hC2 := HC.out.keeps hk2 (fun e => e)
 have HK2 := xhd (HK.out.trans hk2)
 have HC2 := xhd hC2
 obtain ⟨kk, hkk⟩ : ∃ q, q = (Pure.secret c.secret).1 := ⟨_, rfl⟩
 rw [← hkk]
 have HKK := xhd hkk
 clear hown hbel hk2 hC2 hkk c1 c2
 by_cases h0 : kk = 0
 case neg =>
  have qn : (((kk : Nat) : Int) != 0) = true := by rw [bne_iff_ne]; omega
  have HE := xhd (show CK = kk from HCK.out.trans ((if_neg H1.out).trans ((if_pos (by rw [← HKK.out]; exact h0)).trans HKK.out.symm)))
  clear h0
  go_wp2_with fail
  go_ret
  exact ⟨by rw [HE.out]; rfl, HK2.out⟩
 case pos =>
  subst h0
  have HE := xhd (show CK = if c.fine then 0 else 1 from HCK.out.trans ((if_neg H1.out).trans (if_neg (by rw [← HKK.out]; decide))))
  obtain ⟨f1, hf1⟩ : ∃ b, b = ((decide (64 ≤ c.mru) && decide (c.mru ≤ 1500)) && ((c.mrru == 0) || (decide (64 ≤ c.mrru) && decide (c.mrru ≤ 1500))) && ((c.bits == 0) || (decide (c.bits = 40) || decide (c.bits = 56) || decide (c.bits = 128))) && (decide (1 ≤ c.timeout) && decide (c.timeout ≤ 1000)) && (decide (1 ≤ c.tries) && decide (c.tries ≤ 1000)) && ((c.fragment == 0) || (decide (16 ≤ c.fragment) && decide (c.fragment ≤ 1500)))) := ⟨_, rfl⟩
  obtain ⟨f2, hf2⟩ : ∃ b, b = (((c.fragment == 0) || !(c.mrru == 0)) && (!(c.must || c.stateless || c.symbol) || !(c.bits == 0))) := ⟨_, rfl⟩
  have HFF := xhd (show c.fine = (f1 && f2) by rw [hf1, hf2]; exact ye6 c)
  have hwi := lwithin_as c nm sc _ _ _ _ _ _ _ _ _ rfl rfl rfl rfl rfl rfl rfl rfl rfl w2
  rw [← hf1, ← HCV.out] at hwi
  have HWI := xhd hwi
  have HCO := xhd (fun W => ycv c nm sc _ _ _ rfl rfl rfl W)
  rw [← hf2, ← HCV.out] at HCO
  clear hf1 hf2 hwi
  go_upto_region 6 with fail
  refine wp_region_list ?_
  refine wpList_load_mid rfl 25 (.tmp 1) rfl cb 0 rfl (y0d c nm sc) _ (fun j v hv => by rw [Nat.zero_add, HC2.out.cell, List.getElem?_toArray]; exact hv) Tryz.underlying25 rfl y24 ?_
  rw [show Value.agg (y0d c nm sc).toArray = CV from HCV.out.symm]
  go_wp2_with fail
  refine HWI.out.mono ?_
  rintro e w3 ⟨rfl, hk3⟩
  have HK3 := xhd (HK2.out.trans hk3)
  have HC3 := xhd (HC2.out.keeps hk3 (fun e => e))
  clear hk3
  cases f1
  ·have HE2 := xhd (show CK = 1 by rw [HE.out, HFF.out]; rfl)
   go_wp2_with fail
   go_ret
   exact ⟨by rw [HE2.out]; rfl, HK3.out⟩
  ·have hco := HCO.out w3
   go_wp2_with (refine yb9 (by rfl) 25 (.tmp 1) rfl cb 0 rfl (y0d c nm sc) CV HCV.out _ (fun j v hv => by rw [Nat.zero_add, HC3.out.cell, List.getElem?_toArray]; exact hv) Tryz.underlying25 rfl y24 ?_)
   refine hco.mono ?_
   rintro e w4 ⟨rfl, hk4⟩
   have HK4 := xhd (HK3.out.trans hk4)
   clear hk4 hco
   cases f2
   ·have HE2 := xhd (show CK = 1 by rw [HE.out, HFF.out]; rfl)
    go_wp2_with fail
    go_ret
    exact ⟨by rw [HE2.out]; rfl, HK4.out⟩
   ·have HE2 := xhd (show CK = 0 by rw [HE.out, HFF.out]; rfl)
    go_wp2_with fail
    go_ret
    exact ⟨by rw [HE2.out]; rfl, HK4.out⟩
section
variable {w : World} {k : LF} {R : Nat → Prop} {f : NF} {x : Pure.Lcp}
end
theorem newneg_any (Fu Fx : Nat → Prop) (xu x : Value) (us : List (Value × Pure.Rule)) (zs : List (Value × Pure.Opt)) (t u : Nat) (w : World) (hu : RRow w Fu xu us) (hx : ORow w Fx x zs) (hF : ∀ b, Fx b → b < w.heap.size) (hfu : FewRules us) (hfx : Pure.Fine (y02 zs)) (hm : y6w t u) :
  Calls Tryz.prog 66 #[xu, x, .int .i64 (t : Int), .int .i64 (u : Int)] w fun e w' => ∃ g f R, e = .returned (.tuple #[.pointer (some ⟨g, 0, none⟩), .int .i64 0]) ∧ NObj w' g R f (Pure.newNeg (y08 us) (y02 zs) t u) ∧ w.heap.size ≤ g ∧ (w.heap.size ≤ f.gm ∧ f.gm.j = y9i g) ∧ (∀ b, R b → w.heap.size ≤ b) ∧ Keeps y01 w w' := by
 obtain ⟨X, cx, rfl, _⟩ := hx.form
 obtain ⟨U, cu, rfl, _⟩ := hu.form
 have HX := xhd hx
 have HU := xhd hu
 have HF := xhd hF
 have HFU := xhd hfu
 have HFX := xhd hfx
 have HMB := xhd hm
 have HN := xhd (new_ok t u w hm)
 have hzl := hfx.len
 have hzl2 : zs.length ≤ 32 := by simpa using hzl
 clear hu hx hF hfu hfx hm hzl
 go_enter Tryz.func66, Tryz.ntmps66
 go_wp2_with fail
 refine HN.out.mono ?_
 rintro e w1 ⟨rfl, hm1, hk1⟩
 obtain ⟨gm, hgm⟩ : ∃ q, q = w.heap.size := ⟨_, rfl⟩
 rw [← hgm] at hm1 ⊢
 have HM1 := xhd hm1
 have HK1 := xhd hk1
 have HGM := xhd hgm
 have HIR := xhd (ye9 Fx (.slice X zs.length cx) zs w1 (fun b hb => Nat.lt_of_lt_of_le (HF.out b hb) hk1.size) (HX.out.keeps hk1 (fun _ _ h => h)))
 have HD := decide_eq_true (show (Pure.options (y02 zs)).1 = 0 from Pure.fine_options HFX.out)
 rw [HD] at HIR
 clear hm1 hk1 hgm HN HD
 go_wp2_with fail
 refine HIR.out.mono ?_
 rintro e w2 ⟨rfl, hk2⟩
 have HM2 := xhd (HM1.out.keeps hk2 (fun h => h))
 have HK2 := xhd (HK1.out.trans hk2)
 have HCR := xhd (y9p Fu (.slice U us.length cu) us w2 (HU.out.keeps HK2.out (fun _ _ h => h)) HFU.out)
 clear hk2 HIR HM1
 go_wp2_with fail
 refine HCR.out.mono ?_
 rintro e w3 ⟨u3, q3, rfl, hq3, hr3⟩
 obtain ⟨A3, c3, rfl⟩ := y0c hr3.own
 have HQ3 := xhd hq3
 have HR3 := xhd hr3.row
 have HM3 := xhd (HM2.out.keeps hr3.kept (fun h => h))
 have HK3 := xhd (HK2.out.trans hr3.kept)
 have HS23 := xhd hr3.kept.size
 have HGW2 := xhd (show gm < w2.heap.size from Blk.lt HM2.out)
 have HCP := xhd (y1v Fx (.slice X zs.length cx) zs w3 (HX.out.keeps HK3.out (fun _ _ h => h)) (by omega) (y2r HFX.out).data)
 clear hq3 hr3 HCR
 go_wp2_with fail
 refine HCP.out.mono ?_
 rintro e w4 ⟨u4, q4, rfl, hq4, hr4⟩
 obtain ⟨A4, c4, rfl⟩ := y0c hr4.own
 have hk34 : Keeps y01 w3 w4 := Keeps.new hr4.below
 have HQ4 := xhd hq4
 have HR4 := xhd hr4.row.strong
 have HR3b := xhd (HR3.out.keeps hk34 (fun _ _ h => h))
 have HM4 := xhd (HM3.out.keeps hk34 (fun h => h))
 have HK4 := xhd (HK3.out.trans hk34)
 have HS34 := xhd hk34.size
 clear hq4 hr4 hk34 HCP HR3
 go_upto_region 7 with fail
 obtain ⟨w5a, hw5a⟩ : ∃ q, q = w4.alloc (.cells #[.pointer (some ⟨gm, 0, none⟩), .slice A3 q3.length c3, .nilFunc, .int .i64 (t : Int), .slice A4 q4.length c4, .slice none 0 0, .int .i64 0, .slice none 0 0, .bool false, .int .i64 0, .int .i64 0, .slice none 0 0, .slice none 0 0, .int .i64 0] 171) := ⟨_, rfl⟩
 obtain ⟨g, hg⟩ : ∃ q, q = w4.heap.size := ⟨_, rfl⟩
 rw [← hw5a, ← hg]
 have hk5a : Keeps y01 w4 w5a := by rw [hw5a]; exact (Keeps.refl _ w4).alloc _
 have hs5a : w5a.heap.size = g + 1 := by rw [hw5a, hg]; simp
 have hB5a : Blk w5a g 171 (⟨⟨gm, .nilFunc⟩, .slice A3 q3.length c3, t, .slice A4 q4.length c4, .slice none 0 0, 0, .slice none 0 0, false, 0, 0, .slice none 0 0, .slice none 0 0, 0⟩ : NF).list.toArray := by
  rw [hw5a, hg]
  exact Blk.new w4 _ _
 have c2 : w5a.cell? ⟨g, 2, none⟩ = some .nilFunc := by rw [hB5a.cell]; rfl
 have f2 := hB5a.frozen 2
 obtain ⟨w5, hw5⟩ : ∃ q, q = w5a.setCell ⟨g, 2, none⟩ (y9i g) := ⟨_, rfl⟩
 have hk5 : Keeps y01 w4 w5 := by rw [hw5]; exact hk5a.trans' ((Keeps.refl (only g) w5a).put 2 _) (fun i hi hl => by have e : i = g := hi; omega)
 have hs5 : w5.heap.size = g + 1 := by rw [hw5]; simp [hs5a]
 have HB5 := xhd (show NBlk w5 g (⟨⟨gm, y9i g⟩, .slice A3 q3.length c3, t, .slice A4 q4.length c4, .slice none 0 0, 0, .slice none 0 0, false, 0, 0, .slice none 0 0, .slice none 0 0, 0⟩ : NF) by
  rw [hw5]
  exact hB5a.set 2 (y9i g))
 clear hk5a hs5a hB5a hw5a
 have HM5 := xhd (HM4.out.keeps hk5 (fun h => h))
 have HR35 := xhd (HR3b.out.keeps hk5 (fun _ _ h => h))
 have HR45 := xhd (HR4.out.keeps hk5 (fun _ _ h => h))
 have HK5 := xhd (HK4.out.trans hk5)
 have HG := xhd hg
 have HS5 := xhd hs5
 have hl4 : q4.length = zs.length := by have := congrArg List.length HQ4.out; simpa using this
 have HF4 := xhd (y2r (zs := q4) (by rw [HQ4.out]; exact HFX.out))
 have HBG := xhd (y6j (fun b => w3.heap.size ≤ b ∧ b < w4.heap.size) g _ q4 w5 HB5.out HR45.out HF4.out)
 clear hg hk5 hs5 HM4 HR3b HR4 hl4
 go_upto_region 8 with fail
 rw [← hw5]
 clear hw5 c2 f2
 go_wp2_with fail
 refine HBG.out.mono ?_
 rintro e w6 ⟨rfl, u6, q6, hq6, hr6, hb6, hk6⟩
 obtain ⟨B6, c6, rfl, _⟩ := hr6.form
 have hg6 : g < w5.heap.size := HB5.out.lt
 have hgm6 : gm < w2.heap.size := HGW2.out
 have HOBJ := xhd (show NObj w6 g (fun b => w2.heap.size ≤ b ∧ b < w6.heap.size ∧ b ≠ g) _ (Pure.newNeg (y08 us) (y02 zs) t u) from by
  have hks : ∀ b, b ≠ g → ¬ only g b := fun b hb e => hb e
  have hw := hk6.size
  have hS5 := HS5.out
  have hG := HG.out
  have h34 := HS34.out
  have h23 := HS23.out
  have hmb := HMB.out
  unfold y6w at hmb
  have hW : (Pure.newNeg (y08 us) (y02 zs) t u).Well := ⟨Pure.newMach_good (by omega) (by omega), by show t ≤ 1000; omega, by show u ≤ 1000; omega, by show 0 < 256; omega, HFX.out, HFX.out, Pure.fine_nil, rfl⟩
  refine ⟨hb6, HM5.out.keeps hk6 (fun e => by have e : gm = g := e; omega), hW, rfl, rfl, rfl, rfl, rfl, rfl, ⟨q3, ?_, HQ3.out, ?_⟩, ?_, ?_, ?_, ?_, ?_, fun b hb => hb.2.1, fun h => h.2.2 rfl, fun h => by have h1 : w2.heap.size ≤ gm := h.1; omega, by show g ≠ gm; omega⟩
  ·exact (HR35.out.keeps hk6 (fun b hb e => by have e : b = g := e; have := hb.2; omega)).mono (fun b hb => ⟨by rcases hb.1 with h | h <;> exact h, by have := hb.2; omega, by have := hb.2; omega⟩)
  ·refine ⟨?_, fun p hp => ?_⟩
   ·have := congrArg List.length HQ3.out
    simp at this
    rw [this]; exact HFU.out.len
   ·have h1 : p.2 ∈ y08 us := by rw [← HQ3.out]; exact List.mem_map.2 ⟨p, hp, rfl⟩
    obtain ⟨q, hq, he⟩ := List.mem_map.1 h1
    rw [← he]
    exact HFU.out.ok q hq
  ·exact ⟨q4, (HR45.out.keeps hk6 (fun b hb e => by have e : b = g := e; have := hb.2; omega)).mono (fun b hb => ⟨by have := hb.1; omega, by have := hb.2; omega, by have := hb.2; omega⟩), HQ4.out, HF4.out⟩
  ·refine ⟨q6, hr6.strong.mono (fun b hb => ⟨by have := hb.1; omega, hb.2, by have := hb.1; omega⟩), hq6.trans HQ4.out, y2r ?_⟩
   rw [hq6, HQ4.out]; exact HFX.out
  ·exact ⟨[], ORow.nil _ _, rfl, by simp, by simp⟩
  ·exact ⟨[], ORow.nil _ _, rfl, by simp, by simp⟩
  ·exact ⟨[], ORow.nil _ _, rfl, by simp, by simp⟩)
 have HKF := xhd (show Keeps y01 w w6 from HK5.out.trans' hk6 (fun i hi hl => by have e : i = g := hi; have := HG.out; have := HK4.out.size; omega))
 have HGW := xhd (show w.heap.size ≤ g by have := HG.out; have := HK4.out.size; omega)
 have HMW := xhd (show w.heap.size ≤ gm by have := HGM.out; omega)
 have HRW := xhd (show ∀ b, (w2.heap.size ≤ b ∧ b < w6.heap.size ∧ b ≠ g) → w.heap.size ≤ b from fun b hb => Nat.le_trans HK2.out.size hb.1)
 clear hq6 hr6 hb6 hk6 hg6 hgm6 HBG
 go_wp2_with fail
 go_ret2
 exact ⟨g, _, _, rfl, HOBJ.out, HGW.out, ⟨HMW.out, rfl⟩, HRW.out, HKF.out⟩
end Go.Proofs.YtmgicbckgpdkcaaGreatDoor
