/- The statements' talk: two negotiators speak to one another. -/
import Derived.Test.YtjomcffhbaplcaaGreatDoorQ45
import Derived.Test.YtjomcffhbaplcaaGreatDoorQ46
namespace Go.Proofs.YtjomcffhbaplcaaGreatDoor
open Go.RowKit
theorem rows13_info : (Tryz.prog.info? 35).map (fun i => (i.zero, i.size, i.bytes)) = some (some (.slice none 0 0), 1, 24) := by kernel_rfl
theorem made13_rows (n : Nat) : madeCells (Value.slice none 0 0).cells (n * 1) = (List.replicate n (Value.slice none 0 0)).toArray := by
  rw [show (Value.slice none 0 0).cells = #[.slice none 0 0] from rfl]
  apply Array.ext_getElem?
  intro i
  simp only [madeCells, Nat.mul_one]
  by_cases h : i < n
  · simp [h, Nat.mod_one]
  · simp [h]
theorem run_make13 (w : World) : (Instr.makeSlice 34 (.int .i64 2) (.int .i64 2)).run Tryz.prog w = .ok (.slice (some ⟨w.heap.size, 0, none⟩) 2 2) (w.alloc (.cells #[.slice none 0 0, .slice none 0 0] 35)) := by
  obtain ⟨i0, hi0, hz0, hz1, hz2⟩ := info_parts rows13_info
  have hrun := run_make (P := Tryz.prog) w 34 35 i0 _ Tryz.underlying34 hi0 hz0 .i64 .i64 2 2 (by omega) (by omega) (by rw [hz2]; omega) (by omega)
  rw [hrun, hz1, show Int.toNat 2 = 2 from rfl, made13_rows]
  rfl
theorem run_sent (v : Value) (a b c d : Bool) (w : World) : (Instr.field 37 (.agg #[v, .bool a, .bool b, .bool c, .bool d]) 0).run Tryz.prog w = .ok v w := by kernel_rfl
theorem run_tail13 (A : Option Addr) (n c : Nat) (h : n + 1 ≤ c) (w : World) : (Instr.slice 35 (.slice A (n + 1) c) (some (.int .i64 1)) none none).run Tryz.prog w = .ok (cutS A c 1 n 3) w := by
  obtain ⟨i0, hi0, hz0, hz1, hz2⟩ := info_parts packet_info
  have e : Tryz.prog.elem 35 = 40 := by kernel_rfl
  have hu : Tryz.prog.underlying 35 = some (.slice (Tryz.prog.elem 35)) := by rw [e]; exact Tryz.underlying35
  rw [run_slice_l (P := Tryz.prog) w 35 A (n + 1) c hu .i64 1 (by omega) (by omega), e]
  simp [sizeOf, typeInfo, hi0, hz1, sliced, Result.andThen, cutS]
  split <;> simp_all
theorem wpo_append_pkts {w : World} {o : Oper} {a : Act} {Q : Exit → Act → World → Prop} {K : Act → World → Prop} (s x : Operand) (ho : o.op = .call { callee := .builtin .append, args := #[s, x], argTypes := #[35, 35] })
    {F G : Nat → Prop} {n m : Nat} {v y : Value} {xs ys : List Value} (hs : a.eval s = v) (hx : a.eval x = y) (h : WinOf w F 40 3 v n xs) (hr : Row w G 3 y m ys) (h1 : ∀ u ∈ ys, u.oneCell' = true) (hlen : n + m ≤ 100000)
    (hK : ∀ v' w', WinOf w' (fun b => F b ∨ w.heap.size ≤ b) 40 3 v' (n + m) (xs ++ ys) → Keeps F w w' → K (a.put o.dst v') w') : o.wp Tryz.prog a w K Q := by
  obtain ⟨i0, hi0, hz0, hz1, hz2⟩ := info_parts packet_info
  exact wpo_append_winof s x ho Tryz.underlying35 hi0 hz0 hz1 rfl (by rw [hz2]; omega) hs h hx (src_of_row Tryz.underlying35 h1 hr) hlen hK
section
variable {w0 w w' : World} {g mb i gx gy : Nat} {mx my : GM} {Vm Vo : Value} {lm lo : List Pure.Pkt} {Mm Mo : Pure.Neg}
theorem NPair.well (h : NPair w0 w g mb i Vm Vo lm lo gx mx gy my Mm Mo) : Mm.Well := by
  obtain ⟨R, f, h⟩ := h.at
  exact h.well
theorem NPair.acts (h : NPair w0 w g mb i Vm Vo lm lo gx mx gy my Mm Mo) (e : Int) (he : e = 0 ∨ e = 1 ∨ e = 2 ∨ e = 3) (hnk : Mm.naks ≤ 1000) {n' : Pure.Neg} {o : Pure.Said} (hE : Mm.act e = (n', o)) :
    Calls Tryz.prog 14 #[.pointer (some ⟨gx, 0, none⟩), .int .i64 e] w fun r w' => ∃ sv, r = .returned (.agg #[sv, .bool o.up, .bool o.down, .bool o.start, .bool o.done]) ∧ NPend w0 w' g mb i Vm Vo lm lo gx mx gy my n' Mo sv o.send := by
  have := h.act e he hnk
  rw [hE] at this
  exact this
theorem NPair.hears (h : NPair w0 w g mb i Vm Vo lm lo gx mx gy my Mm Mo) (d : Value) (p : Pure.Pkt) (hd : Hand w g gx mx d p) (hnk : Mm.naks ≤ 1000) (hrl : Mm.rules.length ≤ 1000) (hdr : Mm.dropped ≤ 1000000) {n' : Pure.Neg} {o : Pure.Said} (hE : Mm.input p = (n', o)) :
    Calls Tryz.prog 15 #[.pointer (some ⟨gx, 0, none⟩), pktV p d] w fun r w' => ∃ sv, r = .returned (.agg #[sv, .bool o.up, .bool o.down, .bool o.start, .bool o.done]) ∧ NPend w0 w' g mb i Vm Vo lm lo gx mx gy my n' Mo sv o.send := by
  have := h.hear d p hd hnk hrl hdr
  rw [hE] at this
  exact this
theorem NPair.head' {p : Pure.Pkt} {t : List Pure.Pkt} (h : NPair w0 w g mb i Vm Vo (p :: t) lo gx mx gy my Mm Mo) : ∃ bb oo cc d, Vm = .slice (some ⟨bb, oo, none⟩) (t.length + 1) cc ∧ t.length + 1 ≤ cc ∧ (∀ j u, (pktCells (d, p))[j]? = some u → w.cell? ⟨bb, oo + j, none⟩ = some u) ∧
    ∀ w', Keeps nobody w w' → Hand (w'.setCell ⟨g, i, none⟩ (cutS (some ⟨bb, oo, none⟩) cc 1 t.length 3)) g gx mx d p ∧ NPair w0 (w'.setCell ⟨g, i, none⟩ (cutS (some ⟨bb, oo, none⟩) cc 1 t.length 3)) g mb i (cutS (some ⟨bb, oo, none⟩) cc 1 t.length 3) Vo t lo gx mx gy my Mm Mo := by
  obtain ⟨bb, oo, cc, d, hV, hc, hcell, hh, _⟩ := h.head
  refine ⟨bb, oo, cc, d, hV, hc, hcell, fun w' k => ?_⟩
  obtain ⟨bb', oo', cc', d', hV', _, hcell', hh', hp⟩ := (h.quiet k).head
  rw [hV] at hV'
  injection hV' with e1 _ e3
  injection e1 with e1
  injection e1 with e1 e2
  subst e1 e2 e3
  have e4 : d' = d := by
    have a1 := hcell' 2 d' rfl
    have a2 := cell_quiet (hcell 2 d rfl) k
    rw [a1] at a2
    exact Option.some.inj a2
  subst e4
  have K : Keeps (only g) w' (w'.setCell ⟨g, i, none⟩ (cutS (some ⟨bb, oo, none⟩) cc 1 t.length 3)) := (Keeps.refl (only g) w').store g i (fun _ => rfl) _
  exact ⟨(hh'.keeps K (fun b hb e => hb.2.1 e)).mono (fun b hb => ⟨Nat.lt_of_lt_of_le hb.1 K.size, hb.2⟩), hp⟩
end
/-- Two negotiators apart from one another. -/
def TwoNew (w0 w : World) (gx : Nat) (mx : GM) (gy : Nat) (my : GM) (X Y : Pure.Neg) : Prop :=
  ∃ (c : Nat → Nat) (Rx Ry : Nat → Prop), Env13 w0 ∧ Below w0.heap.size w0 w ∧ NAt w gx mx Rx X ∧ NAt w gy my Ry Y ∧ c gx = 1 ∧ c mx = 1 ∧ c gy = 2 ∧ c my = 2 ∧ (∀ b, Rx b → c b = 0) ∧ (∀ b, Ry b → c b = 0) ∧ ∀ b, b < w.heap.size → c b ≠ 0 → w0.heap.size ≤ b
theorem pair13_start {w0 w : World} {gx gy : Nat} {mx my : GM} {X Y : Pure.Neg} (h : TwoNew w0 w gx mx gy my X Y) :
    NPair w0 ((w.alloc (.cells #[.pointer (some ⟨gx, 0, none⟩), .pointer (some ⟨gy, 0, none⟩)] 29)).alloc (.cells #[.slice none 0 0, .slice none 0 0] 35)) (w.heap.size + 1) w.heap.size 0 (.slice none 0 0) (.slice none 0 0) [] [] gx mx gy my X Y := by
  obtain ⟨c, Rx, Ry, env, bel, hx, hy, c1, c2, c3, c4, c5, c6, new⟩ := h
  have K : Keeps nobody w ((w.alloc (.cells #[.pointer (some ⟨gx, 0, none⟩), .pointer (some ⟨gy, 0, none⟩)] 29)).alloc (.cells #[.slice none 0 0, .slice none 0 0] 35)) := ((Keeps.refl nobody w).alloc _).alloc _
  have e1 : (w.alloc (.cells #[.pointer (some ⟨gx, 0, none⟩), .pointer (some ⟨gy, 0, none⟩)] 29)).heap.size = w.heap.size + 1 := by simp
  have hn : ∀ b, ¬ nobody b := fun _ h => h
  have lx := hx.lt
  have ly := hy.lt
  have hc : ∀ b, b < w.heap.size → (if b < w.heap.size then c b else if b = w.heap.size then 6 else 5) = c b := fun b hb => if_pos hb
  refine ⟨fun b => if b < w.heap.size then c b else if b = w.heap.size then 6 else 5, Rx, Ry, nobody, nobody, by omega, env, ?_, hx.keeps K (hn _) (hn _) (fun _ _ => hn _), hy.keeps K (hn _) (hn _) (fun _ _ => hn _), ⟨_, by rw [← e1]; exact Blk.new _ _ _, rfl, rfl, rfl⟩, ⟨_, (Blk.new w _ _).alloc _, rfl, rfl, rfl⟩, ⟨[], rfl, WinOf.nil _ _ _ _, by simp⟩, ⟨[], rfl, WinOf.nil _ _ _ _, by simp⟩, ?_, ?_, ?_, ?_, fun b h => h.elim, fun b h => h.elim, ?_, ?_, ?_, ?_, ?_⟩
  · exact Below.quiet bel K bel.size
  · (try dsimp only); rw [hc _ lx.1]; exact c1
  · (try dsimp only); rw [hc _ lx.2.1]; exact c2
  · (try dsimp only); rw [hc _ ly.1]; exact c3
  · (try dsimp only); rw [hc _ ly.2.1]; exact c4
  · simp only [if_neg (show ¬ w.heap.size + 1 < w.heap.size by omega), if_neg (show ¬ w.heap.size + 1 = w.heap.size by omega)]
  · simp only [if_neg (show ¬ w.heap.size < w.heap.size by omega), if_true]
  · intro b hb; (try dsimp only); rw [hc _ (lx.2.2 b hb)]; exact c5 b hb
  · intro b hb; (try dsimp only); rw [hc _ (ly.2.2 b hb)]; exact c6 b hb
  · intro b hb hcb
    rcases Nat.lt_or_ge b w.heap.size with hl | hl
    · try dsimp only at hcb
      rw [hc b hl] at hcb
      exact new b hl hcb
    · exact Nat.le_trans bel.size hl
/-- How the talk stands in the main loop's round k. -/
def TSit (w0 w : World) (g mb most k gx : Nat) (mx : GM) (gy : Nat) (my : GM) (E : Pure.Neg × Pure.Neg) : Prop :=
  ∃ V0 V1 l0 l1 X Y, NPair w0 w g mb 0 V0 V1 l0 l1 gx mx gy my X Y ∧ Pure.talkGo (most - k) k l0 l1 X Y = E ∧ Pure.Tame k X ∧ Pure.Tame k Y ∧ l0.length + l1.length ≤ 40 + 10 * k ∧ k ≤ most
/-- One of them, number i, has something to hear. -/
def TSitN (w0 w : World) (g mb most i k gx : Nat) (mx : GM) (gy : Nat) (my : GM) (E : Pure.Neg × Pure.Neg) : Prop :=
  ∃ Vm Vo p t lo hx hm ox om Mm Mo n' o, NPair w0 w g mb i Vm Vo (p :: t) lo hx hm ox om Mm Mo ∧ Pure.Tame k Mm ∧ lo.length ≤ 1000 ∧ Mm.input p = (n', o) ∧ ∀ W Vm' Vo', NPair w0 W g mb i Vm' Vo' t (lo ++ o.send) hx hm ox om n' Mo → TSit w0 W g mb most (k + 1) gx mx gy my E
theorem TSit.mine {w0 w : World} {g mb most k gx gy : Nat} {mx my : GM} {E : Pure.Neg × Pure.Neg} {V0 V1 : Value} {p : Pure.Pkt} {t l1 : List Pure.Pkt} {X Y : Pure.Neg} (h1 : NPair w0 w g mb 0 V0 V1 (p :: t) l1 gx mx gy my X Y) (h2 : Pure.talkGo (most - k) k (p :: t) l1 X Y = E) (h3 : Pure.Tame k X) (h4 : Pure.Tame k Y) (h5 : (p :: t).length + l1.length ≤ 40 + 10 * k) (hk : k < most) (hm : most ≤ 60) (hw : l1 = [] ∨ k % 2 = 0) : TSitN w0 w g mb most 0 k gx mx gy my E := by
  obtain ⟨t1, t2⟩ := h3.input h1.well p
  refine ⟨V0, V1, p, t, l1, gx, mx, gy, my, X, Y, (X.input p).1, (X.input p).2, h1, h3, by simp at h5; omega, rfl, fun W Vm' Vo' hW => ⟨Vm', Vo', t, _, _, Y, hW, ?_, t1, h4.more, ?_, by omega⟩⟩
  · rw [← h2, show most - k = (most - (k + 1)) + 1 by omega, Pure.talkGo_mine _ _ _ _ _ _ _ hw]
  · rw [List.length_append]; simp at h5; omega
theorem TSit.other {w0 w : World} {g mb most k gx gy : Nat} {mx my : GM} {E : Pure.Neg × Pure.Neg} {V0 V1 : Value} {p : Pure.Pkt} {t l0 : List Pure.Pkt} {X Y : Pure.Neg} (h1 : NPair w0 w g mb 0 V0 V1 l0 (p :: t) gx mx gy my X Y) (h2 : Pure.talkGo (most - k) k l0 (p :: t) X Y = E) (h3 : Pure.Tame k X) (h4 : Pure.Tame k Y) (h5 : l0.length + (p :: t).length ≤ 40 + 10 * k) (hk : k < most) (hm : most ≤ 60) (hw : l0 = [] ∨ k % 2 ≠ 0) : TSitN w0 w g mb most 1 k gx mx gy my E := by
  obtain ⟨t1, t2⟩ := h4.input h1.swap.well p
  refine ⟨V1, V0, p, t, l0, gy, my, gx, mx, Y, X, (Y.input p).1, (Y.input p).2, h1.swap, h4, by simp at h5; omega, rfl, fun W Vm' Vo' hW => ⟨Vo', Vm', _, t, X, _, hW.swap, ?_, h3.more, t1, ?_, by omega⟩⟩
  · rw [← h2, show most - k = (most - (k + 1)) + 1 by omega, Pure.talkGo_other _ _ _ _ _ _ _ hw]
  · rw [List.length_append]; simp at h5; omega
/-- Whose turn it is, or the other one's. -/
theorem TSit.pick {w0 w : World} {g mb most k gx gy : Nat} {mx my : GM} {E : Pure.Neg × Pure.Neg} {V0 V1 : Value} {l0 l1 : List Pure.Pkt} {X Y : Pure.Neg} (h1 : NPair w0 w g mb 0 V0 V1 l0 l1 gx mx gy my X Y) (h2 : Pure.talkGo (most - k) k l0 l1 X Y = E) (h3 : Pure.Tame k X) (h4 : Pure.Tame k Y) (h5 : l0.length + l1.length ≤ 40 + 10 * k) (hk : k < most) (hm : most ≤ 60) (hz : 0 < l0.length + l1.length) (j : Nat) (hj : j = k % 2) :
    ∃ A n c, w.cell? ⟨g, j, none⟩ = some (.slice A n c) ∧ n ≤ 1000 ∧ (n = 0 → TSitN w0 w g mb most (1 - j) k gx mx gy my E) ∧ (n ≠ 0 → TSitN w0 w g mb most j k gx mx gy my E) := by
  obtain ⟨A0, z0, e0⟩ := h1.form
  obtain ⟨A1, z1, e1⟩ := h1.swap.form
  obtain rfl | rfl : j = 0 ∨ j = 1 := by omega
  · refine ⟨A0, _, z0, by rw [← e0]; exact h1.mine, by omega, fun hn => ?_, fun hn => ?_⟩
    · have hl0 : l0 = [] := List.eq_nil_of_length_eq_zero hn
      subst hl0
      cases l1 with
      | nil => simp at hz
      | cons p t => exact TSit.other h1 h2 h3 h4 h5 hk hm (.inl rfl)
    · cases l0 with
      | nil => exact absurd rfl hn
      | cons p t => exact TSit.mine h1 h2 h3 h4 h5 hk hm (.inr hj.symm)
  · refine ⟨A1, _, z1, by rw [← e1]; exact h1.other, by omega, fun hn => ?_, fun hn => ?_⟩
    · have hl1 : l1 = [] := List.eq_nil_of_length_eq_zero hn
      subst hl1
      cases l0 with
      | nil => simp at hz
      | cons p t => exact TSit.mine h1 h2 h3 h4 h5 hk hm (.inl rfl)
    · cases l1 with
      | nil => exact absurd rfl hn
      | cons p t => exact TSit.other h1 h2 h3 h4 h5 hk hm (.inr (by omega))
set_option maxRecDepth 100000 in
set_option maxHeartbeats 8000000 in
theorem talk_any {w0 w : World} {gx gy most : Nat} {mx my : GM} {X Y : Pure.Neg} (h : TwoNew w0 w gx mx gy my X Y) (hm : most ≤ 60) (hX : X.naks = 0 ∧ X.dropped = 0 ∧ X.rules.length ≤ 1000) (hY : Y.naks = 0 ∧ Y.dropped = 0 ∧ Y.rules.length ≤ 1000) (hXg : X.m.Good) (hYg : Y.m.Good) :
    Calls Tryz.prog 25 #[.pointer (some ⟨gx, 0, none⟩), .pointer (some ⟨gy, 0, none⟩), .int .i64 (most : Int)] w fun e w' => e = .returned (.tuple #[]) ∧ ∃ g mb V0 V1 l0 l1, NPair w0 w' g mb 0 V0 V1 l0 l1 gx mx gy my (Pure.talk most X Y).1 (Pure.talk most X Y).2 := by
  have HP := Lib.hid (pair13_start h)
  obtain ⟨E, hE⟩ : ∃ E, E = Pure.talk most X Y := ⟨_, rfl⟩
  rw [← hE]
  obtain ⟨X1, ox1, hx1⟩ : ∃ a b, X.act 0 = (a, b) := ⟨_, _, rfl⟩
  obtain ⟨X2, ox2, hx2⟩ : ∃ a b, X1.act 2 = (a, b) := ⟨_, _, rfl⟩
  obtain ⟨Y1, oy1, hy1⟩ : ∃ a b, Y.act 0 = (a, b) := ⟨_, _, rfl⟩
  obtain ⟨Y2, oy2, hy2⟩ : ∃ a b, Y1.act 2 = (a, b) := ⟨_, _, rfl⟩
  have hgood : ∀ (n : Pure.Neg) (e : Int), n.m.Good → (e = 0 ∨ e = 2) → (n.act e).1.m.Good := by
    intro n e hg he
    rcases he with rfl | rfl
    · rw [show n.act 0 = n.again.event 0 none from rfl, Pure.event_mach]; exact (Pure.act2_good hg _).1
    · rw [show n.act 2 = n.event 2 none from rfl, Pure.event_mach]; exact (Pure.act2_good hg _).1
  have bx1 := Pure.act_bounds X hXg 0 (.inl rfl)
  have by1 := Pure.act_bounds Y hYg 0 (.inl rfl)
  have gx1 := hgood X 0 hXg (.inl rfl)
  have gy1 := hgood Y 0 hYg (.inl rfl)
  rw [hx1] at bx1 gx1
  rw [hy1] at by1 gy1
  have bx2 := Pure.act_bounds X1 gx1 2 (.inr (.inl rfl))
  have by2 := Pure.act_bounds Y1 gy1 2 (.inr (.inl rfl))
  rw [hx2] at bx2
  rw [hy2] at by2
  dsimp only at bx1 by1 bx2 by2
  have HTX := Lib.hid (show Pure.Tame 0 X2 from ⟨by omega, by rw [bx2.2.2.2, bx1.2.2.2, hX.2.1]; omega, by rw [bx2.2.2.1, bx1.2.2.1]; exact hX.2.2⟩)
  have HTY := Lib.hid (show Pure.Tame 0 Y2 from ⟨by omega, by rw [by2.2.2.2, by1.2.2.2, hY.2.1]; omega, by rw [by2.2.2.1, by1.2.2.1]; exact hY.2.2⟩)
  obtain ⟨sx, hsx⟩ : ∃ s, s = ox1.send ++ ox2.send := ⟨_, rfl⟩
  obtain ⟨sy, hsy⟩ : ∃ s, s = oy1.send ++ oy2.send := ⟨_, rfl⟩
  have HLS := Lib.hid (show sx.length ≤ 20 ∧ sy.length ≤ 20 by rw [hsx, hsy, List.length_append, List.length_append]; omega)
  have HGO := Lib.hid (show Pure.talkGo most 0 sy sx X2 Y2 = E by
    rw [hE]
    unfold Pure.talk
    rw [hx1, hy1]
    dsimp only
    rw [hx2, hy2, ← hsx, ← hsy])
  have HA := Lib.hid (show (X.naks ≤ 1000 ∧ X1.naks ≤ 1000 ∧ X.act 0 = (X1, ox1) ∧ X1.act 2 = (X2, ox2) ∧ sx = ox1.send ++ ox2.send ∧ ox1.send.length ≤ 10) ∧ (Y.naks ≤ 1000 ∧ Y1.naks ≤ 1000 ∧ Y.act 0 = (Y1, oy1) ∧ Y1.act 2 = (Y2, oy2) ∧ sy = oy1.send ++ oy2.send ∧ oy1.send.length ≤ 10) from
    ⟨⟨by omega, by omega, hx1, hx2, hsx, by omega⟩, ⟨by omega, by omega, hy1, hy2, hsy, by omega⟩⟩)
  have HM := Lib.hid hm
  clear hX hY hXg hYg hgood bx1 by1 bx2 by2 gx1 gy1 hsx hsy hx1 hx2 hy1 hy2 hE hm h
  go_enter Tryz.func25, Tryz.ntmps25
  have hmake := run_make13
  go_wp2_with fail
  clear hmake
  generalize (w.alloc (.cells #[.pointer (some ⟨gx, 0, none⟩), .pointer (some ⟨gy, 0, none⟩)] 29)).alloc (.cells #[.slice none 0 0, .slice none 0 0] 35) = W at HP ⊢
  generalize w.heap.size + 1 = g at HP ⊢
  generalize w.heap.size = mb at HP ⊢
  go_loopw [8] (fun i wr => ∃ k : Nat, k ≤ 2 ∧ i = .int .i64 (k : Int) ∧ ∃ V0 V1, NPair w0 wr g mb 0 V0 V1 (if k = 2 then sy else []) (if 1 ≤ k then sx else []) gx mx gy my (if 1 ≤ k then X2 else X) (if k = 2 then Y2 else Y)) (fun i _ => 2 - (intOf i).toNat)
  case atStart => exact ⟨0, by omega, rfl, _, _, HP.out⟩
  case round =>
    obtain ⟨k, hk, rfl, V0, V1, hP⟩ := hrel
    have HP := Lib.hid hP
    clear hP
    by_cases hk2 : k < 2
    · have HD : ∃ Vm Vo lm hx hm ox om Z Z1 o1 Z2 o2 sz Mo, Hid (NPair w0 wr g mb k Vm Vo lm [] hx hm ox om Z Mo ∧ (Z.naks ≤ 1000 ∧ Z1.naks ≤ 1000 ∧ Z.act 0 = (Z1, o1) ∧ Z1.act 2 = (Z2, o2) ∧ sz = o1.send ++ o2.send ∧ o1.send.length ≤ 10) ∧ ∀ W' Vo', NPair w0 W' g mb k Vm Vo' lm sz hx hm ox om Z2 Mo → ∃ V0 V1, NPair w0 W' g mb 0 V0 V1 (if k + 1 = 2 then sy else []) (if 1 ≤ k + 1 then sx else []) gx mx gy my (if 1 ≤ k + 1 then X2 else X) (if k + 1 = 2 then Y2 else Y)) := by
        obtain rfl | rfl : k = 0 ∨ k = 1 := by omega
        · exact ⟨V0, V1, [], gx, mx, gy, my, X, X1, ox1, X2, ox2, sx, Y, Lib.hid ⟨HP.out, HA.out.1, fun W' Vo' h => ⟨_, _, h⟩⟩⟩
        · exact ⟨V1, V0, sx, gy, my, gx, mx, Y, Y1, oy1, Y2, oy2, sy, X2, Lib.hid ⟨HP.out.swap, HA.out.2, fun W' Vo' h => ⟨_, _, h.swap⟩⟩⟩
      obtain ⟨Vm, Vo, lm, hx, hm, ox, om, Z, Z1, o1, Z2, o2, sz, Mo, HD⟩ := HD
      have HQ := Lib.hid HD.out.1
      clear HP
      obtain ⟨j, hj⟩ : ∃ j, j = 1 - k := ⟨_, rfl⟩
      have hj1 : j ≤ 1 := by omega
      have k0 : (0 : Int) ≤ (k : Int) := by omega
      have k1 : (k : Int) < 2 := by omega
      have j0 : (0 : Int) ≤ (j : Int) := by omega
      have j1 : (j : Int) < 2 := by omega
      have e1 : (1 : Int) - (k : Int) = (j : Int) := by omega
      have lw : wrap64 (j : Int) = (j : Int) := IntWalk.wrap64_in _ (by omega)
      have lw2 : IntKind.i64.wrap (j : Int) = (j : Int) := IntWalk.i64_in _ (by omega)
      have lw3 : IntKind.i64.wrap (k : Int) = (k : Int) := IntWalk.i64_in _ (by omega)
      have d0 : decide ((k : Int) < 2) = true := decide_eq_true k1
      have HJ := Lib.hid hj
      clear hj
      obtain ⟨VO8, hvo⟩ : ∃ v, v = Vo := ⟨_, rfl⟩
      have co : wr.cell? ⟨g, j, none⟩ = some VO8 := by rw [hvo, HJ.out]; exact HQ.out.other
      have cm := HQ.out.neg
      obtain ⟨AO, cO, hO⟩ := HQ.out.swap.form
      rw [hvo.trans hO] at co
      have HVO := Lib.hid (show Vo = .slice AO 0 cO from hO)
      rw [hO] at HQ
      clear hvo hO VO8
      have hsent := run_sent
      have HKZ0 := Lib.hid (Keeps.refl nobody wr)
      go_wp2_with fail
      refine wp_region_Z (fun w' => w'.cell? ⟨g, j, none⟩ = some (.slice AO 0 cO) ∧ w'.cell? ⟨mb, k, none⟩ = some (.pointer (some ⟨hx, 0, none⟩))) 16 17 rfl (by kernel_rfl) ⟨co, cm⟩ (fun hHeld => ?_)
      have HSW := hHeld
      clear hHeld
      have HK0d := Lib.hid (HKZ0.out.drew)
      refine wpAnyZ_take (i := 0) rfl (by kernel_rfl) (fun _ _ _ h => h) (Or.inl ⟨by rfl, by intro w hSw; obtain ⟨s0, s1⟩ := hSw; go_simp; try with_reducible rfl⟩) HSW.out ?_
      simp only [Act.put, List.setIfInBounds_toArray, List.getElem_toArray, List.getElem_cons_zero, List.set_cons_succ, List.set_cons_zero]
      refine wpAnyZ_take (i := 1) rfl (by kernel_rfl) (fun _ _ _ h => h) (Or.inl ⟨by rfl, by intro w hSw; obtain ⟨s0, s1⟩ := hSw; go_simp; try with_reducible rfl⟩) HSW.out ?_
      simp only [Act.put, List.setIfInBounds_toArray, List.getElem_toArray, List.getElem_cons_succ, List.getElem_cons_zero, List.set_cons_succ, List.set_cons_zero]
      refine wpAnyZ_take (i := 2) rfl (by kernel_rfl) (fun _ _ _ h => h) (Or.inl ⟨by rfl, by intro w hSw; obtain ⟨s0, s1⟩ := hSw; go_simp; try with_reducible rfl⟩) HSW.out ?_
      simp only [Act.put, List.setIfInBounds_toArray, List.getElem_toArray, List.getElem_cons_succ, List.getElem_cons_zero, List.set_cons_succ, List.set_cons_zero]
      refine wpAnyZ_take (i := 3) rfl (by kernel_rfl) (fun _ _ _ h => h) (Or.inl ⟨by rfl, by intro w hSw; obtain ⟨s0, s1⟩ := hSw; go_simp; try with_reducible rfl⟩) HSW.out ?_
      simp only [Act.put, List.setIfInBounds_toArray, List.getElem_toArray, List.getElem_cons_succ, List.getElem_cons_zero, List.set_cons_succ, List.set_cons_zero]
      refine wpAnyZ_take (i := 4) rfl (by kernel_rfl) (fun _ _ _ h => h) (Or.inl ⟨by rfl, by intro w hSw; obtain ⟨s0, s1⟩ := hSw; go_simp; try with_reducible rfl⟩) HSW.out ?_
      simp only [Act.put, List.setIfInBounds_toArray, List.getElem_toArray, List.getElem_cons_succ, List.getElem_cons_zero, List.set_cons_succ, List.set_cons_zero]
      refine wpAnyZ_take (i := 5) rfl (by kernel_rfl) (fun _ _ _ h => h) (Or.inl ⟨by rfl, by intro w hSw; obtain ⟨s0, s1⟩ := hSw; go_simp; try with_reducible rfl⟩) HSW.out ?_
      simp only [Act.put, List.setIfInBounds_toArray, List.getElem_toArray, List.getElem_cons_succ, List.getElem_cons_zero, List.set_cons_succ, List.set_cons_zero]
      refine wpAnyZ_take (i := 6) rfl (by kernel_rfl) (fun _ _ _ h => h) (Or.inl ⟨by rfl, by intro w hSw; obtain ⟨s0, s1⟩ := hSw; go_simp; try with_reducible rfl⟩) HSW.out ?_
      simp only [Act.put, List.setIfInBounds_toArray, List.getElem_toArray, List.getElem_cons_succ, List.getElem_cons_zero, List.set_cons_succ, List.set_cons_zero]
      refine wpAnyZ_take (i := 7) rfl (by kernel_rfl) (fun _ _ _ h => h) (Or.inl ⟨by rfl, by intro w hSw; obtain ⟨s0, s1⟩ := hSw; go_simp; try with_reducible rfl⟩) HSW.out ?_
      simp only [Act.put, List.setIfInBounds_toArray, List.getElem_toArray, List.getElem_cons_succ, List.getElem_cons_zero, List.set_cons_succ, List.set_cons_zero]
      refine wpAnyZ_take (i := 8) rfl (by kernel_rfl) (fun _ _ _ h => h) (Or.inl ⟨by rfl, by intro w hSw; obtain ⟨s0, s1⟩ := hSw; go_simp; try with_reducible rfl⟩) HSW.out ?_
      simp only [Act.put, List.setIfInBounds_toArray, List.getElem_toArray, List.getElem_cons_succ, List.getElem_cons_zero, List.set_cons_succ, List.set_cons_zero]
      refine wpAnyZ_take (i := 9) rfl (by kernel_rfl) (fun _ _ _ h => h) (Or.inl ⟨by rfl, by intro w hSw; obtain ⟨s0, s1⟩ := hSw; go_simp; try with_reducible rfl⟩) HSW.out ?_
      simp only [Act.put, List.setIfInBounds_toArray, List.getElem_toArray, List.getElem_cons_succ, List.getElem_cons_zero, List.set_cons_succ, List.set_cons_zero]
      refine wpAnyZ_take (i := 10) rfl (by kernel_rfl) (fun _ _ _ h => h) (Or.inl ⟨by rfl, by intro w hSw; obtain ⟨s0, s1⟩ := hSw; go_simp; try with_reducible rfl⟩) HSW.out ?_
      simp only [Act.put, List.setIfInBounds_toArray, List.getElem_toArray, List.getElem_cons_succ, List.getElem_cons_zero, List.set_cons_succ, List.set_cons_zero]
      refine wpAnyZ_take (i := 11) rfl (by kernel_rfl) (fun _ _ _ h => h) (Or.inl ⟨by rfl, by intro w hSw; obtain ⟨s0, s1⟩ := hSw; go_simp; try with_reducible rfl⟩) HSW.out ?_
      simp only [Act.put, List.setIfInBounds_toArray, List.getElem_toArray, List.getElem_cons_succ, List.getElem_cons_zero, List.set_cons_succ, List.set_cons_zero]
      refine wpAnyZ_one (i := 12) (by kernel_rfl) rfl (fun K hK => ?_)
      try rw [if_pos (by rfl)]
      go_simp
      refine ((HQ.out.quiet HK0d.out).acts 0 (by omega) HD.out.2.1.1 HD.out.2.1.2.2.1).mono ?_
      rintro e w8a ⟨sv, rfl, hpend⟩
      obtain ⟨AS, cS, rfl⟩ := hpend.form
      have HPD := Lib.hid hpend
      have HSA := Lib.hid (And.intro (show w8a.cell? ⟨g, j, none⟩ = some (.slice AO 0 cO) from by have := hpend.pair.other; rwa [← HJ.out] at this) hpend.pair.neg)
      clear hpend
      refine hK.out _ _ (fun _ => HSA.out) ?_
      clear hK K
      try simp only [Act.put, List.setIfInBounds_toArray, Nat.reduceAdd, List.getElem_toArray, List.getElem_cons_succ, List.getElem_cons_zero, List.set_cons_succ, List.set_cons_zero]
      refine wpAnyZ_take (i := 13) rfl (by kernel_rfl) (fun _ _ _ h => h) (Or.inl ⟨by rfl, by intro w hSw; obtain ⟨s0, s1⟩ := hSw; go_simp; try with_reducible rfl⟩) HSA.out ?_
      simp only [Act.put, List.setIfInBounds_toArray, List.getElem_toArray, List.getElem_cons_succ, List.getElem_cons_zero, List.set_cons_succ, List.set_cons_zero]
      refine wpAnyZ_one (i := 14) (by kernel_rfl) rfl (fun K hK => ?_)
      rw [if_pos (by rfl)]
      obtain ⟨Fo, G, xs, ys, hwo, hsr, h1c, hlen, hput⟩ := HPD.out.put (by simp)
      refine wpo_append_pkts (.tmp 27) (.tmp 33) rfl rfl rfl hwo hsr h1c hlen ?_
      intro v8 w8b hwin hkc
      obtain ⟨cc, ff, mm, hPc⟩ := hput v8 w8b hwin hkc
      rw [← HJ.out] at cc ff hPc
      obtain ⟨A8, k8, hv8, _⟩ := hwin.form
      subst hv8
      have HPC := Lib.hid hPc
      have HSB := Lib.hid (And.intro cc mm)
      clear hPc hput hwin hkc hwo hsr h1c mm HPD
      refine hK.out _ _ (fun _ => HSB.out) ?_
      clear hK K
      try simp only [Act.put, List.setIfInBounds_toArray, List.getElem_toArray, List.getElem_cons_succ, List.getElem_cons_zero, List.set_cons_succ, List.set_cons_zero]
      refine wpAnyZ_take (i := 15) rfl (by kernel_rfl) (fun _ _ _ h => h) (Or.inl ⟨by rfl, by intro w hSw; obtain ⟨s0, s1⟩ := hSw; go_simp; try with_reducible rfl⟩) HSB.out ?_
      simp only [Act.put, List.setIfInBounds_toArray, List.getElem_toArray, List.getElem_cons_succ, List.getElem_cons_zero, List.set_cons_succ, List.set_cons_zero]
      refine wpAnyZ_one (i := 16) (by kernel_rfl) rfl (fun K hK => ?_)
      go_simp
      refine hK.out _ _ (fun h => absurd rfl h) ?_
      clear hK K
      refine wpAnyZ_done (by kernel_rfl) ?_ _
      have HQ2 := Lib.hid (show NPair w0 (w8b.setCell ⟨g, j, none⟩ (.slice A8 ([] ++ o1.send).length k8)) g mb k Vm (.slice A8 ([] ++ o1.send).length k8) lm ([] ++ o1.send) hx hm ox om Z1 Mo by rw [List.length_append]; exact HPC.out)
      rw [List.nil_append] at HQ2
      obtain ⟨L8, hL8⟩ : ∃ L, L = o1.send.length := ⟨_, rfl⟩
      have HL8 := Lib.hid hL8
      generalize hV8 : Value.slice A8 _ k8 = V8 at HQ2 ⊢
      generalize w8b.setCell ⟨g, j, none⟩ V8 = w8 at HQ2 ⊢
      clear HPC HSA HSB HQ cc ff co cm hV8 hL8 L8 HL8 HKZ0 HK0d HSW
      obtain ⟨AP, cP, hP8⟩ := HQ2.out.swap.form
      have co : w8.cell? ⟨g, j, none⟩ = some V8 := by rw [HJ.out]; exact HQ2.out.other
      have cm := HQ2.out.neg
      obtain ⟨L8, hL8⟩ : ∃ L, L = o1.send.length := ⟨_, rfl⟩
      rw [hP8] at co HQ2 ⊢
      have HKZ0 := Lib.hid (Keeps.refl nobody w8)
      have d0 : decide ((k : Int) < 2) = true := decide_eq_true k1
      go_wp2_with fail
      refine wp_region_Z (fun w' => w'.cell? ⟨g, j, none⟩ = some (.slice AP o1.send.length cP) ∧ w'.cell? ⟨mb, k, none⟩ = some (.pointer (some ⟨hx, 0, none⟩))) 16 17 rfl (by kernel_rfl) ⟨co, cm⟩ (fun hHeld => ?_)
      have HSW := hHeld
      clear hHeld
      have HK0d := Lib.hid (HKZ0.out.drew)
      refine wpAnyZ_take (i := 0) rfl (by kernel_rfl) (fun _ _ _ h => h) (Or.inl ⟨by rfl, by intro w hSw; obtain ⟨s0, s1⟩ := hSw; go_simp; try with_reducible rfl⟩) HSW.out ?_
      simp only [Act.put, List.setIfInBounds_toArray, List.getElem_toArray, List.getElem_cons_zero, List.set_cons_succ, List.set_cons_zero]
      refine wpAnyZ_take (i := 1) rfl (by kernel_rfl) (fun _ _ _ h => h) (Or.inl ⟨by rfl, by intro w hSw; obtain ⟨s0, s1⟩ := hSw; go_simp; try with_reducible rfl⟩) HSW.out ?_
      simp only [Act.put, List.setIfInBounds_toArray, List.getElem_toArray, List.getElem_cons_succ, List.getElem_cons_zero, List.set_cons_succ, List.set_cons_zero]
      refine wpAnyZ_take (i := 2) rfl (by kernel_rfl) (fun _ _ _ h => h) (Or.inl ⟨by rfl, by intro w hSw; obtain ⟨s0, s1⟩ := hSw; go_simp; try with_reducible rfl⟩) HSW.out ?_
      simp only [Act.put, List.setIfInBounds_toArray, List.getElem_toArray, List.getElem_cons_succ, List.getElem_cons_zero, List.set_cons_succ, List.set_cons_zero]
      refine wpAnyZ_take (i := 3) rfl (by kernel_rfl) (fun _ _ _ h => h) (Or.inl ⟨by rfl, by intro w hSw; obtain ⟨s0, s1⟩ := hSw; go_simp; try with_reducible rfl⟩) HSW.out ?_
      simp only [Act.put, List.setIfInBounds_toArray, List.getElem_toArray, List.getElem_cons_succ, List.getElem_cons_zero, List.set_cons_succ, List.set_cons_zero]
      refine wpAnyZ_take (i := 4) rfl (by kernel_rfl) (fun _ _ _ h => h) (Or.inl ⟨by rfl, by intro w hSw; obtain ⟨s0, s1⟩ := hSw; go_simp; try with_reducible rfl⟩) HSW.out ?_
      simp only [Act.put, List.setIfInBounds_toArray, List.getElem_toArray, List.getElem_cons_succ, List.getElem_cons_zero, List.set_cons_succ, List.set_cons_zero]
      refine wpAnyZ_take (i := 5) rfl (by kernel_rfl) (fun _ _ _ h => h) (Or.inl ⟨by rfl, by intro w hSw; obtain ⟨s0, s1⟩ := hSw; go_simp; try with_reducible rfl⟩) HSW.out ?_
      simp only [Act.put, List.setIfInBounds_toArray, List.getElem_toArray, List.getElem_cons_succ, List.getElem_cons_zero, List.set_cons_succ, List.set_cons_zero]
      refine wpAnyZ_take (i := 6) rfl (by kernel_rfl) (fun _ _ _ h => h) (Or.inl ⟨by rfl, by intro w hSw; obtain ⟨s0, s1⟩ := hSw; go_simp; try with_reducible rfl⟩) HSW.out ?_
      simp only [Act.put, List.setIfInBounds_toArray, List.getElem_toArray, List.getElem_cons_succ, List.getElem_cons_zero, List.set_cons_succ, List.set_cons_zero]
      refine wpAnyZ_take (i := 7) rfl (by kernel_rfl) (fun _ _ _ h => h) (Or.inl ⟨by rfl, by intro w hSw; obtain ⟨s0, s1⟩ := hSw; go_simp; try with_reducible rfl⟩) HSW.out ?_
      simp only [Act.put, List.setIfInBounds_toArray, List.getElem_toArray, List.getElem_cons_succ, List.getElem_cons_zero, List.set_cons_succ, List.set_cons_zero]
      refine wpAnyZ_take (i := 8) rfl (by kernel_rfl) (fun _ _ _ h => h) (Or.inl ⟨by rfl, by intro w hSw; obtain ⟨s0, s1⟩ := hSw; go_simp; try with_reducible rfl⟩) HSW.out ?_
      simp only [Act.put, List.setIfInBounds_toArray, List.getElem_toArray, List.getElem_cons_succ, List.getElem_cons_zero, List.set_cons_succ, List.set_cons_zero]
      refine wpAnyZ_take (i := 9) rfl (by kernel_rfl) (fun _ _ _ h => h) (Or.inl ⟨by rfl, by intro w hSw; obtain ⟨s0, s1⟩ := hSw; go_simp; try with_reducible rfl⟩) HSW.out ?_
      simp only [Act.put, List.setIfInBounds_toArray, List.getElem_toArray, List.getElem_cons_succ, List.getElem_cons_zero, List.set_cons_succ, List.set_cons_zero]
      refine wpAnyZ_take (i := 10) rfl (by kernel_rfl) (fun _ _ _ h => h) (Or.inl ⟨by rfl, by intro w hSw; obtain ⟨s0, s1⟩ := hSw; go_simp; try with_reducible rfl⟩) HSW.out ?_
      simp only [Act.put, List.setIfInBounds_toArray, List.getElem_toArray, List.getElem_cons_succ, List.getElem_cons_zero, List.set_cons_succ, List.set_cons_zero]
      refine wpAnyZ_take (i := 11) rfl (by kernel_rfl) (fun _ _ _ h => h) (Or.inl ⟨by rfl, by intro w hSw; obtain ⟨s0, s1⟩ := hSw; go_simp; try with_reducible rfl⟩) HSW.out ?_
      simp only [Act.put, List.setIfInBounds_toArray, List.getElem_toArray, List.getElem_cons_succ, List.getElem_cons_zero, List.set_cons_succ, List.set_cons_zero]
      refine wpAnyZ_one (i := 12) (by kernel_rfl) rfl (fun K hK => ?_)
      try rw [if_pos (by rfl)]
      go_simp
      refine ((HQ2.out.quiet HK0d.out).acts 2 (by omega) HD.out.2.1.2.1 HD.out.2.1.2.2.2.1).mono ?_
      rintro e w9a ⟨sv, rfl, hpend⟩
      obtain ⟨AS, cS, rfl⟩ := hpend.form
      have HPD := Lib.hid hpend
      have HSA := Lib.hid (And.intro (show w9a.cell? ⟨g, j, none⟩ = some (.slice AP o1.send.length cP) from by have := hpend.pair.other; rwa [← HJ.out] at this) hpend.pair.neg)
      clear hpend
      refine hK.out _ _ (fun _ => HSA.out) ?_
      clear hK K
      try simp only [Act.put, List.setIfInBounds_toArray, Nat.reduceAdd, List.getElem_toArray, List.getElem_cons_succ, List.getElem_cons_zero, List.set_cons_succ, List.set_cons_zero]
      refine wpAnyZ_take (i := 13) rfl (by kernel_rfl) (fun _ _ _ h => h) (Or.inl ⟨by rfl, by intro w hSw; obtain ⟨s0, s1⟩ := hSw; go_simp; try with_reducible rfl⟩) HSA.out ?_
      simp only [Act.put, List.setIfInBounds_toArray, List.getElem_toArray, List.getElem_cons_succ, List.getElem_cons_zero, List.set_cons_succ, List.set_cons_zero]
      refine wpAnyZ_one (i := 14) (by kernel_rfl) rfl (fun K hK => ?_)
      rw [if_pos (by rfl)]
      obtain ⟨Fo, G, xs, ys, hwo, hsr, h1c, hlen, hput⟩ := HPD.out.put (by have := HD.out.2.1.2.2.2.2.2; omega)
      refine wpo_append_pkts (.tmp 43) (.tmp 49) rfl rfl rfl hwo hsr h1c hlen ?_
      intro v9 w9b hwin hkc
      obtain ⟨cc, ff, mm, hPc⟩ := hput v9 w9b hwin hkc
      rw [← HJ.out] at cc ff hPc
      obtain ⟨A9, k9, hv9, _⟩ := hwin.form
      subst hv9
      have HPC := Lib.hid hPc
      have HSB := Lib.hid (And.intro cc mm)
      clear hPc hput hwin hkc hwo hsr h1c mm HPD
      refine hK.out _ _ (fun _ => HSB.out) ?_
      clear hK K
      try simp only [Act.put, List.setIfInBounds_toArray, List.getElem_toArray, List.getElem_cons_succ, List.getElem_cons_zero, List.set_cons_succ, List.set_cons_zero]
      refine wpAnyZ_take (i := 15) rfl (by kernel_rfl) (fun _ _ _ h => h) (Or.inl ⟨by rfl, by intro w hSw; obtain ⟨s0, s1⟩ := hSw; go_simp; try with_reducible rfl⟩) HSB.out ?_
      simp only [Act.put, List.setIfInBounds_toArray, List.getElem_toArray, List.getElem_cons_succ, List.getElem_cons_zero, List.set_cons_succ, List.set_cons_zero]
      refine wpAnyZ_one (i := 16) (by kernel_rfl) rfl (fun K hK => ?_)
      go_simp
      refine hK.out _ _ (fun h => absurd rfl h) ?_
      clear hK K
      refine wpAnyZ_done (by kernel_rfl) ?_ _
      have HP9 := Lib.hid (show ∃ V0 V1, NPair w0 (w9b.setCell ⟨g, j, none⟩ (.slice A9 (o1.send.length + o2.send.length) k9)) g mb 0 V0 V1 (if k + 1 = 2 then sy else []) (if 1 ≤ k + 1 then sx else []) gx mx gy my (if 1 ≤ k + 1 then X2 else X) (if k + 1 = 2 then Y2 else Y) from HD.out.2.2 _ _ (by rw [HD.out.2.1.2.2.2.2.1]; exact HPC.out))
      generalize w9b.setCell ⟨g, j, none⟩ (.slice A9 (o1.send.length + o2.send.length) k9) = w9 at HP9 ⊢
      clear HPC HSA HSB HQ2 cc ff co cm HKZ0 HK0d HSW
      go_wp2_with fail
      go_roundw
      case rel => exact ⟨k + 1, by omega, by go_num, HP9.out⟩
      case measure => simp [intOf]; omega
    · have hkk : k = 2 := by omega
      subst hkk
      have HT0 := Lib.hid (show TSit w0 wr g mb most 0 gx mx gy my E from ⟨V0, V1, sy, sx, X2, Y2, HP.out, by rw [Nat.sub_zero]; exact HGO.out, HTX.out, HTY.out, by have := HLS.out; omega, Nat.zero_le _⟩)
      clear HP hk hk2 HA HLS HGO HTX HTY
      go_wp2_with fail
      go_loopw [9] (fun i wr2 => ∃ k : Nat, i = .int .i64 (k : Int) ∧ TSit w0 wr2 g mb most k gx mx gy my E) (fun i _ => most - (intOf i).toNat)
      case atStart => exact ⟨0, rfl, HT0.out⟩
      case round =>
        obtain ⟨k, rfl, V0, V1, l0, l1, x, y, hP, hgo, htx, hty, hll, hkm⟩ := hrel
        have HP := Lib.hid hP
        obtain ⟨A0, z0, hf0⟩ := hP.form
        obtain ⟨A1, z1, hf1⟩ := hP.swap.form
        have c0 := hP.mine
        have c1 : wr.cell? ⟨g, 1, none⟩ = some V1 := hP.other
        rw [hf0] at c0
        rw [hf1] at c1
        have HGO := Lib.hid hgo
        have HTX := Lib.hid htx
        have HTY := Lib.hid hty
        have HLL := Lib.hid hll
        obtain ⟨n0, hn0⟩ : ∃ n, n = l0.length := ⟨_, rfl⟩
        obtain ⟨n1, hn1⟩ : ∃ n, n = l1.length := ⟨_, rfl⟩
        rw [← hn0] at c0
        rw [← hn1] at c1
        have hm60 := HM.out
        have hb0 : n0 ≤ 1000 := by omega
        have hb1 : n1 ≤ 1000 := by omega
        have HN0 := Lib.hid hn0
        have HN1 := Lib.hid hn1
        clear hP hgo htx hty hll hn0 hn1 hf0 hf1 HT0
        obtain ⟨N, hN⟩ : ∃ N, N = n0 + n1 := ⟨_, rfl⟩
        have e1 : (n0 : Int) + (n1 : Int) = (N : Int) := by omega
        have lw : wrap64 (N : Int) = (N : Int) := IntWalk.wrap64_in _ (by omega)
        have HN := Lib.hid hN
        clear hN hm60
        by_cases hk3 : k < most
        · have dk : decide ((k : Int) < (most : Int)) = true := decide_eq_true (by omega)
          have dk2 : decide (k < most) = true := decide_eq_true hk3
          by_cases hz : 0 < N
          · have dz : decide ((0 : Int) < (N : Int)) = true := decide_eq_true (Int.natCast_pos.2 hz)
            have dz2 : decide (0 < N) = true := decide_eq_true hz
            have HPICK := Lib.hid (fun nq : Nat => TSit.pick (HP.out.quiet (Keeps.of_drewN (n := nq) rfl)) HGO.out HTX.out HTY.out HLL.out hk3 HM.out (by rw [← HN0.out, ← HN1.out, ← HN.out]; exact hz) (k % 2) rfl)
            have HK3 := Lib.hid hk3
            clear HP HGO HTX HTY HLL HN0 HN1 HN hz hk3 hkm
            go_wp2_with fail
            go_quiet (fail)
            have HPICK := Lib.hid (HPICK.out nq)
            clear c0 c1 e1 lw dz dz2 dk dk2 hb0 hb1
            generalize wr.drewN nq = wd at HPICK ⊢
            obtain ⟨pj, hpj⟩ : ∃ p, p = k % 2 := ⟨_, rfl⟩
            rw [← hpj] at HPICK
            have hp1 : pj ≤ 1 := by omega
            have hand : bits .and .i64 (k : Int) 1 = (pj : Int) := by rw [show (1 : Int) = ((1 : Nat) : Int) from rfl, i64_and_nat k 1 (by have := HM.out; have := HK3.out; omega) (by omega), Nat.and_one_is_mod, hpj]
            obtain ⟨Am, nm, zm, cmm, hnm, hpick0, hpick1⟩ := HPICK.out
            have HP0 := Lib.hid hpick0
            have HP1 := Lib.hid hpick1
            have i0 : (0 : Int) ≤ (pj : Int) := by omega
            have i1 : (pj : Int) < 2 := by omega
            have HPJ := Lib.hid hp1
            clear hpick0 hpick1 HPICK hpj
            go_upto_if 76 with fail
            go_cut [10] from 77 to 109 (fun v wx => wx = wd ∧ ∃ i : Nat, i ≤ 1 ∧ v = .int .i64 (i : Int) ∧ TSitN w0 wd g mb most i k gx mx gy my E)
            case first =>
              by_cases hz : nm = 0
              · have HX0 := Lib.hid (HP0.out hz)
                have dn : ((nm : Int) == 0) = true := by rw [beq_iff_eq, hz]; rfl
                have e1 : (1 : Int) - (pj : Int) = ((1 - pj : Nat) : Int) := by have := HPJ.out; omega
                have e2 : 1 - pj ≤ 1 := by omega
                generalize 1 - pj = j at HX0 e1 e2
                have lw : wrap64 (j : Int) = (j : Int) := IntWalk.wrap64_in _ (by omega)
                clear hz
                go_wp2_with fail
                go_meet
                exact ⟨rfl, j, e2, rfl, HX0.out⟩
              · have HX1 := Lib.hid (HP1.out hz)
                have dn : ((nm : Int) == 0) = false := by rw [beq_eq_false_iff_ne]; omega
                clear hz
                go_wp2_with fail
                go_meet
                exact ⟨rfl, pj, HPJ.out, rfl, HX1.out⟩
            case rest =>
            clear cmm hnm HP0 HP1 i0 i1 hand hp1
            obtain ⟨rfl, i, hi, rfl, hN⟩ := hcut
            obtain ⟨Vm, Vo, p, t, lo, hx, hm, ox, om, Mm, Mo, n', o', hP, htame, hlo, hin, hback⟩ := hN
            obtain ⟨bb, oo, zc, d, hV, hzc, hcell, hpop⟩ := hP.head'
            have cmv := hP.mine
            rw [hV] at cmv
            have x0 : wc.cell? ⟨bb, oo, none⟩ = some (.int .i64 p.code) := hcell 0 _ rfl
            have x1 : wc.cell? ⟨bb, oo + 1, none⟩ = some (.int .i64 p.id) := hcell 1 _ rfl
            have x2 : wc.cell? ⟨bb, oo + 2, none⟩ = some d := hcell 2 _ rfl
            have i0 : (0 : Int) ≤ (i : Int) := by omega
            have i1 : (i : Int) < 2 := by omega
            obtain ⟨T, hT⟩ : ∃ T, T = t.length := ⟨_, rfl⟩
            rw [← hT] at cmv hzc hpop
            have z0 : (0 : Int) < ((T + 1 : Nat) : Int) := by omega
            have z1 : 0 < T + 1 := by omega
            have hslice := run_tail13 (some ⟨bb, oo, none⟩) T zc hzc
            obtain ⟨DA, dl, dc, hd⟩ : ∃ A n c, d = .slice A n c := by
              obtain ⟨_, _, A, c, e, _⟩ := (hpop wc (Keeps.refl _ _)).1
              exact ⟨A, _, c, e⟩
            subst hd
            have HP2 := Lib.hid hP
            have HPOP := Lib.hid hpop
            have HTAME := Lib.hid htame
            have HLO := Lib.hid hlo
            have HIN := Lib.hid hin
            have HBACK := Lib.hid hback
            have HTT := Lib.hid hT
            clear hP hpop htame hlo hin hback hcell hT hzc hV
            obtain ⟨AV, cV, hVV⟩ := cutS_form (some ⟨bb, oo, none⟩) zc 1 T 3
            rw [hVV] at HPOP hslice
            clear hVV
            obtain ⟨pc, pi, pd⟩ := p
            dsimp only at x0 x1
            go_upto_region 14 with fail
            obtain ⟨gp, hgp⟩ : ∃ q, q = wc.heap.size := ⟨_, rfl⟩
            rw [← hgp]
            generalize hwx : wc.alloc (.cells #[.int .i64 pc, .int .i64 pi, .slice DA dl dc] 40) = wx
            have hkx : Keeps nobody wc wx := by rw [← hwx]; exact (Keeps.refl _ wc).alloc _
            have hbx : Blk wx gp 40 #[.int .i64 pc, .int .i64 pi, .slice DA dl dc] := by rw [← hwx, hgp]; exact Blk.new wc _ _
            have hPx := HP2.out.quiet hkx
            have cmv := cell_quiet cmv hkx
            have fmv := hPx.free i
            obtain ⟨hh, hp2⟩ := HPOP.out wx hkx
            have HH := Lib.hid hh
            have HP3 := Lib.hid hp2
            have hgg : gp ≠ g := by have := hbx.lt; have h2 := cell_lt (HP2.out.mine); omega
            have HBX := Lib.hid ((hbx.far (p := ⟨g, i, none⟩) hgg (.slice AV T cV)))
            clear hwx hkx hbx hPx hh hp2 hgg x0 x1 x2 HP2 HPOP hgp
            go_upto_region 15 with fail
            clear cmv fmv hslice z0 z1
            generalize wx.setCell ⟨g, i, none⟩ (.slice AV T cV) = w8 at HP3 HH HBX ⊢
            generalize Value.slice AV T cV = VV at HP3 ⊢
            obtain ⟨j, hj⟩ : ∃ j, j = 1 - i := ⟨_, rfl⟩
            have hj1 : j ≤ 1 := by omega
            have j0 : (0 : Int) ≤ (j : Int) := by omega
            have j1 : (j : Int) < 2 := by omega
            have e1 : (1 : Int) - (i : Int) = (j : Int) := by omega
            have lw : wrap64 (j : Int) = (j : Int) := IntWalk.wrap64_in _ (by omega)
            have lw2 : IntKind.i64.wrap (j : Int) = (j : Int) := IntWalk.i64_in _ (by omega)
            have lw3 : IntKind.i64.wrap (i : Int) = (i : Int) := IntWalk.i64_in _ (by omega)
            have HJ := Lib.hid hj
            clear hj
            obtain ⟨AO, cO, hO⟩ := HP3.out.swap.form
            have co : w8.cell? ⟨g, j, none⟩ = some Vo := by rw [HJ.out]; exact HP3.out.other
            have cm := HP3.out.neg
            rw [hO] at co HP3
            clear hO
            obtain ⟨nl, hnl⟩ : ∃ q, q = lo.length := ⟨_, rfl⟩
            have hsent := run_sent
            have b0 : w8.cell? ⟨gp, 0, none⟩ = some (.int .i64 pc) := by rw [HBX.out.cell]; rfl
            have b1 : w8.cell? ⟨gp, 1, none⟩ = some (.int .i64 pi) := by rw [HBX.out.cell]; rfl
            have b2 : w8.cell? ⟨gp, 2, none⟩ = some (.slice DA dl dc) := by rw [HBX.out.cell]; rfl
            have HKZ0 := Lib.hid (Keeps.refl nobody w8)
            clear hnl nl
            refine wp_region_Z (fun w' => w'.cell? ⟨g, j, none⟩ = some (.slice AO lo.length cO) ∧ w'.cell? ⟨mb, i, none⟩ = some (.pointer (some ⟨hx, 0, none⟩))) 17 18 rfl (by kernel_rfl) ⟨co, cm⟩ (fun hHeld => ?_)
            have HSW := hHeld
            clear hHeld
            have HK0d := Lib.hid (HKZ0.out.drew)
            refine wpAnyZ_take (i := 0) rfl (by kernel_rfl) (fun _ _ _ h => h) (Or.inl ⟨by rfl, by intro w hSw; obtain ⟨s0, s1⟩ := hSw; go_simp; try with_reducible rfl⟩) HSW.out ?_
            simp only [Act.put, List.setIfInBounds_toArray, List.getElem_toArray, List.getElem_cons_zero, List.set_cons_succ, List.set_cons_zero]
            refine wpAnyZ_take (i := 1) rfl (by kernel_rfl) (fun _ _ _ h => h) (Or.inl ⟨by rfl, by intro w hSw; obtain ⟨s0, s1⟩ := hSw; go_simp; try with_reducible rfl⟩) HSW.out ?_
            simp only [Act.put, List.setIfInBounds_toArray, List.getElem_toArray, List.getElem_cons_succ, List.getElem_cons_zero, List.set_cons_succ, List.set_cons_zero]
            refine wpAnyZ_take (i := 2) rfl (by kernel_rfl) (fun _ _ _ h => h) (Or.inl ⟨by rfl, by intro w hSw; obtain ⟨s0, s1⟩ := hSw; go_simp; try with_reducible rfl⟩) HSW.out ?_
            simp only [Act.put, List.setIfInBounds_toArray, List.getElem_toArray, List.getElem_cons_succ, List.getElem_cons_zero, List.set_cons_succ, List.set_cons_zero]
            refine wpAnyZ_take (i := 3) rfl (by kernel_rfl) (fun _ _ _ h => h) (Or.inl ⟨by rfl, by intro w hSw; obtain ⟨s0, s1⟩ := hSw; go_simp; try with_reducible rfl⟩) HSW.out ?_
            simp only [Act.put, List.setIfInBounds_toArray, List.getElem_toArray, List.getElem_cons_succ, List.getElem_cons_zero, List.set_cons_succ, List.set_cons_zero]
            refine wpAnyZ_take (i := 4) rfl (by kernel_rfl) (fun _ _ _ h => h) (Or.inl ⟨by rfl, by intro w hSw; obtain ⟨s0, s1⟩ := hSw; go_simp; try with_reducible rfl⟩) HSW.out ?_
            simp only [Act.put, List.setIfInBounds_toArray, List.getElem_toArray, List.getElem_cons_succ, List.getElem_cons_zero, List.set_cons_succ, List.set_cons_zero]
            refine wpAnyZ_take (i := 5) rfl (by kernel_rfl) (fun _ _ _ h => h) (Or.inl ⟨by rfl, by intro w hSw; obtain ⟨s0, s1⟩ := hSw; go_simp; try with_reducible rfl⟩) HSW.out ?_
            simp only [Act.put, List.setIfInBounds_toArray, List.getElem_toArray, List.getElem_cons_succ, List.getElem_cons_zero, List.set_cons_succ, List.set_cons_zero]
            refine wpAnyZ_take (i := 6) rfl (by kernel_rfl) (fun _ _ _ h => h) (Or.inl ⟨by rfl, by intro w hSw; obtain ⟨s0, s1⟩ := hSw; go_simp; try with_reducible rfl⟩) HSW.out ?_
            simp only [Act.put, List.setIfInBounds_toArray, List.getElem_toArray, List.getElem_cons_succ, List.getElem_cons_zero, List.set_cons_succ, List.set_cons_zero]
            refine wpAnyZ_take (i := 7) rfl (by kernel_rfl) (fun _ _ _ h => h) (Or.inl ⟨by rfl, by intro w hSw; obtain ⟨s0, s1⟩ := hSw; go_simp; try with_reducible rfl⟩) HSW.out ?_
            simp only [Act.put, List.setIfInBounds_toArray, List.getElem_toArray, List.getElem_cons_succ, List.getElem_cons_zero, List.set_cons_succ, List.set_cons_zero]
            refine wpAnyZ_take (i := 8) rfl (by kernel_rfl) (fun _ _ _ h => h) (Or.inl ⟨by rfl, by intro w hSw; obtain ⟨s0, s1⟩ := hSw; go_simp; try with_reducible rfl⟩) HSW.out ?_
            simp only [Act.put, List.setIfInBounds_toArray, List.getElem_toArray, List.getElem_cons_succ, List.getElem_cons_zero, List.set_cons_succ, List.set_cons_zero]
            refine wpAnyZ_take (i := 9) rfl (by kernel_rfl) (fun _ _ _ h => h) (Or.inl ⟨by rfl, by intro w hSw; obtain ⟨s0, s1⟩ := hSw; go_simp; try with_reducible rfl⟩) HSW.out ?_
            simp only [Act.put, List.setIfInBounds_toArray, List.getElem_toArray, List.getElem_cons_succ, List.getElem_cons_zero, List.set_cons_succ, List.set_cons_zero]
            refine wpAnyZ_take (i := 10) rfl (by kernel_rfl) (fun _ _ _ h => h) (Or.inl ⟨by rfl, by intro w hSw; obtain ⟨s0, s1⟩ := hSw; go_simp; try with_reducible rfl⟩) HSW.out ?_
            simp only [Act.put, List.setIfInBounds_toArray, List.getElem_toArray, List.getElem_cons_succ, List.getElem_cons_zero, List.set_cons_succ, List.set_cons_zero]
            refine wpAnyZ_take (i := 11) rfl (by kernel_rfl) (fun _ _ _ h => h) (Or.inl ⟨by rfl, by intro w hSw; obtain ⟨s0, s1⟩ := hSw; go_simp; try with_reducible rfl⟩) HSW.out ?_
            simp only [Act.put, List.setIfInBounds_toArray, List.getElem_toArray, List.getElem_cons_succ, List.getElem_cons_zero, List.set_cons_succ, List.set_cons_zero]
            refine wpAnyZ_one (i := 12) (by kernel_rfl) rfl (fun K hK => ?_)
            try rw [if_pos (by rfl)]
            go_simp
            refine hK.out _ _ (fun _ => HSW.out) ?_
            clear hK K
            try simp only [Act.put, List.setIfInBounds_toArray, Nat.reduceAdd, List.getElem_toArray, List.getElem_cons_succ, List.getElem_cons_zero, List.set_cons_succ, List.set_cons_zero]
            refine wpAnyZ_one (i := 13) (by kernel_rfl) rfl (fun K hK => ?_)
            try rw [if_pos (by rfl)]
            go_simp
            refine ((HP3.out.quiet HK0d.out).hears (.slice DA dl dc) ⟨pc, pi, pd⟩ ((HH.out.keeps HK0d.out (fun _ _ h => h)).mono (fun b hb => ⟨Nat.lt_of_lt_of_le hb.1 HK0d.out.size, hb.2⟩)) (by have := HTAME.out.naks; have := HM.out; have := HK3.out; omega) HTAME.out.rules (by have := HTAME.out.dropped; have := HM.out; have := HK3.out; omega) HIN.out).mono ?_
            rintro e w10a ⟨sv, rfl, hpend⟩
            obtain ⟨AS, cS, rfl⟩ := hpend.form
            have HPD := Lib.hid hpend
            have HSA := Lib.hid (And.intro (show w10a.cell? ⟨g, j, none⟩ = some (.slice AO lo.length cO) from by have := hpend.pair.other; rwa [← HJ.out] at this) hpend.pair.neg)
            clear hpend
            refine hK.out _ _ (fun _ => HSA.out) ?_
            clear hK K
            try simp only [Act.put, List.setIfInBounds_toArray, Nat.reduceAdd, List.getElem_toArray, List.getElem_cons_succ, List.getElem_cons_zero, List.set_cons_succ, List.set_cons_zero]
            refine wpAnyZ_take (i := 14) rfl (by kernel_rfl) (fun _ _ _ h => h) (Or.inl ⟨by rfl, by intro w hSw; obtain ⟨s0, s1⟩ := hSw; go_simp; try with_reducible rfl⟩) HSA.out ?_
            simp only [Act.put, List.setIfInBounds_toArray, List.getElem_toArray, List.getElem_cons_succ, List.getElem_cons_zero, List.set_cons_succ, List.set_cons_zero]
            refine wpAnyZ_one (i := 15) (by kernel_rfl) rfl (fun K hK => ?_)
            rw [if_pos (by rfl)]
            obtain ⟨Fo, G, xs, ys, hwo, hsr, h1c, hlen, hput⟩ := HPD.out.put HLO.out
            refine wpo_append_pkts (.tmp 100) (.tmp 107) rfl rfl rfl hwo hsr h1c hlen ?_
            intro v10 w10b hwin hkc
            obtain ⟨cc, ff, mm, hPc⟩ := hput v10 w10b hwin hkc
            rw [← HJ.out] at cc ff hPc
            obtain ⟨A10, k10, hv10, _⟩ := hwin.form
            subst hv10
            have HPC := Lib.hid hPc
            have HSB := Lib.hid (And.intro cc mm)
            clear hPc hput hwin hkc hwo hsr h1c mm HPD
            refine hK.out _ _ (fun _ => HSB.out) ?_
            clear hK K
            try simp only [Act.put, List.setIfInBounds_toArray, List.getElem_toArray, List.getElem_cons_succ, List.getElem_cons_zero, List.set_cons_succ, List.set_cons_zero]
            refine wpAnyZ_take (i := 16) rfl (by kernel_rfl) (fun _ _ _ h => h) (Or.inl ⟨by rfl, by intro w hSw; obtain ⟨s0, s1⟩ := hSw; go_simp; try with_reducible rfl⟩) HSB.out ?_
            simp only [Act.put, List.setIfInBounds_toArray, List.getElem_toArray, List.getElem_cons_succ, List.getElem_cons_zero, List.set_cons_succ, List.set_cons_zero]
            refine wpAnyZ_one (i := 17) (by kernel_rfl) rfl (fun K hK => ?_)
            go_simp
            refine hK.out _ _ (fun h => absurd rfl h) ?_
            clear hK K
            refine wpAnyZ_done (by kernel_rfl) ?_ _

            have HS9 := Lib.hid (HBACK.out _ _ _ HPC.out)
            generalize w10b.setCell ⟨g, j, none⟩ (.slice A10 (lo.length + o'.send.length) k10) = w9 at HS9 ⊢
            clear HPC HSA HSB HP3 HH HBX HTAME HLO HIN HBACK HTT e1 lw lw2 lw3 j0 j1 i0 i1 HJ co cm cc ff HKZ0 HK0d HSW
            have hk3 := HK3.out
            have hm60 := HM.out
            go_wp2_with fail
            go_roundw
            case rel => first | exact ⟨_, _, _, _, _, _, _, _, _, _, _, _, _, _, _, _, _, _, _, _, _, _, _, _, _, _, _, _, _, _, _, _, _, _, _, _, _, _, _, _, ⟨k + 1, by go_num, HS9.out⟩, rfl⟩ | exact ⟨_, _, _, _, _, _, _, _, _, _, _, _, _, _, _, _, _, _, _, _, _, _, _, _, _, _, _, _, _, _, _, _, _, _, _, _, _, _, _, _, _, ⟨k + 1, by go_num, HS9.out⟩, rfl⟩ | exact ⟨_, _, _, _, _, _, _, _, _, _, _, _, _, _, _, _, _, _, _, _, _, _, _, _, _, _, _, _, _, _, _, _, _, _, _, _, _, _, _, _, _, _, ⟨k + 1, by go_num, HS9.out⟩, rfl⟩ | exact ⟨_, _, _, _, _, _, _, _, _, _, _, _, _, _, _, _, _, _, _, _, _, _, _, _, _, _, _, _, _, _, _, _, _, _, _, _, _, _, _, _, _, _, _, ⟨k + 1, by go_num, HS9.out⟩, rfl⟩ | exact ⟨_, _, _, _, _, _, _, _, _, _, _, _, _, _, _, _, _, _, _, _, _, _, _, _, _, _, _, _, _, _, _, _, _, _, _, _, _, _, _, _, _, _, _, _, ⟨k + 1, by go_num, HS9.out⟩, rfl⟩ | exact ⟨_, _, _, _, _, _, _, _, _, _, _, _, _, _, _, _, _, _, _, _, _, _, _, _, _, _, _, _, _, _, _, _, _, _, _, _, _, _, _, _, _, _, _, _, _, ⟨k + 1, by go_num, HS9.out⟩, rfl⟩ | exact ⟨_, _, _, _, _, _, _, _, _, _, _, _, _, _, _, _, _, _, _, _, _, _, _, _, _, _, _, _, _, _, _, _, _, _, _, _, _, _, _, _, _, _, _, _, _, _, ⟨k + 1, by go_num, HS9.out⟩, rfl⟩ | exact ⟨_, _, _, _, _, _, _, _, _, _, _, _, _, _, _, _, _, _, _, _, _, _, _, _, _, _, _, _, _, _, _, _, _, _, _, _, _, _, _, _, _, _, _, _, _, _, _, ⟨k + 1, by go_num, HS9.out⟩, rfl⟩ | exact ⟨_, _, _, _, _, _, _, _, _, _, _, _, _, _, _, _, _, _, _, _, _, _, _, _, _, _, _, _, _, _, _, _, _, _, _, _, _, _, _, _, _, _, _, _, _, _, _, _, ⟨k + 1, by go_num, HS9.out⟩, rfl⟩ | exact ⟨_, _, _, _, _, _, _, _, _, _, _, _, _, _, _, _, _, _, _, _, _, _, _, _, _, _, _, _, _, _, _, _, _, _, _, _, _, _, _, _, _, _, _, _, _, _, _, _, _, ⟨k + 1, by go_num, HS9.out⟩, rfl⟩ | exact ⟨_, _, _, _, _, _, _, _, _, _, _, _, _, _, _, _, _, _, _, _, _, _, _, _, _, _, _, _, _, _, _, _, _, _, _, _, _, _, _, _, _, _, _, _, _, _, _, _, _, _, ⟨k + 1, by go_num, HS9.out⟩, rfl⟩ | exact ⟨_, _, _, _, _, _, _, _, _, _, _, _, _, _, _, _, _, _, _, _, _, _, _, _, _, _, _, _, _, _, _, _, _, _, _, _, _, _, _, _, _, _, _, _, _, _, _, _, _, _, _, ⟨k + 1, by go_num, HS9.out⟩, rfl⟩ | exact ⟨_, _, _, _, _, _, _, _, _, _, _, _, _, _, _, _, _, _, _, _, _, _, _, _, _, _, _, _, _, _, _, _, _, _, _, _, _, _, _, _, _, _, _, _, _, _, _, _, _, _, _, _, ⟨k + 1, by go_num, HS9.out⟩, rfl⟩ | exact ⟨_, _, _, _, _, _, _, _, _, _, _, _, _, _, _, _, _, _, _, _, _, _, _, _, _, _, _, _, _, _, _, _, _, _, _, _, _, _, _, _, _, _, _, _, _, _, _, _, _, _, _, _, _, ⟨k + 1, by go_num, HS9.out⟩, rfl⟩ | exact ⟨_, _, _, _, _, _, _, _, _, _, _, _, _, _, _, _, _, _, _, _, _, _, _, _, _, _, _, _, _, _, _, _, _, _, _, _, _, _, _, _, _, _, _, _, _, _, _, _, _, _, _, _, _, _, ⟨k + 1, by go_num, HS9.out⟩, rfl⟩ | exact ⟨_, _, _, _, _, _, _, _, _, _, _, _, _, _, _, _, _, _, _, _, _, _, _, _, _, _, _, _, _, _, _, _, _, _, _, _, _, _, _, _, _, _, _, _, _, _, _, _, _, _, _, _, _, _, _, ⟨k + 1, by go_num, HS9.out⟩, rfl⟩ | exact ⟨_, _, _, _, _, _, _, _, _, _, _, _, _, _, _, _, _, _, _, _, _, _, _, _, _, _, _, _, _, _, _, _, _, _, _, _, _, _, _, _, _, _, _, _, _, _, _, _, _, _, _, _, _, _, _, _, ⟨k + 1, by go_num, HS9.out⟩, rfl⟩ | exact ⟨_, _, _, _, _, _, _, _, _, _, _, _, _, _, _, _, _, _, _, _, _, _, _, _, _, _, _, _, _, _, _, _, _, _, _, _, _, _, _, _, _, _, _, _, _, _, _, _, _, _, _, _, _, _, _, _, _, ⟨k + 1, by go_num, HS9.out⟩, rfl⟩ | exact ⟨_, _, _, _, _, _, _, _, _, _, _, _, _, _, _, _, _, _, _, _, _, _, _, _, _, _, _, _, _, _, _, _, _, _, _, _, _, _, _, _, _, _, _, _, _, _, _, _, _, _, _, _, _, _, _, _, _, _, ⟨k + 1, by go_num, HS9.out⟩, rfl⟩ | exact ⟨_, _, _, _, _, _, _, _, _, _, _, _, _, _, _, _, _, _, _, _, _, _, _, _, _, _, _, _, _, _, _, _, _, _, _, _, _, _, _, _, _, _, _, _, _, _, _, _, _, _, _, _, _, _, _, _, _, _, _, ⟨k + 1, by go_num, HS9.out⟩, rfl⟩ | exact ⟨_, _, _, _, _, _, _, _, _, _, _, _, _, _, _, _, _, _, _, _, _, _, _, _, _, _, _, _, _, _, _, _, _, _, _, _, _, _, _, _, _, _, _, _, _, _, _, _, _, _, _, _, _, _, _, _, _, _, _, _, ⟨k + 1, by go_num, HS9.out⟩, rfl⟩ | exact ⟨_, _, _, _, _, _, _, _, _, _, _, _, _, _, _, _, _, _, _, _, _, _, _, _, _, _, _, _, _, _, _, _, _, _, _, _, _, _, _, _, _, _, _, _, _, _, _, _, _, _, _, _, _, _, _, _, _, _, _, _, _, ⟨k + 1, by go_num, HS9.out⟩, rfl⟩ | exact ⟨_, _, _, _, _, _, _, _, _, _, _, _, _, _, _, _, _, _, _, _, _, _, _, _, _, _, _, _, _, _, _, _, _, _, _, _, _, _, _, _, _, _, _, _, _, _, _, _, _, _, _, _, _, _, _, _, _, _, _, _, _, _, ⟨k + 1, by go_num, HS9.out⟩, rfl⟩ | exact ⟨_, _, _, _, _, _, _, _, _, _, _, _, _, _, _, _, _, _, _, _, _, _, _, _, _, _, _, _, _, _, _, _, _, _, _, _, _, _, _, _, _, _, _, _, _, _, _, _, _, _, _, _, _, _, _, _, _, _, _, _, _, _, _, ⟨k + 1, by go_num, HS9.out⟩, rfl⟩ | exact ⟨_, _, _, _, _, _, _, _, _, _, _, _, _, _, _, _, _, _, _, _, _, _, _, _, _, _, _, _, _, _, _, _, _, _, _, _, _, _, _, _, _, _, _, _, _, _, _, _, _, _, _, _, _, _, _, _, _, _, _, _, _, _, _, _, ⟨k + 1, by go_num, HS9.out⟩, rfl⟩ | exact ⟨_, _, _, _, _, _, _, _, _, _, _, _, _, _, _, _, _, _, _, _, _, _, _, _, _, _, _, _, _, _, _, _, _, _, _, _, _, _, _, _, _, _, _, _, _, _, _, _, _, _, _, _, _, _, _, _, _, _, _, _, _, _, _, _, _, ⟨k + 1, by go_num, HS9.out⟩, rfl⟩ | exact ⟨_, _, _, _, _, _, _, _, _, _, _, _, _, _, _, _, _, _, _, _, _, _, _, _, _, _, _, _, _, _, _, _, _, _, _, _, _, _, _, _, _, _, _, _, _, _, _, _, _, _, _, _, _, _, _, _, _, _, _, _, _, _, _, _, _, _, ⟨k + 1, by go_num, HS9.out⟩, rfl⟩ | exact ⟨_, _, _, _, _, _, _, _, _, _, _, _, _, _, _, _, _, _, _, _, _, _, _, _, _, _, _, _, _, _, _, _, _, _, _, _, _, _, _, _, _, _, _, _, _, _, _, _, _, _, _, _, _, _, _, _, _, _, _, _, _, _, _, _, _, _, _, ⟨k + 1, by go_num, HS9.out⟩, rfl⟩ | exact ⟨_, _, _, _, _, _, _, _, _, _, _, _, _, _, _, _, _, _, _, _, _, _, _, _, _, _, _, _, _, _, _, _, _, _, _, _, _, _, _, _, _, _, _, _, _, _, _, _, _, _, _, _, _, _, _, _, _, _, _, _, _, _, _, _, _, _, _, _, ⟨k + 1, by go_num, HS9.out⟩, rfl⟩ | exact ⟨_, _, _, _, _, _, _, _, _, _, _, _, _, _, _, _, _, _, _, _, _, _, _, _, _, _, _, _, _, _, _, _, _, _, _, _, _, _, _, _, _, _, _, _, _, _, _, _, _, _, _, _, _, _, _, _, _, _, _, _, _, _, _, _, _, _, _, _, _, ⟨k + 1, by go_num, HS9.out⟩, rfl⟩ | exact ⟨_, _, _, _, _, _, _, _, _, _, _, _, _, _, _, _, _, _, _, _, _, _, _, _, _, _, _, _, _, _, _, _, _, _, _, _, _, _, _, _, _, _, _, _, _, _, _, _, _, _, _, _, _, _, _, _, _, _, _, _, _, _, _, _, _, _, _, _, _, _, ⟨k + 1, by go_num, HS9.out⟩, rfl⟩ | exact ⟨_, _, _, _, _, _, _, _, _, _, _, _, _, _, _, _, _, _, _, _, _, _, _, _, _, _, _, _, _, _, _, _, _, _, _, _, _, _, _, _, _, _, _, _, _, _, _, _, _, _, _, _, _, _, _, _, _, _, _, _, _, _, _, _, _, _, _, _, _, _, _, ⟨k + 1, by go_num, HS9.out⟩, rfl⟩ | exact ⟨_, _, _, _, _, _, _, _, _, _, _, _, _, _, _, _, _, _, _, _, _, _, _, _, _, _, _, _, _, _, _, _, _, _, _, _, _, _, _, _, _, _, _, _, _, _, _, _, _, _, _, _, _, _, _, _, _, _, _, _, _, _, _, _, _, _, _, _, _, _, _, _, ⟨k + 1, by go_num, HS9.out⟩, rfl⟩ | exact ⟨_, _, _, _, _, _, _, _, _, _, _, _, _, _, _, _, _, _, _, _, _, _, _, _, _, _, _, _, _, _, _, _, _, _, _, _, _, _, _, _, _, _, _, _, _, _, _, _, _, _, _, _, _, _, _, _, _, _, _, _, _, _, _, _, _, _, _, _, _, _, _, _, _, ⟨k + 1, by go_num, HS9.out⟩, rfl⟩ | exact ⟨_, _, _, _, _, _, _, _, _, _, _, _, _, _, _, _, _, _, _, _, _, _, _, _, _, _, _, _, _, _, _, _, _, _, _, _, _, _, _, _, _, _, _, _, _, _, _, _, _, _, _, _, _, _, _, _, _, _, _, _, _, _, _, _, _, _, _, _, _, _, _, _, _, _, ⟨k + 1, by go_num, HS9.out⟩, rfl⟩ | exact ⟨_, _, _, _, _, _, _, _, _, _, _, _, _, _, _, _, _, _, _, _, _, _, _, _, _, _, _, _, _, _, _, _, _, _, _, _, _, _, _, _, _, _, _, _, _, _, _, _, _, _, _, _, _, _, _, _, _, _, _, _, _, _, _, _, _, _, _, _, _, _, _, _, _, _, _, ⟨k + 1, by go_num, HS9.out⟩, rfl⟩ | exact ⟨_, _, _, _, _, _, _, _, _, _, _, _, _, _, _, _, _, _, _, _, _, _, _, _, _, _, _, _, _, _, _, _, _, _, _, _, _, _, _, _, _, _, _, _, _, _, _, _, _, _, _, _, _, _, _, _, _, _, _, _, _, _, _, _, _, _, _, _, _, _, _, _, _, _, _, _, ⟨k + 1, by go_num, HS9.out⟩, rfl⟩ | exact ⟨_, _, _, _, _, _, _, _, _, _, _, _, _, _, _, _, _, _, _, _, _, _, _, _, _, _, _, _, _, _, _, _, _, _, _, _, _, _, _, _, _, _, _, _, _, _, _, _, _, _, _, _, _, _, _, _, _, _, _, _, _, _, _, _, _, _, _, _, _, _, _, _, _, _, _, _, _, ⟨k + 1, by go_num, HS9.out⟩, rfl⟩ | exact ⟨_, _, _, _, _, _, _, _, _, _, _, _, _, _, _, _, _, _, _, _, _, _, _, _, _, _, _, _, _, _, _, _, _, _, _, _, _, _, _, _, _, _, _, _, _, _, _, _, _, _, _, _, _, _, _, _, _, _, _, _, _, _, _, _, _, _, _, _, _, _, _, _, _, _, _, _, _, _, ⟨k + 1, by go_num, HS9.out⟩, rfl⟩ | exact ⟨_, _, _, _, _, _, _, _, _, _, _, _, _, _, _, _, _, _, _, _, _, _, _, _, _, _, _, _, _, _, _, _, _, _, _, _, _, _, _, _, _, _, _, _, _, _, _, _, _, _, _, _, _, _, _, _, _, _, _, _, _, _, _, _, _, _, _, _, _, _, _, _, _, _, _, _, _, _, _, ⟨k + 1, by go_num, HS9.out⟩, rfl⟩ | exact ⟨_, _, _, _, _, _, _, _, _, _, _, _, _, _, _, _, _, _, _, _, _, _, _, _, _, _, _, _, _, _, _, _, _, _, _, _, _, _, _, _, _, _, _, _, _, _, _, _, _, _, _, _, _, _, _, _, _, _, _, _, _, _, _, _, _, _, _, _, _, _, _, _, _, _, _, _, _, _, _, _, ⟨k + 1, by go_num, HS9.out⟩, rfl⟩ | exact ⟨_, _, _, _, _, _, _, _, _, _, _, _, _, _, _, _, _, _, _, _, _, _, _, _, _, _, _, _, _, _, _, _, _, _, _, _, _, _, _, _, _, _, _, _, _, _, _, _, _, _, _, _, _, _, _, _, _, _, _, _, _, _, _, _, _, _, _, _, _, _, _, _, _, _, _, _, _, _, _, _, _, ⟨k + 1, by go_num, HS9.out⟩, rfl⟩ | exact ⟨_, _, _, _, _, _, _, _, _, _, _, _, _, _, _, _, _, _, _, _, _, _, _, _, _, _, _, _, _, _, _, _, _, _, _, _, _, _, _, _, _, _, _, _, _, _, _, _, _, _, _, _, _, _, _, _, _, _, _, _, _, _, _, _, _, _, _, _, _, _, _, _, _, _, _, _, _, _, _, _, _, _, ⟨k + 1, by go_num, HS9.out⟩, rfl⟩ | exact ⟨_, _, _, _, _, _, _, _, _, _, _, _, _, _, _, _, _, _, _, _, _, _, _, _, _, _, _, _, _, _, _, _, _, _, _, _, _, _, _, _, _, _, _, _, _, _, _, _, _, _, _, _, _, _, _, _, _, _, _, _, _, _, _, _, _, _, _, _, _, _, _, _, _, _, _, _, _, _, _, _, _, _, _, ⟨k + 1, by go_num, HS9.out⟩, rfl⟩ | exact ⟨_, _, _, _, _, _, _, _, _, _, _, _, _, _, _, _, _, _, _, _, _, _, _, _, _, _, _, _, _, _, _, _, _, _, _, _, _, _, _, _, _, _, _, _, _, _, _, _, _, _, _, _, _, _, _, _, _, _, _, _, _, _, _, _, _, _, _, _, _, _, _, _, _, _, _, _, _, _, _, _, _, _, _, _, ⟨k + 1, by go_num, HS9.out⟩, rfl⟩ | exact ⟨_, _, _, _, _, _, _, _, _, _, _, _, _, _, _, _, _, _, _, _, _, _, _, _, _, _, _, _, _, _, _, _, _, _, _, _, _, _, _, _, _, _, _, _, _, _, _, _, _, _, _, _, _, _, _, _, _, _, _, _, _, _, _, _, _, _, _, _, _, _, _, _, _, _, _, _, _, _, _, _, _, _, _, _, _, ⟨k + 1, by go_num, HS9.out⟩, rfl⟩ | exact ⟨_, _, _, _, _, _, _, _, _, _, _, _, _, _, _, _, _, _, _, _, _, _, _, _, _, _, _, _, _, _, _, _, _, _, _, _, _, _, _, _, _, _, _, _, _, _, _, _, _, _, _, _, _, _, _, _, _, _, _, _, _, _, _, _, _, _, _, _, _, _, _, _, _, _, _, _, _, _, _, _, _, _, _, _, _, _, ⟨k + 1, by go_num, HS9.out⟩, rfl⟩ | exact ⟨_, _, _, _, _, _, _, _, _, _, _, _, _, _, _, _, _, _, _, _, _, _, _, _, _, _, _, _, _, _, _, _, _, _, _, _, _, _, _, _, _, _, _, _, _, _, _, _, _, _, _, _, _, _, _, _, _, _, _, _, _, _, _, _, _, _, _, _, _, _, _, _, _, _, _, _, _, _, _, _, _, _, _, _, _, _, _, ⟨k + 1, by go_num, HS9.out⟩, rfl⟩ | exact ⟨_, _, _, _, _, _, _, _, _, _, _, _, _, _, _, _, _, _, _, _, _, _, _, _, _, _, _, _, _, _, _, _, _, _, _, _, _, _, _, _, _, _, _, _, _, _, _, _, _, _, _, _, _, _, _, _, _, _, _, _, _, _, _, _, _, _, _, _, _, _, _, _, _, _, _, _, _, _, _, _, _, _, _, _, _, _, _, _, ⟨k + 1, by go_num, HS9.out⟩, rfl⟩ | exact ⟨_, _, _, _, _, _, _, _, _, _, _, _, _, _, _, _, _, _, _, _, _, _, _, _, _, _, _, _, _, _, _, _, _, _, _, _, _, _, _, _, _, _, _, _, _, _, _, _, _, _, _, _, _, _, _, _, _, _, _, _, _, _, _, _, _, _, _, _, _, _, _, _, _, _, _, _, _, _, _, _, _, _, _, _, _, _, _, _, _, ⟨k + 1, by go_num, HS9.out⟩, rfl⟩
            case measure => simp [intOf]; omega
          · have dz : decide ((0 : Int) < (N : Int)) = false := decide_eq_false (fun h => hz (Int.natCast_pos.1 h))
            have dz2 : decide (0 < N) = false := decide_eq_false hz
            have hz0 : n0 + n1 = 0 := by rw [← HN.out]; exact Nat.eq_zero_of_not_pos hz
            have hl0 : l0 = [] := List.eq_nil_of_length_eq_zero (by rw [← HN0.out]; omega)
            have hl1 : l1 = [] := List.eq_nil_of_length_eq_zero (by rw [← HN1.out]; omega)
            have hEE : (x, y) = E := by have h := HGO.out; rw [hl0, hl1, Pure.talkGo_none] at h; exact h
            have HEE := Lib.hid hEE
            clear hz0 hl0 hl1 hEE HGO HTX HTY HLL HN hz HN0 HN1
            go_wp2_with fail
            go_quiet (fail)
            go_wp2_with fail
            go_end0
            refine ⟨rfl, g, mb, V0, V1, l0, l1, ?_⟩
            rw [← HEE.out]
            exact HP.out.quiet (Keeps.of_drewN rfl)
        · have dk : decide ((k : Int) < (most : Int)) = false := decide_eq_false (by omega)
          have dk2 : decide (k < most) = false := decide_eq_false hk3
          have hEE : (x, y) = E := by have h := HGO.out; rw [show most - k = 0 by omega, Pure.talkGo_zero] at h; exact h
          have HEE := Lib.hid hEE
          clear hEE HGO HTX HTY HLL HN hk3 HN0 HN1 e1 lw
          go_wp2_with fail
          go_quiet (fail)
          go_wp2_with fail
          go_end0
          refine ⟨rfl, g, mb, V0, V1, l0, l1, ?_⟩
          rw [← HEE.out]
          exact HP.out.quiet (Keeps.of_drewN rfl)
end Go.Proofs.YtjomcffhbaplcaaGreatDoor
