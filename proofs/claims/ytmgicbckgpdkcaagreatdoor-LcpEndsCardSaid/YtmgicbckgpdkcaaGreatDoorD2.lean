/- Chapter 14's statements: two links that speak to one another. -/
import Derived.Test.YtmgicbckgpdkcaaGreatDoorD1
namespace Go.Proofs.YtmgicbckgpdkcaaGreatDoor
open Go.RowKit
def LSit (P : Nat → List Pure.Pkt → List Pure.Pkt → Pure.Lcp → Pure.Lcp → Prop) (w0 w : World) (g mb k : Nat) (gx gy : LF) : Prop :=
 ∃ V0 V1 q r X Y, y0g w0 w g mb 0 V0 V1 q r gx gy X Y ∧ P k q r X Y
def y38 (P : Nat → List Pure.Pkt → List Pure.Pkt → Pure.Lcp → Pure.Lcp → Prop) (w0 w : World) (g mb k : Nat) (gx gy : LF) : Prop :=
 ∃ V0 V1 q r X Y, y0g w0 w g mb 0 V0 V1 q r gx gy X Y ∧ P k q r X Y ∧ 0 < q.length + r.length
def y6h (w0 w : World) (g mb i : Nat) (N : World → Prop) : Prop :=
 ∃ Vm Vo p t lo hx ox Mm Mo n' o, y0g w0 w g mb i Vm Vo (p :: t) lo hx ox Mm Mo ∧ (Mm.n.naks ≤ 1000 ∧ Mm.n.dropped ≤ 1000000 ∧ p.data.length ≤ 1000000) ∧ lo.length ≤ 1000 ∧ Mm.input p = (n', o) ∧ ∀ W Vm' Vo', y0g w0 W g mb i Vm' Vo' t (lo ++ o.said.send) hx ox n' Mo → N W
section
variable {P : Nat → List Pure.Pkt → List Pure.Pkt → Pure.Lcp → Pure.Lcp → Prop} {M : Nat} {w0 w w' : World} {g mb k : Nat} {gx gy : LF}
theorem LSit.quiet (h : LSit P w0 w g mb k gx gy) (K : Keeps y01 w w') : LSit P w0 w' g mb k gx gy := by
 obtain ⟨V0, V1, q, r, X, Y, h1, h2⟩ := h
 exact ⟨V0, V1, q, r, X, Y, h1.quiet K, h2⟩
theorem y38.quiet (h : y38 P w0 w g mb k gx gy) (K : Keeps y01 w w') : y38 P w0 w' g mb k gx gy := by
 obtain ⟨V0, V1, q, r, X, Y, h1, h2⟩ := h
 exact ⟨V0, V1, q, r, X, Y, h1.quiet K, h2⟩
theorem y38.below (h : y38 P w0 w g mb k gx gy) : Below w0.heap.size w0 w := by
 obtain ⟨V0, V1, q, r, X, Y, h1, h2⟩ := h
 exact h1.below
theorem y38.pick (hT : Pure.Talks M P) (h : y38 P w0 w g mb k gx gy) {j : Nat} (hj : j ≤ 1) :
  ∃ A n c, w.cell? ⟨g, j, none⟩ = some (.slice A n c) ∧ n ≤ 1000 ∧ (n = 0 → y6h w0 w g mb (1 - j) (fun W => LSit P w0 W g mb (k + 1) gx gy)) ∧ (n ≠ 0 → y6h w0 w g mb j (fun W => LSit P w0 W g mb (k + 1) gx gy)) := by
 obtain ⟨V0, V1, q, r, X, Y, h1, h2, h3⟩ := h
 obtain ⟨⟨tx1, tx2⟩, ty1, ty2⟩ := hT.tame h2
 obtain ⟨⟨lq, lr⟩, bq, br⟩ := hT.qs h2
 obtain ⟨A0, z0, e0⟩ := h1.form
 obtain ⟨A1, z1, e1⟩ := h1.swap.form
 have hx : q.length ≠ 0 → y6h w0 w g mb 0 (fun W => LSit P w0 W g mb (k + 1) gx gy) := fun hn => by
  obtain ⟨p, t, e⟩ : ∃ p t, q = p :: t := by
   cases hq : q with
   | nil => exact absurd (by rw [hq]; rfl) hn
   | cons p t => exact ⟨p, t, rfl⟩
  exact ⟨V0, V1, p, t, r, gx, gy, X, Y, _, _, by rw [← e]; exact h1, ⟨tx1, tx2, bq p (by rw [e]; exact List.mem_cons_self)⟩, by omega, rfl, fun W Vm' Vo' hW => ⟨Vm', Vo', t, _, _, Y, hW, hT.mine (by rw [← e]; exact h2)⟩⟩
 have hy : r.length ≠ 0 → y6h w0 w g mb 1 (fun W => LSit P w0 W g mb (k + 1) gx gy) := fun hn => by
  obtain ⟨p, t, e⟩ : ∃ p t, r = p :: t := by
   cases hq : r with
   | nil => exact absurd (by rw [hq]; rfl) hn
   | cons p t => exact ⟨p, t, rfl⟩
  exact ⟨V1, V0, p, t, q, gy, gx, Y, X, _, _, by rw [← e]; exact h1.swap, ⟨ty1, ty2, br p (by rw [e]; exact List.mem_cons_self)⟩, by omega, rfl, fun W Vm' Vo' hW => ⟨Vo', Vm', _, t, X, _, hW.swap, hT.other (by rw [← e]; exact h2)⟩⟩
 obtain rfl | rfl : j = 0 ∨ j = 1 := by omega
 ·exact ⟨A0, _, z0, by rw [← e0]; exact h1.mine, by omega, fun hn => hy (by omega), hx⟩
 ·exact ⟨A1, _, z1, by rw [← e1]; exact h1.other, by omega, fun hn => hx (by omega), hy⟩
end
theorem y72 {w0 wA wB wC wD wE : World} {gx gy : LF} {fx fy : NF} {Rx Ry : Nat → Prop} {X Y : Pure.Lcp} (env : Env14 w0) (bel : Below w0.heap.size w0 wA) (k1 : Keeps y01 wA wB) (hx : LObj wB gx Rx fx X) (_ : wA.heap.size ≤ gx.l) (x1 : wA.heap.size ≤ gx.g) (x2 : wA.heap.size ≤ gx.gm)
  (k2 : Keeps y01 wB wC) (k3 : Keeps y01 wC wD) (hy : LObj wD gy Ry fy Y) (y0 : wC.heap.size ≤ gy.l) (y1 : wC.heap.size ≤ gy.g) (y2 : wC.heap.size ≤ gy.gm) (y3 : ∀ b, Ry b → wC.heap.size ≤ b) (k4 : Keeps y01 wD wE) : LTwo w0 wE gx gy X Y := by
 have hxl : LAt wB gx Rx X := ⟨fx, hx⟩
 have hyl : LAt wD gy Ry Y := ⟨fy, hy⟩
 have lx := hxl.lt
 have s2 := k2.size
 have hB := bel.size
 have s1 := k1.size
 have nx : ∀ b, LR gx Rx b → b ≠ gx.g ∧ b ≠ gx.gm := fun b hb => by
  rcases hb with rfl | hb
  ·exact ⟨hx.lg, hx.lm⟩
  ·exact ⟨fun e => hx.obj.ng (e ▸ hb), fun e => hx.obj.nm (by rw [hx.gm', ← e]; exact hb)⟩
 have ny : ∀ b, LR gy Ry b → b ≠ gy.g ∧ b ≠ gy.gm ∧ wC.heap.size ≤ b := fun b hb => by
  rcases hb with rfl | hb
  ·exact ⟨hy.lg, hy.lm, y0⟩
  ·exact ⟨fun e => hy.obj.ng (e ▸ hb), fun e => hy.obj.nm (by rw [hy.gm', ← e]; exact hb), y3 b hb⟩
 refine ⟨fun b => if b = gx.g ∨ b = gx.gm then 1 else if b = gy.g ∨ b = gy.gm then 2 else 0, Rx, Ry, env, ?_, ⟨fx, ((hx.quiet k2).quiet k3).quiet k4⟩, ⟨fy, hy.quiet k4⟩, by simp, by simp, ?_, ?_, ?_, ?_, ?_⟩
 ·exact Below.quiet bel (((k1.trans k2).trans k3).trans k4) bel.size
 ·(try dsimp only); rw [if_neg (by have := lx.1; have := lx.2.1; omega), if_pos (.inl rfl)]
 ·(try dsimp only); rw [if_neg (by have := lx.1; have := lx.2.1; omega), if_pos (.inr rfl)]
 ·intro b hb
  have h1 := nx b hb
  have h3 := lx.2.2 b hb
  (try dsimp only); rw [if_neg (by omega), if_neg (by omega)]
 ·intro b hb
  have h1 := ny b hb
  (try dsimp only); rw [if_neg (by have := lx.1; have := lx.2.1; omega), if_neg (by omega)]
 ·intro b _ hb
  (try dsimp only at hb)
  by_cases h1 : b = gx.g ∨ b = gx.gm
  ·rcases h1 with rfl | rfl <;> omega
  ·rw [if_neg h1] at hb
   by_cases h2 : b = gy.g ∨ b = gy.gm
   ·rcases h2 with rfl | rfl <;> omega
   ·rw [if_neg h2] at hb; exact absurd rfl hb
def y8f (XX X1 X2 YY Y1 Y2 : Pure.Lcp) (ox1 ox2 oy1 oy2 : Pure.LSaid) (sx sy : List Pure.Pkt) : Prop :=
 (XX.n.naks ≤ 1000 ∧ X1.n.naks ≤ 1000 ∧ XX.act 0 = (X1, ox1) ∧ X1.act 2 = (X2, ox2) ∧ sx = ox1.said.send ++ ox2.said.send ∧ ox1.said.send.length ≤ 10) ∧ (YY.n.naks ≤ 1000 ∧ Y1.n.naks ≤ 1000 ∧ YY.act 0 = (Y1, oy1) ∧ Y1.act 2 = (Y2, oy2) ∧ sy = oy1.said.send ++ oy2.said.send ∧ oy1.said.send.length ≤ 10)
theorem y6u (a b : Pure.Cfg) (ma mb : Nat) : ∃ X1 Y1, y8f (Pure.newLcp a ma) X1 ⟨a, Pure.begun a.rules (a.ask ma) a.tries.toNat a.timeout.toNat⟩ (Pure.newLcp b mb) Y1 ⟨b, Pure.begun b.rules (b.ask mb) b.tries.toNat b.timeout.toNat⟩ (.of Pure.mute) (.of (Pure.sends [⟨1, 1, (Pure.options (a.ask ma)).2⟩])) (.of Pure.mute) (.of (Pure.sends [⟨1, 1, (Pure.options (b.ask mb)).2⟩])) [⟨1, 1, (Pure.options (a.ask ma)).2⟩] [⟨1, 1, (Pure.options (b.ask mb)).2⟩] := by
 obtain ⟨X1, a1, a2, a3, a4⟩ := y7x a ma
 obtain ⟨Y1, b1, b2, b3, b4⟩ := y7x b mb
 exact ⟨X1, Y1, ⟨a1, a2, a3, a4, rfl, by decide⟩, b1, b2, b3, b4, rfl, by decide⟩
section
variable {w0 w : World} {g mb i : Nat} {gx gy : LF} {Vm Vo : Value} {lm lo : List Pure.Pkt} {Mm Mo : Pure.Lcp}
theorem y0g.state (h : y0g w0 w g mb i Vm Vo lm lo gx gy Mm Mo) : Calls Tryz.prog 40 #[.pointer (some ⟨gx.l, 0, none⟩)] w fun e w' => e = .returned (.int .i64 (Mm.n.m.state : Nat)) ∧ w = w' := by
 obtain ⟨R, f, h⟩ := h.at
 exact y2l h
end
end Go.Proofs.YtmgicbckgpdkcaaGreatDoor
