/- Two deframers side by side. -/
import Derived.Test.YtapcclahekkgpaaStuffJ
namespace Go.Proofs.Ytapcclahekkgpaa
open Go.RowKit

/-- Two deframers that are newer than the world w0. -/
structure Two (w0 wk : World) (g1 : Nat) (c1 : Value) (d1 : Pure.DF) (g2 : Nat) (c2 : Value) (d2 : Pure.DF) : Prop where
  s1 : Sit w0 wk g1 c1 d1
  s2 : Sit w0 wk g2 c2 d2
  ne : g1 ≠ g2
  cc : ∀ b, c1.ownBlock = some b → c2.ownBlock ≠ some b
section
variable {w0 wk w' : World} {g1 g2 : Nat} {c1 c2 c1' o v : Value} {d1 d2 d1' d : Pure.DF} {ps qs : List (Value × List UInt8)} {base : Nat}
theorem Two.symm (h : Two w0 wk g1 c1 d1 g2 c2 d2) : Two w0 wk g2 c2 d2 g1 c1 d1 := ⟨h.s2, h.s1, fun e => h.ne e.symm, fun b hb hc => h.cc b hc hb⟩
theorem Two.new (h : Sit w0 wk g1 c1 d1) (hd : DObj w' wk.heap.size (.slice none 0 0) d) (hk : Below wk.heap.size wk w') : Two w0 w' g1 c1 d1 wk.heap.size (.slice none 0 0) d :=
  ⟨h.more hk, Sit.new h.below hd hk, by have := h.obj.lt; omega, fun b _ => by simp [Value.ownBlock]⟩
theorem Two.more (h : Two w0 wk g1 c1 d1 g2 c2 d2) (k : Below wk.heap.size wk w') : Two w0 w' g1 c1 d1 g2 c2 d2 := ⟨h.s1.more k, h.s2.more k, h.ne, h.cc⟩
theorem Two.alloc (h : Two w0 wk g1 c1 d1 g2 c2 d2) (c : Obj) : Two w0 (wk.alloc c) g1 c1 d1 g2 c2 d2 := ⟨h.s1.alloc c, h.s2.alloc c, h.ne, h.cc⟩
theorem Two.quiet (h : Two w0 wk g1 c1 d1 g2 c2 d2) (k : Keeps nobody wk w') : Two w0 w' g1 c1 d1 g2 c2 d2 := ⟨h.s1.quiet k, h.s2.quiet k, h.ne, h.cc⟩
/-- The one turns: the other stays. -/
theorem Two.turn (h : Two w0 wk g1 c1 d1 g2 c2 d2) (hs : Sit w0 w' g1 c1' d1') (k : Keeps (dfw g1 c1) wk w') (hf : Fresh wk c1 c1') : Two w0 w' g1 c1' d1' g2 c2 d2 := by
  refine ⟨hs, ⟨hs.below, h.s2.obj.keeps k ?_ ?_, h.s2.hg, h.s2.hcv⟩, h.ne, ?_⟩
  · rintro (e | e)
    · exact h.ne e.symm
    · exact ownsRow_ne h.s1.obj.own h.s2.obj.blk (by decide) e
  · rintro b hb (rfl | e)
    · exact ownsRow_ne h.s2.obj.own h.s1.obj.blk (by decide) hb
    · exact h.cc b e hb
  · intro b hb hc
    rcases hf b hb with h1 | h1
    · exact h.cc b h1 hc
    · have := ownsRow_lt h.s2.obj.own b hc
      omega
theorem Two.fed (h : Two w0 wk g1 c1 d1 g2 c2 d2) (hat : FeedAt wk g1 c1 w' c1' o ps d1') : Two w0 w' g1 c1' d1' g2 c2 d2 := h.turn (h.s1.fed hat) hat.keep hat.fresh
theorem Two.store (h : Two w0 wk g1 c1 d1 g2 c2 d2) (hd : DObj w' g1 (.slice none 0 0) d1') (k : Keeps (only g1) wk w') : Two w0 w' g1 (.slice none 0 0) d1' g2 c2 d2 :=
  h.turn ⟨Below.keeps h.s1.below k h.s1.le (by intro i hi; have hi : i = g1 := hi; subst hi; exact h.s1.hg), hd, h.s1.hg, fun b hb => by simp [Value.ownBlock] at hb⟩ (k.mono fun _ e => .inl e) (fun b hb => by simp [Value.ownBlock] at hb)
/-- What the one told, beside the other. -/
theorem Two.kept (h : Two w0 wk g1 c1 d1 g2 c2 d2) (hat : FeedAt wk g1 c1 w' c1' o ps d1') : Kept w' g2 c2 wk.heap.size o ps := by
  have h2 := (h.fed hat).s2.obj
  refine Kept.of_told hat.told h2 ?_
  intro p hp b hb hc
  rcases hat.rows p hp b hb with h1 | h1
  · exact h.cc b h1 hc
  · have := ownsRow_lt h.s2.obj.own b hc
    omega
end
end Go.Proofs.Ytapcclahekkgpaa
