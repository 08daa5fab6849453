/- The deframer and the document's, side by side; a region in which two operations may come up at once. -/
import Derived.Test.YtapcclahekkgpaaStuffG
import Derived.Test.YtapcclahekkgpaaStuffJ
import Derived.Test.YtapcclahekkgpaaLast
namespace Go.Proofs.Ytapcclahekkgpaa
open Go.RowKit

section
variable {P : Program} {ops : Array Oper} {Q : Exit → Act → World → Prop} {md : Region.Mode} {S : World → Prop} {z : Nat}
/-- Two may come up: both ways. -/
theorem wpAnyZ_two {i j : Nat} {o o' : Oper} {fuel : Nat} {listed : Array Bool} {a : Act} {w : World} (hr : Region.ready md ops listed = [i, j]) (ho : ops[i]? = some o) (ho' : ops[j]? = some o')
    (h : ∀ K' : Act → World → Prop, Shut (∀ a w, (i ≠ z → S w) → wpAnyZ P md ops Q S z fuel (listed.setIfInBounds i true) a w → K' a w) →
      if Region.wanted o (yielded ops a.tmps) = true then Oper.wp P o a w K' Q else K' (a.put o.dst undef) w)
    (h' : ∀ K' : Act → World → Prop, Shut (∀ a w, (j ≠ z → S w) → wpAnyZ P md ops Q S z fuel (listed.setIfInBounds j true) a w → K' a w) →
      if Region.wanted o' (yielded ops a.tmps) = true then Oper.wp P o' a w K' Q else K' (a.put o'.dst undef) w) : wpAnyZ P md ops Q S z (fuel + 1) listed a w :=
  ⟨fun h0 => (by rw [h0] at hr; cases hr), fun k hk => by
    rw [hr] at hk
    rcases List.mem_cons.1 hk with rfl | hk
    · exact wpOp_step ho (fun K' hK => h K' (fun a w hS hW => hK a w ⟨hS, hW⟩))
    · obtain rfl : k = j := by simpa using hk
      exact wpOp_step ho' (fun K' hK => h' K' (fun a w hS hW => hK a w ⟨hS, hW⟩))⟩
end

/-- The deframer and the document's, both newer than w0. -/
structure Pair (w0 wk : World) (g : Nat) (cv : Value) (d : Pure.DF) (gm : Nat) (mv : Value) (e : Pure.DF) : Prop where
  sit : Sit w0 wk g cv d
  ref : MObj wk gm mv e
  hg : w0.heap.size ≤ gm
  hmv : ∀ b, mv.ownBlock = some b → w0.heap.size ≤ b
  cc : ∀ b, cv.ownBlock = some b → mv.ownBlock ≠ some b
section
variable {w0 wk w' : World} {g gm : Nat} {cv mv cv' mv' o : Value} {d e d' e' : Pure.DF} {ps : List (Value × List UInt8)} {base : Nat}
theorem Pair.ne (h : Pair w0 wk g cv d gm mv e) : g ≠ gm := by
  rintro rfl
  have h1 := h.sit.obj.blk
  have h2 := h.ref.blk
  unfold Blk at h1 h2
  rw [h1] at h2
  injection h2 with h2
  injection h2 with _ h2
  revert h2
  decide
theorem Pair.more (h : Pair w0 wk g cv d gm mv e) (k : Below wk.heap.size wk w') : Pair w0 w' g cv d gm mv e :=
  ⟨h.sit.more k, h.ref.keeps (Keeps.new k) (fun h => h) (fun _ _ h => h), h.hg, h.hmv, h.cc⟩
theorem Pair.alloc (h : Pair w0 wk g cv d gm mv e) (c : Obj) : Pair w0 (wk.alloc c) g cv d gm mv e := h.more ((Below.refl _ _).alloc (Nat.le_refl _) c)
theorem Pair.quiet (h : Pair w0 wk g cv d gm mv e) (k : Keeps nobody wk w') : Pair w0 w' g cv d gm mv e := h.more k.to_below
theorem Pair.fedD (h : Pair w0 wk g cv d gm mv e) (hat : FeedAt wk g cv w' cv' o ps d') : Pair w0 w' g cv' d' gm mv e := by
  refine ⟨h.sit.fed hat, h.ref.keeps hat.keep ?_ ?_, h.hg, h.hmv, ?_⟩
  · rintro (hx | hx)
    · exact h.ne hx.symm
    · exact ownsRow_ne h.sit.obj.own h.ref.blk (by decide) hx
  · rintro b hb (rfl | hx)
    · exact ownsRow_ne h.ref.own h.sit.obj.blk (by decide) hb
    · exact h.cc b hx hb
  · intro b hb hc
    rcases hat.fresh b hb with h1 | h1
    · exact h.cc b h1 hc
    · have := ownsRow_lt h.ref.own b hc
      omega
theorem Pair.fedM (h : Pair w0 wk g cv d gm mv e) (hat : RFeedAt wk gm mv w' mv' o ps e') : Pair w0 w' g cv d gm mv' e' := by
  refine ⟨⟨Below.keeps h.sit.below hat.keep h.sit.le ?_, h.sit.obj.keeps hat.keep ?_ ?_, h.sit.hg, h.sit.hcv⟩, hat.obj, h.hg, ?_, ?_⟩
  · rintro i (rfl | hx)
    · exact h.hg
    · exact h.hmv i hx
  · rintro (hx | hx)
    · exact h.ne hx
    · exact ownsRow_ne h.ref.own h.sit.obj.blk (by decide) hx
  · rintro b hb (rfl | hx)
    · exact ownsRow_ne h.sit.obj.own h.ref.blk (by decide) hb
    · exact h.cc b hb hx
  · intro b hb
    rcases hat.fresh b hb with h1 | h1
    · exact h.hmv b h1
    · exact Nat.le_trans h.sit.le h1
  · intro b hb hc
    rcases hat.fresh b hc with h1 | h1
    · exact h.cc b hb h1
    · have := ownsRow_lt h.sit.obj.own b hb
      omega
theorem Pair.store (h : Pair w0 wk g cv d gm mv e) (hd : DObj w' g (.slice none 0 0) d') (k : Keeps (only g) wk w') : Pair w0 w' g (.slice none 0 0) d' gm mv e := by
  refine ⟨⟨Below.keeps h.sit.below k h.sit.le (by intro i hi; have hi : i = g := hi; subst hi; exact h.sit.hg), hd, h.sit.hg, fun b hb => by simp [Value.ownBlock] at hb⟩, h.ref.keeps k ?_ ?_, h.hg, h.hmv, fun b hb => by simp [Value.ownBlock] at hb⟩
  · intro hx
    exact h.ne (show gm = g from hx).symm
  · intro b hb hx
    have hx : b = g := hx
    subst hx
    exact ownsRow_ne h.ref.own h.sit.obj.blk (by decide) hb
theorem Pair.aside (h : Pair w0 wk g cv d gm mv e) (b : Nat) (hb : b < w0.heap.size) : ¬ dfw gm mv b := by
  rintro (rfl | hx)
  · have := h.hg
    omega
  · have := h.hmv b hx
    omega
/-- What the deframer told stays while the document's is fed. -/
theorem Pair.toldM (h : Pair w0 wk g cv d gm mv e) (hat : FeedAt wk g cv w' cv' o ps d') {w'' : World} {mv' o' : Value} {qs : List (Value × List UInt8)} (hat2 : RFeedAt w' gm mv w'' mv' o' qs e') : Told w'' wk.heap.size o ps := by
  have hp := h.fedD hat
  refine hat.told.keeps hat2.keep ?_ ?_
  · rintro b hb (rfl | hx)
    · exact ownsRow_ne hat.told.own hp.ref.blk (by decide) hb
    · exact rows_apart hat.told.own hp.ref.own (by decide) b hb hx
  · rintro p hm b hb (rfl | hx)
    · exact ownsRow_ne (hat.told.rows p hm) hp.ref.blk (by decide) hb
    · rcases hat.rows p hm b hb with h1 | h1
      · exact h.cc b h1 hx
      · have := ownsRow_lt h.ref.own b hx
        omega
end
end Go.Proofs.Ytapcclahekkgpaa
