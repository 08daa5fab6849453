/- The document's deframer, and what its Feed keeps. -/
import Derived.Test.YtapcclahekkgpaaStuffD
namespace Go.Proofs.Ytapcclahekkgpaa
open Go.RowKit

/-- The document's deframer at block g. -/
structure MObj (w : World) (g : Nat) (v : Value) (d : Pure.DF) : Prop where
  blk : Blk w g 37 #[.int .u32 d.accm, .int .i64 d.most, v, .bool d.esc, .int .i64 d.dropped]
  own : w.ownsRow 0 5 1 v d.frame.length (u8s d.frame)
  accm : d.accm < 4294967296
  lo : 1 ≤ d.most
  hi : d.most ≤ 4096
theorem MObj.ne {w : World} {g : Nat} {v : Value} {d : Pure.DF} (h : MObj w g v d) : v.ownBlock ≠ some g := ownsRow_ne h.own h.blk (by decide)
theorem MObj.keeps {S : Nat → Prop} {w w' : World} {g : Nat} {v : Value} {d : Pure.DF} (h : MObj w g v d) (k : Keeps S w w') (h1 : ¬ S g) (h2 : ∀ b, v.ownBlock = some b → ¬ S b) : MObj w' g v d :=
  ⟨h.blk.keeps k h1, ownsRow_keeps h.own k h2, h.accm, h.lo, h.hi⟩
theorem MObj.lt {w : World} {g : Nat} {v : Value} {d : Pure.DF} (h : MObj w g v d) : g < w.heap.size := h.blk.lt

/-- Within Feed: from the world w, where the frame lay at v. -/
structure RFeedAt (w : World) (g : Nat) (v : Value) (wr : World) (cv o : Value) (ps : List (Value × List UInt8)) (d : Pure.DF) : Prop where
  told : Told wr w.heap.size o ps
  obj : MObj wr g cv d
  keep : Keeps (dfw g v) w wr
  fresh : Fresh w v cv
  apart : ∀ p ∈ ps, ∀ b, p.1.ownBlock = some b → cv.ownBlock ≠ some b
  rows : ∀ p ∈ ps, Fresh w v p.1
theorem RFeedAt.step {w wr w' : World} {g : Nat} {v cv o cv' : Value} {ps : List (Value × List UInt8)} {d d' : Pure.DF} (h : RFeedAt w g v wr cv o ps d) (hd : MObj w' g cv' d') (k : Keeps (dfw g cv) wr w') (hf : Fresh wr cv cv') :
    RFeedAt w g v w' cv' o ps d' := by
  refine ⟨h.told.keeps k ?_ ?_, hd, h.keep.trans' k ?_, ?_, ?_, h.rows⟩
  · rintro b hb (rfl | hs)
    · exact ownsRow_ne h.told.own h.obj.blk (by decide) hb
    · exact rows_apart h.told.own h.obj.own (by decide) b hb hs
  · rintro p hp b hb (rfl | hs)
    · exact ownsRow_ne (h.told.rows p hp) h.obj.blk (by decide) hb
    · exact h.apart p hp b hb hs
  · rintro i (rfl | hs) hi
    · exact .inl rfl
    · rcases h.fresh i hs with h | h
      · exact .inr h
      · omega
  · intro b hb
    rcases hf b hb with h1 | h1
    · exact h.fresh b h1
    · exact .inr (Nat.le_trans h.keep.size h1)
  · intro p hp b hb hc
    rcases hf b hc with h1 | h1
    · exact h.apart p hp b hb h1
    · have := ownsRow_lt (h.told.rows p hp) b hb
      omega
theorem RFeedAt.same {w wr w' : World} {g : Nat} {v cv o : Value} {ps : List (Value × List UInt8)} {d d' : Pure.DF} (h : RFeedAt w g v wr cv o ps d) (hd : MObj w' g cv d') (k : Keeps (only g) wr w') : RFeedAt w g v w' cv o ps d' :=
  h.step hd (k.mono fun _ e => .inl e) (fun _ hb => .inl hb)
/-- A copy of the frame is told. -/
theorem RFeedAt.more {w wr w' w'' : World} {g : Nat} {v cv o o' u : Value} {c : Obj} {f : List UInt8} {ps : List (Value × List UInt8)} {d : Pure.DF} (h : RFeedAt w g v wr cv o ps d) (k : Below wr.heap.size wr w')
    (hu : w'.ownsRow wr.heap.size 5 1 u f.length (u8s f))
    (ho : w''.ownsRow w.heap.size 28 1 o' (ps.map Prod.fst ++ [u]).length (ps.map Prod.fst ++ [u])) (hg : (w'.alloc c).grownBy w'' o.ownBlock) :
    RFeedAt w g v w'' cv o' (ps ++ [(u, f)]) d := by
  have k0 : Keeps nobody wr w' := Keeps.new k
  have h1 : RFeedAt w g v w' cv o ps d := h.step (h.obj.keeps k0 (fun h => h) (fun _ _ h => h)) (k0.mono fun _ h => h.elim) (fun _ hb => .inl hb)
  have hk : Keeps (fun b => o.ownBlock = some b) w' w'' := ((Keeps.refl _ w').alloc c).grown hg (fun k hk _ => hk)
  have hog : ∀ b, o.ownBlock = some b → w.heap.size ≤ b := ownsRow_ge h1.told.own
  have hun : ∀ b, u.ownBlock = some b → o.ownBlock ≠ some b := rows_apart hu h1.told.own (by decide)
  refine ⟨⟨by simpa using ho, ?_⟩, ?_, ?_, h.fresh, ?_, ?_⟩
  · intro p hp
    rcases List.mem_append.1 hp with hp | hp
    · exact ownsRow_keeps (h1.told.rows p hp) hk (fun b hb hs => rows_apart (h1.told.rows p hp) h1.told.own (by decide) b hb hs)
    · simp at hp
      subst hp
      exact ownsRow_base (ownsRow_keeps hu hk (fun b hb hs => hun b hb hs)) (Nat.zero_le _)
  · exact h1.obj.keeps hk (fun hs => ownsRow_ne h1.told.own h1.obj.blk (by decide) hs) (fun b hb hs => rows_apart h1.obj.own h1.told.own (by decide) b hb hs)
  · exact h1.keep.trans' hk (fun i hi hlt => by have := hog i hi; omega)
  · intro p hp b hb hc
    rcases List.mem_append.1 hp with hp | hp
    · exact h.apart p hp b hb hc
    · simp at hp
      subst hp
      have h2 := ownsRow_ge hu b hb
      have h3 := ownsRow_lt h.obj.own b hc
      omega
  · intro p hp
    rcases List.mem_append.1 hp with hp | hp
    · exact h1.rows p hp
    · simp at hp
      subst hp
      exact fun b hbb => .inr (Nat.le_trans h.keep.size (ownsRow_ge hu b hbb))
end Go.Proofs.Ytapcclahekkgpaa
