/- Contract of a deframer's Feed. -/
import Derived.Test.YtkllaghfiofnjaaDoorStuffC
namespace Go.Proofs.YtkllaghfiofnjaaDoor
open Go.RowKit

/-- A slice of slices of bytes of its own, each of them a row of its own. -/
structure Told (w : World) (base : Nat) (o : Value) (ps : List (Value × List UInt8)) : Prop where
  own : w.ownsRow base 25 1 o ps.length (ps.map Prod.fst)
  rows : ∀ p ∈ ps, w.ownsRow 0 5 1 p.1 p.2.length (u8s p.2)
theorem Told.nil (w : World) (base : Nat) : Told w base (.slice none 0 0) [] := ⟨⟨rfl, .inl ⟨rfl, rfl⟩⟩, by simp⟩
theorem Told.keeps {S : Nat → Prop} {w w' : World} {base : Nat} {o : Value} {ps : List (Value × List UInt8)} (h : Told w base o ps) (k : Keeps S w w') (ho : ∀ b, o.ownBlock = some b → ¬ S b)
    (hp : ∀ p ∈ ps, ∀ b, p.1.ownBlock = some b → ¬ S b) : Told w' base o ps :=
  ⟨ownsRow_keeps h.own k ho, fun p hm => ownsRow_keeps (h.rows p hm) k (hp p hm)⟩
theorem Told.base {w : World} {base base' : Nat} {o : Value} {ps : List (Value × List UInt8)} (h : Told w base o ps) (hb : base' ≤ base) : Told w base' o ps := ⟨ownsRow_base h.own hb, h.rows⟩
/-- Rows of unlike types lie in unlike blocks. -/
theorem rows_apart {w : World} {base base' : Nat} {o v : Value} {e t : TypeId} {s s' n m : Nat} {xs ys : List Value} (h : w.ownsRow base e s o n xs) (k : w.ownsRow base' t s' v m ys) (hne : e ≠ t) (b : Nat) (hb : o.ownBlock = some b) : v.ownBlock ≠ some b := by
  intro hv
  rcases h.2 with ⟨rfl, _⟩ | ⟨g, cap, cur, rfl, _, hh, _⟩
  · simp [Value.ownBlock] at hb
  · have hg : g = b := by simpa [Value.ownBlock] using hb
    subst hg
    exact ownsRow_ne k (show Blk w g e cur from hh) (fun e => hne e.symm) hv

/-- Within Feed: from the world w, where the frame lay at v. -/
structure FeedAt (w : World) (g : Nat) (v : Value) (wr : World) (cv o : Value) (ps : List (Value × List UInt8)) (d : Pure.DF) : Prop where
  told : Told wr w.heap.size o ps
  obj : DObj wr g cv d
  keep : Keeps (dfw g v) w wr
  fresh : Fresh w v cv
  apart : ∀ p ∈ ps, ∀ b, p.1.ownBlock = some b → cv.ownBlock ≠ some b
  rows : ∀ p ∈ ps, Fresh w v p.1
theorem FeedAt.step {w wr w' : World} {g : Nat} {v cv o cv' : Value} {ps : List (Value × List UInt8)} {d d' : Pure.DF} (h : FeedAt w g v wr cv o ps d) (hd : DObj w' g cv' d') (k : Keeps (dfw g cv) wr w') (hf : Fresh wr cv cv') :
    FeedAt w g v w' cv' o ps d' := by
  refine ⟨h.told.keeps k ?_ ?_, hd, h.keep.trans' k ?_, ?_, ?_, h.rows⟩
  · rintro b hb (rfl | hs)
    · exact ownsRow_ne h.told.own h.obj.blk (by decide) hb
    · exact rows_apart h.told.own h.obj.own (by decide) b hb hs
  · rintro p hp b hb (rfl | hs)
    · exact ownsRow_ne (h.told.rows p hp) h.obj.blk (by decide) hb
    · exact h.apart p hp b hb hs
  · rintro i (rfl | hs) hi
    · exact .inl rfl
    · rcases h.fresh i hs with h | h
      · exact .inr h
      · omega
  · intro b hb
    rcases hf b hb with h1 | h1
    · exact h.fresh b h1
    · exact .inr (Nat.le_trans h.keep.size h1)
  · intro p hp b hb hc
    rcases hf b hc with h1 | h1
    · exact h.apart p hp b hb h1
    · have := ownsRow_lt (h.told.rows p hp) b hb
      omega
theorem FeedAt.same {w wr w' : World} {g : Nat} {v cv o : Value} {ps : List (Value × List UInt8)} {d d' : Pure.DF} (h : FeedAt w g v wr cv o ps d) (hd : DObj w' g cv d') (k : Keeps (only g) wr w') : FeedAt w g v w' cv o ps d' :=
  h.step hd (k.mono fun _ e => .inl e) (fun _ hb => .inl hb)
/-- A frame is told. -/
theorem FeedAt.more {w wr w' w'' : World} {g : Nat} {v cv o o' u : Value} {c : Obj} {f : List UInt8} {ps : List (Value × List UInt8)} {d d' : Pure.DF} (h : FeedAt w g v wr cv o ps d) (hd : DObj w' g (.slice none 0 0) d') (k : Keeps (only g) wr w')
    (hu : w'.ownsRow 0 5 1 u f.length (u8s f)) (hb : ∀ b, u.ownBlock = some b → cv.ownBlock = some b)
    (ho : w''.ownsRow w.heap.size 25 1 o' (ps.map Prod.fst ++ [u]).length (ps.map Prod.fst ++ [u])) (hg : (w'.alloc c).grownBy w'' o.ownBlock) :
    FeedAt w g v w'' (.slice none 0 0) o' (ps ++ [(u, f)]) d' := by
  have h1 : FeedAt w g v w' (.slice none 0 0) o ps d' := h.step hd (k.mono fun _ e => .inl e) (fun b hb => by simp [Value.ownBlock] at hb)
  have hk : Keeps (fun b => o.ownBlock = some b) w' w'' := ((Keeps.refl _ w').alloc c).grown hg (fun k hk _ => hk)
  have hog : ∀ b, o.ownBlock = some b → w.heap.size ≤ b := ownsRow_ge h1.told.own
  have hun : ∀ b, u.ownBlock = some b → o.ownBlock ≠ some b := rows_apart hu h1.told.own (by decide)
  refine ⟨⟨by simpa using ho, ?_⟩, ?_, ?_, ?_, ?_, ?_⟩
  · intro p hp
    rcases List.mem_append.1 hp with hp | hp
    · exact ownsRow_keeps (h1.told.rows p hp) hk (fun b hb hs => rows_apart (h1.told.rows p hp) h1.told.own (by decide) b hb hs)
    · simp at hp
      subst hp
      exact ownsRow_keeps hu hk (fun b hb hs => hun b hb hs)
  · exact h1.obj.keeps hk (fun hs => ownsRow_ne h1.told.own h1.obj.blk (by decide) hs) (fun b hb => by simp [Value.ownBlock] at hb)
  · exact h1.keep.trans' hk (fun i hi hlt => by have := hog i hi; omega)
  · intro b hb
    simp [Value.ownBlock] at hb
  · intro p hp b hb
    simp [Value.ownBlock]
  · intro p hp
    rcases List.mem_append.1 hp with hp | hp
    · exact h1.rows p hp
    · simp at hp
      subst hp
      exact fun b hbb => h.fresh b (hb b hbb)
end Go.Proofs.YtkllaghfiofnjaaDoor
