/- What the walks of stuff's laws carry from call to call: a deframer of their own, frames that were told. -/
import Derived.Test.YtapcclahekkgpaaLaw3A
namespace Go.Proofs.Ytapcclahekkgpaa
open Go.RowKit

theorem Row.alloc {w : World} {F : Nat → Prop} {size : Nat} {v : Value} {n : Nat} {xs : List Value} (h : Row w F size v n xs) (o : Obj) : Row (w.alloc o) F size v n xs :=
  h.keeps ((Keeps.refl nobody w).alloc o) (fun _ _ h => h)
/-- Slices of bytes that were just put into a slice. -/
theorem frow_new (w : World) (F : Nat → Prop) (ps : List (Value × List UInt8)) (cs : Array Value) (n : Nat) (hc : cs = (ps.map Prod.fst).toArray) (hn : n = ps.length) (hl : ps.length ≤ 100000)
    (hr : ∀ p ∈ ps, Row w F 1 p.1 p.2.length (u8s p.2)) : FRow (w.alloc (.cells cs 28)) (fun b => b = w.heap.size ∨ F b) (.slice (some ⟨w.heap.size, 0, none⟩) n n) ps := by
  subst hc hn
  exact ⟨Row.block (Blk.new w 28 (ps.map Prod.fst).toArray) (.inl rfl) (by simp) (by unfold maxLen; omega) (Nat.le_refl _), fun p hp => ((hr p hp).alloc _).mono (fun _ h => .inr h)⟩

theorem frames_true (F G : Nat → Prop) (x y : Value) (ps qs : List (Value × List UInt8)) (w : World) (hx : FRow w F x ps) (hy : FRow w G y qs) (h : ps.map Prod.snd = qs.map Prod.snd) :
    Calls Try.prog 18 #[x, y] w fun e w' => e = .returned (.bool true) ∧ Keeps nobody w w' :=
  (frames_q F G x y ps qs w hx hy).mono fun _ _ ⟨h1, _, h2⟩ => ⟨by rw [h1, decide_eq_true h], Keeps.of_drewN h2⟩

/-- A deframer that is newer than the world w0. -/
structure Sit (w0 wk : World) (g : Nat) (cv : Value) (d : Pure.DF) : Prop where
  below : Below w0.heap.size w0 wk
  obj : DObj wk g cv d
  hg : w0.heap.size ≤ g
  hcv : ∀ b, cv.ownBlock = some b → w0.heap.size ≤ b
section
variable {w0 wk w' : World} {g : Nat} {cv cv' o : Value} {d d' : Pure.DF} {ps : List (Value × List UInt8)}
theorem Sit.new (hb : Below w0.heap.size w0 wk) (hd : DObj w' wk.heap.size (.slice none 0 0) d) (hk : Below wk.heap.size wk w') : Sit w0 w' wk.heap.size (.slice none 0 0) d :=
  ⟨hb.trans (hk.mono hb.size), hd, hb.size, fun b h => by simp [Value.ownBlock] at h⟩
theorem Sit.le (h : Sit w0 wk g cv d) : w0.heap.size ≤ wk.heap.size := h.below.size
theorem Sit.apart (h : Sit w0 wk g cv d) (b : Nat) (hb : wk.heap.size ≤ b) : ¬ dfw g cv b := by
  rintro (rfl | h2)
  · have := h.obj.lt
    omega
  · have := ownsRow_lt h.obj.own b h2
    omega
theorem Sit.apart0 (h : Sit w0 wk g cv d) (b : Nat) (hb : b < w0.heap.size) : ¬ dfw g cv b := by
  rintro (rfl | h2)
  · have := h.hg
    omega
  · have := h.hcv b h2
    omega
theorem Sit.more (h : Sit w0 wk g cv d) (k : Below wk.heap.size wk w') : Sit w0 w' g cv d :=
  ⟨h.below.trans (k.mono h.le), h.obj.keeps (Keeps.new k) (fun h => h) (fun _ _ h => h), h.hg, h.hcv⟩
theorem Sit.alloc (h : Sit w0 wk g cv d) (c : Obj) : Sit w0 (wk.alloc c) g cv d := h.more ((Below.refl _ _).alloc (Nat.le_refl _) c)
theorem Sit.quiet (h : Sit w0 wk g cv d) (k : Keeps nobody wk w') : Sit w0 w' g cv d := h.more k.to_below
theorem Sit.fed (h : Sit w0 wk g cv d) (hat : FeedAt wk g cv w' cv' o ps d') : Sit w0 w' g cv' d' :=
  ⟨Below.fed h.below hat h.le h.hg h.hcv, hat.obj, h.hg, fun b hb => by
    rcases hat.fresh b hb with h1 | h1
    · exact h.hcv b h1
    · exact Nat.le_trans h.le h1⟩
theorem Sit.row (h : Sit w0 wk g cv d) {v : Value} {n size : Nat} {xs : List Value} {F : Nat → Prop} (hr : Row w0 F size v n xs) : Row wk F size v n xs := hr.keeps (Keeps.new h.below) (fun _ _ h => h)
end

/-- Frames that were told: they lie apart from the frame that has begun. -/
structure Kept (wk : World) (g : Nat) (cv : Value) (base : Nat) (o : Value) (ps : List (Value × List UInt8)) : Prop where
  told : Told wk base o ps
  og : o.ownBlock ≠ some g
  ocv : ∀ b, o.ownBlock = some b → cv.ownBlock ≠ some b
  pg : ∀ p ∈ ps, p.1.ownBlock ≠ some g
  pcv : ∀ p ∈ ps, ∀ b, p.1.ownBlock = some b → cv.ownBlock ≠ some b
section
variable {w wk w' : World} {g base : Nat} {v cv cv' o o' : Value} {d d' : Pure.DF} {ps qs : List (Value × List UInt8)}
theorem Kept.of_told (h : Told wk base o ps) (hd : DObj wk g cv d) (hp : ∀ p ∈ ps, ∀ b, p.1.ownBlock = some b → cv.ownBlock ≠ some b) : Kept wk g cv base o ps :=
  ⟨h, ownsRow_ne h.own hd.blk (by decide), fun b hb => rows_apart h.own hd.own (by decide) b hb, fun p hm => ownsRow_ne (h.rows p hm) hd.blk (by decide), hp⟩
theorem FeedAt.kept (h : FeedAt w g v wk cv o ps d) : Kept wk g cv w.heap.size o ps := Kept.of_told h.told h.obj h.apart
theorem Kept.quiet (h : Kept wk g cv base o ps) (k : Keeps nobody wk w') : Kept w' g cv base o ps :=
  ⟨h.told.keeps k (fun _ _ h => h) (fun _ _ _ _ h => h), h.og, h.ocv, h.pg, h.pcv⟩
theorem Kept.more (h : Kept wk g cv base o ps) (k : Below wk.heap.size wk w') : Kept w' g cv base o ps := h.quiet (Keeps.new k)
theorem Kept.alloc (h : Kept wk g cv base o ps) (c : Obj) : Kept (wk.alloc c) g cv base o ps := h.quiet ((Keeps.refl nobody wk).alloc c)
theorem Kept.fed (h : Kept wk g cv base o ps) (hat : FeedAt wk g cv w' cv' o' qs d') : Kept w' g cv' base o ps := by
  refine ⟨h.told.keeps hat.keep ?_ ?_, h.og, ?_, h.pg, ?_⟩
  · rintro b hb (rfl | h2)
    · exact h.og hb
    · exact h.ocv b hb h2
  · rintro p hp b hb (rfl | h2)
    · exact h.pg p hp hb
    · exact h.pcv p hp b hb h2
  · intro b hb hc
    rcases hat.fresh b hc with h1 | h1
    · exact h.ocv b hb h1
    · have := ownsRow_lt h.told.own b hb
      omega
  · intro p hp b hb hc
    rcases hat.fresh b hc with h1 | h1
    · exact h.pcv p hp b hb h1
    · have := ownsRow_lt (h.told.rows p hp) b hb
      omega
end
end Go.Proofs.Ytapcclahekkgpaa
