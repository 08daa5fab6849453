/- Two negotiators, and the packets that wait for each of them. -/
import Derived.Test.YtjomcffhbaplcaaGreatDoorQ43
import Derived.Test.YtjomcffhbaplcaaGreatDoorQ35
import Derived.Test.YtjomcffhbaplcaaGreatDoorQ44
import Derived.Test.YtjomcffhbaplcaaGreatDoorQ27
import Derived.Test.YtjomcffhbaplcaaGreatDoorQ30
import Derived.Test.YtjomcffhbaplcaaGreatDoorQ40
namespace Go.Proofs.YtjomcffhbaplcaaGreatDoor
open Go.RowKit
/-- Packets that wait: a window of their structs, and each one's bytes, in blocks that nobody turns. -/
structure QWin (w : World) (F : Nat → Prop) (c : Nat → Nat) (v : Value) (ps : List (Value × Pure.Pkt)) : Prop where
  win : WinOf w F 40 3 v ps.length (pktsCells ps)
  rows : ∀ p ∈ ps, Row w (fun b => c b = 0 ∧ b < w.heap.size) 1 p.1 p.2.data.length (u8s p.2.data)
theorem QWin.keeps {w w' : World} {F S : Nat → Prop} {c c' : Nat → Nat} {v : Value} {ps : List (Value × Pure.Pkt)} (h : QWin w F c v ps) (k : Keeps S w w') (hF : ∀ b, F b → ¬ S b) (h0 : ∀ b, c b = 0 → b < w.heap.size → ¬ S b ∧ c' b = 0) : QWin w' F c' v ps :=
  ⟨h.win.keeps k hF, fun p hp => ((h.rows p hp).keeps k (fun b hb => (h0 b hb.1 hb.2).1)).mono (fun b hb => ⟨(h0 b hb.1 hb.2).2, Nat.lt_of_lt_of_le hb.2 k.size⟩)⟩
/-- A negotiator at block g, its machine at gm. -/
def NAt (w : World) (g : Nat) (gm : GM) (R : Nat → Prop) (n : Pure.Neg) : Prop := ∃ f, NObj w g R f n ∧ f.gm = gm ∧ gm.j = byRules g
theorem NAt.keeps {w w' : World} {g : Nat} {gm : GM} {R S : Nat → Prop} {n : Pure.Neg} (h : NAt w g gm R n) (k : Keeps S w w') (hg : ¬ S g) (hm : ¬ S gm) (hs : ∀ b, R b → ¬ S b) : NAt w' g gm R n := by
  obtain ⟨f, h1, rfl, h2⟩ := h
  exact ⟨f, h1.keeps k hg hm hs, rfl, h2⟩
theorem NAt.lt {w : World} {g : Nat} {gm : GM} {R : Nat → Prop} {n : Pure.Neg} (h : NAt w g gm R n) : g < w.heap.size ∧ gm < w.heap.size ∧ ∀ b, R b → b < w.heap.size := by
  obtain ⟨f, h1, rfl, _⟩ := h
  exact ⟨h1.blk.lt, Blk.lt h1.mach, h1.lt⟩
/-- One of the two (number i) and the other one, in a later world; each block has a colour: 0 is read alone. -/
structure NDuo (w0 w : World) (c : Nat → Nat) (Rm Ro Fm Fo : Nat → Prop) (g mb i : Nat) (Vm Vo : Value) (lm lo : List Pure.Pkt) (gx : Nat) (mx : GM) (gy : Nat) (my : GM) (Mm Mo : Pure.Neg) : Prop where
  i1 : i ≤ 1
  env : Env13 w0
  bel : Below w0.heap.size w0 w
  me : NAt w gx mx Rm Mm
  ot : NAt w gy my Ro Mo
  q : ∃ cur : Array Value, Blk w g 35 cur ∧ cur.size = 2 ∧ cur[i]? = some Vm ∧ cur[1 - i]? = some Vo
  m : ∃ cur : Array Value, Blk w mb 29 cur ∧ cur.size = 2 ∧ cur[i]? = some (.pointer (some ⟨gx, 0, none⟩)) ∧ cur[1 - i]? = some (.pointer (some ⟨gy, 0, none⟩))
  wm : ∃ ps, ps.map Prod.snd = lm ∧ QWin w Fm c Vm ps
  wo : ∃ ps, ps.map Prod.snd = lo ∧ QWin w Fo c Vo ps
  cgx : c gx = 1
  cmx : c mx = 1
  cgy : c gy = 2
  cmy : c my = 2
  cfm : ∀ b, Fm b → c b = 3 ∧ b < w.heap.size
  cfo : ∀ b, Fo b → c b = 4 ∧ b < w.heap.size
  cg : c g = 5
  cmb : c mb = 6
  crm : ∀ b, Rm b → c b = 0
  cro : ∀ b, Ro b → c b = 0
  new : ∀ b, b < w.heap.size → c b ≠ 0 → w0.heap.size ≤ b
def NPair (w0 w : World) (g mb i : Nat) (Vm Vo : Value) (lm lo : List Pure.Pkt) (gx : Nat) (mx : GM) (gy : Nat) (my : GM) (Mm Mo : Pure.Neg) : Prop :=
  ∃ c Rm Ro Fm Fo, NDuo w0 w c Rm Ro Fm Fo g mb i Vm Vo lm lo gx mx gy my Mm Mo
/-- .. and packets that were sent, but wait for nobody yet. -/
def NPend (w0 w : World) (g mb i : Nat) (Vm Vo : Value) (lm lo : List Pure.Pkt) (gx : Nat) (mx : GM) (gy : Nat) (my : GM) (Mm Mo : Pure.Neg) (sv : Value) (l : List Pure.Pkt) : Prop :=
  ∃ c Rm Ro Fm Fo, NDuo w0 w c Rm Ro Fm Fo g mb i Vm Vo lm lo gx mx gy my Mm Mo ∧ ∃ ps : List (Value × Pure.Pkt), ps.map Prod.snd = l ∧ ps.length ≤ 100 ∧ PRow w (fun b => c b = 0 ∧ b < w.heap.size) sv ps
section
variable {w0 w w' : World} {g mb i gx gy : Nat} {mx my : GM} {Vm Vo : Value} {lm lo : List Pure.Pkt} {Mm Mo : Pure.Neg}
theorem NDuo.swap {c : Nat → Nat} {Rm Ro Fm Fo : Nat → Prop} (h : NDuo w0 w c Rm Ro Fm Fo g mb i Vm Vo lm lo gx mx gy my Mm Mo) :
    NDuo w0 w (fun b => if c b = 1 then 2 else if c b = 2 then 1 else if c b = 3 then 4 else if c b = 4 then 3 else c b) Ro Rm Fo Fm g mb (1 - i) Vo Vm lo lm gy my gx mx Mo Mm := by
  have hi := h.i1
  have e : 1 - (1 - i) = i := by omega
  have hq : ∀ (F : Nat → Prop) v ps, QWin w F c v ps → QWin w F (fun b => if c b = 1 then 2 else if c b = 2 then 1 else if c b = 3 then 4 else if c b = 4 then 3 else c b) v ps := fun F v ps hq => hq.keeps (Keeps.refl nobody w) (fun _ _ h => h) (fun b hb _ => ⟨fun h => h, by simp [hb]⟩)
  refine ⟨by omega, h.env, h.bel, h.ot, h.me, ?_, ?_, ?_, ?_, ?_, ?_, ?_, ?_, ?_, ?_, ?_, ?_, ?_, ?_, ?_⟩
  · obtain ⟨cur, a, b, d, f⟩ := h.q
    exact ⟨cur, a, b, f, by rw [e]; exact d⟩
  · obtain ⟨cur, a, b, d, f⟩ := h.m
    exact ⟨cur, a, b, f, by rw [e]; exact d⟩
  · obtain ⟨ps, h1, h2⟩ := h.wo; exact ⟨ps, h1, hq _ _ _ h2⟩
  · obtain ⟨ps, h1, h2⟩ := h.wm; exact ⟨ps, h1, hq _ _ _ h2⟩
  · have := h.cgy; simp [this]
  · have := h.cmy; simp [this]
  · have := h.cgx; simp [this]
  · have := h.cmx; simp [this]
  · intro b hb; have := h.cfo b hb; exact ⟨by simp [this.1], this.2⟩
  · intro b hb; have := h.cfm b hb; exact ⟨by simp [this.1], this.2⟩
  · have := h.cg; simp [this]
  · have := h.cmb; simp [this]
  · intro b hb; have := h.cro b hb; simp [this]
  · intro b hb; have := h.crm b hb; simp [this]
  · intro b hb hc
    refine h.new b hb (fun h0 => hc ?_)
    simp [h0]
theorem NPair.swap (h : NPair w0 w g mb i Vm Vo lm lo gx mx gy my Mm Mo) : NPair w0 w g mb (1 - i) Vo Vm lo lm gy my gx mx Mo Mm := by
  obtain ⟨c, Rm, Ro, Fm, Fo, h⟩ := h
  exact ⟨_, _, _, _, _, h.swap⟩
/-- A step that turns only blocks of one colour that is not read. -/
theorem NDuo.same {c : Nat → Nat} {Rm Ro Fm Fo S : Nat → Prop} (h : NDuo w0 w c Rm Ro Fm Fo g mb i Vm Vo lm lo gx mx gy my Mm Mo) (k : Keeps S w w') (h1 : ∀ b, S b → b < w.heap.size → c b ≠ 0 ∧ c b ≠ 1 ∧ c b ≠ 2 ∧ c b ≠ 3 ∧ c b ≠ 6) :
    Below w0.heap.size w0 w' ∧ NAt w' gx mx Rm Mm ∧ NAt w' gy my Ro Mo ∧ (∃ ps, ps.map Prod.snd = lm ∧ QWin w' Fm c Vm ps) ∧
      ∃ cur : Array Value, Blk w' mb 29 cur ∧ cur.size = 2 ∧ cur[i]? = some (.pointer (some ⟨gx, 0, none⟩)) ∧ cur[1 - i]? = some (.pointer (some ⟨gy, 0, none⟩)) := by
  have hml := h.me.lt
  have hol := h.ot.lt
  refine ⟨⟨k.os.trans h.bel.os, k.tape.trans h.bel.tape, k.output.trans h.bel.output, Nat.le_trans h.bel.size k.size, fun b hb => (k.block b (Nat.lt_of_lt_of_le hb h.bel.size) (fun hs => ?_)).trans (h.bel.block b hb)⟩, h.me.keeps k (fun e => (h1 _ e hml.1).2.1 h.cgx) (fun e => (h1 _ e hml.2.1).2.1 h.cmx) (fun b hb e => (h1 b e (hml.2.2 b hb)).1 (h.crm b hb)), h.ot.keeps k (fun e => (h1 _ e hol.1).2.2.1 h.cgy) (fun e => (h1 _ e hol.2.1).2.2.1 h.cmy) (fun b hb e => (h1 b e (hol.2.2 b hb)).1 (h.cro b hb)), ?_, ?_⟩
  · have h2 := h1 b hs (Nat.lt_of_lt_of_le hb h.bel.size)
    have := h.new b (Nat.lt_of_lt_of_le hb h.bel.size) h2.1
    omega
  · obtain ⟨ps, e1, e2⟩ := h.wm
    exact ⟨ps, e1, e2.keeps k (fun b hb e => (h1 b e (h.cfm b hb).2).2.2.2.1 (h.cfm b hb).1) (fun b hb hl => ⟨fun e => (h1 b e hl).1 hb, hb⟩)⟩
  · obtain ⟨cur, a, r⟩ := h.m
    exact ⟨cur, a.keeps k (fun e => (h1 mb e a.lt).2.2.2.2 h.cmb), r⟩
/-- Nothing of it has turned. -/
theorem NDuo.quiet {c : Nat → Nat} {Rm Ro Fm Fo : Nat → Prop} (h : NDuo w0 w c Rm Ro Fm Fo g mb i Vm Vo lm lo gx mx gy my Mm Mo) (k : Keeps nobody w w') : NDuo w0 w' c Rm Ro Fm Fo g mb i Vm Vo lm lo gx mx gy my Mm Mo := by
  obtain ⟨b1, b2, b3, b4, b5⟩ := h.same k (fun _ hs => hs.elim)
  refine ⟨h.i1, h.env, b1, b2, b3, ?_, b5, b4, ?_, h.cgx, h.cmx, h.cgy, h.cmy, fun b hb => ⟨(h.cfm b hb).1, Nat.lt_of_lt_of_le (h.cfm b hb).2 k.size⟩, fun b hb => ⟨(h.cfo b hb).1, Nat.lt_of_lt_of_le (h.cfo b hb).2 k.size⟩, h.cg, h.cmb, h.crm, h.cro, fun b hb hc => ?_⟩
  · obtain ⟨cur, a, r⟩ := h.q
    exact ⟨cur, a.keeps k (fun h => h), r⟩
  · obtain ⟨ps, e1, e2⟩ := h.wo
    exact ⟨ps, e1, e2.keeps k (fun _ _ h => h) (fun b hb _ => ⟨fun h => h, hb⟩)⟩
  · rcases Nat.lt_or_ge b w.heap.size with hl | hl
    · exact h.new b hl hc
    · exact Nat.le_trans h.bel.size hl
theorem NPair.quiet (h : NPair w0 w g mb i Vm Vo lm lo gx mx gy my Mm Mo) (k : Keeps nobody w w') : NPair w0 w' g mb i Vm Vo lm lo gx mx gy my Mm Mo := by
  obtain ⟨c, Rm, Ro, Fm, Fo, h⟩ := h
  exact ⟨_, _, _, _, _, h.quiet k⟩
theorem NPair.mine (h : NPair w0 w g mb i Vm Vo lm lo gx mx gy my Mm Mo) : w.cell? ⟨g, i, none⟩ = some Vm := by
  obtain ⟨c, Rm, Ro, Fm, Fo, h⟩ := h
  obtain ⟨cur, a, b, d, f⟩ := h.q
  rw [a.cell]; exact d
theorem NPair.other (h : NPair w0 w g mb i Vm Vo lm lo gx mx gy my Mm Mo) : w.cell? ⟨g, 1 - i, none⟩ = some Vo := h.swap.mine
theorem NPair.neg (h : NPair w0 w g mb i Vm Vo lm lo gx mx gy my Mm Mo) : w.cell? ⟨mb, i, none⟩ = some (.pointer (some ⟨gx, 0, none⟩)) := by
  obtain ⟨c, Rm, Ro, Fm, Fo, h⟩ := h
  obtain ⟨cur, a, b, d, f⟩ := h.m
  rw [a.cell]; exact d
theorem NPair.free (h : NPair w0 w g mb i Vm Vo lm lo gx mx gy my Mm Mo) (j : Nat) : w.frozen? ⟨g, j, none⟩ = false := by
  obtain ⟨c, Rm, Ro, Fm, Fo, h⟩ := h
  obtain ⟨cur, a, _⟩ := h.q
  exact a.frozen j
theorem NPair.form (h : NPair w0 w g mb i Vm Vo lm lo gx mx gy my Mm Mo) : ∃ A c, Vm = .slice A lm.length c := by
  obtain ⟨c, Rm, Ro, Fm, Fo, h⟩ := h
  obtain ⟨ps, e1, e2⟩ := h.wm
  obtain ⟨A, c, e, _⟩ := e2.win.form
  have hl : ps.length = lm.length := by rw [← e1, List.length_map]
  exact ⟨A, c, by rw [← hl]; exact e⟩
theorem NPair.below (h : NPair w0 w g mb i Vm Vo lm lo gx mx gy my Mm Mo) : Below w0.heap.size w0 w := by
  obtain ⟨c, Rm, Ro, Fm, Fo, h⟩ := h
  exact h.bel
/-- One of them as it lies. -/
theorem NPair.at (h : NPair w0 w g mb i Vm Vo lm lo gx mx gy my Mm Mo) : ∃ R f, NObj w gx R f Mm := by
  obtain ⟨c, Rm, Ro, Fm, Fo, h⟩ := h
  obtain ⟨f, h1, _⟩ := h.me
  exact ⟨_, f, h1⟩
/-- It has acted: what it sent waits for nobody yet. -/
theorem NDuo.turned {c : Nat → Nat} {Rm Ro Fm Fo : Nat → Prop} {f : NF} {n' : Pure.Neg} {o : Pure.Said} {v : Value} (h : NDuo w0 w c Rm Ro Fm Fo g mb i Vm Vo lm lo gx mx gy my Mm Mo) (hm : f.gm = mx) (hj : mx.j = byRules gx) (ho : Outs w w' v o) (hb : Becomes w w' gx Rm f n') :
    ∃ sv, v = .agg #[sv, .bool o.up, .bool o.down, .bool o.start, .bool o.done] ∧ NPend w0 w' g mb i Vm Vo lm lo gx mx gy my n' Mo sv o.send := by
  obtain ⟨f', R', hn, hgm, hsub, k⟩ := hb
  obtain ⟨sv, ps, rfl, hp, he, hfew⟩ := ho
  have hml := h.me.lt
  have hol := h.ot.lt
  have hgl : g < w.heap.size := by obtain ⟨cur, a, _⟩ := h.q; exact a.lt
  have hbl : mb < w.heap.size := by obtain ⟨cur, a, _⟩ := h.m; exact a.lt
  have hS : ∀ b, c b ≠ 1 → ¬ (b = gx ∨ b = f.gm) := fun b hb e => by
    rcases e with rfl | e
    · exact hb h.cgx
    · rw [hm] at e; subst e; exact hb h.cmx
  have hc : ∀ b, b < w.heap.size → (if w.heap.size ≤ b then 0 else c b) = c b := fun b hb => if_neg (by omega)
  have bel' : Below w0.heap.size w0 w' := ⟨k.os.trans h.bel.os, k.tape.trans h.bel.tape, k.output.trans h.bel.output, Nat.le_trans h.bel.size k.size, fun b hb => (k.block b (Nat.lt_of_lt_of_le hb h.bel.size) (fun e => by
    rcases e with e | e
    · have := h.new b (Nat.lt_of_lt_of_le hb h.bel.size) (by rw [e, h.cgx]; decide); omega
    · have := h.new b (Nat.lt_of_lt_of_le hb h.bel.size) (by rw [e, hm, h.cmx]; decide); omega)).trans (h.bel.block b hb)⟩
  refine ⟨sv, rfl, fun b => if w.heap.size ≤ b then 0 else c b, R', Ro, Fm, Fo, ⟨h.i1, h.env, bel', ⟨f', hn, hgm.trans hm, hj⟩, h.ot.keeps k (hS _ (by rw [h.cgy]; decide)) (hS _ (by rw [h.cmy]; decide)) (fun b hb => hS b (by rw [h.cro b hb]; decide)), ?_, ?_, ?_, ?_, ?_, ?_, ?_, ?_, ?_, ?_, ?_, ?_, ?_, ?_, ?_⟩, ps, he, hfew, hp.mono (fun b hb => ⟨if_pos hb.1, hb.2⟩)⟩
  · obtain ⟨cur, a, r⟩ := h.q
    exact ⟨cur, a.keeps k (hS g (by rw [h.cg]; decide)), r⟩
  · obtain ⟨cur, a, r⟩ := h.m
    exact ⟨cur, a.keeps k (hS mb (by rw [h.cmb]; decide)), r⟩
  · obtain ⟨qs, e1, e2⟩ := h.wm
    exact ⟨qs, e1, e2.keeps k (fun b hb => hS b (by rw [(h.cfm b hb).1]; decide)) (fun b hb hl => ⟨hS b (by rw [hb]; decide), by (try dsimp only); rw [hc b hl]; exact hb⟩)⟩
  · obtain ⟨qs, e1, e2⟩ := h.wo
    exact ⟨qs, e1, e2.keeps k (fun b hb => hS b (by rw [(h.cfo b hb).1]; decide)) (fun b hb hl => ⟨hS b (by rw [hb]; decide), by (try dsimp only); rw [hc b hl]; exact hb⟩)⟩
  · (try dsimp only); rw [hc _ hml.1]; exact h.cgx
  · (try dsimp only); rw [hc _ hml.2.1]; exact h.cmx
  · (try dsimp only); rw [hc _ hol.1]; exact h.cgy
  · (try dsimp only); rw [hc _ hol.2.1]; exact h.cmy
  · intro b hb; (try dsimp only); rw [hc b (h.cfm b hb).2]; exact ⟨(h.cfm b hb).1, Nat.lt_of_lt_of_le (h.cfm b hb).2 k.size⟩
  · intro b hb; (try dsimp only); rw [hc b (h.cfo b hb).2]; exact ⟨(h.cfo b hb).1, Nat.lt_of_lt_of_le (h.cfo b hb).2 k.size⟩
  · (try dsimp only); rw [hc _ hgl]; exact h.cg
  · (try dsimp only); rw [hc _ hbl]; exact h.cmb
  · intro b hb
    try dsimp only
    rcases Nat.lt_or_ge b w.heap.size with hl | hl
    · rw [hc b hl]
      rcases hsub b hb with h1 | h1
      · exact h.crm b h1
      · omega
    · exact if_pos hl
  · intro b hb; (try dsimp only); rw [hc b (hol.2.2 b hb)]; exact h.cro b hb
  · intro b hb hcb
    rcases Nat.lt_or_ge b w.heap.size with hl | hl
    · try dsimp only at hcb
      rw [hc b hl] at hcb
      exact h.new b hl hcb
    · exact Nat.le_trans h.bel.size hl
/-- It acts. -/
theorem NPair.act (h : NPair w0 w g mb i Vm Vo lm lo gx mx gy my Mm Mo) (e : Int) (he : e = 0 ∨ e = 1 ∨ e = 2 ∨ e = 3) (hnk : Mm.naks ≤ 1000) :
    Calls Tryz.prog 14 #[.pointer (some ⟨gx, 0, none⟩), .int .i64 e] w fun r w' => ∃ sv, r = .returned (.agg #[sv, .bool (Mm.act e).2.up, .bool (Mm.act e).2.down, .bool (Mm.act e).2.start, .bool (Mm.act e).2.done]) ∧ NPend w0 w' g mb i Vm Vo lm lo gx mx gy my (Mm.act e).1 Mo sv (Mm.act e).2.send := by
  obtain ⟨c, Rm, Ro, Fm, Fo, h⟩ := h
  obtain ⟨f, hn, hm, hj⟩ := h.me
  have hcall : Calls Tryz.prog 14 #[.pointer (some ⟨gx, 0, none⟩), .int .i64 e] w fun r w' => ∃ v, r = .returned v ∧ Outs w w' v (Mm.act e).2 ∧ Becomes w w' gx Rm f (Mm.act e).1 := by
    rcases he with rfl | he
    · exact do_up gx Rm f Mm w hn
    · exact do_other gx Rm f Mm e he w hn hnk
  refine hcall.mono ?_
  rintro r w' ⟨v, rfl, ho, hb⟩
  obtain ⟨sv, rfl, hp⟩ := h.turned hm hj ho hb
  exact ⟨sv, rfl, hp⟩
/-- Bytes that it may read. -/
def Hand (w : World) (g gx : Nat) (mx : GM) (d : Value) (p : Pure.Pkt) : Prop := Row w (fun b => b < w.heap.size ∧ b ≠ g ∧ b ≠ gx ∧ b ≠ mx) 1 d p.data.length (u8s p.data)
/-- It hears a packet. -/
theorem NPair.hear (h : NPair w0 w g mb i Vm Vo lm lo gx mx gy my Mm Mo) (d : Value) (p : Pure.Pkt) (hd : Hand w g gx mx d p) (hnk : Mm.naks ≤ 1000) (hrl : Mm.rules.length ≤ 1000) (hdr : Mm.dropped ≤ 1000000) :
    Calls Tryz.prog 15 #[.pointer (some ⟨gx, 0, none⟩), pktV p d] w fun r w' => ∃ sv, r = .returned (.agg #[sv, .bool (Mm.input p).2.up, .bool (Mm.input p).2.down, .bool (Mm.input p).2.start, .bool (Mm.input p).2.done]) ∧ NPend w0 w' g mb i Vm Vo lm lo gx mx gy my (Mm.input p).1 Mo sv (Mm.input p).2.send := by
  obtain ⟨c, Rm, Ro, Fm, Fo, h⟩ := h
  obtain ⟨f, hn, hm, hj⟩ := h.me
  have henv : Env13 w := h.env.below h.bel
  obtain ⟨a, ha⟩ := henv.sent
  have hcall : Calls Tryz.prog 15 #[.pointer (some ⟨gx, 0, none⟩), pktV p d] w fun r w' => ∃ v, r = .returned v ∧ Outs w w' v (Mm.input p).2 ∧ Becomes w w' gx Rm f (Mm.input p).1 := by
    by_cases hr : Mm.refuses p
    · exact input_drops _ Rm gx f Mm d p a w henv.handle ha hn (fun b hb => hb.1) hd hr hdr
    · exact input_heeds _ Rm gx f Mm d p a w henv.handle ha hn (by rw [hm]; exact hj) (fun b hb => ⟨hb.1, hb.2.2.1, by rw [hm]; exact hb.2.2.2⟩) hd hr hnk hrl
  refine hcall.mono ?_
  rintro r w' ⟨v, rfl, ho, hb⟩
  obtain ⟨sv, rfl, hp⟩ := h.turned hm hj ho hb
  exact ⟨sv, rfl, hp⟩
theorem NPend.form {sv : Value} {l : List Pure.Pkt} (h : NPend w0 w g mb i Vm Vo lm lo gx mx gy my Mm Mo sv l) : ∃ A c, sv = .slice A l.length c := by
  obtain ⟨_, _, _, _, _, _, ps, e1, _, hp⟩ := h
  obtain ⟨A, c, e, _⟩ := hp.form
  have hl : ps.length = l.length := by rw [← e1, List.length_map]
  exact ⟨A, c, by rw [← hl]; exact e⟩
theorem NPend.pair {sv : Value} {l : List Pure.Pkt} (h : NPend w0 w g mb i Vm Vo lm lo gx mx gy my Mm Mo sv l) : NPair w0 w g mb i Vm Vo lm lo gx mx gy my Mm Mo := by
  obtain ⟨c, Rm, Ro, Fm, Fo, h, _⟩ := h
  exact ⟨c, Rm, Ro, Fm, Fo, h⟩
/-- The first of what waits is taken. -/
theorem NPair.head {p : Pure.Pkt} {t : List Pure.Pkt} (h : NPair w0 w g mb i Vm Vo (p :: t) lo gx mx gy my Mm Mo) : ∃ bb oo cc d, Vm = .slice (some ⟨bb, oo, none⟩) (t.length + 1) cc ∧ t.length + 1 ≤ cc ∧ (∀ j u, (pktCells (d, p))[j]? = some u → w.cell? ⟨bb, oo + j, none⟩ = some u) ∧ Hand w g gx mx d p ∧
    NPair w0 (w.setCell ⟨g, i, none⟩ (cutS (some ⟨bb, oo, none⟩) cc 1 t.length 3)) g mb i (cutS (some ⟨bb, oo, none⟩) cc 1 t.length 3) Vo t lo gx mx gy my Mm Mo := by
  obtain ⟨c, Rm, Ro, Fm, Fo, h⟩ := h
  obtain ⟨ps, e1, e2⟩ := h.wm
  obtain ⟨⟨d, p'⟩, ps, rfl⟩ : ∃ q r, ps = q :: r := by
    cases ps with
    | nil => simp at e1
    | cons q r => exact ⟨q, r, rfl⟩
  rw [List.map_cons] at e1
  injection e1 with e1 e3
  have e1 : p' = p := e1
  subst e1
  have hl : ps.length = t.length := by rw [← e3, List.length_map]
  obtain ⟨hx, A, cap, rfl, hc1, hc2, hc3⟩ := e2.win
  rw [List.length_cons] at hc1 hx
  rcases hc3 with hc3 | ⟨bb, oo, cur, rfl, hFb, hB, hs, hcell⟩
  · omega
  have hw : WinOf w Fm 40 3 (.slice (some ⟨bb, oo, none⟩) (ps.length + 1) cap) (ps.length + 1) (pktsCells ((d, p') :: ps)) := e2.win
  have K : Keeps (only g) w (w.setCell ⟨g, i, none⟩ (cutS (some ⟨bb, oo, none⟩) cap 1 t.length 3)) := (Keeps.refl (only g) w).store g i (fun _ => rfl) _
  have cg := h.cg
  have hno : ∀ b, c b ≠ 5 → ¬ only g b := fun b hb e => hb (by have e : b = g := e; rw [e]; exact cg)
  have hi := h.i1
  obtain ⟨b1, b2, b3, _, b5⟩ := h.same K (fun b e _ => by have e : b = g := e; rw [e, cg]; decide)
  refine ⟨bb, oo, cap, d, by rw [List.length_cons, hl], by omega, fun j u hu => ?_, ?_, c, Rm, Ro, Fm, Fo, ⟨h.i1, h.env, b1, b2, b3, ?_, b5, ⟨ps, e3, ⟨?_, ?_⟩⟩, ?_, h.cgx, h.cmx, h.cgy, h.cmy, fun b hb => ⟨(h.cfm b hb).1, Nat.lt_of_lt_of_le (h.cfm b hb).2 K.size⟩, fun b hb => ⟨(h.cfo b hb).1, Nat.lt_of_lt_of_le (h.cfo b hb).2 K.size⟩, h.cg, h.cmb, h.crm, h.cro, fun b hb hcb => h.new b (by simpa [World.setCell] using hb) hcb⟩⟩
  · rw [hB.cell]
    refine hcell j u ?_
    have hj : j < 3 := (List.getElem?_eq_some_iff.1 hu).1
    have := pktsCells_at ((d, p') :: ps) 0 j (d, p') rfl hj
    rw [Nat.zero_mul, Nat.zero_add] at this
    rw [this]; exact hu
  · refine (e2.rows (d, p') List.mem_cons_self).mono (fun b hb => ⟨hb.2, ?_, ?_, ?_⟩)
    · rintro rfl; rw [cg] at hb; exact absurd hb.1 (by decide)
    · rintro rfl; rw [h.cgx] at hb; exact absurd hb.1 (by decide)
    · rintro rfl; rw [h.cmx] at hb; exact absurd hb.1 (by decide)
  · obtain ⟨qc, a, b, dd, f⟩ := h.q
    refine ⟨_, Blk.set a i _, by rw [Array.size_setIfInBounds]; exact b, by rw [Array.getElem?_setIfInBounds_self_of_lt (by omega)], ?_⟩
    rw [Array.getElem?_setIfInBounds_ne (by omega)]; exact f
  · have ht := hw.tail
    have hd : (pktsCells ((d, p') :: ps)).drop 3 = pktsCells ps := by simp [pktsCells, List.flatMap_cons]
    rw [hd] at ht
    rw [← hl]
    exact ht.keeps (by rw [← hl] at K; exact K) (fun b hb => hno b (by rw [(h.cfm b hb).1]; decide))
  · intro q hq
    exact ((e2.rows q (List.mem_cons_of_mem _ hq)).keeps K (fun b hb => hno b (by rw [hb.1]; decide))).mono (fun b hb => ⟨hb.1, Nat.lt_of_lt_of_le hb.2 K.size⟩)
  · obtain ⟨qs, f1, f2⟩ := h.wo
    exact ⟨qs, f1, f2.keeps K (fun b hb => hno b (by rw [(h.cfo b hb).1]; decide)) (fun b hb _ => ⟨hno b (by rw [hb]; decide), hb⟩)⟩
/-- What was sent is put behind what waits for the other one: the append, then the store. -/
theorem NPend.put {sv : Value} {l : List Pure.Pkt} (h : NPend w0 w g mb i Vm Vo lm lo gx mx gy my Mm Mo sv l) (hlo : lo.length ≤ 1000) : ∃ Fo G xs ys, WinOf w Fo 40 3 Vo lo.length xs ∧ Row w G 3 sv l.length ys ∧ (∀ u ∈ ys, u.oneCell' = true) ∧ lo.length + l.length ≤ 100000 ∧
    ∀ v' w', WinOf w' (fun b => Fo b ∨ w.heap.size ≤ b) 40 3 v' (lo.length + l.length) (xs ++ ys) → Keeps Fo w w' →
      w'.cell? ⟨g, 1 - i, none⟩ = some Vo ∧ w'.frozen? ⟨g, 1 - i, none⟩ = false ∧ w'.cell? ⟨mb, i, none⟩ = some (.pointer (some ⟨gx, 0, none⟩)) ∧ NPair w0 (w'.setCell ⟨g, 1 - i, none⟩ v') g mb i Vm v' lm (lo ++ l) gx mx gy my Mm Mo := by
  obtain ⟨c, Rm, Ro, Fm, Fo, h, ps, hps, hfew, hrow⟩ := h
  obtain ⟨qs, hqs, hq⟩ := h.wo
  have hl1 : qs.length = lo.length := by rw [← hqs, List.length_map]
  have hl2 : ps.length = l.length := by rw [← hps, List.length_map]
  refine ⟨Fo, _, pktsCells qs, pktsCells ps, by rw [← hl1]; exact hq.win, by rw [← hl2]; exact hrow.out, ?_, by omega, fun v' w' hwin k => ?_⟩
  · intro u hu
    obtain ⟨p, hp, hu⟩ := List.mem_flatMap.1 hu
    obtain ⟨A, cc, e, _⟩ := (hrow.rows p hp).form
    simp only [pktCells, List.mem_cons, List.not_mem_nil, or_false] at hu
    rcases hu with rfl | rfl | rfl
    · rfl
    · rfl
    · rw [e]; rfl
  have hi := h.i1
  have hgl : g < w.heap.size := by obtain ⟨cur, a, _⟩ := h.q; exact a.lt
  have hbl : mb < w.heap.size := by obtain ⟨cur, a, _⟩ := h.m; exact a.lt
  have hml := h.me.lt
  have hol := h.ot.lt
  have hn4 : ∀ b, c b ≠ 4 → ¬ Fo b := fun b hb e => hb (h.cfo b e).1
  obtain ⟨a1, a2, a3, a4, a5⟩ := h.same k (fun b e _ => by rw [(h.cfo b e).1]; decide)
  obtain ⟨qc, qa, qb, qd, qf⟩ := h.q
  have qa1 := qa.keeps k (hn4 g (by rw [h.cg]; decide))
  obtain ⟨mc, ma, mr⟩ := a5
  refine ⟨by rw [qa1.cell]; exact qf, qa1.frozen _, by rw [ma.cell]; exact mr.2.1, ?_⟩
  have K2 : Keeps (only g) w' (w'.setCell ⟨g, 1 - i, none⟩ v') := (Keeps.refl (only g) w').store g (1 - i) (fun _ => rfl) _
  have hsz : (w'.setCell ⟨g, 1 - i, none⟩ v').heap.size = w'.heap.size := by simp [World.setCell]
  have hne : ∀ b, b < w.heap.size → c b ≠ 5 → ¬ only g b := fun b _ hb e => hb (by have e : b = g := e; rw [e]; exact h.cg)
  have hc : ∀ b, b < w.heap.size → (if w.heap.size ≤ b then 4 else c b) = c b := fun b hb => if_neg (by omega)
  have bel2 : Below w0.heap.size w0 (w'.setCell ⟨g, 1 - i, none⟩ v') := ⟨K2.os.trans a1.os, K2.tape.trans a1.tape, K2.output.trans a1.output, Nat.le_trans a1.size K2.size, fun b hb => (K2.block b (Nat.lt_of_lt_of_le hb a1.size) (fun e => by
    have e : b = g := e
    have := h.new g hgl (by rw [h.cg]; decide)
    omega)).trans (a1.block b hb)⟩
  refine ⟨fun b => if w.heap.size ≤ b then 4 else c b, Rm, Ro, Fm, fun b => (Fo b ∨ w.heap.size ≤ b) ∧ b < w'.heap.size, h.i1, h.env, bel2, a2.keeps K2 (hne _ hml.1 (by rw [h.cgx]; decide)) (hne _ hml.2.1 (by rw [h.cmx]; decide)) (fun b hb => hne b (hml.2.2 b hb) (by rw [h.crm b hb]; decide)), a3.keeps K2 (hne _ hol.1 (by rw [h.cgy]; decide)) (hne _ hol.2.1 (by rw [h.cmy]; decide)) (fun b hb => hne b (hol.2.2 b hb) (by rw [h.cro b hb]; decide)), ?_, ?_, ?_, ?_, ?_, ?_, ?_, ?_, ?_, ?_, ?_, ?_, ?_, ?_, ?_⟩
  · refine ⟨_, Blk.set qa1 (1 - i) _, by rw [Array.size_setIfInBounds]; exact qb, ?_, by rw [Array.getElem?_setIfInBounds_self_of_lt (by omega)]⟩
    rw [Array.getElem?_setIfInBounds_ne (by omega)]; exact qd
  · exact ⟨mc, ma.keeps K2 (hne mb hbl (by rw [h.cmb]; decide)), mr⟩
  · obtain ⟨rs, f1, f2⟩ := h.wm
    have f3 := f2.keeps (c' := c) k (fun b hb => hn4 b (by rw [(h.cfm b hb).1]; decide)) (fun b hb _ => ⟨hn4 b (by rw [hb]; decide), hb⟩)
    refine ⟨rs, f1, ⟨f3.win.keeps K2 (fun b hb => hne b (h.cfm b hb).2 (by rw [(h.cfm b hb).1]; decide)), fun p hp => ?_⟩⟩
    refine (((f2.rows p hp).keeps k (fun b hb => hn4 b (by rw [hb.1]; decide))).keeps K2 (fun b hb => hne b hb.2 (by rw [hb.1]; decide))).mono (fun b hb => ⟨by (try dsimp only); rw [hc b hb.2]; exact hb.1, by rw [hsz]; exact Nat.lt_of_lt_of_le hb.2 k.size⟩)
  · refine ⟨qs ++ ps, by rw [List.map_append, hqs, hps], ⟨?_, fun p hp => ?_⟩⟩
    · have e : pktsCells (qs ++ ps) = pktsCells qs ++ pktsCells ps := by simp [pktsCells, List.flatMap_append]
      rw [e, List.length_append, hl1, hl2]
      refine (hwin.mono (G := fun b => (Fo b ∨ w.heap.size ≤ b) ∧ b < w'.heap.size) (fun b hb hl => ⟨hb, hl⟩)).keeps K2 (fun b hb => ?_)
      rcases hb.1 with hb | hb
      · exact hne b (h.cfo b hb).2 (by rw [(h.cfo b hb).1]; decide)
      · intro e
        have e : b = g := e
        omega
    · have hr : Row w (fun b => c b = 0 ∧ b < w.heap.size) 1 p.1 p.2.data.length (u8s p.2.data) := by
        rcases List.mem_append.1 hp with hp | hp
        · exact hq.rows p hp
        · exact hrow.rows p hp
      exact ((hr.keeps k (fun b hb => hn4 b (by rw [hb.1]; decide))).keeps K2 (fun b hb => hne b hb.2 (by rw [hb.1]; decide))).mono (fun b hb => ⟨by (try dsimp only); rw [hc b hb.2]; exact hb.1, by rw [hsz]; exact Nat.lt_of_lt_of_le hb.2 k.size⟩)
  · (try dsimp only); rw [hc _ hml.1]; exact h.cgx
  · (try dsimp only); rw [hc _ hml.2.1]; exact h.cmx
  · (try dsimp only); rw [hc _ hol.1]; exact h.cgy
  · (try dsimp only); rw [hc _ hol.2.1]; exact h.cmy
  · intro b hb; (try dsimp only); rw [hc b (h.cfm b hb).2, hsz]; exact ⟨(h.cfm b hb).1, Nat.lt_of_lt_of_le (h.cfm b hb).2 k.size⟩
  · rintro b ⟨hb, hl⟩
    refine ⟨?_, by rw [hsz]; exact hl⟩
    try dsimp only
    rcases hb with hb | hb
    · rw [hc b (h.cfo b hb).2]; exact (h.cfo b hb).1
    · exact if_pos hb
  · (try dsimp only); rw [hc _ hgl]; exact h.cg
  · (try dsimp only); rw [hc _ hbl]; exact h.cmb
  · intro b hb; (try dsimp only); rw [hc b (hml.2.2 b hb)]; exact h.crm b hb
  · intro b hb; (try dsimp only); rw [hc b (hol.2.2 b hb)]; exact h.cro b hb
  · intro b hb hcb
    rcases Nat.lt_or_ge b w.heap.size with hl | hl
    · try dsimp only at hcb
      rw [hc b hl] at hcb
      exact h.new b hl hcb
    · exact Nat.le_trans h.bel.size hl
end
end Go.Proofs.YtjomcffhbaplcaaGreatDoor
