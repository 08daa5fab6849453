/- FsmTwo: two machines, and what waits for each of them. -/
import Derived.Test.YtjeekhgkcphnpaaLaw12K
import Derived.Test.YtjeekhgkcphnpaaWin
namespace Go.Proofs.Ytjeekhgkcphnpaa
open Go.RowKit
section
variable {Obj : World → (Nat → Prop) → Value → Pure.Mach → Prop}
/-- One of the two (number i) and the other one, in a later world; each block has a colour. -/
structure Duo (Obj : World → (Nat → Prop) → Value → Pure.Mach → Prop) (w0 w : World) (c : Nat → Nat) (Sm So Fm Fo : Nat → Prop) (g mb i : Nat) (Vm Vo : Value) (lm lo : List Nat) (pm po : Addr) (Mm Mo : Pure.Mach) : Prop where
  i1 : i ≤ 1
  me : Has Obj w0 w Sm (.pointer (some pm)) Mm
  ot : Has Obj w0 w So (.pointer (some po)) Mo
  q : ∃ cur : Array Value, Blk w g 27 cur ∧ cur.size = 2 ∧ cur[i]? = some Vm ∧ cur[1 - i]? = some Vo
  m : ∃ cur : Array Value, Blk w mb 23 cur ∧ cur.size = 2 ∧ cur[i]? = some (.pointer (some pm)) ∧ cur[1 - i]? = some (.pointer (some po))
  wm : Win w Fm Vm lm
  wo : Win w Fo Vo lo
  csm : ∀ b, Sm b → c b = 1
  cso : ∀ b, So b → c b = 2
  cfm : ∀ b, Fm b → c b = 3 ∧ b < w.heap.size ∧ w0.heap.size ≤ b
  cfo : ∀ b, Fo b → c b = 4 ∧ b < w.heap.size ∧ w0.heap.size ≤ b
  cg : c g = 5
  cm : c mb = 6
  fg : w0.heap.size ≤ g
def Pair (Obj : World → (Nat → Prop) → Value → Pure.Mach → Prop) (w0 w : World) (g mb i : Nat) (Vm Vo : Value) (lm lo : List Nat) (pm po : Addr) (Mm Mo : Pure.Mach) : Prop :=
  ∃ c Sm So Fm Fo, Duo Obj w0 w c Sm So Fm Fo g mb i Vm Vo lm lo pm po Mm Mo
section
variable {w0 w w' : World} {g mb i : Nat} {Vm Vo : Value} {lm lo : List Nat} {pm po : Addr} {Mm Mo : Pure.Mach}
theorem Pair.swap (h : Pair Obj w0 w g mb i Vm Vo lm lo pm po Mm Mo) : Pair Obj w0 w g mb (1 - i) Vo Vm lo lm po pm Mo Mm := by
  obtain ⟨c, Sm, So, Fm, Fo, h⟩ := h
  have hi := h.i1
  have e : 1 - (1 - i) = i := by omega
  refine ⟨fun b => if c b = 1 then 2 else if c b = 2 then 1 else if c b = 3 then 4 else if c b = 4 then 3 else c b, So, Sm, Fo, Fm, by omega, h.ot, h.me, ?_, ?_, h.wo, h.wm, ?_, ?_, ?_, ?_, ?_, ?_, h.fg⟩
  · obtain ⟨cur, a, b, d, f⟩ := h.q
    exact ⟨cur, a, b, f, by rw [e]; exact d⟩
  · obtain ⟨cur, a, b, d, f⟩ := h.m
    exact ⟨cur, a, b, f, by rw [e]; exact d⟩
  · intro b hb; have := h.cso b hb; simp [this]
  · intro b hb; have := h.csm b hb; simp [this]
  · intro b hb; have := (h.cfo b hb).1; exact ⟨by simp [this], (h.cfo b hb).2⟩
  · intro b hb; have := (h.cfm b hb).1; exact ⟨by simp [this], (h.cfm b hb).2⟩
  · have := h.cg; simp [this]
  · have := h.cm; simp [this]
/-- Nothing of it has turned. -/
theorem Pair.quiet (H : FsmOk Obj) (h : Pair Obj w0 w g mb i Vm Vo lm lo pm po Mm Mo) (k : Keeps nobody w w') : Pair Obj w0 w' g mb i Vm Vo lm lo pm po Mm Mo := by
  obtain ⟨c, Sm, So, Fm, Fo, h⟩ := h
  have hn : ∀ b, ¬ nobody b := fun _ h => h
  refine ⟨c, Sm, So, Fm, Fo, h.i1, h.me.quiet H k, h.ot.quiet H k, ?_, ?_, h.wm.keeps k (fun b _ => hn b), h.wo.keeps k (fun b _ => hn b), h.csm, h.cso, fun b hb => ?_, fun b hb => ?_, h.cg, h.cm, h.fg⟩
  · obtain ⟨cur, a, r⟩ := h.q
    exact ⟨cur, a.keeps k (hn g), r⟩
  · obtain ⟨cur, a, r⟩ := h.m
    exact ⟨cur, a.keeps k (hn mb), r⟩
  · have := h.cfm b hb; exact ⟨this.1, Nat.lt_of_lt_of_le this.2.1 k.size, this.2.2⟩
  · have := h.cfo b hb; exact ⟨this.1, Nat.lt_of_lt_of_le this.2.1 k.size, this.2.2⟩
theorem Pair.mine (h : Pair Obj w0 w g mb i Vm Vo lm lo pm po Mm Mo) : w.cell? ⟨g, i, none⟩ = some Vm := by
  obtain ⟨c, Sm, So, Fm, Fo, h⟩ := h
  obtain ⟨cur, a, b, d, f⟩ := h.q
  rw [a.cell]; exact d
theorem Pair.mach (h : Pair Obj w0 w g mb i Vm Vo lm lo pm po Mm Mo) : w.cell? ⟨mb, i, none⟩ = some (.pointer (some pm)) := by
  obtain ⟨c, Sm, So, Fm, Fo, h⟩ := h
  obtain ⟨cur, a, b, d, f⟩ := h.m
  rw [a.cell]; exact d
theorem Pair.other (h : Pair Obj w0 w g mb i Vm Vo lm lo pm po Mm Mo) : w.cell? ⟨g, 1 - i, none⟩ = some Vo := h.swap.mine
theorem Pair.free (h : Pair Obj w0 w g mb i Vm Vo lm lo pm po Mm Mo) (j : Nat) : w.frozen? ⟨g, j, none⟩ = false := by
  obtain ⟨c, Sm, So, Fm, Fo, h⟩ := h
  obtain ⟨cur, a, _⟩ := h.q
  exact a.frozen j
theorem Pair.form (h : Pair Obj w0 w g mb i Vm Vo lm lo pm po Mm Mo) : ∃ A c, Vm = .slice A lm.length c := by
  obtain ⟨c, Sm, So, Fm, Fo, h⟩ := h
  exact h.wm.form
theorem Pair.below (h : Pair Obj w0 w g mb i Vm Vo lm lo pm po Mm Mo) : Below w0.heap.size w0 w := by
  obtain ⟨c, Sm, So, Fm, Fo, h⟩ := h
  exact h.me.below
theorem Pair.state (H : FsmOk Obj) (h : Pair Obj w0 w g mb i Vm Vo lm lo pm po Mm Mo) : Calls Try.prog 18 #[.pointer (some pm)] w fun r w' => r = .returned (.int .i64 (Mm.state : Nat)) ∧ w = w' := by
  obtain ⟨c, Sm, So, Fm, Fo, h⟩ := h
  exact H.state Sm _ _ w h.me.obj
theorem Pair.head {a : Nat} {t : List Nat} (h : Pair Obj w0 w g mb i Vm Vo (a :: t) lo pm po Mm Mo) : ∃ b off c, Vm = .slice (some ⟨b, off, none⟩) (t.length + 1) c ∧ w.cell? ⟨b, off, none⟩ = some (.int .i64 (a : Int)) ∧ t.length + 1 ≤ c ∧ c ≤ maxLen := by
  obtain ⟨c, Sm, So, Fm, Fo, h⟩ := h
  exact h.wm.head
/-- The first of what waits is taken. -/
theorem Pair.pop (H : FsmOk Obj) {A : Option Addr} {n k a : Nat} {t : List Nat} (h : Pair Obj w0 w g mb i (.slice A n k) Vo (a :: t) lo pm po Mm Mo) :
    Pair Obj w0 (w.setCell ⟨g, i, none⟩ (cutV A k 1 t.length)) g mb i (cutV A k 1 t.length) Vo t lo pm po Mm Mo := by
  obtain ⟨c, Sm, So, Fm, Fo, h⟩ := h
  have hi := h.i1
  have K : Keeps (only g) w (w.setCell ⟨g, i, none⟩ (cutV A k 1 t.length)) := (Keeps.refl (only g) w).store g i (fun _ => rfl) _
  have cg := h.cg
  have hno : ∀ b, c b ≠ 5 → ¬ only g b := fun b hb e => hb (by have e : b = g := e; rw [e]; exact cg)
  have hfar : ∀ b, only g b → w0.heap.size ≤ b := fun b e => by have e : b = g := e; rw [e]; exact h.fg
  refine ⟨c, Sm, So, Fm, Fo, h.i1, h.me.keeps H K (fun b hb => hno b (by rw [h.csm b hb]; decide)) hfar, h.ot.keeps H K (fun b hb => hno b (by rw [h.cso b hb]; decide)) hfar, ?_, ?_, h.wm.tail.keeps K (fun b hb => hno b (by rw [(h.cfm b hb).1]; decide)), h.wo.keeps K (fun b hb => hno b (by rw [(h.cfo b hb).1]; decide)), h.csm, h.cso, fun b hb => ?_, fun b hb => ?_, h.cg, h.cm, h.fg⟩
  · obtain ⟨cur, a, b, d, f⟩ := h.q
    refine ⟨_, Blk.set a i _, by rw [Array.size_setIfInBounds]; exact b, by rw [Array.getElem?_setIfInBounds_self_of_lt (by omega)], ?_⟩
    rw [Array.getElem?_setIfInBounds_ne (by omega)]; exact f
  · obtain ⟨cur, a, r⟩ := h.m
    exact ⟨cur, a.keeps K (hno mb (by rw [h.cm]; decide)), r⟩
  · have := h.cfm b hb; exact ⟨this.1, Nat.lt_of_lt_of_le this.2.1 K.size, this.2.2⟩
  · have := h.cfo b hb; exact ⟨this.1, Nat.lt_of_lt_of_le this.2.1 K.size, this.2.2⟩
/-- It hears an event. -/
theorem Pair.act (H : FsmOk Obj) (h : Pair Obj w0 w g mb i Vm Vo lm lo pm po Mm Mo) (e : Int) {l : List Nat} {M' : Pure.Mach} (hm : Mm.act2 e = (l, M')) :
    Calls Try.prog 15 #[.pointer (some pm), .int .i64 e] w fun r w' => ∃ A c, r = .returned (.slice A l.length c) ∧ Row w' (fun b => b < w'.heap.size) 1 (.slice A l.length c) l.length (ints l) ∧ Pair Obj w0 w' g mb i Vm Vo lm lo pm po M' Mo := by
  obtain ⟨c, Sm, So, Fm, Fo, h⟩ := h
  refine (h.me.actAs H e hm).mono ?_
  rintro r w' ⟨A, k, rfl, hrow, hme, K⟩
  have hno : ∀ b, c b ≠ 1 → ¬ Sm b := fun b hb e => hb (h.csm b e)
  refine ⟨A, k, rfl, hrow.strong.mono (fun b hb => hb.2), c, Sm, So, Fm, Fo, h.i1, hme, h.ot.keeps H K (fun b hb => hno b (by rw [h.cso b hb]; decide)) h.me.far, ?_, ?_, h.wm.keeps K (fun b hb => hno b (by rw [(h.cfm b hb).1]; decide)), h.wo.keeps K (fun b hb => hno b (by rw [(h.cfo b hb).1]; decide)), h.csm, h.cso, fun b hb => ?_, fun b hb => ?_, h.cg, h.cm, h.fg⟩
  · obtain ⟨cur, a, r⟩ := h.q
    exact ⟨cur, a.keeps K (hno g (by rw [h.cg]; decide)), r⟩
  · obtain ⟨cur, a, r⟩ := h.m
    exact ⟨cur, a.keeps K (hno mb (by rw [h.cm]; decide)), r⟩
  · have := h.cfm b hb; exact ⟨this.1, Nat.lt_of_lt_of_le this.2.1 K.size, this.2.2⟩
  · have := h.cfo b hb; exact ⟨this.1, Nat.lt_of_lt_of_le this.2.1 K.size, this.2.2⟩
/-- What the other one hears of it. -/
theorem Pair.told (H : FsmOk Obj) (h : Pair Obj w0 w g mb i Vm Vo lm lo pm po Mm Mo) {x : Value} {l t : List Nat} (ht : Pure.told l = t) (hl : l.length ≤ 1000) (hx : Row w (fun b => b < w.heap.size) 1 x l.length (ints l)) :
    Calls Try.prog 26 #[x] w fun r w' => ∃ A c, r = .returned (.slice A t.length c) ∧ Row w' (fun b => b < w'.heap.size) 1 (.slice A t.length c) t.length (ints t) ∧ Pair Obj w0 w' g mb i Vm Vo lm lo pm po Mm Mo := by
  subst ht
  refine (told_any _ x l w (fun _ h => h) hx hl).mono ?_
  rintro r w' ⟨A, c, rfl, hown, hb⟩
  exact ⟨A, c, rfl, (Row.of_own hown).strong.mono (fun b hb => hb.2), h.quiet H (Keeps.new hb)⟩
/-- It is put behind what waits for the other one: the append, then the store. -/
theorem Pair.put (H : FsmOk Obj) (h : Pair Obj w0 w g mb i Vm Vo lm lo pm po Mm Mo) (t : List Nat) : ∃ Fo, Win w Fo Vo lo ∧ ∀ v' w', Win w' (fun b => Fo b ∨ w.heap.size ≤ b) v' (lo ++ t) → Keeps Fo w w' →
    w'.cell? ⟨g, 1 - i, none⟩ = some Vo ∧ w'.frozen? ⟨g, 1 - i, none⟩ = false ∧ w'.cell? ⟨mb, i, none⟩ = some (.pointer (some pm)) ∧ Pair Obj w0 (w'.setCell ⟨g, 1 - i, none⟩ v') g mb i Vm v' lm (lo ++ t) pm po Mm Mo := by
  obtain ⟨c, Sm, So, Fm, Fo, h⟩ := h
  have hi := h.i1
  refine ⟨Fo, h.wo, fun v' w' hwin K => ?_⟩
  have hn4 : ∀ b, c b ≠ 4 → ¬ Fo b := fun b hb e => hb (h.cfo b e).1
  have hgl : g < w.heap.size := by obtain ⟨cur, a, _⟩ := h.q; exact a.lt
  have hml : mb < w.heap.size := by obtain ⟨cur, a, _⟩ := h.m; exact a.lt
  have far4 : ∀ b, Fo b → w0.heap.size ≤ b := fun b hb => (h.cfo b hb).2.2
  have me1 := h.me.keeps H K (fun b hb => hn4 b (by rw [h.csm b hb]; decide)) far4
  have ot1 := h.ot.keeps H K (fun b hb => hn4 b (by rw [h.cso b hb]; decide)) far4
  have wm1 := h.wm.keeps K (fun b hb => hn4 b (by rw [(h.cfm b hb).1]; decide))
  obtain ⟨qc, qa, qb, qd, qf⟩ := h.q
  obtain ⟨mc, ma, mr⟩ := h.m
  have qa1 := qa.keeps K (hn4 g (by rw [h.cg]; decide))
  have ma1 := ma.keeps K (hn4 mb (by rw [h.cm]; decide))
  refine ⟨by rw [qa1.cell]; exact qf, qa1.frozen _, by rw [ma1.cell]; exact mr.2.1, ?_⟩
  have K2 : Keeps (only g) w' (w'.setCell ⟨g, 1 - i, none⟩ v') := (Keeps.refl (only g) w').store g (1 - i) (fun _ => rfl) _
  have cg := h.cg
  have hno : ∀ b, c b ≠ 5 → ¬ only g b := fun b hb e => hb (by have e : b = g := e; rw [e]; exact cg)
  have hfar : ∀ b, only g b → w0.heap.size ≤ b := fun b e => by have e : b = g := e; rw [e]; exact h.fg
  have hsz : (w'.setCell ⟨g, 1 - i, none⟩ v').heap.size = w'.heap.size := by simp [World.setCell]
  have hw0 : w0.heap.size ≤ w.heap.size := h.me.below.size
  refine ⟨fun b => if w.heap.size ≤ b then 4 else c b, Sm, So, Fm, fun b => (Fo b ∨ w.heap.size ≤ b) ∧ b < w'.heap.size, h.i1, me1.keeps H K2 (fun b hb => hno b (by rw [h.csm b hb]; decide)) hfar, ot1.keeps H K2 (fun b hb => hno b (by rw [h.cso b hb]; decide)) hfar, ?_, ?_, wm1.keeps K2 (fun b hb => hno b (by rw [(h.cfm b hb).1]; decide)), ?_, ?_, ?_, ?_, ?_, ?_, ?_, h.fg⟩
  · refine ⟨_, Blk.set qa1 (1 - i) _, by rw [Array.size_setIfInBounds]; exact qb, ?_, by rw [Array.getElem?_setIfInBounds_self_of_lt (by omega)]⟩
    rw [Array.getElem?_setIfInBounds_ne (by omega)]; exact qd
  · exact ⟨mc, ma1.keeps K2 (hno mb (by rw [h.cm]; decide)), mr⟩
  · refine (hwin.mono (G := fun b => (Fo b ∨ w.heap.size ≤ b) ∧ b < w'.heap.size) (fun b hb hl => ⟨hb, hl⟩)).keeps K2 (fun b hb => ?_)
    rcases hb.1 with hb | hb
    · exact hno b (by rw [(h.cfo b hb).1]; decide)
    · intro e
      have e : b = g := e
      omega
  · intro b hb
    have := H.lt h.me.obj b hb
    simp only [if_neg (show ¬ w.heap.size ≤ b by omega)]
    exact h.csm b hb
  · intro b hb
    have := H.lt h.ot.obj b hb
    simp only [if_neg (show ¬ w.heap.size ≤ b by omega)]
    exact h.cso b hb
  · intro b hb
    obtain ⟨a1, a2, a3⟩ := h.cfm b hb
    refine ⟨?_, by rw [hsz]; exact Nat.lt_of_lt_of_le a2 K.size, a3⟩
    simp only [if_neg (show ¬ w.heap.size ≤ b by omega)]
    exact a1
  · rintro b ⟨hb, hl⟩
    refine ⟨?_, by rw [hsz]; exact hl, ?_⟩
    · rcases hb with hb | hb
      · split
        · rfl
        · exact (h.cfo b hb).1
      · simp only [if_pos hb]
    · rcases hb with hb | hb
      · exact far4 b hb
      · omega
  · simp only [if_neg (show ¬ w.heap.size ≤ g by omega)]; exact h.cg
  · simp only [if_neg (show ¬ w.heap.size ≤ mb by omega)]; exact h.cm
end
end
end Go.Proofs.Ytjeekhgkcphnpaa
