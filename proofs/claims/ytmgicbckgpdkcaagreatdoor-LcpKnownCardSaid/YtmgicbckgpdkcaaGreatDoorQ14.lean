/- Options that are read one by one: append. -/
import Derived.Test.YtmgicbckgpdkcaaGreatDoorQ13
import Derived.WalkKit
namespace Go.Proofs.YtmgicbckgpdkcaaGreatDoor
open Go.RowKit
theorem Read.keeps {w0 w w' : World} {v : Value} {qs : List (Value × Pure.Opt)} (h : Read w0 w v qs) (k : Keeps nobody w w') : Read w0 w' v qs :=
 ⟨ownsRow_keeps h.own k (fun _ _ h => h), fun p hp => ((h.rows p hp).keeps k (fun _ _ h => h)).mono (fun _ hb => ⟨hb.1, hb.2.1, Nat.lt_of_lt_of_le hb.2.2 k.size⟩), Below.quiet h.below k h.below.size⟩
theorem Read.nil (w : World) : Read w w (.slice none 0 0) [] := ⟨World.ownsRow_nil _ _ _ _, by simp, Below.refl _ _⟩
theorem Read.row {w0 w : World} {v : Value} {ps : List (Value × Pure.Opt)} (h : Read w0 w v ps) : ORow w (fun b => w0.heap.size ≤ b) v ps :=
 ⟨(Row.of_own h.own).mono (fun b hb => ownsRow_ge h.own b hb), fun p hp => (h.rows p hp).mono (fun _ hb => hb.1)⟩
theorem Read.form {w0 w : World} {v : Value} {ps : List (Value × Pure.Opt)} (h : Read w0 w v ps) : ∃ A c, v = .slice A ps.length c := own_form h.own
theorem Read.fresh {w0 w w' : World} {v d : Value} {qs : List (Value × Pure.Opt)} {n : Nat} {xs : List Value} (h : Read w0 w v qs) (hd : Row w' (fun b => w.heap.size ≤ b) 1 d n xs) :
  Row w' (fun b => w0.heap.size ≤ b ∧ v.ownBlock ≠ some b ∧ b < w'.heap.size) 1 d n xs := by
 obtain ⟨h1, h0, A, c, h2, h3, h4, h5⟩ := hd
 refine ⟨h1, h0, A, c, h2, h3, h4, fun hn => ?_⟩
 obtain ⟨b, off, e, f, g⟩ := h5 hn
 have hl : 0 < xs.length := by rw [h1]; omega
 have hlt := cell_lt (g 0 _ (List.getElem?_eq_getElem hl))
 exact ⟨b, off, e, ⟨by have := h.below.size; omega, fun e => by have := ownsRow_lt h.own b e; omega, hlt⟩, g⟩
section
variable {w0 w : World} {o : Oper} {a : Act} {Q : Exit → Act → World → Prop}
theorem wpo_append_opt {K : Act → World → Prop} (s x : Operand) (ho : o.op = .call { callee := .builtin .append, args := #[s, x], argTypes := #[27, 27] })
  (v : Value) (qs : List (Value × Pure.Opt)) (A3 : Option Addr) (c3 : Nat) (t : Int) (D : List UInt8) (hs : a.eval s = v) (hx : a.eval x = .slice (some ⟨w.heap.size, 0, none⟩) 1 1) (hR : Read w0 w v qs) (hq : qs.length ≤ 1000000)
  (hd : Row w (fun b => w0.heap.size ≤ b ∧ v.ownBlock ≠ some b ∧ b < w.heap.size) 1 (.slice A3 D.length c3) D.length (u8s D))
  (h : ∀ A c w', Read w0 w' (.slice A (qs.length + 1) c) (qs ++ [(.slice A3 D.length c3, (t, D))]) → Keeps (fun b => v.ownBlock = some b) w w' → K (a.put o.dst (.slice A (qs.length + 1) c)) w') :
  o.wp Tryz.prog a (w.alloc (.cells #[.int .i64 t, .slice A3 D.length c3] 31)) K Q := by
 obtain ⟨i0, hi0, hz0, hz1, hz2⟩ := info_parts opt_info
 obtain ⟨wb, hwb⟩ : ∃ wb, wb = w.alloc (.cells (optCells [(.slice A3 D.length c3, (t, D))]).toArray 31) := ⟨_, rfl⟩
 have hwb' : w.alloc (.cells #[.int .i64 t, .slice A3 D.length c3] 31) = wb := hwb.symm
 rw [hwb']
 have hkb : Keeps nobody w wb := by rw [hwb]; exact (Keeps.refl _ w).alloc _
 have hbb : Blk wb w.heap.size 31 (optCells [(.slice A3 D.length c3, (t, D))]).toArray := by rw [hwb]; exact Blk.new w _ _
 have hrb : Row wb (fun b => b = w.heap.size) 2 (.slice (some ⟨w.heap.size, 0, none⟩) 1 1) 1 (optCells [(.slice A3 D.length c3, (t, D))]) := by
  have h := Row.block (F := fun b => b = w.heap.size) (n := 1) (c := 1) (size := 2) hbb rfl rfl (by unfold maxLen; omega) (Nat.le_refl _)
  exact h
 have hownb : wb.ownsRow w0.heap.size 31 2 v qs.length (optCells qs) := ownsRow_keeps hR.own hkb (fun _ _ h => h)
 have hBb : Below w0.heap.size w0 wb := Below.quiet hR.below hkb hR.below.size
 have hone : ∀ p ∈ ([(.slice A3 D.length c3, (t, D))] : List (Value × Pure.Opt)), p.1.oneCell' = true := by
  intro p hp
  simp at hp
  subst hp
  rfl
 refine wp_append_row s x _ ho w0.heap.size 31 i0 _ 2 32 Tryz.underlying27 hi0 hz0 hz1 hz2 rfl (by omega) v _ (optCells qs) hs hownb _ _ 1 (optCells [(.slice A3 D.length c3, (t, D))]) hx hrb (optCells_one _ hone) (by unfold maxLen; omega) (by omega) hBb.size ?_
 intro v3 w3 hown3 hg3 hat3
 have hcat : optCells qs ++ optCells [(.slice A3 D.length c3, (t, D))] = optCells (qs ++ [(.slice A3 D.length c3, (t, D))]) := by simp [optCells]
 rw [hcat] at hown3
 have hkw : Keeps (fun b => v.ownBlock = some b) wb w3 := (Keeps.refl _ wb).grown hg3 (fun k hk _ => hk)
 have hwbs : w.heap.size < wb.heap.size := by rw [hwb]; simp
 have hread : Read w0 w3 v3 (qs ++ [(.slice A3 D.length c3, (t, D))]) := by
  refine ⟨by rw [List.length_append]; exact hown3, fun p hp => ?_, hBb.grown hg3 hBb.size (fun k hk => ownsRow_ge hownb k hk)⟩
  have hrow : Row w (fun b => w0.heap.size ≤ b ∧ v.ownBlock ≠ some b ∧ b < w.heap.size) 1 p.1 p.2.2.length (u8s p.2.2) := by
   rcases List.mem_append.1 hp with hp | hp
   ·exact hR.rows p hp
   ·simp at hp
    subst hp
    exact hd
  have h1 := (hrow.keeps hkb (fun _ _ h => h)).keeps hkw (fun b hb => hb.2.1)
  refine h1.mono (fun b hb => ⟨hb.1, ?_, by have := hkw.size; omega⟩)
  rcases hat3 with e | e
  ·rw [e]; exact hb.2.1
  ·rw [e]; intro h; injection h with h; omega
 obtain ⟨A4, c4, rfl⟩ := own_form hown3
 refine h A4 c4 w3 hread ?_
 exact (hkb.mono (fun _ h => h.elim)).trans hkw
theorem wp_append_opt {ops : Array Oper} {rest : List Oper} (hgd : o.guard = none) (s x : Operand) (ho : o.op = .call { callee := .builtin .append, args := #[s, x], argTypes := #[27, 27] })
  (v : Value) (qs : List (Value × Pure.Opt)) (A3 : Option Addr) (c3 : Nat) (t : Int) (D : List UInt8) (hs : a.eval s = v) (hx : a.eval x = .slice (some ⟨w.heap.size, 0, none⟩) 1 1) (hR : Read w0 w v qs) (hq : qs.length ≤ 1000000)
  (hd : Row w (fun b => w0.heap.size ≤ b ∧ v.ownBlock ≠ some b ∧ b < w.heap.size) 1 (.slice A3 D.length c3) D.length (u8s D))
  (h : ∀ A c w', Read w0 w' (.slice A (qs.length + 1) c) (qs ++ [(.slice A3 D.length c3, (t, D))]) → Keeps (fun b => v.ownBlock = some b) w w' → wpList Tryz.prog ops Q rest (a.put o.dst (.slice A (qs.length + 1) c)) w') :
  wpList Tryz.prog ops Q (o :: rest) a (w.alloc (.cells #[.int .i64 t, .slice A3 D.length c3] 31)) :=
 wpList_plain hgd fun _ hK => wpo_append_opt s x ho v qs A3 c3 t D hs hx hR hq hd fun A c w' h2 h3 => hK _ _ (h A c w' h2 h3)
end
theorem made_read (w : World) (n : Nat) (hn : n ≤ 1000000) : ∃ cs, (Instr.makeSlice 27 (.int .i64 0) (.int .i64 (n : Int))).run Tryz.prog w = .ok (.slice (some ⟨w.heap.size, 0, none⟩) 0 n) (w.alloc (.cells cs 31)) ∧
  Read w (w.alloc (.cells cs 31)) (.slice (some ⟨w.heap.size, 0, none⟩) 0 n) [] := by
 obtain ⟨i0, hi0, hz0, hz1, hz2⟩ := info_parts opt_info
 have hrun := run_make (P := Tryz.prog) w 27 31 i0 _ Tryz.underlying27 hi0 hz0 .i64 .i64 0 n (by omega) (by omega) (by rw [hz2]; omega) (by omega)
 rw [hz1, Int.toNat_natCast, show Int.toNat 0 = 0 from rfl] at hrun
 refine ⟨_, hrun, ⟨⟨by simp, .inr ⟨w.heap.size, n, _, rfl, Nat.le_refl _, Blk.new w _ _, by simp, by unfold maxLen; omega, by simp [madeCells], by simp⟩⟩, by simp, ?_⟩⟩
 exact Keeps.to_below ((Keeps.refl _ w).alloc _)
namespace Pure
structure Rule where
 type : Int
 len : Int
 how : Int
 lo : Int
 hi : Int
 want : List UInt8
 need : Bool
def bnum (b : List UInt8) : Nat := b.foldl (fun n x => n * 256 + x.toNat) 0
def wide (x n : Nat) : List UInt8 := (List.range n).map fun i => UInt8.ofNat (x / 256 ^ (n - 1 - i) % 256)
def Rule.numbered (r : Rule) (b : List UInt8) : Prop := 1 ≤ r.len ∧ r.len ≤ 4 ∧ (b.length : Int) = r.len
instance (r : Rule) (b : List UInt8) : Decidable (r.numbered b) := by unfold Rule.numbered; infer_instance
def Rule.fits (r : Rule) (b : List UInt8) : Prop :=
 (r.how = 1 ∧ (r.len < 0 ∨ (b.length : Int) = r.len)) ∨ (r.how = 2 ∧ r.numbered b ∧ r.lo ≤ bnum b ∧ bnum b ≤ r.hi) ∨ (r.how = 3 ∧ b = r.want) ∨ (r.how = 4 ∧ r.numbered b ∧ bnum b &&& r.hi.toNat = bnum b)
instance (r : Rule) (b : List UInt8) : Decidable (r.fits b) := by unfold Rule.fits; infer_instance
def Rule.offers (r : Rule) (b : List UInt8) : Option Opt :=
 if r.how = 2 ∧ 1 ≤ r.len ∧ r.len ≤ 4 then some (r.type, wide (if r.numbered b ∧ (bnum b : Int) < r.lo then r.lo.toNat else r.hi.toNat) r.len.toNat)
 else if r.how = 3 then some (r.type, r.want)
 else if r.how = 4 ∧ 1 ≤ r.len ∧ r.len ≤ 4 then some (r.type, wide (if r.numbered b then bnum b &&& r.hi.toNat else r.hi.toNat) r.len.toNat)
 else none
def ruleOf (rules : List Rule) (t : Int) : Option Rule := rules.find? fun r => decide (r.type = t)
def hasType (l : List Opt) (t : Int) : Bool := l.any fun o => decide (o.1 = t)
inductive Verdict where
 | pass
 | reject
 | offer (o : Opt)
def verdict (rules : List Rule) (rejects : Bool) (before : List Opt) (o : Opt) : Verdict :=
 match ruleOf rules o.1 with
 | none => .reject
 | some r =>
  if hasType before o.1 = true then .reject
  else if r.fits o.2 then .pass
  else match r.offers o.2 with
   | none => .reject
   | some p => if rejects = true then .reject else .offer p
def judgeTo (rules : List Rule) (rejects : Bool) (l : List Opt) : Nat → List Opt × List Opt
 | 0 => ([], [])
 | k + 1 =>
  match l[k]? with
  | none => judgeTo rules rejects l k
  | some o =>
   match verdict rules rejects (l.take k) o with
   | .pass => judgeTo rules rejects l k
   | .reject => ((judgeTo rules rejects l k).1 ++ [o], (judgeTo rules rejects l k).2)
   | .offer p => ((judgeTo rules rejects l k).1, (judgeTo rules rejects l k).2 ++ [p])
def needTo (rules : List Rule) (l nak : List Opt) : Nat → List Opt
 | 0 => nak
 | k + 1 =>
  match rules[k]? with
  | none => needTo rules l nak k
  | some r =>
   if r.need = false ∨ hasType l r.type = true ∨ hasType (needTo rules l nak k) r.type = true then needTo rules l nak k
   else match ruleOf rules r.type with
    | none => needTo rules l nak k
    | some f => if f.need = false then needTo rules l nak k else match f.offers [] with
     | none => needTo rules l nak k
     | some o => needTo rules l nak k ++ [o]
def judge (rules : List Rule) (l : List Opt) (rejects : Bool) : Nat × List Opt :=
 if (judgeTo rules rejects l l.length).1 ≠ [] then (4, (judgeTo rules rejects l l.length).1)
 else
  let nak := if rejects = true then (judgeTo rules rejects l l.length).2 else needTo rules l (judgeTo rules rejects l l.length).2 rules.length
  if nak ≠ [] then (3, nak) else (2, l)
def nakedOne (rules : List Rule) (nak : List Opt) (o : Opt) : Opt :=
 match nak.find? (fun p => decide (p.1 = o.1)) with
 | none => o
 | some p =>
  match ruleOf rules o.1 with
  | none => o
  | some r =>
   if r.how = 1 then (o.1, p.2)
   else if r.how = 2 ∧ r.numbered p.2 then (o.1, wide (min (max (bnum p.2) r.lo.toNat) r.hi.toNat) r.len.toNat)
   else if r.how = 4 ∧ r.numbered p.2 then (o.1, wide (bnum p.2 &&& r.hi.toNat) r.len.toNat)
   else o
def naked (rules : List Rule) (ask nak : List Opt) : List Opt := ask.map (nakedOne rules nak)
def needy (rules : List Rule) (t : Int) : Bool := match ruleOf rules t with | some r => r.need | none => false
def stays (rules : List Rule) (rej : List Opt) (o : Opt) : Bool := !rej.any (fun p => decide (o = p)) || needy rules o.1
def left (rules : List Rule) (ask rej : List Opt) : List Opt := ask.filter (stays rules rej)
theorem wide_length (x n : Nat) : (wide x n).length = n := by simp [wide]
end Pure
namespace Pure
def fsmRows : List (List (List Nat × Nat)) := [
 [([], 2), ([4, 6], 6), ([], 2), ([], 3), ([], 4), ([], 5), ([], 6), ([], 7), ([], 8), ([], 9)],
 [([], 0), ([], 1), ([], 0), ([2], 1), ([], 0), ([], 1), ([], 1), ([], 1), ([], 1), ([1], 1)],
 [([2], 1), ([], 1), ([4, 6], 6), ([], 3), ([], 5), ([], 5), ([], 6), ([], 7), ([], 8), ([], 9)],
 [([], 0), ([3], 0), ([], 2), ([], 2), ([], 4), ([], 4), ([4, 9], 4), ([4, 9], 4), ([4, 9], 4), ([1, 4, 9], 4)],
 [([], 0), ([], 1), ([], 2), ([], 3), ([9], 4), ([9], 5), ([6], 6), ([6], 6), ([6], 8), ([], 9)],
 [([], 0), ([], 1), ([], 2), ([], 3), ([3], 2), ([3], 3), ([3], 3), ([3], 3), ([3], 3), ([], 9)],
 [([], 0), ([], 1), ([10], 2), ([4, 6, 7], 8), ([], 4), ([], 5), ([7], 8), ([7, 0], 9), ([7], 8), ([1, 6, 7], 8)],
 [([], 0), ([], 1), ([10], 2), ([4, 6, 8], 6), ([], 4), ([], 5), ([8], 6), ([8], 7), ([8], 6), ([1, 6, 8], 6)],
 [([], 0), ([], 1), ([10], 2), ([10], 3), ([], 4), ([], 5), ([4], 7), ([6], 6), ([4, 0], 9), ([1, 6], 6)],
 [([], 0), ([], 1), ([10], 2), ([10], 3), ([], 4), ([], 5), ([4, 6], 6), ([6], 6), ([4, 6], 8), ([1, 6], 6)],
 [([], 0), ([], 1), ([10], 2), ([10], 3), ([10], 4), ([10], 5), ([10], 6), ([10], 6), ([10], 6), ([1, 5, 10], 5)],
 [([], 0), ([], 1), ([], 2), ([], 3), ([3], 2), ([3], 3), ([], 6), ([], 6), ([], 8), ([1, 6], 6)],
 [([], 0), ([], 1), ([11], 2), ([11], 3), ([11], 4), ([11], 5), ([11], 6), ([11], 7), ([11], 8), ([11], 9)],
 [([], 0), ([], 1), ([], 2), ([], 3), ([], 4), ([], 5), ([], 6), ([], 6), ([], 8), ([], 9)],
 [([], 0), ([], 1), ([3], 2), ([3], 3), ([3], 2), ([3], 3), ([3], 3), ([3], 3), ([3], 3), ([1, 4, 9], 5)],
 [([], 0), ([], 1), ([], 2), ([], 3), ([], 4), ([], 5), ([], 6), ([], 7), ([], 8), ([12], 9)]]
def fsmAt (s e : Nat) : List Nat × Nat := (fsmRows.getD e []).getD s ([], s)
def fsmStep (s e : Int) : List Nat × Int := if 0 ≤ s ∧ s ≤ 9 ∧ 0 ≤ e ∧ e < 16 then ((fsmAt s.toNat e.toNat).1, ((fsmAt s.toNat e.toNat).2 : Int)) else ([], s)
structure Mach where
 state : Nat
 count : Nat
 left : Nat
 tries : Nat
 timeout : Nat
deriving DecidableEq
def Mach.act (m : Mach) (a : Nat) : Mach :=
 if a = 4 then { m with count := m.tries } else if a = 5 then { m with count := 0, left := m.timeout } else if a = 6 ∨ a = 9 then { m with count := m.count - 1, left := m.timeout } else m
def Mach.rest (m : Mach) : Mach := if m.state < 4 ∨ m.state = 9 then { m with left := 0 } else m
def Mach.step (m : Mach) (e : Nat) : List Nat × Mach := ((fsmAt m.state e).1, ((fsmAt m.state e).1.foldl Mach.act { m with state := (fsmAt m.state e).2 }).rest)
def does (e : Int) : Prop := 0 ≤ e ∧ e < 16 ∧ e ≠ 4 ∧ e ≠ 5
instance (e : Int) : Decidable (does e) := by unfold does; infer_instance
def Mach.act2 (m : Mach) (e : Int) : List Nat × Mach := if does e then m.step e.toNat else ([], m)
def Mach.tick (m : Mach) : List Nat × Mach :=
 if m.left = 0 then ([], m) else if 1 < m.left then ([], { m with left := m.left - 1 }) else if 0 < m.count then { m with left := 0 }.step 4 else { m with left := 0 }.step 5
def Mach.call (m : Mach) (x : Int) : List Nat × Mach := if x = -2 then m.tick else m.act2 x
def newMach (tries timeout : Nat) : Mach := ⟨0, 0, 0, tries, timeout⟩
theorem fsmAt_le : ∀ s < 10, ∀ e < 16, (fsmAt s e).2 ≤ 9 ∧ ∀ a ∈ (fsmAt s e).1, a ≤ 12 := by decide +kernel
structure Mach.Good (m : Mach) : Prop where
 state : m.state ≤ 9
 tries : 1 ≤ m.tries
 timeout : 1 ≤ m.timeout
 count : m.count ≤ m.tries
 left : m.left ≤ m.timeout
 rest : m.state < 4 ∨ m.state = 9 → m.left = 0
 runs : 4 ≤ m.state → m.state ≤ 8 → 0 < m.left
theorem newMach_good {t u : Nat} (ht : 1 ≤ t) (hu : 1 ≤ u) : (newMach t u).Good := ⟨by simp [newMach], ht, hu, by simp [newMach], by simp [newMach], fun _ => rfl, fun h => by simp [newMach] at h⟩
theorem act_keeps (l : List Nat) : ∀ (m : Mach), (l.foldl Mach.act m).state = m.state ∧ (l.foldl Mach.act m).tries = m.tries ∧ (l.foldl Mach.act m).timeout = m.timeout ∧
  (m.count ≤ m.tries → (l.foldl Mach.act m).count ≤ m.tries) ∧ (m.left ≤ m.timeout → (l.foldl Mach.act m).left ≤ m.timeout) ∧ (m.left = m.timeout → (l.foldl Mach.act m).left = m.timeout) := by
 induction l with
 | nil => intro m; exact ⟨rfl, rfl, rfl, id, id, id⟩
 | cons a l ih =>
  intro m
  rw [List.foldl_cons]
  obtain ⟨h1, h2, h3, h4, h5, h6⟩ := ih (m.act a)
  have k : (m.act a).state = m.state ∧ (m.act a).tries = m.tries ∧ (m.act a).timeout = m.timeout ∧ (m.count ≤ m.tries → (m.act a).count ≤ m.tries) ∧ (m.left ≤ m.timeout → (m.act a).left ≤ m.timeout) ∧ (m.left = m.timeout → (m.act a).left = m.timeout) := by
   unfold Mach.act
   split
   ·exact ⟨rfl, rfl, rfl, fun _ => Nat.le_refl _, id, id⟩
   ·split
    ·exact ⟨rfl, rfl, rfl, fun _ => Nat.zero_le _, fun _ => Nat.le_refl _, fun _ => rfl⟩
    ·split
     ·exact ⟨rfl, rfl, rfl, fun h => by show m.count - 1 ≤ m.tries; omega, fun _ => Nat.le_refl _, fun _ => rfl⟩
     ·exact ⟨rfl, rfl, rfl, id, id, id⟩
  obtain ⟨k1, k2, k3, k4, k5, k6⟩ := k
  rw [k2] at h2 h4
  rw [k3] at h3 h5 h6
  exact ⟨h1.trans k1, h2, h3, fun h => h4 (k4 h), fun h => h5 (k5 h), fun h => h6 (k6 h)⟩
def starts (l : List Nat) : Bool := l.any fun a => a == 5 || a == 6 || a == 9
theorem act_starts (l : List Nat) : ∀ (m : Mach), starts l = true → (l.foldl Mach.act m).left = m.timeout := by
 induction l with
 | nil => intro m h; cases h
 | cons a l ih =>
  intro m h
  rw [List.foldl_cons]
  by_cases ha : a = 5 ∨ a = 6 ∨ a = 9
  ·have k : (m.act a).left = m.timeout ∧ (m.act a).timeout = m.timeout := by
    rcases ha with rfl | rfl | rfl <;> exact ⟨rfl, rfl⟩
   have := (act_keeps l (m.act a)).2.2.2.2.2 (by rw [k.1, k.2])
   rw [this, k.2]
  ·have hl : starts l = true := by
    have : (a == 5 || a == 6 || a == 9) = false := by
     rw [Bool.eq_false_iff]; intro h; simp at h; omega
    simpa [starts, this] using h
   rw [ih (m.act a) hl]
   unfold Mach.act
   split
   ·rfl
   ·split
    ·rfl
    ·split <;> rfl
theorem fsm_runs' : ∀ s < 10, ∀ e < 16, (fsmAt s e).2 < 4 ∨ 8 < (fsmAt s e).2 ∨ starts (fsmAt s e).1 = true ∨ (4 ≤ s ∧ s ≤ 8 ∧ e ≠ 4 ∧ e ≠ 5) := by decide +kernel
theorem fsm_runs (s : Nat) (hs : s < 10) (e : Nat) (he : e < 16) (h1 : 4 ≤ (fsmAt s e).2) (h2 : (fsmAt s e).2 ≤ 8) : starts (fsmAt s e).1 = true ∨ (4 ≤ s ∧ s ≤ 8 ∧ e ≠ 4 ∧ e ≠ 5) := by
 rcases fsm_runs' s hs e he with h | h | h
 ·omega
 ·omega
 ·exact h
theorem rest_eq (m : Mach) : m.rest.state = m.state ∧ m.rest.count = m.count ∧ m.rest.tries = m.tries ∧ m.rest.timeout = m.timeout ∧ (m.rest.left = m.left ∨ m.rest.left = 0) := by
 unfold Mach.rest
 split
 ·exact ⟨rfl, rfl, rfl, rfl, .inr rfl⟩
 ·exact ⟨rfl, rfl, rfl, rfl, .inl rfl⟩
theorem step_good {m : Mach} {e : Nat} (he : e < 16) (hs : m.state ≤ 9) (ht : 1 ≤ m.tries) (hu : 1 ≤ m.timeout) (hc : m.count ≤ m.tries) (hl : m.left ≤ m.timeout) (hr : e ≠ 4 → e ≠ 5 → 4 ≤ m.state → m.state ≤ 8 → 0 < m.left) :
  (m.step e).2.Good ∧ (m.step e).2.state = (fsmAt m.state e).2 ∧ (m.step e).2.tries = m.tries ∧ (m.step e).2.timeout = m.timeout := by
 obtain ⟨k1, k2, k3, k4, k5, k6⟩ := act_keeps (fsmAt m.state e).1 { m with state := (fsmAt m.state e).2 }
 obtain ⟨r1, r2, r3, r4, r5⟩ := rest_eq ((fsmAt m.state e).1.foldl Mach.act { m with state := (fsmAt m.state e).2 })
 have hst : (m.step e).2.state = (fsmAt m.state e).2 := r1.trans k1
 refine ⟨⟨?_, ?_, ?_, ?_, ?_, ?_, ?_⟩, hst, r3.trans k2, r4.trans k3⟩
 ·rw [hst]; exact (fsmAt_le m.state (by omega) e he).1
 ·rw [show (m.step e).2.tries = m.tries from r3.trans k2]; exact ht
 ·rw [show (m.step e).2.timeout = m.timeout from r4.trans k3]; exact hu
 ·rw [show (m.step e).2.count = _ from r2, show (m.step e).2.tries = m.tries from r3.trans k2]; exact k4 hc
 ·rw [show (m.step e).2.timeout = m.timeout from r4.trans k3]
  rcases r5 with h | h
  ·rw [show (m.step e).2.left = _ from h]; exact k5 hl
  ·rw [show (m.step e).2.left = _ from h]; omega
 ·intro h
  rw [hst] at h
  show (Mach.rest _).left = 0
  unfold Mach.rest
  rw [k1]
  rw [if_pos h]
 ·intro h1 h2
  rw [hst] at h1 h2
  show 0 < (Mach.rest _).left
  unfold Mach.rest
  rw [k1]
  rw [if_neg (show ¬ ((fsmAt m.state e).2 < 4 ∨ (fsmAt m.state e).2 = 9) by omega)]
  rcases fsm_runs m.state (by omega) e he h1 h2 with h | ⟨h3, h4, h5, h6⟩
  ·rw [act_starts _ _ h]; exact hu
  ·by_cases hst : starts (fsmAt m.state e).1 = true
   ·rw [act_starts _ _ hst]; exact hu
   ·have hno : ∀ (l : List Nat) (m : Mach), starts l = false → (l.foldl Mach.act m).left = m.left := by
     intro l
     induction l with
     | nil => intro m _; rfl
     | cons a l ih =>
      intro m h
      simp [starts] at h
      rw [List.foldl_cons, ih _ (by simp [starts]; exact h.2)]
      unfold Mach.act
      split
      ·rfl
      ·rw [if_neg (by omega), if_neg (by omega)]
    rw [hno _ _ (by simpa using hst)]
    exact hr h5 h6 h3 h4
theorem act2_good {m : Mach} (h : m.Good) (e : Int) : (m.act2 e).2.Good ∧ (m.act2 e).2.tries = m.tries ∧ (m.act2 e).2.timeout = m.timeout := by
 unfold Mach.act2
 split
 ·rename_i hd
  unfold does at hd
  obtain ⟨g, _, a, b⟩ := step_good (m := m) (e := e.toNat) (by omega) h.state h.tries h.timeout h.count h.left (fun _ _ => h.runs)
  exact ⟨g, a, b⟩
 ·exact ⟨h, rfl, rfl⟩
end Pure
namespace Pure
def many (f : Nat → Bool) (l : List Nat) : Nat := (l.filter f).length
def asks (l : List Nat) : Nat := many (fun a => a == 6 || a == 9) l
theorem act2_step {e : Nat} (he : does e) (m : Mach) : m.act2 e = m.step e := by
 unfold Mach.act2
 rw [if_pos he]
 rfl
end Pure
namespace Pure
structure Said where
 send : List Pkt
 up : Bool
 down : Bool
 start : Bool
 done : Bool
def mute : Said := ⟨[], false, false, false, false⟩
structure Reply where
 p : Pkt
 code : Nat
 l : List Opt
structure Neg where
 rules : List Rule
 first : List Opt
 request : List Opt
 m : Mach
 id : Nat
 asked : Nat
 naks : Nat
 waits : Bool
 acked : List Opt
 theirs : List Opt
 dropped : Nat
 ours : List UInt8
def Neg.next (n : Neg) : Nat := (n.id + 1) % 256
def Neg.again (n : Neg) : Neg := { n with request := n.first, naks := 0 }
def Said.more (o : Said) (p : Pkt) : Said := { o with send := o.send ++ [p] }
def sendOwn (s : Neg × Said) (code : Nat) (data : List UInt8) : Neg × Said := ({ s.1 with id := s.1.next }, s.2.more ⟨code, s.1.next, data⟩)
def sendReq (s : Neg × Said) : Neg × Said := ({ s.1 with ours := (options s.1.request).2, waits := true, id := s.1.next, asked := s.1.next }, s.2.more ⟨1, s.1.next, (options s.1.request).2⟩)
def sendAnswer (s : Neg × Said) : Option Reply → Neg × Said
 | none => s
 | some q => ({ s.1 with naks := if q.code = 3 then s.1.naks + 1 else s.1.naks }, s.2.more ⟨q.code, q.p.id, (options q.l).2⟩)
def sendTermAck (s : Neg × Said) : Option Reply → Neg × Said
 | none => sendOwn s 6 []
 | some q => if q.p.code = 5 then (s.1, s.2.more ⟨6, q.p.id, []⟩) else sendOwn s 6 []
def sendCodeRej (s : Neg × Said) : Option Reply → Neg × Said
 | none => s
 | some q => sendOwn s 7 ((encode q.p).2.take 1496)
def negAct (r : Option Reply) (s : Neg × Said) : Nat → Neg × Said
 | 0 => (s.1, { s.2 with up := true })
 | 1 => (s.1, { s.2 with down := true })
 | 2 => (s.1.again, { s.2 with start := true })
 | 3 => (s.1, { s.2 with done := true })
 | 6 => sendReq s
 | 7 => sendAnswer s r
 | 8 => sendAnswer s r
 | 9 => sendOwn s 5 []
 | 10 => sendTermAck s r
 | 11 => sendCodeRej s r
 | _ => s
def Neg.acts (n : Neg) (l : List Nat) (r : Option Reply) : Neg × Said := l.foldl (negAct r) (n, mute)
def Neg.event (n : Neg) (e : Nat) (r : Option Reply) : Neg × Said := { n with m := (n.m.act2 e).2 }.acts (n.m.act2 e).1 r
def Neg.act (n : Neg) (e : Int) : Neg × Said :=
 if e < 0 ∨ 3 < e then (n, mute) else if e = 0 then n.again.event 0 none else n.event e.toNat none
def Neg.tick (n : Neg) : Neg × Said := { n with m := n.m.tick.2 }.acts n.m.tick.1 none
def Neg.drop (n : Neg) : Neg × Said := ({ n with dropped := n.dropped + 1 }, mute)
def Neg.judged (n : Neg) (p : Pkt) (l : List Opt) : Neg × Said :=
 let j := judge n.rules l (decide (n.m.tries ≤ n.naks))
 let s := n.event (if j.1 = 2 then 6 else 7) (some ⟨p, j.1, j.2⟩)
 if j.1 = 2 ∧ (s.1.m.state = 8 ∨ s.1.m.state = 9) then ({ s.1 with theirs := l }, s.2) else s
def Neg.ask (n : Neg) (l : List Opt) : Neg := if (options l).1 = 0 then { n with first := l } else n
def Neg.mine (n : Neg) : List Opt := if n.m.state = 9 then n.acked else []
def Neg.given (n : Neg) : List Opt := if n.m.state = 9 then n.theirs else []
def newNeg (rules : List Rule) (ask : List Opt) (tries timeout : Nat) : Neg := ⟨rules, ask, ask, newMach tries timeout, 0, 0, 0, false, [], [], 0, []⟩
structure Neg.Like (n n' : Neg) : Prop where
 m : n'.m = n.m
 rules : n'.rules = n.rules
 first : n'.first = n.first
 acked : n'.acked = n.acked
 theirs : n'.theirs = n.theirs
 dropped : n'.dropped = n.dropped
theorem Neg.Like.refl (n : Neg) : Neg.Like n n := ⟨rfl, rfl, rfl, rfl, rfl, rfl⟩
theorem Neg.Like.trans {a b c : Neg} (h : Neg.Like a b) (k : Neg.Like b c) : Neg.Like a c := ⟨k.m.trans h.m, k.rules.trans h.rules, k.first.trans h.first, k.acked.trans h.acked, k.theirs.trans h.theirs, k.dropped.trans h.dropped⟩
theorem negAct_keeps (r : Option Reply) (s : Neg × Said) (a : Nat) : Neg.Like s.1 (negAct r s a).1 := by
 unfold negAct
 split
 ·exact Neg.Like.refl _
 ·exact Neg.Like.refl _
 ·exact ⟨rfl, rfl, rfl, rfl, rfl, rfl⟩
 ·exact Neg.Like.refl _
 ·exact ⟨rfl, rfl, rfl, rfl, rfl, rfl⟩
 ·cases r <;> exact ⟨rfl, rfl, rfl, rfl, rfl, rfl⟩
 ·cases r <;> exact ⟨rfl, rfl, rfl, rfl, rfl, rfl⟩
 ·exact ⟨rfl, rfl, rfl, rfl, rfl, rfl⟩
 ·cases r with
  | none => exact ⟨rfl, rfl, rfl, rfl, rfl, rfl⟩
  | some q =>
   show Neg.Like s.1 (if q.p.code = 5 then (s.1, s.2.more ⟨6, q.p.id, []⟩) else sendOwn s 6 []).1
   split
   ·exact Neg.Like.refl _
   ·exact ⟨rfl, rfl, rfl, rfl, rfl, rfl⟩
 ·cases r <;> exact ⟨rfl, rfl, rfl, rfl, rfl, rfl⟩
 ·exact Neg.Like.refl _
theorem acts_keeps (r : Option Reply) (l : List Nat) : ∀ s : Neg × Said, Neg.Like s.1 (l.foldl (negAct r) s).1 := by
 induction l with
 | nil => intro s; exact Neg.Like.refl _
 | cons a l ih =>
  intro s
  rw [List.foldl_cons]
  exact (negAct_keeps r s a).trans (ih _)
end Pure
end Go.Proofs.YtmgicbckgpdkcaaGreatDoor
