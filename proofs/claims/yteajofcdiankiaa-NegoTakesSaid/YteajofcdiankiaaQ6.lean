/- Options that are read one by one: append. -/
import Derived.Test.YteajofcdiankiaaQ5
import Derived.Test.YteajofcdiankiaaQ3
namespace Go.Proofs.Yteajofcdiankiaa
open Go.RowKit
theorem Read.keeps {w0 w w' : World} {v : Value} {qs : List (Value × Pure.Opt)} (h : Read w0 w v qs) (k : Keeps nobody w w') : Read w0 w' v qs :=
  ⟨ownsRow_keeps h.own k (fun _ _ h => h), fun p hp => ((h.rows p hp).keeps k (fun _ _ h => h)).mono (fun _ hb => ⟨hb.1, hb.2.1, Nat.lt_of_lt_of_le hb.2.2 k.size⟩), Below.quiet h.below k h.below.size⟩
theorem Read.nil (w : World) : Read w w (.slice none 0 0) [] := ⟨World.ownsRow_nil _ _ _ _, by simp, Below.refl _ _⟩
theorem Read.row {w0 w : World} {v : Value} {ps : List (Value × Pure.Opt)} (h : Read w0 w v ps) : ORow w (fun b => w0.heap.size ≤ b) v ps :=
  ⟨(Row.of_own h.own).mono (fun b hb => ownsRow_ge h.own b hb), fun p hp => (h.rows p hp).mono (fun _ hb => hb.1)⟩
theorem Read.form {w0 w : World} {v : Value} {ps : List (Value × Pure.Opt)} (h : Read w0 w v ps) : ∃ A c, v = .slice A ps.length c := own_form h.own
/-- A new row of bytes, seen from a list that was there. -/
theorem Read.fresh {w0 w w' : World} {v d : Value} {qs : List (Value × Pure.Opt)} {n : Nat} {xs : List Value} (h : Read w0 w v qs) (hd : Row w' (fun b => w.heap.size ≤ b) 1 d n xs) :
    Row w' (fun b => w0.heap.size ≤ b ∧ v.ownBlock ≠ some b ∧ b < w'.heap.size) 1 d n xs := by
  obtain ⟨h1, h0, A, c, h2, h3, h4, h5⟩ := hd
  refine ⟨h1, h0, A, c, h2, h3, h4, fun hn => ?_⟩
  obtain ⟨b, off, e, f, g⟩ := h5 hn
  have hl : 0 < xs.length := by rw [h1]; omega
  have hlt := cell_lt (g 0 _ (List.getElem?_eq_getElem hl))
  exact ⟨b, off, e, ⟨by have := h.below.size; omega, fun e => by have := ownsRow_lt h.own b e; omega, hlt⟩, g⟩
section
variable {w0 w : World} {o : Oper} {a : Act} {Q : Exit → Act → World → Prop}
theorem wpo_append_opt {K : Act → World → Prop} (s x : Operand) (ho : o.op = .call { callee := .builtin .append, args := #[s, x], argTypes := #[27, 27] })
    (v : Value) (qs : List (Value × Pure.Opt)) (A3 : Option Addr) (c3 : Nat) (t : Int) (D : List UInt8) (hs : a.eval s = v) (hx : a.eval x = .slice (some ⟨w.heap.size, 0, none⟩) 1 1) (hR : Read w0 w v qs) (hq : qs.length ≤ 1000000)
    (hd : Row w (fun b => w0.heap.size ≤ b ∧ v.ownBlock ≠ some b ∧ b < w.heap.size) 1 (.slice A3 D.length c3) D.length (u8s D))
    (h : ∀ A c w', Read w0 w' (.slice A (qs.length + 1) c) (qs ++ [(.slice A3 D.length c3, (t, D))]) → Keeps (fun b => v.ownBlock = some b) w w' → K (a.put o.dst (.slice A (qs.length + 1) c)) w') :
    o.wp Try.prog a (w.alloc (.cells #[.int .i64 t, .slice A3 D.length c3] 32)) K Q := by
  obtain ⟨i0, hi0, hz0, hz1, hz2⟩ := info_parts opt_info
  obtain ⟨wb, hwb⟩ : ∃ wb, wb = w.alloc (.cells (optCells [(.slice A3 D.length c3, (t, D))]).toArray 32) := ⟨_, rfl⟩
  have hwb' : w.alloc (.cells #[.int .i64 t, .slice A3 D.length c3] 32) = wb := hwb.symm
  rw [hwb']
  have hkb : Keeps nobody w wb := by rw [hwb]; exact (Keeps.refl _ w).alloc _
  have hbb : Blk wb w.heap.size 32 (optCells [(.slice A3 D.length c3, (t, D))]).toArray := by rw [hwb]; exact Blk.new w _ _
  have hrb : Row wb (fun b => b = w.heap.size) 2 (.slice (some ⟨w.heap.size, 0, none⟩) 1 1) 1 (optCells [(.slice A3 D.length c3, (t, D))]) := by
    have h := Row.block (F := fun b => b = w.heap.size) (n := 1) (c := 1) (size := 2) hbb rfl rfl (by unfold maxLen; omega) (Nat.le_refl _)
    exact h
  have hownb : wb.ownsRow w0.heap.size 32 2 v qs.length (optCells qs) := ownsRow_keeps hR.own hkb (fun _ _ h => h)
  have hBb : Below w0.heap.size w0 wb := Below.quiet hR.below hkb hR.below.size
  have hone : ∀ p ∈ ([(.slice A3 D.length c3, (t, D))] : List (Value × Pure.Opt)), p.1.oneCell' = true := by
    intro p hp
    simp at hp
    subst hp
    rfl
  refine wp_append_row s x _ ho w0.heap.size 32 i0 _ 2 32 Try.underlying27 hi0 hz0 hz1 hz2 rfl (by omega) v _ (optCells qs) hs hownb _ _ 1 (optCells [(.slice A3 D.length c3, (t, D))]) hx hrb (optCells_one _ hone) (by unfold maxLen; omega) (by omega) hBb.size ?_
  intro v3 w3 hown3 hg3 hat3
  have hcat : optCells qs ++ optCells [(.slice A3 D.length c3, (t, D))] = optCells (qs ++ [(.slice A3 D.length c3, (t, D))]) := by simp [optCells]
  rw [hcat] at hown3
  have hkw : Keeps (fun b => v.ownBlock = some b) wb w3 := (Keeps.refl _ wb).grown hg3 (fun k hk _ => hk)
  have hwbs : w.heap.size < wb.heap.size := by rw [hwb]; simp
  have hread : Read w0 w3 v3 (qs ++ [(.slice A3 D.length c3, (t, D))]) := by
    refine ⟨by rw [List.length_append]; exact hown3, fun p hp => ?_, hBb.grown hg3 hBb.size (fun k hk => ownsRow_ge hownb k hk)⟩
    have hrow : Row w (fun b => w0.heap.size ≤ b ∧ v.ownBlock ≠ some b ∧ b < w.heap.size) 1 p.1 p.2.2.length (u8s p.2.2) := by
      rcases List.mem_append.1 hp with hp | hp
      · exact hR.rows p hp
      · simp at hp
        subst hp
        exact hd
    have h1 := (hrow.keeps hkb (fun _ _ h => h)).keeps hkw (fun b hb => hb.2.1)
    refine h1.mono (fun b hb => ⟨hb.1, ?_, by have := hkw.size; omega⟩)
    rcases hat3 with e | e
    · rw [e]; exact hb.2.1
    · rw [e]; intro h; injection h with h; omega
  obtain ⟨A4, c4, rfl⟩ := own_form hown3
  refine h A4 c4 w3 hread ?_
  exact (hkb.mono (fun _ h => h.elim)).trans hkw
theorem wp_append_opt {ops : Array Oper} {rest : List Oper} (hgd : o.guard = none) (s x : Operand) (ho : o.op = .call { callee := .builtin .append, args := #[s, x], argTypes := #[27, 27] })
    (v : Value) (qs : List (Value × Pure.Opt)) (A3 : Option Addr) (c3 : Nat) (t : Int) (D : List UInt8) (hs : a.eval s = v) (hx : a.eval x = .slice (some ⟨w.heap.size, 0, none⟩) 1 1) (hR : Read w0 w v qs) (hq : qs.length ≤ 1000000)
    (hd : Row w (fun b => w0.heap.size ≤ b ∧ v.ownBlock ≠ some b ∧ b < w.heap.size) 1 (.slice A3 D.length c3) D.length (u8s D))
    (h : ∀ A c w', Read w0 w' (.slice A (qs.length + 1) c) (qs ++ [(.slice A3 D.length c3, (t, D))]) → Keeps (fun b => v.ownBlock = some b) w w' → wpList Try.prog ops Q rest (a.put o.dst (.slice A (qs.length + 1) c)) w') :
    wpList Try.prog ops Q (o :: rest) a (w.alloc (.cells #[.int .i64 t, .slice A3 D.length c3] 32)) :=
  wpList_plain hgd fun _ hK => wpo_append_opt s x ho v qs A3 c3 t D hs hx hR hq hd fun A c w' h2 h3 => hK _ _ (h A c w' h2 h3)
end
/-- A list that make lays: as yet empty. -/
theorem made_read (w : World) (n : Nat) (hn : n ≤ 1000000) : ∃ cs, (Instr.makeSlice 27 (.int .i64 0) (.int .i64 (n : Int))).run Try.prog w = .ok (.slice (some ⟨w.heap.size, 0, none⟩) 0 n) (w.alloc (.cells cs 32)) ∧
    Read w (w.alloc (.cells cs 32)) (.slice (some ⟨w.heap.size, 0, none⟩) 0 n) [] := by
  obtain ⟨i0, hi0, hz0, hz1, hz2⟩ := info_parts opt_info
  have hrun := run_make (P := Try.prog) w 27 32 i0 _ Try.underlying27 hi0 hz0 .i64 .i64 0 n (by omega) (by omega) (by rw [hz2]; omega) (by omega)
  rw [hz1, Int.toNat_natCast, show Int.toNat 0 = 0 from rfl] at hrun
  refine ⟨_, hrun, ⟨⟨by simp, .inr ⟨w.heap.size, n, _, rfl, Nat.le_refl _, Blk.new w _ _, by simp, by unfold maxLen; omega, by simp [madeCells], by simp⟩⟩, by simp, ?_⟩⟩
  exact Keeps.to_below ((Keeps.refl _ w).alloc _)
end Go.Proofs.Yteajofcdiankiaa
/- What chapter 13 says of rules, of judging options and of changing a request. Nothing of the program. -/
namespace Go.Proofs.Yteajofcdiankiaa
namespace Pure
structure Rule where
  type : Int
  len : Int
  how : Int
  lo : Int
  hi : Int
  want : List UInt8
  need : Bool
/-- The number in bytes, the highest first. -/
def bnum (b : List UInt8) : Nat := b.foldl (fun n x => n * 256 + x.toNat) 0
/-- A number in so many bytes. -/
def wide (x n : Nat) : List UInt8 := (List.range n).map fun i => UInt8.ofNat (x / 256 ^ (n - 1 - i) % 256)
/-- May a number lie in these bytes, by the rule? -/
def Rule.numbered (r : Rule) (b : List UInt8) : Prop := 1 ≤ r.len ∧ r.len ≤ 4 ∧ (b.length : Int) = r.len
instance (r : Rule) (b : List UInt8) : Decidable (r.numbered b) := by unfold Rule.numbered; infer_instance
def Rule.fits (r : Rule) (b : List UInt8) : Prop :=
  (r.how = 1 ∧ (r.len < 0 ∨ (b.length : Int) = r.len)) ∨ (r.how = 2 ∧ r.numbered b ∧ r.lo ≤ bnum b ∧ bnum b ≤ r.hi) ∨ (r.how = 3 ∧ b = r.want) ∨ (r.how = 4 ∧ r.numbered b ∧ bnum b &&& r.hi.toNat = bnum b)
instance (r : Rule) (b : List UInt8) : Decidable (r.fits b) := by unfold Rule.fits; infer_instance
/-- What a rule offers in the place of bytes that do not fit. -/
def Rule.offers (r : Rule) (b : List UInt8) : Option Opt :=
  if r.how = 2 ∧ 1 ≤ r.len ∧ r.len ≤ 4 then some (r.type, wide (if r.numbered b ∧ (bnum b : Int) < r.lo then r.lo.toNat else r.hi.toNat) r.len.toNat)
  else if r.how = 3 then some (r.type, r.want)
  else if r.how = 4 ∧ 1 ≤ r.len ∧ r.len ≤ 4 then some (r.type, wide (if r.numbered b then bnum b &&& r.hi.toNat else r.hi.toNat) r.len.toNat)
  else none
def ruleOf (rules : List Rule) (t : Int) : Option Rule := rules.find? fun r => decide (r.type = t)
def hasType (l : List Opt) (t : Int) : Bool := l.any fun o => decide (o.1 = t)
/-- What becomes of an option: it passes, is rejected, or another one is offered. -/
inductive Verdict where
  | pass
  | reject
  | offer (o : Opt)
def verdict (rules : List Rule) (rejects : Bool) (before : List Opt) (o : Opt) : Verdict :=
  match ruleOf rules o.1 with
  | none => .reject
  | some r =>
    if hasType before o.1 = true then .reject
    else if r.fits o.2 then .pass
    else match r.offers o.2 with
      | none => .reject
      | some p => if rejects = true then .reject else .offer p
/-- Behind the first k options: those that are rejected, those that are offered. -/
def judgeTo (rules : List Rule) (rejects : Bool) (l : List Opt) : Nat → List Opt × List Opt
  | 0 => ([], [])
  | k + 1 =>
    match l[k]? with
    | none => judgeTo rules rejects l k
    | some o =>
      match verdict rules rejects (l.take k) o with
      | .pass => judgeTo rules rejects l k
      | .reject => ((judgeTo rules rejects l k).1 ++ [o], (judgeTo rules rejects l k).2)
      | .offer p => ((judgeTo rules rejects l k).1, (judgeTo rules rejects l k).2 ++ [p])
/-- Behind the first k rules: what is offered, and what is needed. -/
def needTo (rules : List Rule) (l nak : List Opt) : Nat → List Opt
  | 0 => nak
  | k + 1 =>
    match rules[k]? with
    | none => needTo rules l nak k
    | some r =>
      if r.need = false ∨ hasType l r.type = true ∨ hasType (needTo rules l nak k) r.type = true then needTo rules l nak k
      else match ruleOf rules r.type with
        | none => needTo rules l nak k
        | some f => if f.need = false then needTo rules l nak k else match f.offers [] with
          | none => needTo rules l nak k
          | some o => needTo rules l nak k ++ [o]
/-- The code of the answer (2: Ack, 3: Nak, 4: Reject) and its options. -/
def judge (rules : List Rule) (l : List Opt) (rejects : Bool) : Nat × List Opt :=
  if (judgeTo rules rejects l l.length).1 ≠ [] then (4, (judgeTo rules rejects l l.length).1)
  else
    let nak := if rejects = true then (judgeTo rules rejects l l.length).2 else needTo rules l (judgeTo rules rejects l l.length).2 rules.length
    if nak ≠ [] then (3, nak) else (2, l)
/-- An option of a request behind a Nak. -/
def nakedOne (rules : List Rule) (nak : List Opt) (o : Opt) : Opt :=
  match nak.find? (fun p => decide (p.1 = o.1)) with
  | none => o
  | some p =>
    match ruleOf rules o.1 with
    | none => o
    | some r =>
      if r.how = 1 then (o.1, p.2)
      else if r.how = 2 ∧ r.numbered p.2 then (o.1, wide (min (max (bnum p.2) r.lo.toNat) r.hi.toNat) r.len.toNat)
      else if r.how = 4 ∧ r.numbered p.2 then (o.1, wide (bnum p.2 &&& r.hi.toNat) r.len.toNat)
      else o
def naked (rules : List Rule) (ask nak : List Opt) : List Opt := ask.map (nakedOne rules nak)
/-- Is a type needed, by its rule? -/
def needy (rules : List Rule) (t : Int) : Bool := match ruleOf rules t with | some r => r.need | none => false
/-- Does an option of a request stay behind a Reject? -/
def stays (rules : List Rule) (rej : List Opt) (o : Opt) : Bool := !rej.any (fun p => decide (o = p)) || needy rules o.1
def left (rules : List Rule) (ask rej : List Opt) : List Opt := ask.filter (stays rules rej)
/-- What the statements ask of rules. -/
structure Rule.May (r : Rule) : Prop where
  t0 : 0 ≤ r.type
  t1 : r.type ≤ 255
  want : r.want.length ≤ 253
  nums : 1 ≤ r.len → r.len ≤ 4 → 0 ≤ r.lo ∧ r.lo ≤ r.hi ∧ r.hi < (256 : Int) ^ r.len.toNat
theorem bnum_snoc (b : List UInt8) (x : UInt8) : bnum (b ++ [x]) = bnum b * 256 + x.toNat := by simp [bnum, List.foldl_append]
theorem bnum_from (b : List UInt8) : ∀ n : Nat, b.foldl (fun n x => n * 256 + x.toNat) n < (n + 1) * 256 ^ b.length := by
  induction b with
  | nil => intro n; simp
  | cons x b ih =>
    intro n
    rw [List.foldl_cons, List.length_cons, Nat.pow_succ]
    have hx := x.toNat_lt
    have h1 := ih (n * 256 + x.toNat)
    have h2 : (n * 256 + x.toNat + 1) * 256 ^ b.length ≤ ((n + 1) * 256) * 256 ^ b.length := Nat.mul_le_mul_right _ (by omega)
    have h3 : ((n + 1) * 256) * 256 ^ b.length = (n + 1) * (256 ^ b.length * 256) := by rw [Nat.mul_assoc, Nat.mul_comm 256]
    omega
theorem bnum_lt (b : List UInt8) : bnum b < 256 ^ b.length := by have := bnum_from b 0; rw [Nat.zero_add, Nat.one_mul] at this; exact this
theorem bnum_small {b : List UInt8} (h : b.length ≤ 4) : bnum b < 4294967296 :=
  Nat.lt_of_lt_of_le (bnum_lt b) (show 256 ^ b.length ≤ 256 ^ 4 from Nat.pow_le_pow_right (by omega) h)
theorem wide_length (x n : Nat) : (wide x n).length = n := by simp [wide]
/-- A number as bytes, and back. -/
theorem bnum_map (x : Nat) : ∀ n, bnum ((List.range n).map fun i => UInt8.ofNat (x / 256 ^ (n - 1 - i) % 256)) = x % 256 ^ n
  | 0 => by simp [bnum, Nat.mod_one]
  | n + 1 => by
    rw [List.range_succ, List.map_append, List.map_cons, List.map_nil, bnum_snoc]
    have e : ((List.range n).map fun i => UInt8.ofNat (x / 256 ^ (n + 1 - 1 - i) % 256)) = (List.range n).map fun i => UInt8.ofNat ((x / 256) / 256 ^ (n - 1 - i) % 256) := by
      apply List.map_congr_left
      intro i hi
      have hi : i < n := List.mem_range.1 hi
      rw [Nat.div_div_eq_div_mul, show n + 1 - 1 - i = (n - 1 - i) + 1 by omega, Nat.pow_succ, Nat.mul_comm]
    rw [e, bnum_map (x / 256) n]
    simp only [Nat.add_sub_cancel, Nat.sub_self, Nat.pow_zero, Nat.div_one]
    rw [show (UInt8.ofNat (x % 256)).toNat = x % 256 by simp, Nat.pow_succ, Nat.mul_comm (256 ^ n) 256, Nat.mod_mul]
    omega
theorem bnum_wide {x n : Nat} (h : x < 256 ^ n) : bnum (wide x n) = x := (bnum_map x n).trans (Nat.mod_eq_of_lt h)
end Pure
end Go.Proofs.Yteajofcdiankiaa
