/- The document's comparing of lists of options. -/
import Derived.Test.YtmgicbckgpdkcaaGreatDoorC7
namespace Go.Proofs.YtmgicbckgpdkcaaGreatDoor
open Go.RowKit
theorem y8w {w w' : World} {b off : Nat} {u : Value} (h : w.cell? ⟨b, off, none⟩ = some u) (k : Keeps y01 w w') : w'.cell? ⟨b, off, none⟩ = some u :=
 (World.cell?_of_block (w := w) (a := ⟨b, off, none⟩) (k.block b (y0x h) (fun x => x))).trans h
abbrev y02 (ps : List (Value × Pure.Opt)) : List Pure.Opt := ps.map Prod.snd
theorem y36 {w : World} {o : Obj} {a : Addr} {v : Value} (h : w.cell? a = some v) : (w.alloc o).cell? a = some v :=
 (World.cell?_alloc_lt w o a (by rcases Nat.lt_or_ge a.block w.heap.size with hl | hg; exact hl; simp [World.cell?, Array.getElem?_eq_none hg] at h)).trans h
theorem yfc (l : List Pure.Opt) (o : Pure.Opt) : Pure.joined (l ++ [o]) = Pure.joined l ++ Pure.Opt.bytes o := by simp [Pure.joined]
theorem yam (l : List Pure.Opt) (k : Nat) (o : Pure.Opt) (h : l[k]? = some o) : l.take (k + 1) = l.take k ++ [o] := by
 have hk := (List.getElem?_eq_some_iff.1 h).1
 rw [List.take_succ_eq_append_getElem hk]
 rw [List.getElem?_eq_getElem hk] at h
 injection h with h
 rw [h]
theorem y6b : (Tryz.prog.info? 31).map (fun i => (i.zero, i.size, i.bytes)) = some (some (.agg #[.int .i64 0, .slice none 0 0]), 2, 32) := by kernel_rfl
theorem y4v (ps : List (Value × Pure.Opt)) (h : ∀ p ∈ ps, p.1.oneCell' = true) : ∀ u ∈ y0i ps, u.oneCell' = true := by
 intro u hu
 obtain ⟨p, hp, hu⟩ := List.mem_flatMap.1 hu
 simp at hu
 rcases hu with rfl | rfl
 ·rfl
 ·exact h p hp
structure Read (w0 w : World) (v : Value) (ps : List (Value × Pure.Opt)) : Prop where
 own : w.ownsRow w0.heap.size 31 2 v ps.length (y0i ps)
 rows : ∀ p ∈ ps, Row w (fun b => w0.heap.size ≤ b ∧ v.ownBlock ≠ some b ∧ b < w.heap.size) 1 p.1 p.2.2.length (u8s p.2.2)
 below : Below w0.heap.size w0 w
theorem y4y {P : Program} {fn : Func} {p u : Tmp} {ty : TypeId} (h : fn.results = #[.cell p ty, .tmp u]) (tmps : Array Value) (w : World) (g : Nat) (t : TypeId) (cs : Array Value) (fr : Nat × Nat) (d : TypeDesc)
  (hp : tmps.getD p undef = .pointer (some ⟨g, 0, none⟩)) (hg : w.heap[g]? = some (.cells cs t fr))
  (hu : P.underlying ty = some d) (hd : (match d with | .struct _ | .array _ _ => true | _ => false) = true) (hi : (P.info? ty).map (·.size) = some cs.size) :
  (results fn tmps).run P w = .ok (.tuple #[.agg cs, tmps.getD u undef]) w := by
 have hp' : tmps[p]?.getD undef = .pointer (some ⟨g, 0, none⟩) := by simpa using hp
 simp [results, h, hp', asAddr, run_loadVar_row w g t ty cs fr d hg hu hd hi, Result.andThen]
theorem y04 {w w' : World} {b off : Nat} {u : Value} (h : w.cell? ⟨b, off, none⟩ = some u) (k : Keeps y01 w w') : w'.cell? ⟨b, off, none⟩ = some u :=
 (World.cell?_of_block (w := w) (a := ⟨b, off, none⟩) (k.block b (y0x h) (fun x => x))).trans h
theorem Read.keeps {w0 w w' : World} {v : Value} {qs : List (Value × Pure.Opt)} (h : Read w0 w v qs) (k : Keeps y01 w w') : Read w0 w' v qs :=
 ⟨y0o h.own k (fun _ _ h => h), fun p hp => ((h.rows p hp).keeps k (fun _ _ h => h)).mono (fun _ hb => ⟨hb.1, hb.2.1, Nat.lt_of_lt_of_le hb.2.2 k.size⟩), Below.quiet h.below k h.below.size⟩
theorem Read.nil (w : World) : Read w w (.slice none 0 0) [] := ⟨World.ownsRow_nil _ _ _ _, by simp, Below.refl _ _⟩
theorem Read.row {w0 w : World} {v : Value} {ps : List (Value × Pure.Opt)} (h : Read w0 w v ps) : ORow w (fun b => w0.heap.size ≤ b) v ps :=
 ⟨(Row.of_own h.own).mono (fun b hb => y0f h.own b hb), fun p hp => (h.rows p hp).mono (fun _ hb => hb.1)⟩
theorem Read.form {w0 w : World} {v : Value} {ps : List (Value × Pure.Opt)} (h : Read w0 w v ps) : ∃ A c, v = .slice A ps.length c := y0c h.own
theorem Read.fresh {w0 w w' : World} {v d : Value} {qs : List (Value × Pure.Opt)} {n : Nat} {xs : List Value} (h : Read w0 w v qs) (hd : Row w' (fun b => w.heap.size ≤ b) 1 d n xs) :
  Row w' (fun b => w0.heap.size ≤ b ∧ v.ownBlock ≠ some b ∧ b < w'.heap.size) 1 d n xs := by
 obtain ⟨h1, h0, A, c, h2, h3, h4, h5⟩ := hd
 refine ⟨h1, h0, A, c, h2, h3, h4, fun hn => ?_⟩
 obtain ⟨b, off, e, f, g⟩ := h5 hn
 have hl : 0 < xs.length := by rw [h1]; omega
 have hlt := y0x (g 0 _ (List.getElem?_eq_getElem hl))
 exact ⟨b, off, e, ⟨by have := h.below.size; omega, fun e => by have := y12 h.own b e; omega, hlt⟩, g⟩
section
variable {w0 w : World} {o : Oper} {a : Act} {Q : Exit → Act → World → Prop}
theorem yd8 {K : Act → World → Prop} (s x : Operand) (ho : o.op = .call { callee := .builtin .append, args := #[s, x], argTypes := #[27, 27] })
  (v : Value) (qs : List (Value × Pure.Opt)) (A3 : Option Addr) (c3 : Nat) (t : Int) (D : List UInt8) (hs : a.eval s = v) (hx : a.eval x = .slice (some ⟨w.heap.size, 0, none⟩) 1 1) (hR : Read w0 w v qs) (hq : qs.length ≤ 1000000)
  (hd : Row w (fun b => w0.heap.size ≤ b ∧ v.ownBlock ≠ some b ∧ b < w.heap.size) 1 (.slice A3 D.length c3) D.length (u8s D))
  (h : ∀ A c w', Read w0 w' (.slice A (qs.length + 1) c) (qs ++ [(.slice A3 D.length c3, (t, D))]) → Keeps (fun b => v.ownBlock = some b) w w' → K (a.put o.dst (.slice A (qs.length + 1) c)) w') :
  o.wp Tryz.prog a (w.alloc (.cells #[.int .i64 t, .slice A3 D.length c3] 31)) K Q := by
 obtain ⟨i0, hi0, hz0, hz1, hz2⟩ := info_parts y6b
 obtain ⟨wb, hwb⟩ : ∃ wb, wb = w.alloc (.cells (y0i [(.slice A3 D.length c3, (t, D))]).toArray 31) := ⟨_, rfl⟩
 have hwb' : w.alloc (.cells #[.int .i64 t, .slice A3 D.length c3] 31) = wb := hwb.symm
 rw [hwb']
 have hkb : Keeps y01 w wb := by rw [hwb]; exact (Keeps.refl _ w).alloc _
 have hbb : Blk wb w.heap.size 31 (y0i [(.slice A3 D.length c3, (t, D))]).toArray := by rw [hwb]; exact Blk.new w _ _
 have hrb : Row wb (fun b => b = w.heap.size) 2 (.slice (some ⟨w.heap.size, 0, none⟩) 1 1) 1 (y0i [(.slice A3 D.length c3, (t, D))]) := by
  have h := Row.block (F := fun b => b = w.heap.size) (n := 1) (c := 1) (size := 2) hbb rfl rfl (by unfold maxLen; omega) (Nat.le_refl _)
  exact h
 have hownb : wb.ownsRow w0.heap.size 31 2 v qs.length (y0i qs) := y0o hR.own hkb (fun _ _ h => h)
 have hBb : Below w0.heap.size w0 wb := Below.quiet hR.below hkb hR.below.size
 have hone : ∀ p ∈ ([(.slice A3 D.length c3, (t, D))] : List (Value × Pure.Opt)), p.1.oneCell' = true := by
  intro p hp
  simp at hp
  subst hp
  rfl
 refine y47 s x _ ho w0.heap.size 31 i0 _ 2 32 Tryz.underlying27 hi0 hz0 hz1 hz2 rfl (by omega) v _ (y0i qs) hs hownb _ _ 1 (y0i [(.slice A3 D.length c3, (t, D))]) hx hrb (y4v _ hone) (by unfold maxLen; omega) (by omega) hBb.size ?_
 intro v3 w3 hown3 hg3 hat3
 have hcat : y0i qs ++ y0i [(.slice A3 D.length c3, (t, D))] = y0i (qs ++ [(.slice A3 D.length c3, (t, D))]) := by simp [y0i]
 rw [hcat] at hown3
 have hkw : Keeps (fun b => v.ownBlock = some b) wb w3 := (Keeps.refl _ wb).grown hg3 (fun k hk _ => hk)
 have hwbs : w.heap.size < wb.heap.size := by rw [hwb]; simp
 have hread : Read w0 w3 v3 (qs ++ [(.slice A3 D.length c3, (t, D))]) := by
  refine ⟨by rw [List.length_append]; exact hown3, fun p hp => ?_, hBb.grown hg3 hBb.size (fun k hk => y0f hownb k hk)⟩
  have hrow : Row w (fun b => w0.heap.size ≤ b ∧ v.ownBlock ≠ some b ∧ b < w.heap.size) 1 p.1 p.2.2.length (u8s p.2.2) := by
   rcases List.mem_append.1 hp with hp | hp
   ·exact hR.rows p hp
   ·simp at hp
    subst hp
    exact hd
  have h1 := (hrow.keeps hkb (fun _ _ h => h)).keeps hkw (fun b hb => hb.2.1)
  refine h1.mono (fun b hb => ⟨hb.1, ?_, by have := hkw.size; omega⟩)
  rcases hat3 with e | e
  ·rw [e]; exact hb.2.1
  ·rw [e]; intro h; injection h with h; omega
 obtain ⟨A4, c4, rfl⟩ := y0c hown3
 refine h A4 c4 w3 hread ?_
 exact (hkb.mono (fun _ h => h.elim)).trans hkw
theorem y3d {ops : Array Oper} {rest : List Oper} (hgd : o.guard = none) (s x : Operand) (ho : o.op = .call { callee := .builtin .append, args := #[s, x], argTypes := #[27, 27] })
  (v : Value) (qs : List (Value × Pure.Opt)) (A3 : Option Addr) (c3 : Nat) (t : Int) (D : List UInt8) (hs : a.eval s = v) (hx : a.eval x = .slice (some ⟨w.heap.size, 0, none⟩) 1 1) (hR : Read w0 w v qs) (hq : qs.length ≤ 1000000)
  (hd : Row w (fun b => w0.heap.size ≤ b ∧ v.ownBlock ≠ some b ∧ b < w.heap.size) 1 (.slice A3 D.length c3) D.length (u8s D))
  (h : ∀ A c w', Read w0 w' (.slice A (qs.length + 1) c) (qs ++ [(.slice A3 D.length c3, (t, D))]) → Keeps (fun b => v.ownBlock = some b) w w' → wpList Tryz.prog ops Q rest (a.put o.dst (.slice A (qs.length + 1) c)) w') :
  wpList Tryz.prog ops Q (o :: rest) a (w.alloc (.cells #[.int .i64 t, .slice A3 D.length c3] 31)) :=
 wpList_plain hgd fun _ hK => yd8 s x ho v qs A3 c3 t D hs hx hR hq hd fun A c w' h2 h3 => hK _ _ (h A c w' h2 h3)
end
theorem made_read (w : World) (n : Nat) (hn : n ≤ 1000000) : ∃ cs, (Instr.makeSlice 27 (.int .i64 0) (.int .i64 (n : Int))).run Tryz.prog w = .ok (.slice (some ⟨w.heap.size, 0, none⟩) 0 n) (w.alloc (.cells cs 31)) ∧
  Read w (w.alloc (.cells cs 31)) (.slice (some ⟨w.heap.size, 0, none⟩) 0 n) [] := by
 obtain ⟨i0, hi0, hz0, hz1, hz2⟩ := info_parts y6b
 have hrun := run_make (P := Tryz.prog) w 27 31 i0 _ Tryz.underlying27 hi0 hz0 .i64 .i64 0 n (by omega) (by omega) (by rw [hz2]; omega) (by omega)
 rw [hz1, Int.toNat_natCast, show Int.toNat 0 = 0 from rfl] at hrun
 refine ⟨_, hrun, ⟨⟨by simp, .inr ⟨w.heap.size, n, _, rfl, Nat.le_refl _, Blk.new w _ _, by simp, by unfold maxLen; omega, by simp [madeCells], by simp⟩⟩, by simp, ?_⟩⟩
 exact Keeps.to_below ((Keeps.refl _ w).alloc _)
namespace Pure
structure Rule where
 type : Int
 len : Int
 how : Int
 lo : Int
 hi : Int
 want : List UInt8
 need : Bool
def bnum (b : List UInt8) : Nat := b.foldl (fun n x => n * 256 + x.toNat) 0
def wide (x n : Nat) : List UInt8 := (List.range n).map fun i => UInt8.ofNat (x / 256 ^ (n - 1 - i) % 256)
def Rule.numbered (r : Rule) (b : List UInt8) : Prop := 1 ≤ r.len ∧ r.len ≤ 4 ∧ (b.length : Int) = r.len
instance (r : Rule) (b : List UInt8) : Decidable (r.numbered b) := by unfold Rule.numbered; infer_instance
def Rule.fits (r : Rule) (b : List UInt8) : Prop :=
 (r.how = 1 ∧ (r.len < 0 ∨ (b.length : Int) = r.len)) ∨ (r.how = 2 ∧ r.numbered b ∧ r.lo ≤ bnum b ∧ bnum b ≤ r.hi) ∨ (r.how = 3 ∧ b = r.want) ∨ (r.how = 4 ∧ r.numbered b ∧ bnum b &&& r.hi.toNat = bnum b)
instance (r : Rule) (b : List UInt8) : Decidable (r.fits b) := by unfold Rule.fits; infer_instance
def Rule.offers (r : Rule) (b : List UInt8) : Option Opt :=
 if r.how = 2 ∧ 1 ≤ r.len ∧ r.len ≤ 4 then some (r.type, wide (if r.numbered b ∧ (bnum b : Int) < r.lo then r.lo.toNat else r.hi.toNat) r.len.toNat)
 else if r.how = 3 then some (r.type, r.want)
 else if r.how = 4 ∧ 1 ≤ r.len ∧ r.len ≤ 4 then some (r.type, wide (if r.numbered b then bnum b &&& r.hi.toNat else r.hi.toNat) r.len.toNat)
 else none
def ruleOf (rules : List Rule) (t : Int) : Option Rule := rules.find? fun r => decide (r.type = t)
def hasType (l : List Opt) (t : Int) : Bool := l.any fun o => decide (o.1 = t)
inductive Verdict where
 | pass
 | reject
 | offer (o : Opt)
def verdict (rules : List Rule) (rejects : Bool) (before : List Opt) (o : Opt) : Verdict :=
 match ruleOf rules o.1 with
 | none => .reject
 | some r =>
  if hasType before o.1 = true then .reject
  else if r.fits o.2 then .pass
  else match r.offers o.2 with
   | none => .reject
   | some p => if rejects = true then .reject else .offer p
def judgeTo (rules : List Rule) (rejects : Bool) (l : List Opt) : Nat → List Opt × List Opt
 | 0 => ([], [])
 | k + 1 =>
  match l[k]? with
  | none => judgeTo rules rejects l k
  | some o =>
   match verdict rules rejects (l.take k) o with
   | .pass => judgeTo rules rejects l k
   | .reject => ((judgeTo rules rejects l k).1 ++ [o], (judgeTo rules rejects l k).2)
   | .offer p => ((judgeTo rules rejects l k).1, (judgeTo rules rejects l k).2 ++ [p])
def y1f (rules : List Rule) (l nak : List Opt) : Nat → List Opt
 | 0 => nak
 | k + 1 =>
  match rules[k]? with
  | none => y1f rules l nak k
  | some r =>
   if r.need = false ∨ hasType l r.type = true ∨ hasType (y1f rules l nak k) r.type = true then y1f rules l nak k
   else match ruleOf rules r.type with
    | none => y1f rules l nak k
    | some f => if f.need = false then y1f rules l nak k else match f.offers [] with
     | none => y1f rules l nak k
     | some o => y1f rules l nak k ++ [o]
def judge (rules : List Rule) (l : List Opt) (rejects : Bool) : Nat × List Opt :=
 if (judgeTo rules rejects l l.length).1 ≠ [] then (4, (judgeTo rules rejects l l.length).1)
 else
  let nak := if rejects = true then (judgeTo rules rejects l l.length).2 else y1f rules l (judgeTo rules rejects l l.length).2 rules.length
  if nak ≠ [] then (3, nak) else (2, l)
def nakedOne (rules : List Rule) (nak : List Opt) (o : Opt) : Opt :=
 match nak.find? (fun p => decide (p.1 = o.1)) with
 | none => o
 | some p =>
  match ruleOf rules o.1 with
  | none => o
  | some r =>
   if r.how = 1 then (o.1, p.2)
   else if r.how = 2 ∧ r.numbered p.2 then (o.1, wide (min (max (bnum p.2) r.lo.toNat) r.hi.toNat) r.len.toNat)
   else if r.how = 4 ∧ r.numbered p.2 then (o.1, wide (bnum p.2 &&& r.hi.toNat) r.len.toNat)
   else o
def naked (rules : List Rule) (ask nak : List Opt) : List Opt := ask.map (nakedOne rules nak)
def y6x (rules : List Rule) (t : Int) : Bool := match ruleOf rules t with | some r => r.need | none => false
def stays (rules : List Rule) (rej : List Opt) (o : Opt) : Bool := !rej.any (fun p => decide (o = p)) || y6x rules o.1
def left (rules : List Rule) (ask rej : List Opt) : List Opt := ask.filter (stays rules rej)
theorem bnum_snoc (b : List UInt8) (x : UInt8) : bnum (b ++ [x]) = bnum b * 256 + x.toNat := by simp [bnum, List.foldl_append]
theorem bnum_from (b : List UInt8) : ∀ n : Nat, b.foldl (fun n x => n * 256 + x.toNat) n < (n + 1) * 256 ^ b.length := by
 induction b with
 | nil => intro n; simp
 | cons x b ih =>
  intro n
  rw [List.foldl_cons, List.length_cons, Nat.pow_succ]
  have hx := x.toNat_lt
  have h1 := ih (n * 256 + x.toNat)
  have h2 : (n * 256 + x.toNat + 1) * 256 ^ b.length ≤ ((n + 1) * 256) * 256 ^ b.length := Nat.mul_le_mul_right _ (by omega)
  have h3 : ((n + 1) * 256) * 256 ^ b.length = (n + 1) * (256 ^ b.length * 256) := by rw [Nat.mul_assoc, Nat.mul_comm 256]
  omega
theorem bnum_lt (b : List UInt8) : bnum b < 256 ^ b.length := by have := bnum_from b 0; rw [Nat.zero_add, Nat.one_mul] at this; exact this
theorem bnum_small {b : List UInt8} (h : b.length ≤ 4) : bnum b < 4294967296 :=
 Nat.lt_of_lt_of_le (bnum_lt b) (show 256 ^ b.length ≤ 256 ^ 4 from Nat.pow_le_pow_right (by omega) h)
theorem wide_length (x n : Nat) : (wide x n).length = n := by simp [wide]
theorem bnum_map (x : Nat) : ∀ n, bnum ((List.range n).map fun i => UInt8.ofNat (x / 256 ^ (n - 1 - i) % 256)) = x % 256 ^ n
 | 0 => by simp [bnum, Nat.mod_one]
 | n + 1 => by
  rw [List.range_succ, List.map_append, List.map_cons, List.map_nil, bnum_snoc]
  have e : ((List.range n).map fun i => UInt8.ofNat (x / 256 ^ (n + 1 - 1 - i) % 256)) = (List.range n).map fun i => UInt8.ofNat ((x / 256) / 256 ^ (n - 1 - i) % 256) := by
   apply List.map_congr_left
   intro i hi
   have hi : i < n := List.mem_range.1 hi
   rw [Nat.div_div_eq_div_mul, show n + 1 - 1 - i = (n - 1 - i) + 1 by omega, Nat.pow_succ, Nat.mul_comm]
  rw [e, bnum_map (x / 256) n]
  simp only [Nat.add_sub_cancel, Nat.sub_self, Nat.pow_zero, Nat.div_one]
  rw [show (UInt8.ofNat (x % 256)).toNat = x % 256 by simp, Nat.pow_succ, Nat.mul_comm (256 ^ n) 256, Nat.mod_mul]
  omega
theorem yde {x n : Nat} (h : x < 256 ^ n) : bnum (wide x n) = x := (bnum_map x n).trans (Nat.mod_eq_of_lt h)
end Pure
namespace Pure
def fsmRows : List (List (List Nat × Nat)) := [
 [([], 2), ([4, 6], 6), ([], 2), ([], 3), ([], 4), ([], 5), ([], 6), ([], 7), ([], 8), ([], 9)],
 [([], 0), ([], 1), ([], 0), ([2], 1), ([], 0), ([], 1), ([], 1), ([], 1), ([], 1), ([1], 1)],
 [([2], 1), ([], 1), ([4, 6], 6), ([], 3), ([], 5), ([], 5), ([], 6), ([], 7), ([], 8), ([], 9)],
 [([], 0), ([3], 0), ([], 2), ([], 2), ([], 4), ([], 4), ([4, 9], 4), ([4, 9], 4), ([4, 9], 4), ([1, 4, 9], 4)],
 [([], 0), ([], 1), ([], 2), ([], 3), ([9], 4), ([9], 5), ([6], 6), ([6], 6), ([6], 8), ([], 9)],
 [([], 0), ([], 1), ([], 2), ([], 3), ([3], 2), ([3], 3), ([3], 3), ([3], 3), ([3], 3), ([], 9)],
 [([], 0), ([], 1), ([10], 2), ([4, 6, 7], 8), ([], 4), ([], 5), ([7], 8), ([7, 0], 9), ([7], 8), ([1, 6, 7], 8)],
 [([], 0), ([], 1), ([10], 2), ([4, 6, 8], 6), ([], 4), ([], 5), ([8], 6), ([8], 7), ([8], 6), ([1, 6, 8], 6)],
 [([], 0), ([], 1), ([10], 2), ([10], 3), ([], 4), ([], 5), ([4], 7), ([6], 6), ([4, 0], 9), ([1, 6], 6)],
 [([], 0), ([], 1), ([10], 2), ([10], 3), ([], 4), ([], 5), ([4, 6], 6), ([6], 6), ([4, 6], 8), ([1, 6], 6)],
 [([], 0), ([], 1), ([10], 2), ([10], 3), ([10], 4), ([10], 5), ([10], 6), ([10], 6), ([10], 6), ([1, 5, 10], 5)],
 [([], 0), ([], 1), ([], 2), ([], 3), ([3], 2), ([3], 3), ([], 6), ([], 6), ([], 8), ([1, 6], 6)],
 [([], 0), ([], 1), ([11], 2), ([11], 3), ([11], 4), ([11], 5), ([11], 6), ([11], 7), ([11], 8), ([11], 9)],
 [([], 0), ([], 1), ([], 2), ([], 3), ([], 4), ([], 5), ([], 6), ([], 6), ([], 8), ([], 9)],
 [([], 0), ([], 1), ([3], 2), ([3], 3), ([3], 2), ([3], 3), ([3], 3), ([3], 3), ([3], 3), ([1, 4, 9], 5)],
 [([], 0), ([], 1), ([], 2), ([], 3), ([], 4), ([], 5), ([], 6), ([], 7), ([], 8), ([12], 9)]]
def fsmAt (s e : Nat) : List Nat × Nat := (fsmRows.getD e []).getD s ([], s)
def fsmStep (s e : Int) : List Nat × Int := if 0 ≤ s ∧ s ≤ 9 ∧ 0 ≤ e ∧ e < 16 then ((fsmAt s.toNat e.toNat).1, ((fsmAt s.toNat e.toNat).2 : Int)) else ([], s)
structure Mach where
 state : Nat
 count : Nat
 left : Nat
 tries : Nat
 timeout : Nat
deriving DecidableEq
def Mach.act (m : Mach) (a : Nat) : Mach :=
 if a = 4 then { m with count := m.tries } else if a = 5 then { m with count := 0, left := m.timeout } else if a = 6 ∨ a = 9 then { m with count := m.count - 1, left := m.timeout } else m
def Mach.rest (m : Mach) : Mach := if m.state < 4 ∨ m.state = 9 then { m with left := 0 } else m
def Mach.step (m : Mach) (e : Nat) : List Nat × Mach := ((fsmAt m.state e).1, ((fsmAt m.state e).1.foldl Mach.act { m with state := (fsmAt m.state e).2 }).rest)
def does (e : Int) : Prop := 0 ≤ e ∧ e < 16 ∧ e ≠ 4 ∧ e ≠ 5
instance (e : Int) : Decidable (does e) := by unfold does; infer_instance
def Mach.act2 (m : Mach) (e : Int) : List Nat × Mach := if does e then m.step e.toNat else ([], m)
def Mach.tick (m : Mach) : List Nat × Mach :=
 if m.left = 0 then ([], m) else if 1 < m.left then ([], { m with left := m.left - 1 }) else if 0 < m.count then { m with left := 0 }.step 4 else { m with left := 0 }.step 5
def Mach.call (m : Mach) (x : Int) : List Nat × Mach := if x = -2 then m.tick else m.act2 x
def newMach (tries timeout : Nat) : Mach := ⟨0, 0, 0, tries, timeout⟩
theorem fsmAt_le : ∀ s < 10, ∀ e < 16, (fsmAt s e).2 ≤ 9 ∧ ∀ a ∈ (fsmAt s e).1, a ≤ 12 := by decide +kernel
structure Mach.Good (m : Mach) : Prop where
 state : m.state ≤ 9
 tries : 1 ≤ m.tries
 timeout : 1 ≤ m.timeout
 count : m.count ≤ m.tries
 left : m.left ≤ m.timeout
 rest : m.state < 4 ∨ m.state = 9 → m.left = 0
 runs : 4 ≤ m.state → m.state ≤ 8 → 0 < m.left
theorem newMach_good {t u : Nat} (ht : 1 ≤ t) (hu : 1 ≤ u) : (newMach t u).Good := ⟨by simp [newMach], ht, hu, by simp [newMach], by simp [newMach], fun _ => rfl, fun h => by simp [newMach] at h⟩
theorem act_keeps (l : List Nat) : ∀ (m : Mach), (l.foldl Mach.act m).state = m.state ∧ (l.foldl Mach.act m).tries = m.tries ∧ (l.foldl Mach.act m).timeout = m.timeout ∧
  (m.count ≤ m.tries → (l.foldl Mach.act m).count ≤ m.tries) ∧ (m.left ≤ m.timeout → (l.foldl Mach.act m).left ≤ m.timeout) ∧ (m.left = m.timeout → (l.foldl Mach.act m).left = m.timeout) := by
 induction l with
 | nil => intro m; exact ⟨rfl, rfl, rfl, id, id, id⟩
 | cons a l ih =>
  intro m
  rw [List.foldl_cons]
  obtain ⟨h1, h2, h3, h4, h5, h6⟩ := ih (m.act a)
  have k : (m.act a).state = m.state ∧ (m.act a).tries = m.tries ∧ (m.act a).timeout = m.timeout ∧ (m.count ≤ m.tries → (m.act a).count ≤ m.tries) ∧ (m.left ≤ m.timeout → (m.act a).left ≤ m.timeout) ∧ (m.left = m.timeout → (m.act a).left = m.timeout) := by
   unfold Mach.act
   split
   ·exact ⟨rfl, rfl, rfl, fun _ => Nat.le_refl _, id, id⟩
   ·split
    ·exact ⟨rfl, rfl, rfl, fun _ => Nat.zero_le _, fun _ => Nat.le_refl _, fun _ => rfl⟩
    ·split
     ·exact ⟨rfl, rfl, rfl, fun h => by show m.count - 1 ≤ m.tries; omega, fun _ => Nat.le_refl _, fun _ => rfl⟩
     ·exact ⟨rfl, rfl, rfl, id, id, id⟩
  obtain ⟨k1, k2, k3, k4, k5, k6⟩ := k
  rw [k2] at h2 h4
  rw [k3] at h3 h5 h6
  exact ⟨h1.trans k1, h2, h3, fun h => h4 (k4 h), fun h => h5 (k5 h), fun h => h6 (k6 h)⟩
def y51 (l : List Nat) : Bool := l.any fun a => a == 5 || a == 6 || a == 9
theorem yar (l : List Nat) : ∀ (m : Mach), y51 l = true → (l.foldl Mach.act m).left = m.timeout := by
 induction l with
 | nil => intro m h; cases h
 | cons a l ih =>
  intro m h
  rw [List.foldl_cons]
  by_cases ha : a = 5 ∨ a = 6 ∨ a = 9
  ·have k : (m.act a).left = m.timeout ∧ (m.act a).timeout = m.timeout := by
    rcases ha with rfl | rfl | rfl <;> exact ⟨rfl, rfl⟩
   have := (act_keeps l (m.act a)).2.2.2.2.2 (by rw [k.1, k.2])
   rw [this, k.2]
  ·have hl : y51 l = true := by
    have : (a == 5 || a == 6 || a == 9) = false := by
     rw [Bool.eq_false_iff]; intro h; simp at h; omega
    simpa [y51, this] using h
   rw [ih (m.act a) hl]
   unfold Mach.act
   split
   ·rfl
   ·split
    ·rfl
    ·split <;> rfl
theorem fsm_runs' : ∀ s < 10, ∀ e < 16, (fsmAt s e).2 < 4 ∨ 8 < (fsmAt s e).2 ∨ y51 (fsmAt s e).1 = true ∨ (4 ≤ s ∧ s ≤ 8 ∧ e ≠ 4 ∧ e ≠ 5) := by decide +kernel
theorem fsm_runs (s : Nat) (hs : s < 10) (e : Nat) (he : e < 16) (h1 : 4 ≤ (fsmAt s e).2) (h2 : (fsmAt s e).2 ≤ 8) : y51 (fsmAt s e).1 = true ∨ (4 ≤ s ∧ s ≤ 8 ∧ e ≠ 4 ∧ e ≠ 5) := by
 rcases fsm_runs' s hs e he with h | h | h
 ·omega
 ·omega
 ·exact h
theorem rest_eq (m : Mach) : m.rest.state = m.state ∧ m.rest.count = m.count ∧ m.rest.tries = m.tries ∧ m.rest.timeout = m.timeout ∧ (m.rest.left = m.left ∨ m.rest.left = 0) := by
 unfold Mach.rest
 split
 ·exact ⟨rfl, rfl, rfl, rfl, .inr rfl⟩
 ·exact ⟨rfl, rfl, rfl, rfl, .inl rfl⟩
theorem y97 {m : Mach} {e : Nat} (he : e < 16) (hs : m.state ≤ 9) (ht : 1 ≤ m.tries) (hu : 1 ≤ m.timeout) (hc : m.count ≤ m.tries) (hl : m.left ≤ m.timeout) (hr : e ≠ 4 → e ≠ 5 → 4 ≤ m.state → m.state ≤ 8 → 0 < m.left) :
  (m.step e).2.Good ∧ (m.step e).2.state = (fsmAt m.state e).2 ∧ (m.step e).2.tries = m.tries ∧ (m.step e).2.timeout = m.timeout := by
 obtain ⟨k1, k2, k3, k4, k5, k6⟩ := act_keeps (fsmAt m.state e).1 { m with state := (fsmAt m.state e).2 }
 obtain ⟨r1, r2, r3, r4, r5⟩ := rest_eq ((fsmAt m.state e).1.foldl Mach.act { m with state := (fsmAt m.state e).2 })
 have hst : (m.step e).2.state = (fsmAt m.state e).2 := r1.trans k1
 refine ⟨⟨?_, ?_, ?_, ?_, ?_, ?_, ?_⟩, hst, r3.trans k2, r4.trans k3⟩
 ·rw [hst]; exact (fsmAt_le m.state (by omega) e he).1
 ·rw [show (m.step e).2.tries = m.tries from r3.trans k2]; exact ht
 ·rw [show (m.step e).2.timeout = m.timeout from r4.trans k3]; exact hu
 ·rw [show (m.step e).2.count = _ from r2, show (m.step e).2.tries = m.tries from r3.trans k2]; exact k4 hc
 ·rw [show (m.step e).2.timeout = m.timeout from r4.trans k3]
  rcases r5 with h | h
  ·rw [show (m.step e).2.left = _ from h]; exact k5 hl
  ·rw [show (m.step e).2.left = _ from h]; omega
 ·intro h
  rw [hst] at h
  show (Mach.rest _).left = 0
  unfold Mach.rest
  rw [k1]
  rw [if_pos h]
 ·intro h1 h2
  rw [hst] at h1 h2
  show 0 < (Mach.rest _).left
  unfold Mach.rest
  rw [k1]
  rw [if_neg (show ¬ ((fsmAt m.state e).2 < 4 ∨ (fsmAt m.state e).2 = 9) by omega)]
  rcases fsm_runs m.state (by omega) e he h1 h2 with h | ⟨h3, h4, h5, h6⟩
  ·rw [yar _ _ h]; exact hu
  ·by_cases hst : y51 (fsmAt m.state e).1 = true
   ·rw [yar _ _ hst]; exact hu
   ·have hno : ∀ (l : List Nat) (m : Mach), y51 l = false → (l.foldl Mach.act m).left = m.left := by
     intro l
     induction l with
     | nil => intro m _; rfl
     | cons a l ih =>
      intro m h
      simp [y51] at h
      rw [List.foldl_cons, ih _ (by simp [y51]; exact h.2)]
      unfold Mach.act
      split
      ·rfl
      ·rw [if_neg (by omega), if_neg (by omega)]
    rw [hno _ _ (by simpa using hst)]
    exact hr h5 h6 h3 h4
theorem act2_good {m : Mach} (h : m.Good) (e : Int) : (m.act2 e).2.Good ∧ (m.act2 e).2.tries = m.tries ∧ (m.act2 e).2.timeout = m.timeout := by
 unfold Mach.act2
 split
 ·rename_i hd
  unfold does at hd
  obtain ⟨g, _, a, b⟩ := y97 (m := m) (e := e.toNat) (by omega) h.state h.tries h.timeout h.count h.left (fun _ _ => h.runs)
  exact ⟨g, a, b⟩
 ·exact ⟨h, rfl, rfl⟩
end Pure
namespace Pure
def many (f : Nat → Bool) (l : List Nat) : Nat := (l.filter f).length
def asks (l : List Nat) : Nat := many (fun a => a == 6 || a == 9) l
theorem act2_step {e : Nat} (he : does e) (m : Mach) : m.act2 e = m.step e := by
 unfold Mach.act2
 rw [if_pos he]
 rfl
end Pure
namespace Pure
structure Said where
 send : List Pkt
 up : Bool
 down : Bool
 start : Bool
 done : Bool
def mute : Said := ⟨[], false, false, false, false⟩
structure Reply where
 p : Pkt
 code : Nat
 l : List Opt
structure Neg where
 rules : List Rule
 first : List Opt
 request : List Opt
 m : Mach
 id : Nat
 asked : Nat
 naks : Nat
 waits : Bool
 acked : List Opt
 theirs : List Opt
 dropped : Nat
 ours : List UInt8
def Neg.next (n : Neg) : Nat := (n.id + 1) % 256
def Neg.again (n : Neg) : Neg := { n with request := n.first, naks := 0 }
def Said.more (o : Said) (p : Pkt) : Said := { o with send := o.send ++ [p] }
def sendOwn (s : Neg × Said) (code : Nat) (data : List UInt8) : Neg × Said := ({ s.1 with id := s.1.next }, s.2.more ⟨code, s.1.next, data⟩)
def y60 (s : Neg × Said) : Neg × Said := ({ s.1 with ours := (options s.1.request).2, waits := true, id := s.1.next, asked := s.1.next }, s.2.more ⟨1, s.1.next, (options s.1.request).2⟩)
def y3w (s : Neg × Said) : Option Reply → Neg × Said
 | none => s
 | some q => ({ s.1 with naks := if q.code = 3 then s.1.naks + 1 else s.1.naks }, s.2.more ⟨q.code, q.p.id, (options q.l).2⟩)
def y40 (s : Neg × Said) : Option Reply → Neg × Said
 | none => sendOwn s 6 []
 | some q => if q.p.code = 5 then (s.1, s.2.more ⟨6, q.p.id, []⟩) else sendOwn s 6 []
def y3f (s : Neg × Said) : Option Reply → Neg × Said
 | none => s
 | some q => sendOwn s 7 ((encode q.p).2.take 1496)
def y2o (r : Option Reply) (s : Neg × Said) : Nat → Neg × Said
 | 0 => (s.1, { s.2 with up := true })
 | 1 => (s.1, { s.2 with down := true })
 | 2 => (s.1.again, { s.2 with start := true })
 | 3 => (s.1, { s.2 with done := true })
 | 6 => y60 s
 | 7 => y3w s r
 | 8 => y3w s r
 | 9 => sendOwn s 5 []
 | 10 => y40 s r
 | 11 => y3f s r
 | _ => s
def Neg.acts (n : Neg) (l : List Nat) (r : Option Reply) : Neg × Said := l.foldl (y2o r) (n, mute)
def Neg.event (n : Neg) (e : Nat) (r : Option Reply) : Neg × Said := { n with m := (n.m.act2 e).2 }.acts (n.m.act2 e).1 r
def Neg.act (n : Neg) (e : Int) : Neg × Said :=
 if e < 0 ∨ 3 < e then (n, mute) else if e = 0 then n.again.event 0 none else n.event e.toNat none
def Neg.tick (n : Neg) : Neg × Said := { n with m := n.m.tick.2 }.acts n.m.tick.1 none
def Neg.drop (n : Neg) : Neg × Said := ({ n with dropped := n.dropped + 1 }, mute)
def Neg.judged (n : Neg) (p : Pkt) (l : List Opt) : Neg × Said :=
 let j := judge n.rules l (decide (n.m.tries ≤ n.naks))
 let s := n.event (if j.1 = 2 then 6 else 7) (some ⟨p, j.1, j.2⟩)
 if j.1 = 2 ∧ (s.1.m.state = 8 ∨ s.1.m.state = 9) then ({ s.1 with theirs := l }, s.2) else s
def Neg.answered (n : Neg) (p : Pkt) : Neg × Said :=
 if n.waits = false ∨ p.id ≠ n.asked then n.drop
 else if p.code = 2 then (if p.data = n.ours then { n with waits := false, acked := (split n.ours).2 }.event 8 (some ⟨p, 0, []⟩) else n.drop)
 else if (split p.data).1 ≠ 0 then n.drop
 else if p.code = 4 then
  (if (split p.data).2.all (fun o => (split n.ours).2.any fun q => decide (o = q)) = true then { n with request := left n.rules n.request (split p.data).2, waits := false }.event 9 (some ⟨p, 0, []⟩) else n.drop)
 else { n with request := naked n.rules n.request (split p.data).2, waits := false }.event 9 (some ⟨p, 0, []⟩)
def Neg.input (n : Neg) (p : Pkt) : Neg × Said :=
 if n.m.state ≤ 1 then n.drop
 else if p.code = 1 then (if (split p.data).1 ≠ 0 then n.drop else n.judged p (split p.data).2)
 else if p.code = 2 ∨ p.code = 3 ∨ p.code = 4 then n.answered p
 else if p.code = 5 then n.event 10 (some ⟨p, 0, []⟩)
 else if p.code = 6 then n.event 11 (some ⟨p, 0, []⟩)
 else if p.code = 7 then
  (match p.data with
  | [] => n.drop
  | b :: _ => if 1 ≤ b.toNat ∧ b.toNat ≤ 7 then n.event 14 (some ⟨p, 0, []⟩) else n.event 13 (some ⟨p, 0, []⟩))
 else n.event 12 (some ⟨p, 0, []⟩)
def Neg.ask (n : Neg) (l : List Opt) : Neg := if (options l).1 = 0 then { n with first := l } else n
def Neg.mine (n : Neg) : List Opt := if n.m.state = 9 then n.acked else []
def Neg.given (n : Neg) : List Opt := if n.m.state = 9 then n.theirs else []
def newNeg (rules : List Rule) (ask : List Opt) (tries timeout : Nat) : Neg := ⟨rules, ask, ask, newMach tries timeout, 0, 0, 0, false, [], [], 0, []⟩
structure Neg.Like (n n' : Neg) : Prop where
 m : n'.m = n.m
 rules : n'.rules = n.rules
 first : n'.first = n.first
 acked : n'.acked = n.acked
 theirs : n'.theirs = n.theirs
 dropped : n'.dropped = n.dropped
theorem Neg.Like.refl (n : Neg) : Neg.Like n n := ⟨rfl, rfl, rfl, rfl, rfl, rfl⟩
theorem Neg.Like.trans {a b c : Neg} (h : Neg.Like a b) (k : Neg.Like b c) : Neg.Like a c := ⟨k.m.trans h.m, k.rules.trans h.rules, k.first.trans h.first, k.acked.trans h.acked, k.theirs.trans h.theirs, k.dropped.trans h.dropped⟩
theorem yfb (r : Option Reply) (s : Neg × Said) (a : Nat) : Neg.Like s.1 (y2o r s a).1 := by
 unfold y2o
 split
 ·exact Neg.Like.refl _
 ·exact Neg.Like.refl _
 ·exact ⟨rfl, rfl, rfl, rfl, rfl, rfl⟩
 ·exact Neg.Like.refl _
 ·exact ⟨rfl, rfl, rfl, rfl, rfl, rfl⟩
 ·cases r <;> exact ⟨rfl, rfl, rfl, rfl, rfl, rfl⟩
 ·cases r <;> exact ⟨rfl, rfl, rfl, rfl, rfl, rfl⟩
 ·exact ⟨rfl, rfl, rfl, rfl, rfl, rfl⟩
 ·cases r with
  | none => exact ⟨rfl, rfl, rfl, rfl, rfl, rfl⟩
  | some q =>
   show Neg.Like s.1 (if q.p.code = 5 then (s.1, s.2.more ⟨6, q.p.id, []⟩) else sendOwn s 6 []).1
   split
   ·exact Neg.Like.refl _
   ·exact ⟨rfl, rfl, rfl, rfl, rfl, rfl⟩
 ·cases r <;> exact ⟨rfl, rfl, rfl, rfl, rfl, rfl⟩
 ·exact Neg.Like.refl _
theorem y5v (r : Option Reply) (l : List Nat) : ∀ s : Neg × Said, Neg.Like s.1 (l.foldl (y2o r) s).1 := by
 induction l with
 | nil => intro s; exact Neg.Like.refl _
 | cons a l ih =>
  intro s
  rw [List.foldl_cons]
  exact (yfb r s a).trans (ih _)
theorem y25 (n : Neg) (e : Nat) (r : Option Reply) : (n.event e r).1.m = (n.m.act2 e).2 := (y5v r _ ({ n with m := (n.m.act2 e).2 }, mute)).m
end Pure
namespace Pure
theorem u8_nat (n : Nat) (h : n < 256) : (UInt8.ofNat n).toNat = n := by rw [UInt8.toNat_ofNat']; omega
theorem y9v (o : Opt) (l : List Opt) : joined (o :: l) = UInt8.ofNat o.1.toNat :: UInt8.ofNat (o.2.length + 2) :: (o.2 ++ joined l) := by simp [joined, Opt.bytes]
theorem yea (a b : List Opt) : joined (a ++ b) = joined a ++ joined b := by simp [joined]
theorem yfi (l : List Opt) : ∀ (acc : List Opt), (∀ o ∈ l, ¬ Opt.odd o) → acc.length + l.length ≤ 32 → splitFrom (joined l) acc = (0, acc ++ l) := by
 induction l with
 | nil => intro acc _ _; simp [joined, splitFrom_nil]
 | cons o l ih =>
  intro acc ho hl
  obtain ⟨t, d⟩ := o
  have hodd : 0 ≤ t ∧ t ≤ 255 ∧ d.length ≤ 253 := by
   have := ho (t, d) (by simp)
   unfold Opt.odd at this
   dsimp only at this
   omega
  rw [y9v]
  dsimp only
  have h1 : (UInt8.ofNat (d.length + 2)).toNat = d.length + 2 := u8_nat _ (by omega)
  have h0 : (UInt8.ofNat t.toNat).toNat = t.toNat := u8_nat _ (by omega)
  simp only [List.length_cons] at hl
  rw [splitFrom_step (by simp) (by omega)]
  ·have e0 : (UInt8.ofNat t.toNat :: UInt8.ofNat (d.length + 2) :: (d ++ joined l)).getD 0 0 = UInt8.ofNat t.toNat := rfl
   have e1 : (UInt8.ofNat t.toNat :: UInt8.ofNat (d.length + 2) :: (d ++ joined l)).getD 1 0 = UInt8.ofNat (d.length + 2) := rfl
   rw [e0, e1, h0, h1]
   have ed : (UInt8.ofNat t.toNat :: UInt8.ofNat (d.length + 2) :: (d ++ joined l)).drop (d.length + 2) = joined l := by simp
   have et : ((UInt8.ofNat t.toNat :: UInt8.ofNat (d.length + 2) :: (d ++ joined l)).drop 2).take (d.length + 2 - 2) = d := by simp
   rw [ed, et, ih _ (fun o h => ho o (by simp [h])) (by rw [List.length_append]; simp only [List.length_cons, List.length_nil]; omega)]
   rw [show ((t.toNat : Nat) : Int) = t by omega]
   simp
  ·have e1 : (UInt8.ofNat t.toNat :: UInt8.ofNat (d.length + 2) :: (d ++ joined l)).getD 1 0 = UInt8.ofNat (d.length + 2) := rfl
   rw [e1, h1]
   simp
theorem ybp : ∀ (f : Nat) (b : List UInt8) (acc k : List Opt), b.length ≤ f → y2z f b acc = (0, k) → acc.length ≤ 32 → (∀ o ∈ acc, ¬ Opt.odd o) → joined k = joined acc ++ b ∧ k.length ≤ 32 ∧ ∀ o ∈ k, ¬ Opt.odd o
 | 0, b, acc, k, hf, h, h32, ho => by
  have hb : b = [] := List.eq_nil_of_length_eq_zero (by omega)
  subst hb
  simp [y2z] at h
  subst h
  exact ⟨by simp, h32, ho⟩
 | f + 1, b, acc, k, hf, h, h32, ho => by
  unfold y2z at h
  split at h
  ·rename_i hb
   simp at h
   subst h hb
   exact ⟨by simp, h32, ho⟩
  ·split at h
   ·simp at h
   ·split at h
    ·simp at h
    ·rename_i h1 h2
     have hl1 := (b.getD 1 0).toNat_lt
     have hl0 := (b.getD 0 0).toNat_lt
     obtain ⟨r1, r2, r3⟩ := ybp f _ _ k (by rw [List.length_drop]; omega) h (by rw [List.length_append]; simp only [List.length_cons, List.length_nil]; omega) (by
      intro o hoo
      rcases List.mem_append.1 hoo with hoo | hoo
      ·exact ho o hoo
      ·simp only [List.mem_singleton] at hoo
       subst hoo
       unfold Opt.odd
       dsimp only
       rw [List.length_take, List.length_drop]
       omega)
     refine ⟨?_, r2, r3⟩
     rw [r1, yea, List.append_assoc]
     congr 1
     have hlen : ((b.drop 2).take ((b.getD 1 0).toNat - 2)).length = (b.getD 1 0).toNat - 2 := by rw [List.length_take, List.length_drop]; omega
     rw [y9v]
     dsimp only
     rw [hlen, show (b.getD 1 0).toNat - 2 + 2 = (b.getD 1 0).toNat by omega, Int.toNat_natCast]
     have hb2 : b = b.getD 0 0 :: b.getD 1 0 :: b.drop 2 := by
      match b, h2 with
      | x :: y :: r, _ => rfl
      | [x], h2 => simp at h2
      | [], h2 => simp at h2
     have hcat : (b.drop 2).take ((b.getD 1 0).toNat - 2) ++ b.drop (b.getD 1 0).toNat = b.drop 2 := by
      have := List.take_append_drop ((b.getD 1 0).toNat - 2) (b.drop 2)
      rw [List.drop_drop, show 2 + ((b.getD 1 0).toNat - 2) = (b.getD 1 0).toNat by omega] at this
      exact this
     simp only [joined, List.flatMap_nil, List.append_nil, List.cons_append]
     rw [hcat]
     have e0 : UInt8.ofNat (b.getD 0 0).toNat = b.getD 0 0 := by simp
     have e1 : UInt8.ofNat (b.getD 1 0).toNat = b.getD 1 0 := by simp
     rw [e0, e1]
     exact hb2.symm
theorem y5t {b : List UInt8} {k : List Opt} (h : split b = (0, k)) : options k = (0, b) := by
 obtain ⟨h1, h2, h3⟩ := ybp b.length b [] k (Nat.le_refl _) h (by simp) (by simp)
 rw [options_ok (by omega) h3, h1]
 simp [joined]
theorem y6c {l : List Opt} (h : (options l).1 = 0) : split (options l).2 = (0, l) ∧ l.length ≤ 32 ∧ ∀ o ∈ l, ¬ Opt.odd o := by
 unfold options at h ⊢
 split at h
 ·simp at h
 ·split at h
  ·simp at h
  ·rename_i h1 h2
   have ho : ∀ o ∈ l, ¬ Opt.odd o := fun o hm hodd => h2 ⟨o, hm, hodd⟩
   rw [if_neg h1, if_neg h2]
   refine ⟨?_, by omega, ho⟩
   have := yfi l [] ho (by simp; omega)
   simpa [split] using this
end Pure
namespace Pure
def begun (rules : List Rule) (ask : List Opt) (t u : Nat) : Neg := ⟨rules, ask, ask, ⟨6, t - 1, u, t, u⟩, 1, 1, 0, true, [], [], 0, (options ask).2⟩
def sends (l : List Pkt) : Said := ⟨l, false, false, false, false⟩
end Pure
namespace Pure
def deadRule : Rule := ⟨0, 0, 0, 0, 0, [], false⟩
def ruleFor (rules : List Rule) (t : Int) : Rule := (ruleOf rules t).getD deadRule
theorem dead_fits (b : List UInt8) : ¬ deadRule.fits b := by
 unfold Rule.fits deadRule
 simp
theorem y74 (b : List UInt8) : deadRule.offers b = none := by
 unfold Rule.offers deadRule
 simp
theorem ya6 {rules : List Rule} {t : Int} {r : Rule} (h : ruleOf rules t = some r) : r.type = t := by
 unfold ruleOf at h
 have := List.find?_some h
 simpa using this
theorem offers_type {r : Rule} {b : List UInt8} {o : Opt} (h : r.offers b = some o) : o.1 = r.type := by
 unfold Rule.offers at h
 split at h
 ·injection h with h; rw [← h]
 ·split at h
  ·injection h with h; rw [← h]
  ·split at h
   ·injection h with h; rw [← h]
   ·cases h
def refuses (rules : List Rule) (rejects : Bool) (before : List Opt) (o : Opt) : Bool :=
 hasType before o.1 || (!decide ((ruleFor rules o.1).fits o.2) && (rejects || ((ruleFor rules o.1).offers o.2).isNone))
def counter (rules : List Rule) (o : Opt) : Option Opt := if (ruleFor rules o.1).fits o.2 then none else (ruleFor rules o.1).offers o.2
theorem judgeTo_step (rules : List Rule) (rejects : Bool) (l : List Opt) (k : Nat) (o : Opt) (h : l[k]? = some o) : judgeTo rules rejects l (k + 1) =
  if refuses rules rejects (l.take k) o = true then ((judgeTo rules rejects l k).1 ++ [o], (judgeTo rules rejects l k).2)
  else ((judgeTo rules rejects l k).1, (judgeTo rules rejects l k).2 ++ (counter rules o).toList) := by
 rw [judgeTo, h]
 dsimp only
 unfold verdict refuses counter ruleFor
 cases hr : ruleOf rules o.1 with
 | none =>
  have h1 := dead_fits o.2
  have h2 := y74 o.2
  simp [h1, h2]
 | some r =>
  dsimp only [Option.getD_some]
  by_cases hb : hasType (l.take k) o.1 = true
  ·simp [hb]
  ·by_cases hf : r.fits o.2
   ·simp [hb, hf]
   ·obtain ⟨x, hx⟩ : ∃ x, r.offers o.2 = x := ⟨_, rfl⟩
    cases x with
    | none => simp [hf, hb, hx]
    | some p =>
     cases rejects
     ·simp [hb, hf, hx]
     ·simp [hf, hb, hx]
theorem y8n (rules : List Rule) (rejects : Bool) (l : List Opt) (k : Nat) (h : l.length ≤ k) : judgeTo rules rejects l (k + 1) = judgeTo rules rejects l k := by
 rw [judgeTo, List.getElem?_eq_none h]
theorem take_snoc {α : Type} (l : List α) (k : Nat) (o : α) (h : l[k]? = some o) : l.take (k + 1) = l.take k ++ [o] := by
 rw [List.take_add_one, h]
 rfl
theorem y4b (rules : List Rule) (rejects : Bool) (l : List Opt) : ∀ k, (judgeTo rules rejects l k).1 = [] → (judgeTo rules rejects l k).2 = (l.take k).filterMap (counter rules)
 | 0, _ => rfl
 | k + 1, h => by
  cases hk : l[k]? with
  | none =>
   have hl : l.length ≤ k := by simpa using hk
   rw [y8n rules rejects l k hl] at h ⊢
   rw [y4b rules rejects l k h, List.take_of_length_le hl, List.take_of_length_le (by omega)]
  | some o =>
   rw [judgeTo_step rules rejects l k o hk] at h ⊢
   rw [take_snoc l k o hk, List.filterMap_append]
   split at h
   ·simp at h
   ·rename_i hn
    rw [if_neg hn]
    dsimp only at h ⊢
    rw [y4b rules rejects l k h, show [o].filterMap (counter rules) = (counter rules o).toList by cases hc : counter rules o <;> simp [hc]]
theorem y6s (rules : List Rule) (l : List Opt) : ∀ k, (judgeTo rules true l k).2 = []
 | 0 => rfl
 | k + 1 => by
  have ih := y6s rules l k
  cases hk : l[k]? with
  | none => rw [y8n rules true l k (by simpa using hk)]; exact ih
  | some o =>
   rw [judgeTo_step rules true l k o hk]
   split
   ·exact ih
   ·rename_i hn
    dsimp only
    rw [ih, List.nil_append]
    unfold refuses at hn
    unfold counter
    by_cases hf : (ruleFor rules o.1).fits o.2
    ·rw [if_pos hf]; rfl
    ·simp [hf] at hn
def hasRule (rules : List Rule) (t : Int) : Bool := rules.any fun r => decide (r.type = t)
def missTo (rules : List Rule) (l : List Opt) : Nat → List Opt
 | 0 => []
 | k + 1 =>
  match rules[k]? with
  | none => missTo rules l k
  | some r =>
   if r.need = false ∨ hasRule (rules.take k) r.type = true ∨ hasType l r.type = true then missTo rules l k
   else missTo rules l k ++ (r.offers []).toList
theorem y77 (rules : List Rule) (l : List Opt) (k : Nat) (h : rules.length ≤ k) : missTo rules l (k + 1) = missTo rules l k := by
 rw [missTo, List.getElem?_eq_none h]
theorem missTo_step (rules : List Rule) (l : List Opt) (k : Nat) (r : Rule) (h : rules[k]? = some r) : missTo rules l (k + 1) =
  if r.need = false ∨ hasRule (rules.take k) r.type = true ∨ hasType l r.type = true then missTo rules l k else missTo rules l k ++ (r.offers []).toList := by
 rw [missTo, h]
theorem y4t (rules : List Rule) (l : List Opt) (t : Int) : ∀ k, hasType (missTo rules l k) t = true → hasRule (rules.take k) t = true
 | 0, h => by simp [missTo, hasType] at h
 | k + 1, h => by
  cases hk : rules[k]? with
  | none =>
   have hl : rules.length ≤ k := by simpa using hk
   rw [y77 rules l k hl] at h
   have := y4t rules l t k h
   rw [List.take_of_length_le hl] at this
   rw [List.take_of_length_le (show rules.length ≤ k + 1 by omega)]
   exact this
  | some r =>
   rw [missTo_step rules l k r hk] at h
   rw [take_snoc rules k r hk]
   unfold hasRule
   rw [List.any_append]
   split at h
   ·have := y4t rules l t k h
    unfold hasRule at this
    rw [this]; rfl
   ·unfold hasType at h
    rw [List.any_append] at h
    rcases Bool.or_eq_true_iff.1 h with h | h
    ·have := y4t rules l t k h
     unfold hasRule at this
     rw [this]; rfl
    ·cases ho : r.offers [] with
     | none => simp [ho] at h
     | some o =>
      simp [ho] at h
      have := offers_type ho
      simp [← h, this]
theorem ya5 {rules : List Rule} {t : Int} {k : Nat} (h : hasRule (rules.take k) t = true) : ∃ j r, j < k ∧ rules[j]? = some r ∧ r.type = t ∧ ruleOf rules t = some r ∧ hasRule (rules.take j) t = false := by
 induction k with
 | zero => simp [hasRule] at h
 | succ k ih =>
  by_cases hb : hasRule (rules.take k) t = true
  ·obtain ⟨j, r, hj, rest⟩ := ih hb
   exact ⟨j, r, by omega, rest⟩
  ·have hb : hasRule (rules.take k) t = false := by simpa using hb
   cases hk : rules[k]? with
   | none =>
    have hl : rules.length ≤ k := by simpa using hk
    rw [List.take_of_length_le (show rules.length ≤ k + 1 by omega)] at h
    rw [List.take_of_length_le hl, h] at hb
    cases hb
   | some r =>
    rw [take_snoc rules k r hk] at h
    unfold hasRule at h hb
    rw [List.any_append, hb] at h
    have ht : r.type = t := by simpa using h
    refine ⟨k, r, by omega, hk, ht, ?_, hb⟩
    unfold ruleOf
    have hs : rules = (rules.take k ++ [r]) ++ rules.drop (k + 1) := by rw [← take_snoc rules k r hk, List.take_append_drop]
    rw [hs, List.find?_append, List.find?_append]
    have h0 : (rules.take k).find? (fun r => decide (r.type = t)) = none := by
     rw [List.find?_eq_none]
     intro x hx
     have := (List.any_eq_false.1 hb) x hx
     simpa using this
    rw [h0]
    simp [ht]
theorem missTo_has (rules : List Rule) (l : List Opt) (j k : Nat) (h : j ≤ k) (o : Opt) (ho : o ∈ missTo rules l j) : o ∈ missTo rules l k := by
 induction k with
 | zero =>
  have : j = 0 := by omega
  subst this; exact ho
 | succ k ih =>
  rcases Nat.lt_or_ge k j with hj | hj
  ·have : j = k + 1 := by omega
   subst this; exact ho
  ·have := ih hj
   cases hk : rules[k]? with
   | none => rw [y77 rules l k (by simpa using hk)]; exact this
   | some r =>
    rw [missTo_step rules l k r hk]
    split
    ·exact this
    ·exact List.mem_append_left _ this
theorem ya1 (rules : List Rule) (l nak : List Opt) (hn : ∀ o ∈ nak, hasType l o.1 = true) : ∀ k, y1f rules l nak k = nak ++ missTo rules l k
 | 0 => by simp [y1f, missTo]
 | k + 1 => by
  have ih := ya1 rules l nak hn k
  rw [y1f]
  cases hk : rules[k]? with
  | none =>
   dsimp only
   rw [y77 rules l k (by simpa using hk)]
   exact ih
  | some r =>
   dsimp only
   rw [missTo_step rules l k r hk, ih]
   by_cases h1 : r.need = false
   ·rw [if_pos (.inl h1), if_pos (.inl h1)]
   ·by_cases h2 : hasType l r.type = true
    ·rw [if_pos (.inr (.inl h2)), if_pos (.inr (.inr h2))]
    ·have hnak : hasType nak r.type = false := by
      unfold hasType
      rw [List.any_eq_false]
      intro p hp
      simp only [decide_eq_true_eq]
      intro e
      exact h2 (e ▸ hn p hp)
     have hsplit : hasType (nak ++ missTo rules l k) r.type = hasType (missTo rules l k) r.type := by
      unfold hasType at hnak ⊢
      rw [List.any_append, hnak, Bool.false_or]
     rw [hsplit]
     by_cases h3 : hasRule (rules.take k) r.type = true
     ·rw [if_pos (show r.need = false ∨ hasRule (rules.take k) r.type = true ∨ hasType l r.type = true from .inr (.inl h3))]
      obtain ⟨j, f, hj, hfj, hft, hff, hfn⟩ := ya5 h3
      split
      ·rfl
      ·rename_i hno
       rw [hff]
       dsimp only
       split
       ·rfl
       ·rename_i hneed
        cases ho : f.offers [] with
        | none => rfl
        | some o =>
         exfalso
         apply hno
         refine .inr (.inr ?_)
         have hin : o ∈ missTo rules l (j + 1) := by
          rw [missTo_step rules l j f hfj, if_neg (by rw [hft]; simp [hneed, hfn, h2]), ho]
          simp
         have := missTo_has rules l (j + 1) k (by omega) o hin
         unfold hasType
         rw [List.any_eq_true]
         exact ⟨o, this, by simp [offers_type ho, hft]⟩
     ·have hm : hasType (missTo rules l k) r.type = false := by
       rw [← Bool.not_eq_true]
       exact fun h => h3 (y4t rules l r.type k h)
      have hfirst : ruleOf rules r.type = some r := by
       have h4 : hasRule (rules.take (k + 1)) r.type = true := by
        rw [take_snoc rules k r hk]
        unfold hasRule
        rw [List.any_append]
        simp
       obtain ⟨j, f, hj, hfj, hft, hff, hfn⟩ := ya5 h4
       rcases Nat.lt_or_ge j k with hjk | hjk
       ·exfalso
        apply h3
        unfold hasRule
        rw [List.any_eq_true]
        exact ⟨f, List.mem_of_getElem? (show (rules.take k)[j]? = some f by rw [List.getElem?_take, if_pos hjk]; exact hfj), by simp [hft]⟩
       ·obtain rfl : j = k := by omega
        rw [hk] at hfj
        injection hfj with hfj
        rw [← hfj] at hff; exact hff
      rw [if_neg (by simp [h1, h2, hm]), if_neg (by simp [h1, h2, h3]), hfirst]
      dsimp only
      rw [if_neg h1]
      cases ho : r.offers [] with
      | none => simp
      | some o => simp
theorem judge_prog (rules : List Rule) (l : List Opt) (rejects : Bool) : judge rules l rejects =
  if (judgeTo rules rejects l l.length).1 ≠ [] then (4, (judgeTo rules rejects l l.length).1)
  else if rejects = true then (2, l)
  else if l.filterMap (counter rules) ++ missTo rules l rules.length ≠ [] then (3, l.filterMap (counter rules) ++ missTo rules l rules.length) else (2, l) := by
 unfold judge
 by_cases h : (judgeTo rules rejects l l.length).1 ≠ []
 ·rw [if_pos h, if_pos h]
 ·rw [if_neg h, if_neg h]
  have h0 : (judgeTo rules rejects l l.length).1 = [] := by simpa using h
  have h1 := y4b rules rejects l l.length h0
  rw [List.take_length] at h1
  cases rejects
  ·dsimp only
   simp only [Bool.false_eq_true, if_false]
   rw [h1, ya1 rules l _ (fun o ho => ?_)]
   obtain ⟨p, hp, hc⟩ := List.mem_filterMap.1 ho
   unfold counter at hc
   split at hc
   ·cases hc
   ·have ht := offers_type hc
    unfold ruleFor at ht
    unfold hasType
    rw [List.any_eq_true]
    refine ⟨p, hp, ?_⟩
    simp only [decide_eq_true_eq]
    cases hr : ruleOf rules p.1 with
    | none =>
     unfold ruleFor at hc
     rw [hr] at hc
     simp [y74] at hc
    | some r =>
     rw [hr] at ht
     rw [ht]
     exact (ya6 hr).symm
  ·rw [y6s]
   simp
end Pure
theorem flat_at {α : Type} (f : α → List Value) (n : Nat) (hf : ∀ a, (f a).length = n) (ps : List α) (k j : Nat) (p : α) (h : ps[k]? = some p) (hj : j < n) : (ps.flatMap f)[k * n + j]? = (f p)[j]? := by
 induction ps generalizing k with
 | nil => simp at h
 | cons q ps ih =>
  rw [List.flatMap_cons]
  rcases k with _ | k
  ·simp at h
   subst h
   rw [Nat.zero_mul, Nat.zero_add, List.getElem?_append_left (by rw [hf]; exact hj)]
  ·rw [List.getElem?_append_right (by rw [hf, Nat.add_mul]; omega), hf]
   have := ih k (by simpa using h)
   rw [← this]
   congr 1
   rw [Nat.add_mul]
   omega
abbrev y0a (p : Value × Pure.Rule) : List Value := [.int .i64 p.2.type, .int .i64 p.2.len, .int .i64 p.2.how, .int .i64 p.2.lo, .int .i64 p.2.hi, p.1, .bool p.2.need]
abbrev y1i (p : Value × Pure.Rule) : Value := .agg (y0a p).toArray
abbrev y13 (ps : List (Value × Pure.Rule)) : List Value := ps.flatMap y0a
theorem yek (ps : List (Value × Pure.Rule)) (k j : Nat) (p : Value × Pure.Rule) (h : ps[k]? = some p) (hj : j < 7) : (y13 ps)[k * 7 + j]? = (y0a p)[j]? := flat_at y0a 7 (fun _ => rfl) ps k j p h hj
structure RRow (w : World) (F : Nat → Prop) (x : Value) (ps : List (Value × Pure.Rule)) : Prop where
 out : Row w F 7 x ps.length (y13 ps)
 rows : ∀ p ∈ ps, Row w F 1 p.1 p.2.want.length (u8s p.2.want)
theorem RRow.keeps {S F : Nat → Prop} {w w' : World} {x : Value} {ps : List (Value × Pure.Rule)} (h : RRow w F x ps) (k : Keeps S w w') (hs : ∀ b, F b → ¬ S b) : RRow w' F x ps :=
 ⟨h.out.keeps k hs, fun p hp => (h.rows p hp).keeps k hs⟩
theorem RRow.mono {F G : Nat → Prop} {w : World} {x : Value} {ps : List (Value × Pure.Rule)} (h : RRow w F x ps) (hG : ∀ b, F b → G b) : RRow w G x ps :=
 ⟨h.out.mono hG, fun p hp => (h.rows p hp).mono hG⟩
theorem RRow.nil (w : World) (F : Nat → Prop) : RRow w F (.slice none 0 0) [] := ⟨Row.nil _ _ _, by simp⟩
theorem RRow.form {w : World} {F : Nat → Prop} {x : Value} {ps : List (Value × Pure.Rule)} (h : RRow w F x ps) : ∃ A c, x = .slice A ps.length c ∧ ps.length ≤ c := by
 obtain ⟨_, _, A, c, rfl, hc, _⟩ := h.out
 exact ⟨A, c, rfl, hc⟩
theorem RRow.pick {w : World} {F : Nat → Prop} {X : Option Addr} {n cx : Nat} {ps : List (Value × Pure.Rule)} (h : RRow w F (.slice X n cx) ps) (k : Nat) (hk : k < ps.length) :
  ∃ p o A c r, X = some ⟨p, o, none⟩ ∧ F p ∧ (∀ j u, (y0a (.slice A r.want.length c, r))[j]? = some u → w.cell? ⟨p, o + k * 7 + j, none⟩ = some u) ∧ Row w F 1 (.slice A r.want.length c) r.want.length (u8s r.want) ∧ ps[k]? = some (.slice A r.want.length c, r) := by
 obtain ⟨_, _, A', c', e, _, _, hh⟩ := h.out
 obtain ⟨p, o, rfl, hF, hc⟩ := hh (by omega)
 injection e with e1 _ _
 have hget := List.getElem?_eq_getElem hk
 have hr := h.rows ps[k] (List.getElem_mem hk)
 obtain ⟨A, c, hform, _⟩ := hr.form
 refine ⟨p, o, A, c, ps[k].2, e1, hF, fun j u hu => ?_, by rw [← hform]; exact hr, by rw [hget, ← hform]⟩
 rw [← hform] at hu
 have hj : j < 7 := (List.getElem?_eq_some_iff.1 hu).1
 rw [Nat.add_assoc]
 exact hc (k * 7 + j) u ((yek ps k j _ hget hj).trans hu)
end Go.Proofs.YtmgicbckgpdkcaaGreatDoor
