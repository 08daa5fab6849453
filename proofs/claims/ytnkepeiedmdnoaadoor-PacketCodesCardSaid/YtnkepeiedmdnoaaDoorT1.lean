/- What a walk is told of a slice of integers that came in. -/
import Derived.Test.YtnkepeiedmdnoaaDoorC3
namespace Go.Proofs.YtnkepeiedmdnoaaDoor
set_option maxRecDepth 100000
set_option maxHeartbeats 4000000
open _root_.Go.Lib renaming hid → xhd
open List renaming setIfInBounds_toArray → xqA, getElem_toArray → xqB, getElem_cons_succ → xqC, getElem_cons_zero → xqD, set_cons_succ → xqE, set_cons_zero → xqF
open Go.RowKit
def y0g (k : IntKind) (w : World) (a : Option Addr) (len cap : Nat) (zs : List Int) : Prop :=
 (a = none ∧ len = 0 ∧ cap = 0 ∧ zs = []) ∨
 ∃ x, a = some x ∧ len ≤ cap ∧ cap ≤ maxLen ∧ zs.length = cap ∧ (∀ i, i < zs.length → w.cell? (x.add i) = some (.int k (zs.getD i 0))) ∧ ∀ n ∈ zs, (Lit.int k n).wf = true
theorem y0r {w : World} {x : Addr} {u : Value} (h : w.cell? (x.add 0) = some u) : ∃ b off, x = ⟨b, off, none⟩ := by
 obtain ⟨b, off, spot⟩ := x
 cases spot with
 | none => exact ⟨b, off, rfl⟩
 | some s =>
  exfalso
  have hs : (Addr.add ⟨b, off, some s⟩ 0).spot = some s := rfl
  unfold World.cell? at h
  rw [hs] at h
  split at h
  ·simp at h
  ·cases h
theorem y0g.row {k : IntKind} {w : World} {a : Option Addr} {len cap : Nat} {zs : List Int} (h : y0g k w a len cap zs) :
  Row w (fun b => b < w.heap.size) 1 (.slice a len cap) len ((zs.take len).map (Value.int k)) ∧ ∀ n ∈ zs.take len, (Lit.int k n).wf = true := by
 rcases h with ⟨rfl, rfl, rfl, rfl⟩ | ⟨x, rfl, hl, hm, hz, hc, hw⟩
 ·exact ⟨⟨by simp, by simp [maxLen], none, 0, rfl, Nat.le_refl _, fun _ => rfl, fun h => absurd h (by omega)⟩, by simp⟩
 ·refine ⟨⟨by simp; omega, by omega, _, cap, rfl, hl, by simp, fun hn => ?_⟩, fun n hn => hw n (List.mem_of_mem_take hn)⟩
  obtain ⟨b, off, rfl⟩ := y0r (hc 0 (by omega))
  have h0 := hc 0 (by omega)
  rw [y0k] at h0
  refine ⟨b, off, rfl, y0c h0, fun j u hu => ?_⟩
  have hj : j < len := by
   have := (List.getElem?_eq_some_iff.1 hu).1
   simp at this
   omega
  have hcj := hc j (by omega)
  rw [y0k] at hcj
  rw [hcj]
  rw [List.getElem?_map, List.getElem?_take, if_pos hj, List.getElem?_eq_getElem (by omega)] at hu
  rw [List.getD_eq_getElem?_getD, List.getElem?_eq_getElem (by omega)]
  exact hu
theorem y1t {n : Int} (h : (Lit.int .u8 n).wf = true) : 0 ≤ n ∧ n ≤ 255 := by
 simpa [Lit.wf, IntKind.min, IntKind.max, IntKind.signed, IntKind.bits] using h
theorem y0g.bytes {w : World} {a : Option Addr} {len cap : Nat} {zs : List Int} (h : y0g .u8 w a len cap zs) :
  ∃ bs : List UInt8, bs.length = len ∧ Row w (fun b => b < w.heap.size) 1 (.slice a len cap) len (bs.map fun b => Value.int .u8 b.toNat) := by
 obtain ⟨hr, hw⟩ := h.row
 have hl := hr.1
 refine ⟨(zs.take len).map fun z => UInt8.ofNat z.toNat, by simpa using hl, ?_⟩
 have e : (((zs.take len).map fun z => UInt8.ofNat z.toNat).map fun b : UInt8 => Value.int .u8 b.toNat) = (zs.take len).map (Value.int .u8) := by
  rw [List.map_map]
  apply List.map_congr_left
  intro z hz
  have := y1t (hw z hz)
  have h2 : z.toNat < 2 ^ 8 := by omega
  simp only [Function.comp, UInt8.toNat_ofNat', Nat.mod_eq_of_lt h2]
  congr 1
  omega
 rw [e]
 exact hr
inductive FK where
 | int (k : IntKind)
 | bool
 | str
 | row (k : IntKind)
def FK.ok (w : World) : FK → Value → Prop
 | .int k, v => ∃ n, v = .int k n ∧ (Lit.int k n).wf = true
 | .bool, v => ∃ b, v = .bool b
 | .str, v => ∃ s, v = .string s ∧ s.size ≤ maxLen
 | .row k, v => ∃ a len cap zs, v = .slice a len cap ∧ y0g k w a len cap zs
def FK.fits (P : Program) : FK → TypeId → Prop
 | .int k, t => P.underlying t = some (.int k)
 | .bool, t => P.underlying t = some .bool
 | .str, t => P.underlying t = some .string
 | .row k, t => ∃ e, P.underlying t = some (.slice e) ∧ P.underlying e = some (.int k) ∧ P.cellsOf e = 1
def y0u (P : Program) : List FK → List Field → Prop
 | [], [] => True
 | k :: ks, f :: fs => k.fits P f.type ∧ y0u P ks fs
 | _, _ => False
theorem y0p {P : Program} : ∀ {ks : List FK} {fs : List Field}, y0u P ks fs → ks.length = fs.length ∧ ∀ (j : Nat) (k : FK), ks[j]? = some k → ∃ f, fs[j]? = some f ∧ k.fits P f.type
 | [], [], _ => ⟨rfl, fun j k h => by simp at h⟩
 | [], _ :: _, h => h.elim
 | _ :: _, [], h => h.elim
 | k :: ks, f :: fs, h => by
  obtain ⟨h1, h2⟩ := y0p h.2
  refine ⟨by simp [h1], fun j k' hj => ?_⟩
  cases j with
  | zero => simp at hj; subst hj; exact ⟨f, rfl, h.1⟩
  | succ j => exact h2 j k' (by simpa using hj)
open Go.ChangeShapes Go.WideShapes Go.Deep
section
variable {H : Type} {enc : TypeId × Value → H} {P : Program} {w : World} {base : Nat} {held : Bool}
theorem y2p {t e : TypeId} {k : IntKind} {fuel : Nat} {v : Value} {x : DataW H × List MemPlace} (ht : P.underlying t = some (.slice e)) (he : P.underlying e = some (.int k)) (hc : P.cellsOf e = 1)
  (h : DataW.trod enc P w base (fun _ => true) held fuel t [v] = some x) : ∃ a len cap zs, v = .slice a len cap ∧ y0g k w a len cap zs := by
 rcases open_ints ht he hc h with ⟨hcs, _⟩ | ⟨a, len, cap, zs, hcs, _, hl, hm, hz, _, hcell, hwz⟩
 ·simp at hcs
  exact ⟨none, 0, 0, [], hcs, .inl ⟨rfl, rfl, rfl, rfl⟩⟩
 ·simp at hcs
  exact ⟨_, len, cap, zs, hcs, .inr ⟨a, rfl, hl, hm, by simpa using hz, hcell, hwz⟩⟩
theorem FK.read {fk : FK} {t : TypeId} {fuel : Nat} {v : Value} {x : DataW H × List MemPlace} (hf : fk.fits P t) (h : DataW.trod enc P w base (fun _ => true) held fuel t [v] = some x) : fk.ok w v := by
 cases fk with
 | int k => obtain ⟨n, e, _, hw⟩ := DataW.trod_int hf h; simp at e; exact ⟨n, e, hw⟩
 | bool => obtain ⟨b, e, _⟩ := DataW.trod_bool hf h; simp at e; exact ⟨b, e⟩
 | str => obtain ⟨s, e, _, hs⟩ := DataW.trod_string hf h; simp at e; exact ⟨s, e, hs⟩
 | row k => obtain ⟨e, h1, h2, h3⟩ := hf; exact y2p h1 h2 h3 h
end
section
variable {H : Type} {enc : TypeId × Value → H} {P : Program} {w : World} {base : Nat} {held : Bool}
end
section
variable {H : Type} {enc : TypeId × Value → H} {P : Program} {w : World} {base : Nat} {held : Bool}
end
section
variable {w : World} {ops : Array Oper} {rest : List Oper} {o : Oper} {a : Act} {Q : Exit → Act → World → Prop}
theorem y0j (hgd : o.guard = none) (s x : Operand) (ho : o.op = .call { callee := .builtin .append, args := #[s, x], argTypes := #[23, 23] })
  (base : Nat) (v : Value) (n : Nat) (l : List UInt8) (hn : l.length = n) (hs : a.eval s = v) (hown : w.ownsRow base 5 1 v n (u8s l))
  (F : Nat → Prop) (y : Value) (m : List UInt8) (hx : a.eval x = y) (hr : Row w F 1 y m.length (u8s m)) (hlen : n + m.length ≤ 140737488355328) (hbase : base ≤ w.heap.size)
  (h : ∀ v' w', w'.ownsRow base 5 1 v' (l ++ m).length (u8s (l ++ m)) → w.grownBy w' v.ownBlock → (v'.ownBlock = v.ownBlock ∨ v'.ownBlock = some w.heap.size) → wpList Tryd.prog ops Q rest (a.put o.dst v') w') :
  wpList Tryd.prog ops Q (o :: rest) a w := by
 obtain ⟨i0, hi0, hz0, hz1, hz2⟩ := info_parts y1c
 subst hn
 refine y0b hgd s x _ ho base 5 i0 _ 1 1 Tryd.underlying23 hi0 hz0 hz1 hz2 rfl (by omega) v _ (u8s l) hs hown F y m.length (u8s m) hx hr (y1y m) (by simp only [maxLen]; omega) (by omega) hbase ?_
 intro v' w' h1 h2 h3
 refine h v' w' ?_ h2 h3
 rw [List.length_append]
 simpa using h1
end
theorem cell_later {w : World} {o : Obj} {a : Addr} {v : Value} (h : w.cell? a = some v) : (w.alloc o).cell? a = some v :=
 (World.cell?_alloc_lt w o a (by rcases Nat.lt_or_ge a.block w.heap.size with hl | hg; exact hl; simp [World.cell?, Array.getElem?_eq_none hg] at h)).trans h
theorem y48 (F : Nat → Prop) (v : Value) (p : Pure.Pkt) (w : World) (hr : Row w F 1 v p.data.length (u8s p.data)) :
  Calls Tryd.prog 14 #[pktV p v] w fun e w' => ∃ u, e = .returned (.tuple #[u, .int .i64 (((Pure.encode p).1 : Nat) : Int)]) ∧ w'.ownsRow w.heap.size 5 1 u (Pure.encode p).2.length (u8s (Pure.encode p).2) ∧ Below w.heap.size w w' := by
 obtain ⟨A, cA, rfl, hc⟩ := hr.form
 have hml := hr.2.1
 unfold maxLen at hml
 have HR := xhd hr
 clear hr
 obtain ⟨c, i, l⟩ := p
 dsimp only at *
 obtain ⟨g, hg⟩ : ∃ g, g = w.heap.size := ⟨_, rfl⟩
 go_enter Tryd.func14, Tryd.ntmps14
 go_upto_region 1 with fail
 rw [← hg]
 generalize hw1 : w.alloc _ = w1
 have HB := xhd (show Blk w1 g 28 #[.int .i64 c, .int .i64 i, .slice A l.length cA] by rw [← hw1, hg]; exact Blk.new w _ _)
 have HK := xhd (show Keeps y03 w w1 by rw [← hw1]; exact (Keeps.refl _ w).alloc _)
 have HZ := xhd (show w1.heap.size = g + 1 by rw [← hw1, hg]; simp)
 have HG := xhd hg
 clear hw1 hg
 have c0 : w1.cell? ⟨g, 0, none⟩ = some (.int .i64 c) := by rw [HB.out.cell]; rfl
 have c1 : w1.cell? ⟨g, 1, none⟩ = some (.int .i64 i) := by rw [HB.out.cell]; rfl
 have c2 : w1.cell? ⟨g, 2, none⟩ = some (.slice A l.length cA) := by rw [HB.out.cell]; rfl
 go_cut [22] (fun v wx => v = .bool (decide (Pure.Pkt.odd ⟨c, i, l⟩)) ∧ wx = w1)
 case first =>
  by_cases h0 : c < 0
  ·have d0 : decide (c < 0) = true := decide_eq_true h0
   have ho : decide (Pure.Pkt.odd ⟨c, i, l⟩) = true := decide_eq_true (by unfold Pure.Pkt.odd; dsimp only; omega)
   have HO := xhd ho
   clear ho h0
   go_wp2
   go_meet
   exact ⟨by rw [HO.out], rfl⟩
  have d0 : decide (c < 0) = false := decide_eq_false h0
  by_cases h1 : 255 < c
  ·have d1 : decide (255 < c) = true := decide_eq_true h1
   have ho : decide (Pure.Pkt.odd ⟨c, i, l⟩) = true := decide_eq_true (by unfold Pure.Pkt.odd; dsimp only; omega)
   have HO := xhd ho
   clear ho h0 h1
   go_wp2
   go_meet
   exact ⟨by rw [HO.out], rfl⟩
  have d1 : decide (255 < c) = false := decide_eq_false h1
  by_cases h2 : i < 0
  ·have d2 : decide (i < 0) = true := decide_eq_true h2
   have ho : decide (Pure.Pkt.odd ⟨c, i, l⟩) = true := decide_eq_true (by unfold Pure.Pkt.odd; dsimp only; omega)
   have HO := xhd ho
   clear ho h0 h1 h2
   go_wp2
   go_meet
   exact ⟨by rw [HO.out], rfl⟩
  have d2 : decide (i < 0) = false := decide_eq_false h2
  by_cases h3 : 255 < i
  ·have d3 : decide (255 < i) = true := decide_eq_true h3
   have ho : decide (Pure.Pkt.odd ⟨c, i, l⟩) = true := decide_eq_true (by unfold Pure.Pkt.odd; dsimp only; omega)
   have HO := xhd ho
   clear ho h0 h1 h2 h3
   go_wp2
   go_meet
   exact ⟨by rw [HO.out], rfl⟩
  have d3 : decide (255 < i) = false := decide_eq_false h3
  have ho : decide (Pure.Pkt.odd ⟨c, i, l⟩) = false := decide_eq_false (by unfold Pure.Pkt.odd; dsimp only; omega)
  have HO := xhd ho
  clear ho h0 h1 h2 h3
  go_wp2
  go_meet
  exact ⟨by rw [HO.out], rfl⟩
 case rest =>
  obtain ⟨rfl, rfl⟩ := hcut
  by_cases ho : Pure.Pkt.odd ⟨c, i, l⟩
  ·have he := Pure.encode_odd ho
   rw [decide_eq_true ho]
   have HE := xhd he
   clear he ho
   go_wp2
   go_ret2
   exact ⟨_, by rw [HE.out]; rfl, by rw [HE.out]; exact World.ownsRow_nil _ _ _ _, HK.out.to_below⟩
  ·rw [decide_eq_false ho]
   have hci : 0 ≤ c ∧ c ≤ 255 ∧ 0 ≤ i ∧ i ≤ 255 := by unfold Pure.Pkt.odd at ho; dsimp only at ho; omega
   by_cases hl : 1496 < l.length
   ·have he := Pure.encode_long ho hl
    have HE := xhd he
    have d0 : decide ((1496 : Int) < (l.length : Int)) = true := decide_eq_true (by omega)
    clear he ho
    go_wp2
    go_ret2
    exact ⟨_, by rw [HE.out]; rfl, by rw [HE.out]; exact World.ownsRow_nil _ _ _ _, HK.out.to_below⟩
   ·have he := Pure.encode_ok ho hl
    have d0 : decide ((1496 : Int) < (l.length : Int)) = false := decide_eq_false (by omega)
    obtain ⟨n, hn⟩ : ∃ n, n = l.length + 4 := ⟨_, rfl⟩
    have en : (l.length : Int) + 4 = (n : Int) := by omega
    obtain ⟨x1, hx1⟩ : ∃ x, x = UInt8.ofNat c.toNat := ⟨_, rfl⟩
    obtain ⟨x2, hx2⟩ : ∃ x, x = UInt8.ofNat i.toNat := ⟨_, rfl⟩
    obtain ⟨x3, hx3⟩ : ∃ x, x = UInt8.ofNat (n / 256) := ⟨_, rfl⟩
    obtain ⟨x4, hx4⟩ : ∃ x, x = UInt8.ofNat (n % 256) := ⟨_, rfl⟩
    have hby : Pure.Pkt.bytes ⟨c, i, l⟩ = [x1, x2, x3, x4] ++ l := by rw [hx1, hx2, hx3, hx4, hn]; rfl
    rw [hby] at he
    have f1 : c = (x1.toNat : Int) := by rw [hx1, UInt8.toNat_ofNat']; omega
    have f2 : i = (x2.toNat : Int) := by rw [hx2, UInt8.toNat_ofNat']; omega
    have f3 : (n : Int) / 256 = (x3.toNat : Int) := by rw [hx3, UInt8.toNat_ofNat']; omega
    have f4 : (n : Int) % 256 = (x4.toNat : Int) := by rw [hx4, UInt8.toNat_ofNat']; omega
    have hn2 : n ≤ 1500 := by omega
    subst f1 f2
    have HE := xhd he
    have hx1l := x1.toNat_lt
    have hx2l := x2.toNat_lt
    clear he ho hby hx1 hx2 hx3 hx4 hn hci
    have c2' : (wc.alloc (.cells #[.int .u8 x1.toNat, .int .u8 x2.toNat, .int .u8 x3.toNat, .int .u8 x4.toNat] 5)).cell? ⟨g, 2, none⟩ = some (.slice A l.length cA) := cell_later c2
    go_wp2_with (at_builtin; refine y0i ?_)
    unfold Hid
    clear c2'
    obtain ⟨w2, hw2⟩ : ∃ w2, w2 = wc.alloc (.cells (u8s [x1, x2, x3, x4]).toArray 5) := ⟨_, rfl⟩
    have hw2' : wc.alloc (.cells #[.int .u8 x1.toNat, .int .u8 x2.toNat, .int .u8 x3.toNat, .int .u8 x4.toNat] 5) = w2 := hw2.symm
    rw [hw2']
    have hk2 : Keeps y03 wc w2 := by rw [hw2]; exact (Keeps.refl _ wc).alloc _
    have hb2 : Blk w2 wc.heap.size 5 (u8s [x1, x2, x3, x4]).toArray := by rw [hw2]; exact Blk.new wc _ _
    have hsz := hk2.size
    have ho2 : w2.ownsRow w.heap.size 5 1 (.slice (some ⟨wc.heap.size, 0, none⟩) 4 4) 4 (u8s [x1, x2, x3, x4]) :=
     ⟨by simp, .inr ⟨wc.heap.size, 4, _, rfl, HK.out.size, hb2, Nat.le_refl _, by first | rfl | omega | (unfold maxLen; omega) | simp, by first | rfl | omega | (unfold maxLen; omega) | simp, by first | rfl | omega | (unfold maxLen; omega) | simp⟩⟩
    clear hw2 hw2'
    refine y0j rfl (.tmp 42) (.tmp 44) rfl w.heap.size _ 4 [x1, x2, x3, x4] rfl rfl ho2 F (.slice A l.length cA) l rfl ((HR.out.keeps HK.out (fun _ _ h => h)).keeps hk2 (fun _ _ h => h)) (by omega) (by have := HK.out.size; omega) ?_
    intro v3 w3 hown3 hg3 hat3
    have HO3 := xhd hown3
    have HB3 := xhd (show Below w.heap.size w w3 from (Below.quiet HK.out.to_below hk2 HK.out.size).grown hg3 (by have := HK.out.size; omega) (fun k hk => y04 ho2 k hk))
    obtain ⟨A3, c3, rfl⟩ := y06 hown3
    clear hown3 hg3 hat3 ho2 hb2 hk2
    go_wp2
    go_ret2
    refine ⟨_, by rw [HE.out]; rfl, ?_, HB3.out⟩
    rw [HE.out]
    exact HO3.out
theorem y38 (F G : Nat → Prop) (v u : Value) (c i : Int) (l : List UInt8) (w : World) (hx : Row w F 1 v l.length (u8s l)) (hy : Row w G 1 u l.length (u8s l)) :
  Calls Tryd.prog 16 #[.agg #[.int .i64 c, .int .i64 i, v], .agg #[.int .i64 c, .int .i64 i, u]] w fun e w' => e = .returned (.bool true) ∧ Keeps y03 w w' := by
 obtain ⟨A, cA, rfl, hc⟩ := hx.form
 obtain ⟨B, cB, rfl, hd⟩ := hy.form
 have HX := xhd hx
 have HY := xhd hy
 clear hx hy
 obtain ⟨g, hg⟩ : ∃ g, g = w.heap.size := ⟨_, rfl⟩
 go_enter Tryd.func16, Tryd.ntmps16
 go_upto_region 1 with fail
 obtain ⟨w1, hw1⟩ : ∃ w1, w1 = (w.alloc (.cells #[.int .i64 c, .int .i64 i, .slice A l.length cA] 28)).alloc (.cells #[.int .i64 c, .int .i64 i, .slice B l.length cB] 28) := ⟨_, rfl⟩
 rw [← hw1, ← hg]
 have hb1 : Blk w1 g 28 #[.int .i64 c, .int .i64 i, .slice A l.length cA] := by rw [hw1, hg]; exact (Blk.new w _ _).alloc _
 have hb2 : Blk w1 (g + 1) 28 #[.int .i64 c, .int .i64 i, .slice B l.length cB] := by
  rw [hw1, hg]
  have := Blk.new (w.alloc (.cells #[.int .i64 c, .int .i64 i, .slice A l.length cA] 28)) 28 #[.int .i64 c, .int .i64 i, .slice B l.length cB]
  rw [World.size_alloc] at this
  exact this
 have hk : Keeps y03 w w1 := by rw [hw1]; exact ((Keeps.refl _ w).alloc _).alloc _
 have a0 : w1.cell? ⟨g, 0, none⟩ = some (.int .i64 c) := by rw [hb1.cell]; rfl
 have a1 : w1.cell? ⟨g, 1, none⟩ = some (.int .i64 i) := by rw [hb1.cell]; rfl
 have a2 : w1.cell? ⟨g, 2, none⟩ = some (.slice A l.length cA) := by rw [hb1.cell]; rfl
 have b0 : w1.cell? ⟨g + 1, 0, none⟩ = some (.int .i64 c) := by rw [hb2.cell]; rfl
 have b1 : w1.cell? ⟨g + 1, 1, none⟩ = some (.int .i64 i) := by rw [hb2.cell]; rfl
 have b2 : w1.cell? ⟨g + 1, 2, none⟩ = some (.slice B l.length cB) := by rw [hb2.cell]; rfl
 have hsm := y33 F G _ _ l l w1 (HX.out.keeps hk (fun _ _ h => h)) (HY.out.keeps hk (fun _ _ h => h))
 rw [decide_eq_true (rfl : l = l)] at hsm
 have HS := xhd hsm
 have HK := xhd hk
 have d0 : (c == c) = true := beq_self_eq_true c
 have d1 : (i == i) = true := beq_self_eq_true i
 clear hw1 hb1 hb2 hk hg hsm
 go_wp2_with fail
 refine HS.out.mono ?_
 rintro e w2 ⟨rfl, hk2⟩
 have HK2 := xhd (HK.out.trans hk2)
 clear hk2 HS
 go_wp2
 go_ret
 exact ⟨rfl, HK2.out⟩
theorem y2l (F : Nat → Prop) (x : Value) (bs : List UInt8) (w : World) (hr : Row w F 1 x bs.length (u8s bs)) (hF : ∀ b, F b → b < w.heap.size) (hl : bs.length ≤ 100000000000000) :
  Calls Tryd.prog 23 #[x] w fun e w' => ∃ u, e = .returned u ∧ w'.ownsRow w.heap.size 5 1 u bs.length (u8s bs) ∧ Below w.heap.size w w' := by
 obtain ⟨A, c, rfl, hc⟩ := hr.form
 have hm := hr.2.1
 unfold maxLen at hm
 have HR := xhd hr
 have HF := xhd hF
 clear hr hF
 obtain ⟨i0, hi0, hz0, hz1, hz2⟩ := info_parts y1c
 have I := xhd (And.intro hi0 (And.intro hz0 (And.intro hz1 hz2)))
 clear hi0 hz0 hz1 hz2
 go_enter Tryd.func23, Tryd.ntmps23
 go_wp2_with fail
 go_loopw [3, 4] (fun u i wr => ∃ k : Nat, k ≤ bs.length ∧ i = .int .i64 k ∧ wr.ownsRow w.heap.size 5 1 u k (u8s (bs.take k)) ∧ Below w.heap.size w wr) (fun _ i _ => bs.length - (intOf i).toNat)
 case atStart => exact ⟨0, by omega, rfl, ⟨by simp, .inl ⟨rfl, rfl⟩⟩, Below.refl _ _⟩
 case round =>
  obtain ⟨k, hk, rfl, hown, hb⟩ := hrel
  have O := xhd hown
  have B := xhd hb
  clear hown hb
  by_cases hlt : k < bs.length
  ·obtain ⟨b, off, rfl, hbF, hcell⟩ := (HR.out.keeps (Keeps.new B.out) (fun _ _ h => h)).cellAt (by omega)
   have cb := hcell k _ (y10 bs k hlt)
   obtain ⟨X, hX⟩ : ∃ X : Nat, X = (bs.getD k 0).toNat := ⟨_, rfl⟩
   have hX2 : X < 256 := by rw [hX]; exact (bs.getD k 0).toNat_lt
   rw [← hX] at cb
   have HXX := xhd hX
   have hi0 : (0 : Int) ≤ (k : Int) := by omega
   have hi1 : (k : Int) < (bs.length : Int) := by omega
   have hrow1 : Row (wr.alloc (.cells #[.int .u8 X] 5)) (fun _ => True) 1 (.slice (some ⟨wr.heap.size, 0, none⟩) 1 1) 1 [.int .u8 X] :=
    Row.block (Blk.new wr 5 #[.int .u8 X]) trivial rfl (by simp [maxLen]) (Nat.le_refl _)
   have HRow := xhd hrow1
   have hsz := B.out.size
   clear hX hcell hrow1
   go_wp2_with (at_builtin; refine y0i ?_)
   unfold Hid
   obtain ⟨hi0', hz0, hz1, hz2⟩ := I.out
   refine y0b rfl (.tmp 11) (.tmp 16) _ rfl w.heap.size 5 i0 _ 1 1 Tryd.underlying23 hi0' hz0 hz1 hz2 rfl (by omega) u3 k (u8s (bs.take k))
    rfl (O.out.alloc _) _ _ 1 [.int .u8 X] rfl HRow.out (by simp [Value.oneCell']) (by simp only [maxLen]; omega) (by omega) (by simp; omega) ?_
   intro v3 w3 hown3 hg3 hat3
   have hown3' : w3.ownsRow w.heap.size 5 1 v3 (k + 1) (u8s (bs.take (k + 1))) := by
    have e1 : u8s (bs.take k) ++ [.int .u8 X] = u8s (bs.take (k + 1)) := by
     rw [List.take_succ_eq_append_getElem hlt]
     have := HXX.out
     rw [List.getD_eq_getElem?_getD, List.getElem?_eq_getElem hlt] at this
     rw [this]
     simp only [List.map_append, List.map_cons, List.map_nil, Option.getD_some]
    rw [← e1]
    exact hown3
   have hb3 := Below.grown (B.out.alloc hsz (.cells #[.int .u8 X] 5)) hg3 (by simp; omega) (fun q hq => (y04 O.out q hq))
   have O3 := xhd hown3'
   have B3 := xhd hb3
   clear hown3 hown3' hg3 hat3 hb3 hi0' hz0 hz1 hz2 cb
   go_wp2
   go_roundw
   case rel => exact ⟨k + 1, by omega, by go_num, O3.out, B3.out⟩
   case measure => simp [intOf]; omega
  ·have hk' : k = bs.length := by omega
   have e : bs.take k = bs := by rw [hk', List.take_length]
   rw [e, hk'] at O
   clear e hk'
   go_wp2
   go_ret
   exact ⟨_, rfl, O.out, B.out⟩
theorem y3b (a : Option Addr) (c q m : Nat) : Value.slice (if c = q then a else Option.map (fun x => x.add q) a) m (c - q) = cutV a c q m := by
 unfold cutV
 by_cases h : c = q
 ·rw [if_pos h, if_pos h, h, Nat.sub_self]
 ·rw [if_neg h, if_neg h]
theorem y47 (F : Nat → Prop) (x : Value) (bs : List UInt8) (w : World) (hF : ∀ b, F b → b < w.heap.size) (hr : Row w F 1 x bs.length (u8s bs)) :
  Calls Tryd.prog 15 #[x] w fun e w' => ∃ u, e = .returned (.tuple #[pktV (Pure.decode bs).2 u, .int .i64 (((Pure.decode bs).1 : Nat) : Int)]) ∧ Row w' (fun b => w.heap.size ≤ b) 1 u (Pure.decode bs).2.data.length (u8s (Pure.decode bs).2.data) ∧ Below w.heap.size w w' := by
 obtain ⟨A, cA, rfl, hc⟩ := hr.form
 have hml := hr.2.1
 unfold maxLen at hml
 have HR := xhd hr
 have HF := xhd hF
 clear hr hF
 have HI := xhd y3v
 obtain ⟨g, hg⟩ : ∃ g, g = w.heap.size := ⟨_, rfl⟩
 go_enter Tryd.func15, Tryd.ntmps15
 go_upto_region 1 with fail
 rw [← hg]
 generalize hw1 : w.alloc _ = w1
 have hB : Blk w1 g 28 #[.int .i64 0, .int .i64 0, .slice none 0 0] := by rw [← hw1, hg]; exact Blk.new w _ _
 have HB := xhd hB
 have HK := xhd (show Keeps y03 w w1 by rw [← hw1]; exact (Keeps.refl _ w).alloc _)
 have HG := xhd hg
 clear hw1 hg
 have cz0 : w1.cell? ⟨g, 0, none⟩ = some (.int .i64 0) := by rw [hB.cell]; rfl
 have cz1 : w1.cell? ⟨g, 1, none⟩ = some (.int .i64 0) := by rw [hB.cell]; rfl
 have cz2 : w1.cell? ⟨g, 2, none⟩ = some (.slice none 0 0) := by rw [hB.cell]; rfl
 have fz0 := hB.frozen 0
 have fz1 := hB.frozen 1
 have fz2 := hB.frozen 2
 have hs := ((hB.set 0 (.int .i64 0)).set 1 (.int .i64 0)).set 2 (.slice none 0 0)
 have hks := ((HK.out.store g 0 (fun h => by have := HG.out; omega) (.int .i64 0)).store g 1 (fun h => by have := HG.out; omega) (.int .i64 0)).store g 2 (fun h => by have := HG.out; omega) (.slice none 0 0)
 have HZS := xhd hs
 have HKS := xhd hks
 clear hB hs hks
 by_cases h4 : bs.length < 4
 ·have hd := Pure.decode_short h4
  have HD := xhd hd
  have d0 : decide ((bs.length : Int) < 4) = true := decide_eq_true (by omega)
  clear hd
  go_wp2
  refine bodyPost_ret (y09 rfl _ _ g 28 _ (0, 0) _ rfl HZS.out Tryd.underlying28 rfl (by rw [HI.out]; rfl)) rfl ?_
  exact ⟨.slice none 0 0, by rw [HD.out]; rfl, by rw [HD.out]; exact Row.nil _ _ _, HKS.out.to_below⟩
 ·have d0 : decide ((bs.length : Int) < 4) = false := decide_eq_false (by omega)
  obtain ⟨bx, ox, rfl, hFb, hcx⟩ := (HR.out.keeps HK.out (fun _ _ h => h)).cellAt (by omega)
  have b0 := hcx 0 _ (y10 bs 0 (by omega))
  have b1 := hcx 1 _ (y10 bs 1 (by omega))
  have b2 := hcx 2 _ (y10 bs 2 (by omega))
  have b3 := hcx 3 _ (y10 bs 3 (by omega))
  have hst : Pure.stated bs = (bs.getD 2 0).toNat * 256 + (bs.getD 3 0).toNat := rfl
  have dform := fun h => Pure.decode_form h4 h
  have dcut := fun h h' => Pure.decode_cut h4 h h'
  have dlong := fun h h' h'' => Pure.decode_long h4 h h' h''
  have dok := fun h h' h'' => Pure.decode_ok h4 h h' h''
  have l2 := (bs.getD 2 0).toNat_lt
  have l3 := (bs.getD 3 0).toNat_lt
  have l0 := (bs.getD 0 0).toNat_lt
  have l1 := (bs.getD 1 0).toNat_lt
  obtain ⟨B0, hB0⟩ : ∃ b, b = (bs.getD 0 0).toNat := ⟨_, rfl⟩
  obtain ⟨B1, hB1⟩ : ∃ b, b = (bs.getD 1 0).toNat := ⟨_, rfl⟩
  obtain ⟨B2, hB2⟩ : ∃ b, b = (bs.getD 2 0).toNat := ⟨_, rfl⟩
  obtain ⟨B3, hB3⟩ : ∃ b, b = (bs.getD 3 0).toNat := ⟨_, rfl⟩
  obtain ⟨n, hn⟩ : ∃ n, n = Pure.stated bs := ⟨_, rfl⟩
  rw [← hB2, ← hB3, ← hn] at hst
  rw [← hB0] at b0 l0 dok
  rw [← hB1] at b1 l1 dok
  rw [← hB2] at b2 l2
  rw [← hB3] at b3 l3
  rw [← hn] at dform dcut dlong dok
  have eor : bits .or .i64 ((B2 : Int) * 256) (B3 : Int) = (n : Int) := by
   have h := y3w (B2 * 256) B3 (by omega) (by omega)
   rw [show B2 * 256 ||| B3 = n by rw [hst, show (256 : Nat) = 2 ^ 8 by rfl, ← Nat.shiftLeft_eq, Nat.shiftLeft_add_eq_or_of_lt (show B3 < 2 ^ 8 by omega)]] at h
   simpa using h
  have hn2 : n < 65536 := by omega
  have DFORM := xhd dform
  have DCUT := xhd dcut
  have DLONG := xhd dlong
  have DOK := xhd dok
  have p2 : (2 : Int) < (bs.length : Int) := by omega
  have p3 : (3 : Int) < (bs.length : Int) := by omega
  have p0 : (0 : Int) < (bs.length : Int) := by omega
  have p1 : (1 : Int) < (bs.length : Int) := by omega
  clear hcx hB0 hB1 hB2 hB3 hn hst dform dcut dlong dok
  go_wp2_with fail
  go_quiet (fail)
  obtain ⟨w2, hw2⟩ : ∃ w2, w2 = w1.drewN nq := ⟨_, rfl⟩
  rw [← hw2]
  have hk2 := Keeps.of_drewN hw2
  have hB2 := HB.out.keeps hk2 (fun x => x)
  have HK2 := xhd (HK.out.trans hk2)
  have c0 := y0y b0 hk2
  have c1 := y0y b1 hk2
  have z0 : w2.cell? ⟨g, 0, none⟩ = some (.int .i64 0) := by rw [hB2.cell]; rfl
  have z1 : w2.cell? ⟨g, 1, none⟩ = some (.int .i64 0) := by rw [hB2.cell]; rfl
  have z2 : w2.cell? ⟨g, 2, none⟩ = some (.slice none 0 0) := by rw [hB2.cell]; rfl
  have y0 := hB2.frozen 0
  have y1 := hB2.frozen 1
  have y2 := hB2.frozen 2
  have HZS2 := xhd (((hB2.set 0 (.int .i64 0)).set 1 (.int .i64 0)).set 2 (.slice none 0 0))
  have HKS2 := xhd (((HK2.out.store g 0 (fun h => by have := HG.out; omega) (.int .i64 0)).store g 1 (fun h => by have := HG.out; omega) (.int .i64 0)).store g 2 (fun h => by have := HG.out; omega) (.slice none 0 0))
  have HB2 := xhd hB2
  have hgx : bx ≠ g := by have := HF.out bx hFb; have := HG.out; omega
  clear hw2 hk2 hB2 b0 b1 b2 b3 cz0 cz1 cz2 fz0 fz1 fz2 HZS HKS HB HK eor
  by_cases h5 : n < 4
  ·have HD := xhd (DFORM.out h5)
   have d1 : decide ((n : Int) < 4) = true := decide_eq_true (by omega)
   clear DFORM DCUT DLONG DOK
   go_wp2
   refine bodyPost_ret (y09 rfl _ _ g 28 _ (0, 0) _ rfl HZS2.out Tryd.underlying28 rfl (by rw [HI.out]; rfl)) rfl ?_
   exact ⟨.slice none 0 0, by rw [HD.out]; rfl, by rw [HD.out]; exact Row.nil _ _ _, HKS2.out.to_below⟩
  have d1 : decide ((n : Int) < 4) = false := decide_eq_false (by omega)
  by_cases h6 : bs.length < n
  ·have HD := xhd (DCUT.out h5 h6)
   have d2 : decide ((bs.length : Int) < (n : Int)) = true := decide_eq_true (by omega)
   have d3 : decide (bs.length < n) = true := decide_eq_true h6
   clear DFORM DCUT DLONG DOK
   go_wp2
   refine bodyPost_ret (y09 rfl _ _ g 28 _ (0, 0) _ rfl HZS2.out Tryd.underlying28 rfl (by rw [HI.out]; rfl)) rfl ?_
   exact ⟨.slice none 0 0, by rw [HD.out]; rfl, by rw [HD.out]; exact Row.nil _ _ _, HKS2.out.to_below⟩
  have d2 : decide ((bs.length : Int) < (n : Int)) = false := decide_eq_false (by omega)
  have d3 : decide (bs.length < n) = false := decide_eq_false h6
  by_cases h7 : 1500 < n
  ·have HD := xhd (DLONG.out h5 h6 h7)
   have d4 : decide ((1500 : Int) < (n : Int)) = true := decide_eq_true (by omega)
   clear DFORM DCUT DLONG DOK
   go_wp2
   refine bodyPost_ret (y09 rfl _ _ g 28 _ (0, 0) _ rfl HZS2.out Tryd.underlying28 rfl (by rw [HI.out]; rfl)) rfl ?_
   exact ⟨.slice none 0 0, by rw [HD.out]; rfl, by rw [HD.out]; exact Row.nil _ _ _, HKS2.out.to_below⟩
  have d4 : decide ((1500 : Int) < (n : Int)) = false := decide_eq_false (by omega)
  have HD := xhd (DOK.out h5 h6 h7)
  have hn4 : 4 ≤ n := by omega
  have hnb : n ≤ bs.length := by omega
  have v0 : IntKind.i64.wrap (B0 : Int) = (B0 : Int) := IntWalk.i64_in _ (by omega)
  have v1 : IntKind.i64.wrap (B1 : Int) = (B1 : Int) := IntWalk.i64_in _ (by omega)
  have r0 : 0 < bs.length := by omega
  have r1 : 1 < bs.length := by omega
  have r4 : 4 ≤ bs.length := by omega
  have q0 : (4 : Int) ≤ (n : Int) := by omega
  have q1 : (n : Int) ≤ (bs.length : Int) := by omega
  have q2 : (n : Int) ≤ (cA : Int) := by omega
  clear DFORM DCUT DLONG DOK z0 z1 z2 y0 y1 y2 HZS2 HKS2
  go_upto_region 10 with fail
  refine y0x (fun w' => w'.cell? ⟨bx, ox, none⟩ = some (.int .u8 B0) ∧ w'.cell? ⟨bx, ox + 1, none⟩ = some (.int .u8 B1)) 14 15 rfl (by kernel_rfl) ⟨c0, c1⟩ (fun hHeld => ?_)
  refine y01 (i := 0) rfl (by kernel_rfl) (fun _ _ _ h => h) (Or.inl ⟨by rfl, by intro w hSw; obtain ⟨s0, s1⟩ := hSw; go_simp; try with_reducible rfl⟩) hHeld.out ?_
  simp only [Act.put, xqA, Nat.reduceAdd, xqB, xqC, xqD, xqE, xqF]
  refine y01 (i := 1) rfl (by kernel_rfl) (fun _ _ _ h => h) (Or.inl ⟨by rfl, by intro w hSw; obtain ⟨s0, s1⟩ := hSw; go_simp; try with_reducible rfl⟩) hHeld.out ?_
  simp only [Act.put, xqA, Nat.reduceAdd, xqB, xqC, xqD, xqE, xqF]
  refine y01 (i := 2) rfl (by kernel_rfl) (fun _ _ _ h => h) (Or.inl ⟨by rfl, by intro w hSw; obtain ⟨s0, s1⟩ := hSw; go_simp; try with_reducible rfl⟩) hHeld.out ?_
  simp only [Act.put, xqA, Nat.reduceAdd, xqB, xqC, xqD, xqE, xqF]
  refine y01 (i := 3) rfl (by kernel_rfl) (fun _ _ _ h => h) (Or.inl ⟨by rfl, by intro w hSw; obtain ⟨s0, s1⟩ := hSw; go_simp; try with_reducible rfl⟩) hHeld.out ?_
  simp only [Act.put, xqA, Nat.reduceAdd, xqB, xqC, xqD, xqE, xqF]
  refine y01 (i := 4) rfl (by kernel_rfl) (fun _ _ _ h => h) (Or.inl ⟨by rfl, by intro w hSw; obtain ⟨s0, s1⟩ := hSw; go_simp; try with_reducible rfl⟩) hHeld.out ?_
  simp only [Act.put, xqA, Nat.reduceAdd, xqB, xqC, xqD, xqE, xqF]
  refine y01 (i := 5) rfl (by kernel_rfl) (fun _ _ _ h => h) (Or.inl ⟨by rfl, by intro w hSw; obtain ⟨s0, s1⟩ := hSw; go_simp; try with_reducible rfl⟩) hHeld.out ?_
  simp only [Act.put, xqA, Nat.reduceAdd, xqB, xqC, xqD, xqE, xqF]
  refine y01 (i := 6) rfl (by kernel_rfl) (fun _ _ _ h => h) (Or.inl ⟨by rfl, by intro w hSw; obtain ⟨s0, s1⟩ := hSw; go_simp; try with_reducible rfl⟩) hHeld.out ?_
  simp only [Act.put, xqA, Nat.reduceAdd, xqB, xqC, xqD, xqE, xqF]
  refine y01 (i := 7) rfl (by kernel_rfl) (fun _ _ _ h => h) (Or.inl ⟨by rfl, by intro w hSw; obtain ⟨s0, s1⟩ := hSw; go_simp; try with_reducible rfl⟩) hHeld.out ?_
  simp only [Act.put, xqA, Nat.reduceAdd, xqB, xqC, xqD, xqE, xqF]
  refine y01 (i := 8) rfl (by kernel_rfl) (fun _ _ _ h => h) (Or.inl ⟨by rfl, by intro w hSw; obtain ⟨s0, s1⟩ := hSw; go_simp; try with_reducible rfl⟩) hHeld.out ?_
  simp only [Act.put, xqA, Nat.reduceAdd, xqB, xqC, xqD, xqE, xqF]
  refine y01 (i := 9) rfl (by kernel_rfl) (fun _ _ _ h => h) (Or.inl ⟨by rfl, by intro w hSw; obtain ⟨s0, s1⟩ := hSw; go_simp; try with_reducible rfl⟩) hHeld.out ?_
  simp only [Act.put, xqA, Nat.reduceAdd, xqB, xqC, xqD, xqE, xqF]
  refine y01 (i := 10) (v := cutV (some ⟨bx, ox, none⟩) cA 4 (n - 4)) rfl (by kernel_rfl) (fun _ _ _ h => h) (Or.inl ⟨by rfl, by intro w hSw; obtain ⟨s0, s1⟩ := hSw; go_simp; exact y3b _ cA 4 (n - 4)⟩) hHeld.out ?_
  simp only [Act.put, xqA, Nat.reduceAdd, xqB, xqC, xqD, xqE, xqF]
  refine y0a (i := 11) (by kernel_rfl) rfl (fun K hK => ?_)
  go_simp
  have hdl : ((bs.drop 4).take (n - 4)).length = n - 4 := by rw [List.length_take, List.length_drop]; omega
  refine (y2l F (cutV (some ⟨bx, ox, none⟩) cA 4 (n - 4)) ((bs.drop 4).take (n - 4)) w2.drew (by
   have h := ((HR.out.keeps HK2.out (fun _ _ h => h)).cutV 4 (n - 4) (by omega)).keeps (Keeps.refl y03 _).drew (fun _ _ h => h)
   rw [hdl]
   exact h) (fun b hb => Nat.lt_of_lt_of_le (HF.out b hb) HK2.out.size) (by rw [hdl]; omega)).mono ?_
  rintro e w3 ⟨u, rfl, hu, hb3⟩
  have hk3 : Keeps y03 w2 w3 := Keeps.new ⟨hb3.os, hb3.tape, hb3.output, hb3.size, hb3.block⟩
  have hu : w3.ownsRow w2.heap.size 5 1 u ((bs.drop 4).take (n - 4)).length (u8s ((bs.drop 4).take (n - 4))) := hu
  have HH3 := xhd (And.intro (y0y hHeld.out.1 (w := w2) hk3) (y0y hHeld.out.2 (w := w2) hk3))
  refine hK.out _ _ (fun _ => HH3.out) ?_
  clear hK K hHeld
  obtain ⟨A3, c3, rfl⟩ := y06 hu
  have HU3 := xhd (Row.of_own hu)
  have hge := fun b hb => y04 hu b hb
  have HGE := xhd hge
  have HB3 := xhd (HB2.out.keeps hk3 (fun x => x))
  have HBL := xhd HB2.out.lt
  have HK3 := xhd (HK2.out.trans hk3)
  clear hu hb3 hk3 HB2 hge
  refine y01 (i := 12) rfl (by kernel_rfl) (fun _ _ _ h => h) (Or.inl ⟨by rfl, by intro w hSw; go_simp; try with_reducible rfl⟩) HH3.out ?_
  simp only [Act.put, xqA, Nat.reduceAdd, xqB, xqC, xqD, xqE, xqF]
  refine y0a (i := 13) (by kernel_rfl) rfl (fun K hK => ?_)
  rw [if_pos (by rfl)]
  refine wp_store_row 28 (.tmp 2) (.tmp 45) rfl g _ rfl rfl 28 _ HB3.out (by rw [HI.out]; rfl) rfl (by simp [Value.oneCell']) ?_
  obtain ⟨w4, hw4⟩ : ∃ w4, w4 = w3.setRow g #[.int .i64 (B0 : Int), .int .i64 (B1 : Int), .slice A3 (n - 4) c3] := ⟨_, rfl⟩
  have hb4 : Blk w4 g 28 #[.int .i64 (B0 : Int), .int .i64 (B1 : Int), .slice A3 (n - 4) c3] := by rw [hw4]; exact Blk.rowSet HB3.out _
  have hkg : Keeps (only g) w3 w4 := by rw [hw4]; exact (Keeps.refl (only g) w3).rowSet (fun _ => rfl) _
  have hk4 : Keeps y03 w w4 := by rw [hw4]; exact HK3.out.rowSet (fun h => by have := HG.out; omega) _
  have hgw : w.heap.size ≤ g := by have := HG.out; omega
  have hu4 : Row w4 (fun b => w.heap.size ≤ b) 1 (.slice A3 (n - 4) c3) (n - 4) (u8s ((bs.drop 4).take (n - 4))) := by
   have h := (HU3.out.keeps hkg (fun b hb hs => by have h1 := HGE.out b hb; have h2 : b = g := hs; have h3 := HBL.out; omega)).mono (G := fun b => w.heap.size ≤ b) (fun b hb => Nat.le_trans HK2.out.size (HGE.out b hb))
   rw [hdl] at h
   exact h
  have HU4 := xhd hu4
  have HB4 := xhd hb4
  have HK4 := xhd hk4
  have s4 : w4.cell? ⟨bx, ox, none⟩ = some (.int .u8 B0) ∧ w4.cell? ⟨bx, ox + 1, none⟩ = some (.int .u8 B1) :=
   ⟨(World.cell?_of_block (w := w3) (a := ⟨bx, ox, none⟩) (hkg.block bx (y0c HH3.out.1) (fun h => hgx h))).trans HH3.out.1, (World.cell?_of_block (w := w3) (a := ⟨bx, ox + 1, none⟩) (hkg.block bx (y0c HH3.out.2) (fun h => hgx h))).trans HH3.out.2⟩
  have HS4 := xhd s4
  refine hK.out _ _ (fun _ => ?_) ?_
  ·rw [← hw4]; exact HS4.out
  rw [← hw4]
  simp only [Act.put]
  clear hK K hw4 hb4 hkg hk4 hu4 s4
  refine y0a (i := 14) (by kernel_rfl) rfl (fun K hK => ?_)
  go_simp
  refine hK.out _ _ (fun _ => HS4.out) ?_
  clear hK K
  refine y0w (by kernel_rfl) ?_ _
  go_wp2_with fail
  refine bodyPost_ret (y09 rfl _ _ g 28 _ (0, 0) _ rfl HB4.out Tryd.underlying28 rfl (by rw [HI.out]; rfl)) rfl ?_
  refine ⟨.slice A3 (n - 4) c3, by rw [HD.out]; rfl, ?_, HK4.out.to_below⟩
  rw [HD.out]
  show Row w4 _ 1 _ ((bs.drop 4).take (n - 4)).length (u8s ((bs.drop 4).take (n - 4)))
  rw [hdl]
  exact HU4.out
section
variable {w0 wr : World}
theorem y2u {F G : Nat → Prop} {x y : Value} {a b : List UInt8} {n m : Nat} (B : Below w0.heap.size w0 wr) (hx : Row wr F 1 x n (u8s a)) (hy : Row wr G 1 y m (u8s b)) (ha : a.length = n) (hb : b.length = m) :
  Calls Tryd.prog 13 #[x, y] wr fun e w' => e = .returned (.bool (decide (a = b))) ∧ Keeps y03 wr w' ∧ Below w0.heap.size w0 w' := by
 subst ha hb
 exact sameL B hx hy
theorem y2v {F G : Nat → Prop} {x y : Value} {a b : List UInt8} {n m : Nat} (B : Below w0.heap.size w0 wr) (hx : Row wr F 1 x n (u8s a)) (hy : Row wr G 1 y m (u8s b)) (ha : a.length = n) (hab : a = b) :
  Calls Tryd.prog 13 #[x, y] wr fun e w' => e = .returned (.bool true) ∧ Keeps y03 wr w' ∧ Below w0.heap.size w0 w' := by
 have hm : b.length = m := by have := hy.1; simpa using this
 exact (y2u B hx hy ha hm).mono fun e w' ⟨he, h⟩ => ⟨by rw [he, decide_eq_true hab], h⟩
end
theorem y08 {w w' : World} {base n : Nat} {u : Value} {l : List UInt8} (h : w.ownsRow base 5 1 u n (u8s l)) (k : Keeps y03 w w') : w'.ownsRow base 5 1 u n (u8s l) := y05 h k (fun _ _ h => h)
theorem y3o (HEn : y2z) (HDe : y2y) (v z : Value) (p : Pure.Pkt) (bs : List UInt8) (w : World) (hgo : y0e w)
  (hx : Row w (fun b => b < w.heap.size) 1 v p.data.length (u8s p.data)) (hr : Row w (fun b => b < w.heap.size) 1 z bs.length (u8s bs)) :
  Calls Tryd.prog 4 #[pktV p v, z] w fun e w' => e = .returned (.bool true) ∧ Below w.heap.size w w' := by
 obtain ⟨A, cA, rfl, _⟩ := hx.form
 obtain ⟨C, cC, rfl, _⟩ := hr.form
 have hml := hr.2.1
 have hml2 := hx.2.1
 unfold maxLen at hml hml2
 have HGo := xhd hgo
 clear hgo
 have HX := xhd hx
 have HR := xhd hr
 clear hx hr
 obtain ⟨g, hg⟩ : ∃ g, g = w.heap.size := ⟨_, rfl⟩
 go_enter Tryd.func4, Tryd.ntmps4
 go_upto_region 1 with fail
 rw [← hg]
 generalize hw0 : w.alloc _ = w0
 have hB0 : Blk w0 g 28 #[.int .i64 p.code, .int .i64 p.id, .slice A p.data.length cA] := by rw [← hw0, hg]; exact Blk.new w _ _
 have hk0 : Keeps y03 w w0 := by rw [← hw0]; exact (Keeps.refl _ w).alloc _
 have HB0 := xhd hB0
 have HK0 := xhd hk0
 have X0 := xhd (HX.out.keeps hk0 (fun _ _ h => h))
 have R0 := xhd (HR.out.keeps hk0 (fun _ _ h => h))
 clear hw0 hg hB0 hk0 HX HR
 go_wp2_with fail
 refine (y1i HEn HDe w0 (HGo.out.below HK0.out.to_below)).mono ?_
 rintro e w1 ⟨rfl, hb1⟩
 have hk1 := Keeps.new hb1
 have H1 := xhd (HK0.out.to_below.trans (hb1.mono HK0.out.size))
 have hB1 := HB0.out.keeps hk1 (fun x => x)
 have X1 := xhd (X0.out.keeps hk1 (fun _ _ h => h))
 have R1 := xhd (R0.out.keeps hk1 (fun _ _ h => h))
 have a0 : w1.cell? ⟨g, 0, none⟩ = some (.int .i64 p.code) := by rw [hB1.cell]; rfl
 have a1 : w1.cell? ⟨g, 1, none⟩ = some (.int .i64 p.id) := by rw [hB1.cell]; rfl
 have a2 : w1.cell? ⟨g, 2, none⟩ = some (.slice A p.data.length cA) := by rw [hB1.cell]; rfl
 have HB1 := xhd hB1
 clear hb1 hk1 hB1 HB0 HK0 X0 R0
 by_cases hl1 : 3000 < p.data.length
 ·have d0 : decide ((3000 : Int) < (p.data.length : Int)) = true := decide_eq_true (by omega)
  go_wp2
  go_ret
  exact ⟨rfl, H1.out⟩
 have d0 : decide ((3000 : Int) < (p.data.length : Int)) = false := decide_eq_false (by omega)
 by_cases hl2 : 3000 < bs.length
 ·have d1 : decide ((3000 : Int) < (bs.length : Int)) = true := decide_eq_true (by omega)
  go_wp2
  go_ret
  exact ⟨rfl, H1.out⟩
 have d1 : decide ((3000 : Int) < (bs.length : Int)) = false := decide_eq_false (by omega)
 have P2 := xhd (HEn _ (.slice A p.data.length cA) p w1 (fun b hb => Nat.lt_of_lt_of_le hb H1.out.size) X1.out)
 obtain ⟨E, hE⟩ : ∃ E, E = (Pure.encode p).1 := ⟨_, rfl⟩
 obtain ⟨O, hO⟩ : ∃ O, O = (Pure.encode p).2 := ⟨_, rfl⟩
 have HEO := xhd (And.intro hE hO)
 rw [← hE, ← hO] at P2
 clear hE hO
 go_wp2_with fail
 refine P2.out.mono ?_
 rintro e w2 ⟨u2, rfl, hu2, hb2⟩
 obtain ⟨A2, c2, rfl⟩ := y06 hu2
 have hk2 := Keeps.new hb2
 have U2 := xhd hu2
 have H2 := xhd (H1.out.trans (hb2.mono H1.out.size))
 have hB2 := HB1.out.keeps hk2 (fun x => x)
 have X2 := xhd (X1.out.keeps hk2 (fun _ _ h => h))
 have R2 := xhd (R1.out.keeps hk2 (fun _ _ h => h))
 have e0 : w2.cell? ⟨g, 0, none⟩ = some (.int .i64 p.code) := by rw [hB2.cell]; rfl
 have e1 : w2.cell? ⟨g, 1, none⟩ = some (.int .i64 p.id) := by rw [hB2.cell]; rfl
 have e2 : w2.cell? ⟨g, 2, none⟩ = some (.slice A p.data.length cA) := by rw [hB2.cell]; rfl
 have P3 := xhd (y48 _ (.slice A p.data.length cA) p w2 X2.out)
 rw [← HEO.out.1, ← HEO.out.2] at P3
 clear hu2 hb2 hk2 hB2 P2 H1 X1 R1 HB1 a0 a1 a2
 go_wp2_with fail
 refine P3.out.mono ?_
 rintro e w3 ⟨u3, rfl, hu3, hb3⟩
 obtain ⟨A3, c3, rfl⟩ := y06 hu3
 have hk3 := Keeps.new hb3
 have U3 := xhd hu3
 have U23 := xhd (y08 U2.out hk3)
 have H3 := xhd (H2.out.trans (hb3.mono H2.out.size))
 have R3 := xhd (R2.out.keeps hk3 (fun _ _ h => h))
 have P4 := HDe _ _ bs w3 (HGo.out.below H3.out) (fun b hb => Nat.lt_of_lt_of_le hb H3.out.size) R3.out
 obtain ⟨Q, hQ⟩ : ∃ Q, Q = (Pure.decode bs).2 := ⟨_, rfl⟩
 obtain ⟨G, hG⟩ : ∃ G, G = (Pure.decode bs).1 := ⟨_, rfl⟩
 have HQG := xhd (And.intro hQ hG)
 rw [← hQ, ← hG] at P4
 have P4 := xhd P4
 clear hu3 hb3 hk3 P3 H2 X2 R2 U2 hQ hG e0 e1 e2
 go_wp2_with fail
 refine P4.out.mono ?_
 rintro e w4 ⟨u4, rfl, hu4, hb4⟩
 obtain ⟨A4, c4, rfl, _⟩ := hu4.form
 have hk4 := Keeps.new hb4
 have U4 := xhd hu4
 have U24 := xhd (y08 U23.out hk4)
 have U34 := xhd (y08 U3.out hk4)
 have H4 := xhd (H3.out.trans (hb4.mono H3.out.size))
 have R4 := xhd (R3.out.keeps hk4 (fun _ _ h => h))
 clear hu4 hb4 hk4 P4 H3 R3 U23 U3
 go_upto_region 8 with fail
 obtain ⟨g4, hg4⟩ : ∃ g4, g4 = w4.heap.size := ⟨_, rfl⟩
 obtain ⟨w5, hw5⟩ : ∃ w5, w5 = w4.alloc (.cells #[.int .i64 Q.code, .int .i64 Q.id, .slice A4 Q.data.length c4] 28) := ⟨_, rfl⟩
 rw [← hw5, ← hg4]
 have hB5 : Blk w5 g4 28 #[.int .i64 Q.code, .int .i64 Q.id, .slice A4 Q.data.length c4] := by rw [hw5, hg4]; exact Blk.new w4 _ _
 have hk5 : Keeps y03 w4 w5 := by rw [hw5]; exact (Keeps.refl _ w4).alloc _
 have HB5 := xhd hB5
 have U25 := xhd (y08 U24.out hk5)
 have U35 := xhd (y08 U34.out hk5)
 have U45 := xhd (U4.out.keeps hk5 (fun _ _ h => h))
 have H5 := xhd (Below.quiet H4.out hk5 H4.out.size)
 have R5 := xhd (R4.out.keeps hk5 (fun _ _ h => h))
 have P5 := y47 _ _ bs w5 (fun b hb => Nat.lt_of_lt_of_le hb H5.out.size) R5.out
 rw [← HQG.out.1, ← HQG.out.2] at P5
 have P5 := xhd P5
 clear hw5 hB5 hk5 hg4 U24 U34 U4 H4 R4
 go_wp2_with fail
 refine P5.out.mono ?_
 rintro e w6 ⟨u6, rfl, hu6, hb6⟩
 obtain ⟨A6, c6, rfl, _⟩ := hu6.form
 have hk6 := Keeps.new hb6
 have U6 := xhd hu6
 have HB6 := xhd (HB5.out.keeps hk6 (fun x => x))
 have U26 := xhd (y08 U25.out hk6)
 have U36 := xhd (y08 U35.out hk6)
 have U46 := xhd (U45.out.keeps hk6 (fun _ _ h => h))
 have H6 := xhd (H5.out.trans (hb6.mono H5.out.size))
 clear hu6 hb6 hk6 P5 H5 R5 U25 U35 U45 HB5
 go_upto_region 9 with fail
 obtain ⟨g6, hg6⟩ : ∃ g6, g6 = w6.heap.size := ⟨_, rfl⟩
 obtain ⟨w7, hw7⟩ : ∃ w7, w7 = w6.alloc (.cells #[.int .i64 Q.code, .int .i64 Q.id, .slice A6 Q.data.length c6] 28) := ⟨_, rfl⟩
 rw [← hw7, ← hg6]
 have hB7 : Blk w7 g6 28 #[.int .i64 Q.code, .int .i64 Q.id, .slice A6 Q.data.length c6] := by rw [hw7, hg6]; exact Blk.new w6 _ _
 have hk7 : Keeps y03 w6 w7 := by rw [hw7]; exact (Keeps.refl _ w6).alloc _
 have HB7 := xhd hB7
 have HB47 := xhd (HB6.out.keeps hk7 (fun x => x))
 have U27 := y08 U26.out hk7
 have U37 := y08 U36.out hk7
 have U47 := xhd (U46.out.keeps hk7 (fun _ _ h => h))
 have U67 := xhd (U6.out.keeps hk7 (fun _ _ h => h))
 have hH7 := Below.quiet H6.out hk7 H6.out.size
 have P8 := xhd (y2v (w0 := w) hH7 (Row.of_own U27) (Row.of_own U37) rfl rfl)
 have dE : ((E : Int) == (E : Int)) = true := beq_self_eq_true _
 have dG : ((G : Int) == (G : Int)) = true := beq_self_eq_true _
 clear hw7 hB7 hk7 hg6 hH7 U27 U37 U26 U36 U46 U6 H6 HB6
 go_wp2_with fail
 refine P8.out.mono ?_
 rintro e w8 ⟨rfl, hk8, hb8⟩
 have H8 := xhd hb8
 have hB8 := HB7.out.keeps hk8 (fun x => x)
 have hB48 := HB47.out.keeps hk8 (fun x => x)
 have a0 : w8.cell? ⟨g4, 0, none⟩ = some (.int .i64 Q.code) := by rw [hB48.cell]; rfl
 have a1 : w8.cell? ⟨g4, 1, none⟩ = some (.int .i64 Q.id) := by rw [hB48.cell]; rfl
 have a2 : w8.cell? ⟨g4, 2, none⟩ = some (.slice A4 Q.data.length c4) := by rw [hB48.cell]; rfl
 have b0 : w8.cell? ⟨g6, 0, none⟩ = some (.int .i64 Q.code) := by rw [hB8.cell]; rfl
 have b1 : w8.cell? ⟨g6, 1, none⟩ = some (.int .i64 Q.id) := by rw [hB8.cell]; rfl
 have b2 : w8.cell? ⟨g6, 2, none⟩ = some (.slice A6 Q.data.length c6) := by rw [hB8.cell]; rfl
 have P9 := xhd (y38 _ _ (.slice A4 Q.data.length c4) (.slice A6 Q.data.length c6) Q.code Q.id Q.data w8 (U47.out.keeps hk8 (fun _ _ h => h)) (U67.out.keeps hk8 (fun _ _ h => h)))
 clear hb8 hk8 hB8 hB48 P8 U47 U67 HB7 HB47 dE
 go_wp2_with fail
 refine P9.out.mono ?_
 rintro e w9 ⟨rfl, hk9⟩
 have H9 := xhd (Below.quiet H8.out hk9 H8.out.size)
 clear hk9 P9 H8 a0 a1 a2 b0 b1 b2
 go_wp2
 go_ret
 exact ⟨rfl, H9.out⟩
section
variable {H : Type} {enc : TypeId × Value → H} {P : Program} {w : World} {base : Nat} {held : Bool}
theorem y31 {t : TypeId} {fs : Array Field} {ks : List FK} {fuel : Nat} {cs : List Value} {x : DataW H × List MemPlace} (ht : P.underlying t = some (.struct fs))
  (hone : oneCellFields P fs = true) (hC : P.cellsOf t = fs.size) (hfit : y0u P ks fs.toList) (h : DataW.trod enc P w base (fun _ => true) held fuel t cs = some x) :
  cs.length = ks.length ∧ ∀ (j : Nat) (k : FK), ks[j]? = some k → ∃ v, cs[j]? = some v ∧ k.ok w v := by
 obtain ⟨hlen, hget⟩ := y0p hfit
 have hsz : ks.length = fs.size := by simpa using hlen
 obtain ⟨ys, n', _, _, hcl', hyl, hfields⟩ := DataW.trod_struct ht h
 refine ⟨by omega, fun j k hk => ?_⟩
 obtain ⟨f, hf, hfk⟩ := hget j k hk
 have hf' : fs[j]? = some f := by rw [← Array.getElem?_toList]; exact hf
 have hjl : j < fs.size := (Array.getElem?_eq_some_iff.1 hf').1
 have h1 := hfields j f hf'
 obtain ⟨ho, hk1⟩ := hone_of hone j f hf'
 rw [ho, hk1] at h1
 have hone' : (cs.drop j).take 1 = [cs[j]'(by omega)] := by
  rw [List.drop_eq_getElem_cons (by omega)]
  rfl
 rw [hone', List.getElem?_eq_getElem (show j < ys.length by omega)] at h1
 exact ⟨cs[j]'(by omega), List.getElem?_eq_getElem (by omega), FK.read hfk h1⟩
end
theorem y2s {H : Type} {enc : TypeId × Value → H} {w : World} {base : Nat} {held : Bool} {fuel : Nat} {cs : List Value} {x : DataW H × List MemPlace}
  (h : DataW.trod enc Tryd.prog w base (fun _ => true) held fuel 28 cs = some x) :
  ∃ c i a len cap zs, cs = [.int .i64 c, .int .i64 i, .slice a len cap] ∧ y0g .u8 w a len cap zs ∧ (Lit.int .i64 c).wf = true ∧ (Lit.int .i64 i).wf = true := by
 obtain ⟨hl, hk⟩ := y31 (ks := [.int .i64, .int .i64, .row .u8]) Tryd.underlying28 (by kernel_rfl) (by kernel_rfl) ⟨Tryd.underlying3, Tryd.underlying3, ⟨_, Tryd.underlying23, Tryd.underlying5, by kernel_rfl⟩, trivial⟩ h
 obtain ⟨v0, h0, c, rfl, w0⟩ := hk 0 _ rfl
 obtain ⟨v1, h1, i, rfl, w1⟩ := hk 1 _ rfl
 obtain ⟨v2, h2, a, len, cap, zs, rfl, w2⟩ := hk 2 _ rfl
 match cs, hl with
 | [x, y, z], _ =>
  simp at h0 h1 h2
  exact ⟨c, i, a, len, cap, zs, by rw [h0, h1, h2], w2, w0, w1⟩
theorem packetCodes_walk (c0 i0 : Int) (a0 : Option Addr) (len0 cap0 : Nat) (z0 : List Int) (a1 : Option Addr) (len1 cap1 : Nat) (z1 : List Int) (w : World) (hg : y0e w) (w0 : y0g .u8 w a0 len0 cap0 z0) (w1 : y0g .u8 w a1 len1 cap1 z1) :
  Calls Tryd.prog 4 #[.agg #[.int .i64 c0, .int .i64 i0, .slice a0 len0 cap0], .slice a1 len1 cap1] w fun e w' => e = .returned (.bool true) ∧ Below w.heap.size w w' := by
 obtain ⟨bs, hbl, hr⟩ := w0.bytes
 obtain ⟨cs, hcl, hr1⟩ := w1.bytes
 rw [← hbl] at hr
 rw [← hcl] at hr1
 exact y3o y15 y14 (.slice a0 len0 cap0) (.slice a1 len1 cap1) ⟨c0, i0, bs⟩ cs w hg (by rw [← hbl]; exact hr) (by rw [← hcl]; exact hr1)
end Go.Proofs.YtnkepeiedmdnoaaDoor
