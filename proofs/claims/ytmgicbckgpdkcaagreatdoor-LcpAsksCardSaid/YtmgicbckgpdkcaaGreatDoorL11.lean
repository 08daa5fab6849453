/- A piece of a row of bytes whose capacity may end where it begins. -/
import Derived.Laws.Rows
import Derived.OrdersIn
import Derived.RangeFuncWrites
import Derived.Sort.CutIn
import Derived.LoopN
import Derived.Test.YtmgicbckgpdkcaaGreatDoorL10
import Derived.Test.YtmgicbckgpdkcaaGreatDoorL9
import Derived.Test.YtmgicbckgpdkcaaGreatDoorL7
namespace Go.Proofs.YtmgicbckgpdkcaaGreatDoor
set_option maxRecDepth 100000
set_option maxHeartbeats 4000000
open _root_.Go.Lib renaming hid → xhd
open List renaming setIfInBounds_toArray → xqA, getElem_toArray → xqB, getElem_cons_succ → xqC, getElem_cons_zero → xqD, set_cons_succ → xqE, set_cons_zero → xqF
open Go.RowKit
def cutV (a : Option Addr) (c lo m : Nat) : Value := if c = lo then .slice a m 0 else .slice (a.map (fun x => x.add lo)) m (c - lo)
theorem Row.cutV {w : World} {F : Nat → Prop} {a : Option Addr} {n c : Nat} {bs : List UInt8} (h : Row w F 1 (.slice a n c) n (u8s bs)) (lo m : Nat) (hm : lo + m ≤ n) :
  Row w F 1 (cutV a c lo m) m (u8s ((bs.drop lo).take m)) := by
 have e : u8s ((bs.drop lo).take m) = ((u8s bs).drop lo).take m := by simp
 rw [e]
 unfold Go.Proofs.YtmgicbckgpdkcaaGreatDoor.cutV
 split
 ·rename_i hc
  subst hc
  exact h.cutEnd m hm
 ·exact h.cut1 lo m hm
theorem cut_value' (a : Option Addr) (c q m : Nat) : Value.slice (if c = q then a else Option.map (fun x => x.add q) a) m (c - q) = cutV a c q m := by
 unfold cutV
 by_cases h : c = q
 ·rw [if_pos h, if_pos h, h, Nat.sub_self]
 ·rw [if_neg h, if_neg h]
theorem y9q {β : Type} {B g : Nat} {t : TypeId} (hg : g < B) (f : β → Array Value) : OwnFrom B (fun s W => Blk W g t (f s)) := fun s A C row hs hgr hr =>
 Blk.grown hs hgr (fun e => by have := (hr g e.symm).1; omega)
section
variable {F : Fence} {n : Nat} {P : Program}
end
section
variable {P : Program} {ops : Array Oper} {Q : Exit → Act → World → Prop} {md : Region.Mode}
def y3v (ops : Array Oper) : Bool := ops.toList.all fun o => match o.op with | .defer _ => false | _ => true
theorem noDefer_at {i : Nat} {o : Oper} (h : y3v ops = true) (ho : ops[i]? = some o) : ∀ c, o.op ≠ .defer c := by
 intro c hc
 have hm : o ∈ ops.toList := by
  rw [← Array.getElem?_toList] at ho
  exact List.mem_of_getElem? ho
 have := List.all_eq_true.1 h o hm
 rw [hc] at this
 cases this
theorem y9u {l n : Nat} {row : String} {args : Array Value} {w : World} {R : Value → World → Prop} (h : Rows P row args w R) : RowsIn (Fence.wide.inRound l) n P row args w R :=
 fun c cs _ => let ⟨v, w', r, s⟩ := h c cs; ⟨v, w', r, stepsIn_wide.2 s⟩
theorem ya1 {l n : Nat} (hnd : y3v ops = true) (hQ : ¬ LetsOut Q) {i : Nat} {K : Act → World → Prop} {a : Act} {w : World} (h : wpOp P ops Q i K a w) : wpOpIn (Fence.wide.inRound l) n P ops Q i K a w := by
 unfold wpOp at h
 unfold wpOpIn
 cases ho : ops[i]? with
 | none => simpa [ho] using h
 | some o =>
  simp only [ho] at h ⊢
  by_cases hw : Region.wanted o (yielded ops a.tmps) = true
  ·rw [if_pos hw] at h
   rw [if_pos hw]
   rcases h with h | ⟨_, h⟩
   ·refine ⟨fun _ _ => trivial, ?_⟩
    rw [Oper.semAt_eq _ _ _ (noDefer_at hnd ho)]
    unfold Oper.wp at h
    generalize (execOp a.eval o).run P w = r at h ⊢
    cases r with
    | ok x w' =>
     cases x <;> simp only [Oper.upon, Oper.uponIn] at h ⊢
     case value => exact h
     case skip => exact h
     case defer => exact h
     case enter f args => exact ⟨fun h => absurd h (by simp [Fence.wide, Fence.inRound]), CallsIn.inRound l (callsIn_wide.2 h)⟩
     case row => exact ⟨fun h => absurd h (by simp [Fence.wide, Fence.inRound]), y9u h⟩
    | halt x w' => cases x <;> simp only [Oper.upon, Oper.uponIn] at h ⊢ <;> exact h
   ·exact absurd h hQ
  ·rw [if_neg hw] at h
   rw [if_neg hw]
   exact ⟨fun _ _ => trivial, h⟩
theorem y3q {l n : Nat} (hnd : y3v ops = true) (hQ : ¬ LetsOut Q) : ∀ (fuel : Nat) (listed : Array Bool) (a : Act) (w : World), wpAny P md ops Q fuel listed a w → wpAnyIn (Fence.wide.inRound l) n P md ops Q fuel listed a w
 | 0, _, _, _, h => h
 | fuel + 1, _, _, _, h => ⟨h.1, fun i hi => ya1 hnd hQ (wpOp_mono (fun a' w' h' => y3q hnd hQ fuel _ a' w' h') (h.2 i hi))⟩
theorem y7i {l n id : Nat} {a : Act} {w : World} (S : World → Prop) (z size : Nat) (hsz : ops.size = size) (hm : P.follows .mixedOrders = true) (hnd : y3v ops = true) (hQ : ¬ LetsOut Q) (hS : S w.drew)
  (h : Go.RowKit.Hid (S w.drew) → y11 P .any ops Q S z size (y1q size 0) a w.drew) : (Code.region id ops true).wpIn (Fence.wide.inRound l) n P Q a w :=
 wpIn_region_any hm (by rw [hsz]; exact y3q hnd hQ size _ _ _ (y37 size _ _ _ (h hS)))
end
open Go.RowKit Go.Shelf
attribute [local go_sem] Oper.semAt_some
theorem Pure.via_len {n : Nat} {g : List UInt8 → List UInt32 → List UInt32} (hg : ∀ c s, (g c s).length = n) (h : List UInt32) (hh : h.length = n) (m : List UInt8) (ks : List Nat) : (Pure.via g h m ks).length = n := by
 unfold Pure.via
 induction ks generalizing h with
 | nil => exact hh
 | cons k ks ih => exact ih _ (hg _ _)
theorem y4t {S : Nat → Prop} {w w' : World} (k : Keeps S w w') {b off : Nat} (hb : b < w.heap.size) (hs : ¬ S b) : w'.cell? ⟨b, off, none⟩ = w.cell? ⟨b, off, none⟩ := by
 unfold World.cell?
 rw [k.block b hb hs]
theorem y9p {β : Type} {B : Nat} {ds : List Nat} (hB : ∀ D ∈ ds, D < B) (o : Obj) : OwnFrom B (fun (_ : β) W => ∀ D ∈ ds, W.heap[D]? = some o) := fun s X Y row hs hgr hr D hD => by
 have hl := (Array.getElem?_eq_some_iff.1 (hs D hD)).1
 exact (hgr.block D hl (fun e => by have := (hr D e.symm).1; have := hB D hD; omega)).trans (hs D hD)
theorem y79 {β : Type} {B m g : Nat} {wL : World} (hn : wL.heap.size ≤ B) : OwnFrom B (fun (_ : β) W => Keeps (only g) wL W ∧ m ≤ W.heap.size) := fun s X Y row hs hgr hr =>
 ⟨hs.1.grown hgr (fun k e hk => by have := (hr k e).1; omega), Nat.le_trans hs.2 hgr.size⟩
def endPost (P : Program) (fn : Func) (R : Ending → World → Prop) : Exit → Act → World → Prop
 | .normal, a, w | .ret, a, w => LeavesInM Fence.wide 3 P fn a.tmps R a.defers .returning w
 | _, _, _ => False
theorem fold_any (high : Bool) (g : List UInt32 → List UInt32 → List UInt32) (hg : ∀ x s, (g x s).length = 4) (hafter : ∀ x s w, x.length = 16 → s.length = 4 → Calls Tryz.prog 183 #[warr s, warr x] w fun e w' => e = .returned (warr (g x s)) ∧ Below w.heap.size w w')
  (s0 : List UInt32) (hs0 : s0.length = 4) (F : Nat → Prop) (x : Value) (bs : List UInt8) (w : World) (hF : ∀ b, F b → b < w.heap.size) (hbig : bs.length ≤ 100000000) (hr : Row w F 1 x bs.length (u8s bs)) :
  Calls Tryz.prog 182 #[warr s0, x, .bool high, .func (.func 183) #[] #[]] w
   fun e w' => e = .returned (warr (Pure.foldOf high g s0 bs)) ∧ Below w.heap.size w w' := by
 obtain ⟨A, cA, rfl, hc⟩ := hr.form
 have HR := xhd hr
 clear hr
 refine callsIn_wide (n := 3).1 ?_
 refine callsIn_of_wp_marks Tryz.func182 rfl trivial ?_ rfl
 simp only [Tryz.ntmps182, List.size_toArray, List.length_cons, List.length_nil, Nat.reduceAdd, Nat.reduceSub, Array.replicate_succ, Array.replicate_zero, List.push_toArray, List.append_toArray, List.nil_append, List.cons_append]
 refine wpIn_wide.2 ?_
 refine Code.wp_mono (Q := endPost Tryz.prog Tryz.f182 _) (fun e a w h => by cases e <;> first | exact h | exact h.elim) ?_
 obtain ⟨L, hL⟩ : ∃ L, L = bs.length := ⟨_, rfl⟩
 obtain ⟨q, hq⟩ : ∃ q, q = 64 * (bs.length / 64) := ⟨_, rfl⟩
 rw [← hL]
 have hqL : ((L : Int) - (L : Int) % 64) = (q : Int) := by omega
 have HQ := xhd hq
 have HL := xhd hL
 have hL1 : (0 : Int) ≤ (L : Int) := by omega
 have hL2 : (L : Int) ≤ 100000000 := by omega
 have hcL : L ≤ cA := by omega
 have hqc : q ≤ cA := by omega
 have hqL2 : q ≤ L := by omega
 have HF := xhd hF
 have HG := xhd hg
 have HA := xhd hafter
 have HS0 := xhd hs0
 clear hq hL hbig hc hF hg hafter hs0
 go_upto_region 1 with fail
 obtain ⟨b0, hb0⟩ : ∃ b0, b0 = w.heap.size := ⟨_, rfl⟩
 obtain ⟨w1, hw1⟩ : ∃ w1, w1 = (((w.alloc (.cells (u32s s0).toArray 238)).alloc (.cells #[.bool high] 4)).alloc (.cells #[.func (.func 183) #[] #[]] 240)).alloc (.cells #[.int .u32 0, .int .u32 0, .int .u32 0, .int .u32 0] 238) := ⟨_, rfl⟩
 rw [← hw1, ← hb0]
 have h1 : Blk w1 b0 238 (u32s s0).toArray := by rw [hw1, hb0]; exact (((Blk.new w _ _).alloc _).alloc _).alloc _
 have h2 : Blk w1 (b0 + 1) 4 #[.bool high] := by
  rw [hw1, hb0]
  have := Blk.new (w.alloc (.cells (u32s s0).toArray 238)) 4 #[.bool high]
  rw [World.size_alloc] at this
  exact (this.alloc _).alloc _
 have h3 : Blk w1 (b0 + 1 + 1) 240 #[.func (.func 183) #[] #[]] := by
  rw [hw1, hb0]
  have := Blk.new ((w.alloc (.cells (u32s s0).toArray 238)).alloc (.cells #[.bool high] 4)) 240 #[.func (.func 183) #[] #[]]
  rw [World.size_alloc, World.size_alloc] at this
  exact this.alloc _
 have h4 : Blk w1 (b0 + 1 + 1 + 1) 238 (u32s [0, 0, 0, 0]).toArray := by
  rw [hw1, hb0]
  have := Blk.new (((w.alloc (.cells (u32s s0).toArray 238)).alloc (.cells #[.bool high] 4)).alloc (.cells #[.func (.func 183) #[] #[]] 240)) 238 (u32s [0, 0, 0, 0]).toArray
  rw [World.size_alloc, World.size_alloc, World.size_alloc] at this
  exact this
 have hk1 : Keeps y01 w w1 := by rw [hw1]; exact ((((Keeps.refl _ w).alloc _).alloc _).alloc _).alloc _
 have H1 := xhd h1
 have H2 := xhd h2
 have H3 := xhd h3
 have H4 := xhd h4
 have HK1 := xhd (Keeps.to_below hk1)
 have HB0 := xhd hb0
 clear hw1 h1 h3 h4 hk1 hb0
 go_upto_region 2 with fail
 have c2 : w1.drew.cell? ⟨b0 + 1, 0, none⟩ = some (.bool high) := by have := h2.drew; rw [this.cell]; rfl
 clear h2
 refine y0i (fun w' => w'.cell? ⟨b0 + 1, 0, none⟩ = some (.bool high)) 7 8 rfl (by kernel_rfl) c2 (fun hHeld => ?_)
 clear c2
 iterate 2
  refine y0t rfl (by kernel_rfl) (fun _ _ _ h => h) (Or.inl ⟨by rfl, by intro w hSw; go_simp; try with_reducible rfl⟩) hHeld.out ?_
  simp only [Act.put, xqA, Nat.reduceAdd, xqB, xqC, xqD, xqE, xqF]
 refine y0t (v := cutV A cA q (L - q)) rfl (by kernel_rfl) (fun _ _ _ h => h) (Or.inl ⟨by rfl, by intro w hSw; go_simp; exact cut_value' A cA q (L - q)⟩) hHeld.out ?_
 simp only [Act.put, xqA, Nat.reduceAdd, xqB, xqC, xqD, xqE, xqF]
 iterate 3
  refine y0t rfl (by kernel_rfl) (fun _ _ _ h => h) (Or.inl ⟨by rfl, by intro w hSw; go_simp; try with_reducible rfl⟩) hHeld.out ?_
  simp only [Act.put, xqA, Nat.reduceAdd, xqB, xqC, xqD, xqE, xqF]
 refine y0u (by kernel_rfl) rfl (fun K hK => ?_)
 clear hHeld
 go_simp
 have e5 : (bs.drop q).length = L - q := by rw [List.length_drop, HL.out]
 have hA2 := padded_any high F (cutV A cA q (L - q)) (bs.drop q) L (by rw [e5]; have := HQ.out; have := HL.out; omega) (by omega) (by rw [e5]; have := HQ.out; have := HL.out; omega) w1.drew (by
  have h2 := (HR.out.keeps (Keeps.new HK1.out) (fun _ _ h => h)).cutV q (L - q) (by have := HL.out; omega)
  rw [List.take_of_length_le (by rw [e5]; omega), HL.out] at h2
  rw [e5]
  rw [HL.out]
  exact h2)
 obtain ⟨en, hen⟩ : ∃ en, en = Pure.endOf high bs := ⟨_, rfl⟩
 have hen2 : bs.drop q ++ [128] ++ List.replicate (Pure.noughts (bs.drop q).length) 0 ++ Pure.lenBytes (!high) L 8 = en := by rw [hen, HQ.out, HL.out]; rfl
 have hel : (bs.drop q).length + 1 + Pure.noughts (bs.drop q).length + 8 = en.length := by rw [← hen2]; simp [y0y]; omega
 rw [hen2, hel] at hA2
 refine hA2.mono ?_
 rintro e w2 ⟨u2, rfl, hu2, hb2⟩
 have hb2 : Below w1.heap.size w1 w2 := ⟨hb2.os, hb2.tape, hb2.output, hb2.size, hb2.block⟩
 have hu2 : w2.ownsRow w1.heap.size 5 1 u2 en.length (u8s en) := hu2
 have HU2 := xhd hu2
 have HEN := xhd hen
 have h12 := H1.out.below hb2 H1.out.lt
 have h22 := H2.out.below hb2 H2.out.lt
 have h32 := H3.out.below hb2 H3.out.lt
 have h42 := H4.out.below hb2 H4.out.lt
 have HK2 := xhd (HK1.out.trans (hb2.mono HK1.out.size))
 have HW2 := xhd (show b0 + 4 ≤ w2.heap.size by have := hb2.size; have := H4.out.lt; have := HB0.out; omega)
 have c2 : w2.cell? ⟨b0 + 1, 0, none⟩ = some (.bool high) := by rw [h22.cell]; rfl
 have H12 := xhd h12
 have H22 := xhd h22
 have H32 := xhd h32
 have H42 := xhd h42
 clear hA2 hen hen2 hel hu2 e5 hb2 H1 H2 H3 H4 HK1 h12 h22 h32 h42
 refine hK.out _ _ (fun _ => c2) ?_
 clear hK K
 simp only [Nat.reduceAdd]
 refine y0u (by kernel_rfl) rfl (fun K hK => ?_)
 rw [if_pos (by rfl)]
 go_simp
 refine hK.out _ _ (fun h => absurd rfl h) ?_
 clear hK K c2
 refine y0f (by kernel_rfl) ?_ _
 go_upto_region 3 with fail
 apply wp_region_lit
 refine wpList_load_row rfl 238 (.tmp 4) rfl b0 rfl 238 _ (0, 0) _ H12.out Tryz.underlying238 rfl (by rw [y0h]; simp [HS0.out]) ?_
 refine wpList_plain rfl (fun K hK => ?_)
 go_simp
 refine hK _ _ ?_
 clear hK K
 obtain ⟨b1, hb1⟩ : ∃ b1, b1 = w2.heap.size := ⟨_, rfl⟩
 obtain ⟨w3, hw3⟩ : ∃ w3, w3 = w2.alloc (.cells #[.int .u32 0, .int .u32 0, .int .u32 0, .int .u32 0] 238) := ⟨_, rfl⟩
 rw [← hw3, ← hb1]
 have h3 : Blk w3 b1 238 (u32s [0, 0, 0, 0]).toArray := by rw [hw3, hb1]; exact Blk.new w2 _ _
 have hk3 : Keeps y01 w2 w3 := by rw [hw3]; exact (Keeps.refl _ w2).alloc _
 have hz3 : w3.heap.size = b1 + 1 := by rw [hw3, hb1]; simp
 refine wpList_store_row rfl 238 (.tmp 11) (.tmp 28) rfl b1 _ rfl rfl 238 _ h3 (by rw [y0h]; simp [HS0.out]) (by simp [HS0.out]) (y1a _) ?_
 obtain ⟨w4, hw4⟩ : ∃ w4, w4 = w3.setRow b1 (u32s s0).toArray := ⟨_, rfl⟩
 have hb4 : Blk w4 b1 238 (u32s s0).toArray := by rw [hw4]; exact Blk.rowSet h3 _
 have hk4 : Keeps y01 w2 w4 := by rw [hw4]; exact Keeps.rowSet hk3 (fun h => by omega) _
 have hz4 : w4.heap.size = b1 + 1 := by rw [hw4]; simpa using hz3
 have e4 : w3.setRow b1 (u32s s0).toArray = w4 := hw4.symm
 rw [e4]
 clear hw3 h3 hk3 hz3 hw4 e4
 have H44 := xhd hb4
 have HU4 := xhd (y3i HU2.out hk4)
 have H24 := xhd (H22.out.keeps hk4 (fun h => h))
 have H34 := xhd (H32.out.keeps hk4 (fun h => h))
 have H54 := xhd (H42.out.keeps hk4 (fun h => h))
 have HK4 := xhd (Below.quiet HK2.out hk4 HK2.out.size)
 have HZ4 := xhd hz4
 have HB1 := xhd hb1
 clear hb4 hk4 hz4 hb1 HU2 H22 H32 H42 H12 HK2 hu2 hb2
 obtain ⟨Ae, ce, rfl⟩ := y04 HU4.out
 go_wp2_with fail
 obtain ⟨b2, hb2⟩ : ∃ b2, b2 = w4.heap.size := ⟨_, rfl⟩
 obtain ⟨wL, hwL⟩ : ∃ wL, wL = w4.alloc (.cells #[.slice A q cA, .slice Ae en.length ce] 29) := ⟨_, rfl⟩
 rw [← hwL, ← hb2]
 have hk5 : Keeps y01 w4 wL := by rw [hwL]; exact (Keeps.refl _ w4).alloc _
 have h5 : Blk wL b2 29 #[.slice A q cA, .slice Ae en.length ce] := by rw [hwL, hb2]; exact Blk.new w4 _ _
 have G1 := xhd (H44.out.keeps hk5 (fun h => h))
 have G2 := xhd (H24.out.keeps hk5 (fun h => h))
 have G3 := xhd (H34.out.keeps hk5 (fun h => h))
 have G5 := xhd (H54.out.keeps hk5 (fun h => h))
 have GU := xhd (y3i HU4.out hk5)
 have GK := xhd (Below.quiet HK4.out hk5 HK4.out.size)
 have G6 := xhd h5
 have hb01 : b0 + 1 + 1 + 1 < b1 := by have := HB1.out; have := HB0.out; have := H54.out.lt; have := HK4.out.size; have := HW2.out; omega
 have hb12 : b1 < b2 := by have := HZ4.out; omega
 clear hwL hk5 h5 H44 H24 H34 H54 HU4 HK4 hb2 HZ4
 obtain ⟨st, hst⟩ : ∃ st : Nat → List UInt32, st = fun k => if k = 0 then s0 else if k = 1 then Pure.via (fun c s => g (Pure.wordsOf high c) s) s0 (bs.take q) (List.range (bs.length / 64)) else Pure.foldOf high g s0 bs := ⟨_, rfl⟩
 have hst0 : st 0 = s0 := by rw [hst]; rfl
 have hst2 : st 2 = Pure.foldOf high g s0 bs := by rw [hst]; rfl
 have hpart : ∀ k, k < 2 → ∃ (Ap : Option Addr) (cp N : Nat) (pt : List UInt8) (bp op : Nat), wL.cell? ⟨b2, k, none⟩ = some (.slice Ap (64 * N) cp) ∧ 64 * N ≤ cp ∧ pt.length = 64 * N ∧ N ≤ 10000000 ∧
   (0 < N → Ap = some ⟨bp, op, none⟩ ∧ bp ≠ b1 ∧ bp < wL.heap.size ∧ ∀ j u, (u8s pt)[j]? = some u → wL.cell? ⟨bp, op + j, none⟩ = some u) ∧ st (k + 1) = Pure.via (fun c s => g (Pure.wordsOf high c) s) (st k) pt (List.range N) := by
  intro k hk
  rcases (show k = 0 ∨ k = 1 by omega) with rfl | rfl
  ·obtain ⟨bp, op, hA0⟩ : ∃ bp op, 0 < bs.length / 64 → A = some ⟨bp, op, none⟩ ∧ F bp ∧ ∀ j u, (u8s (bs.take q))[j]? = some u → wL.cell? ⟨bp, op + j, none⟩ = some u := by
    rcases Nat.eq_zero_or_pos (bs.length / 64) with h0 | h0
    ·exact ⟨0, 0, fun h => by omega⟩
    ·have hr := (HR.out.keeps (Keeps.new GK.out) (fun _ _ h => h)).take1 q (by rw [← HL.out]; exact hqL2)
     rw [← List.map_take] at hr
     obtain ⟨b, off, e, hf, hcs⟩ := hr.cellAt (by have := HQ.out; omega)
     exact ⟨b, off, fun _ => ⟨e, hf, hcs⟩⟩
   refine ⟨A, cA, bs.length / 64, bs.take q, bp, op, by rw [G6.out.cell, ← HQ.out]; rfl, by rw [← HQ.out]; exact hqc, by rw [List.length_take, ← HL.out, HQ.out, ← HL.out]; have := HL.out; omega, by have := HL.out; omega, fun h => ?_, by rw [hst0, hst]; rfl⟩
   obtain ⟨h1, h2, h3⟩ := hA0 h
   have := HF.out bp h2
   have := HB0.out
   have := GK.out.size
   exact ⟨h1, by omega, by omega, h3⟩
  ·have hem : en.length = 64 * (en.length / 64) := by
    have := Pure.endOf_length high bs
    rw [← HEN.out] at this
    omega
   have hle : en.length ≤ 200 := by rw [HEN.out]; exact Pure.endOf_le high bs
   have hro := Row.of_own GU.out
   obtain ⟨A', c', e, hc'⟩ := hro.form
   injection e with e1 _ e3
   subst e1 e3
   obtain ⟨bp, op, hA0⟩ : ∃ bp op, 0 < en.length / 64 → Ae = some ⟨bp, op, none⟩ ∧ (Value.slice Ae en.length ce).ownBlock = some bp ∧ ∀ j u, (u8s en)[j]? = some u → wL.cell? ⟨bp, op + j, none⟩ = some u := by
    rcases Nat.eq_zero_or_pos (en.length / 64) with h0 | h0
    ·exact ⟨0, 0, fun h => by omega⟩
    ·obtain ⟨b, off, e, hf, hcs⟩ := hro.cellAt (by omega)
     exact ⟨b, off, fun _ => ⟨e, hf, hcs⟩⟩
   refine ⟨Ae, ce, en.length / 64, en, bp, op, by rw [G6.out.cell, ← hem]; rfl, by omega, hem, by omega, fun h => ?_, ?_⟩
   ·obtain ⟨h1, h2, h3⟩ := hA0 h
    exact ⟨h1, fun e => y24 GU.out G1.out (by decide) (e ▸ h2), y0o GU.out bp h2, h3⟩
   ·rw [hst2, hst]
    show Pure.foldOf high g s0 bs = Pure.via (fun c s => g (Pure.wordsOf high c) s) (Pure.via (fun c s => g (Pure.wordsOf high c) s) s0 (bs.take q) (List.range (bs.length / 64))) en (List.range (en.length / 64))
    rw [HEN.out, HQ.out]
    rfl
 have hstl : ∀ k, (st k).length = 4 := by
  intro k
  rw [hst]
  dsimp only
  split
  ·exact HS0.out
  ·split
   ·exact Pure.via_len (fun _ _ => HG.out _ _) _ HS0.out _ _
   ·exact Pure.via_len (fun _ _ => HG.out _ _) _ (Pure.via_len (fun _ _ => HG.out _ _) _ HS0.out _ _) _ _
 have GP := xhd hpart
 have GL := xhd hstl
 have GS0 := xhd hst0
 have GS2 := xhd hst2
 clear hpart hstl hst hst0 hst2
 obtain ⟨fr, hfr⟩ : ∃ fr : Value → Value → Value → Value → Value → Value → Value → Value → Array Value, fr = fun k u13 u36 u37 u38 u39 u40 u48 =>
  (warr s0 :: .slice A L cA :: .bool high :: .func (.func 183) #[] #[] :: .pointer (some ⟨b0, 0, none⟩) :: undef :: .pointer (some ⟨b0 + 1, 0, none⟩) :: .pointer (some ⟨b0 + 1 + 1, 0, none⟩) :: .pointer (some ⟨b0 + 1 + 1 + 1, 0, none⟩) :: .int .i64 q :: .slice Ae en.length ce :: .pointer (some ⟨b1, 0, none⟩) :: undef :: u13 :: undef :: .slice A L cA :: .int .i64 L :: .slice A L cA :: .int .i64 L :: .int .i64 ((L : Int) % 64) :: .int .i64 q :: .slice A L cA :: .int .i64 q :: cutV A cA q (L - q) :: .slice A L cA :: .int .i64 L :: .bool high :: .slice Ae en.length ce :: .agg (u32s s0).toArray :: .slice A L cA :: .int .i64 q :: .slice A q cA :: .slice Ae en.length ce :: .slice (some ⟨b2, 0, none⟩) 2 2 :: .int .i64 2 :: k :: u36 :: u37 :: u38 :: u39 :: u40 :: undef :: undef :: undef :: undef :: undef :: undef :: undef :: u48 :: undef :: []).toArray := ⟨_, rfl⟩
 obtain ⟨Inv, hInv⟩ : ∃ Inv : Act → World → Prop, Inv = fun a' w' => ∃ (k : Nat) (u13 u36 u37 u38 u39 u40 u48 : Value) (ds : List Nat), k ≤ 2 ∧ a' = { tmps := fr (.int .i64 (k : Int)) u13 u36 u37 u38 u39 u40 u48, defers := ds.map fun D => { target := .collected D, args := #[] } } ∧ ds.length = k ∧
   (∀ D ∈ ds, wL.heap.size ≤ D ∧ D < w'.heap.size ∧ w'.heap[D]? = some (.deferred (some []))) ∧ ds.Nodup ∧ Blk w' b1 238 (u32s (st k)).toArray ∧ Keeps (only b1) wL w' := ⟨_, rfl⟩
 refine wp_loop Inv (fun a' _ => 2 - (intOf (a'.tmps.getD 35 undef)).toNat) ?atStart ?round
 case atStart =>
  rw [hInv]
  exact ⟨0, undef, undef, undef, undef, undef, undef, undef, ([] : List Nat), by omega, by rw [hfr]; rfl, rfl, (fun D h => by cases h), List.nodup_nil, (by rw [GS0.out]; exact G1.out), Keeps.refl _ _⟩
 case round =>
  clear G1
  intro a wr hI
  rw [hInv] at hI
  obtain ⟨k, u13, u36, u37, u38, u39, u40, u48, ds, hk, rfl, hdl, hds, hnd, hB, hK⟩ := hI
  obtain ⟨KK, hKK⟩ : ∃ KK : Act → World → Prop, KK = fun a' w' => Inv a' w' ∧ (2 - (intOf (a'.tmps.getD 35 undef)).toNat < 2 - (intOf (Array.getD (fr (.int .i64 (k : Int)) u13 u36 u37 u38 u39 u40 u48) 35 undef)).toNat) := ⟨_, rfl⟩
  rw [← hKK, hfr]
  have HKK := xhd hKK
  have HI := xhd hInv
  have HFR := xhd hfr
  have HD := xhd (And.intro hdl (And.intro hds hnd))
  clear hKK hInv hfr hdl hds hnd
  by_cases hkl : k < 2
  ·obtain ⟨Ap, cp, N, pt, bp, op, hc, hcp, hpt, hN, hA0, hstk⟩ := GP.out k hkl
   have hi0 : (0 : Int) ≤ (k : Int) := by omega
   have hi1 : (k : Int) < 2 := by omega
   have hc : wr.cell? ⟨b2, k, none⟩ = some (.slice Ap (64 * N) cp) := (y4t hK (y0l hc) (fun e => by have e : b2 = b1 := e; omega)).trans hc
   have HA0 := xhd hA0
   have HSK := xhd hstk
   have HPT := xhd hpt
   have HB := xhd hB
   have HK := xhd hK
   clear hA0 hstk hpt hB hK
   go_wp2_with fail
   refine (chunk_any _ _ _ _).mono ?_
   rintro e w' ⟨rfl, rfl⟩
   go_wp2_with fail
   obtain ⟨bC, hbC⟩ : ∃ bC, bC = wr.heap.size := ⟨_, rfl⟩
   obtain ⟨wC, hwC⟩ : ∃ wC, wC = (wr.alloc (.cells #[.slice Ap (64 * N) cp] 29)).alloc (.cells #[.int .i64 64] 3) := ⟨_, rfl⟩
   rw [← hwC, ← hbC]
   have hkC : Keeps y01 wr wC := by rw [hwC]; exact ((Keeps.refl _ wr).alloc _).alloc _
   have hx1 : Boxed wC bC 29 (.slice Ap (64 * N) cp) := by
    rw [hwC, hbC]
    exact (Boxed.new wr 29 (.slice Ap (64 * N) cp)).alloc _
   have hx2 : Boxed wC (bC + 1) 3 (.int .i64 64) := by
    rw [hwC, hbC]
    have := Boxed.new (wr.alloc (.cells #[.slice Ap (64 * N) cp] 29)) 3 (.int .i64 64)
    rw [World.size_alloc] at this
    exact this
   have hzC : wC.heap.size = bC + 1 + 1 := by rw [hwC, hbC]; simp
   have hdC : ∀ D ∈ ds, wC.heap[D]? = some (.deferred (some [])) := fun D hD => by
    obtain ⟨h1, h2, h3⟩ := HD.out.2.1 D hD
    exact (hkC.block D h2 (fun h => h)).trans h3
   have hBC : Blk wC b1 238 (u32s (st k)).toArray := HB.out.keeps hkC (fun h => h)
   have hKC : Keeps (only b1) wL wC := HK.out.trans' hkC (fun _ h _ => h.elim)
   have hLs : wL.heap.size ≤ bC := by rw [hbC]; exact HK.out.size
   have hb1L : b1 < wL.heap.size := by have := G6.out.lt; omega
   clear hwC hc
   refine wpIn_wide (n := 3).1 ?_
   refine wpIn_rangeFunc_ownG rfl (by omega) (gf := 240) (lb := #[.pointer (some ⟨bC, 0, none⟩), .pointer (some ⟨bC + 1, 0, none⟩)]) rfl trivial (enters_of Tryz.func240 (by kernel_rfl) rfl)
    (y8a _ (by omega) wC bC (bC + 1) b1 (by omega) (by omega) (by omega) (by omega) Ap bp op cp N (fun h => (HA0.out h).1) hcp (by omega) hx1 hx2)
    keptBut_t (keptBut_kb (by omega)) (Below.refl _ _) (fun _ => rfl)
    (fun pre W => Blk W b1 238 (u32s (Pure.via (fun c s => g (Pure.wordsOf high c) s) (st k) pt (pre.map (·.1)))).toArray ∧ ((∀ D ∈ ds, W.heap[D]? = some (.deferred (some []))) ∧ (Keeps (only b1) wL W ∧ wC.heap.size ≤ W.heap.size)))
    (fun _ _ _ => False)
    (OwnFrom.and (y9q (by omega) _) (OwnFrom.and (y9p (fun D hD => by obtain ⟨h1, h2, h3⟩ := HD.out.2.1 D hD; omega) _) (y79 (by omega))))
    (fun _ _ _ _ _ hs _ _ => hs)
    ⟨hBC, hdC, hKC, Nat.le_refl _⟩
    (fun x => { tmps := (warr s0 :: .slice A L cA :: .bool high :: .func (.func 183) #[] #[] :: .pointer (some ⟨b0, 0, none⟩) :: undef :: .pointer (some ⟨b0 + 1, 0, none⟩) :: .pointer (some ⟨b0 + 1 + 1, 0, none⟩) :: .pointer (some ⟨b0 + 1 + 1 + 1, 0, none⟩) :: .int .i64 q :: .slice Ae en.length ce :: .pointer (some ⟨b1, 0, none⟩) :: undef :: .slice Ap (64 * N) cp :: .slice (some ⟨bp, op + 64 * x.1, none⟩) 64 64 :: .slice A L cA :: .int .i64 L :: .slice A L cA :: .int .i64 L :: .int .i64 ((L : Int) % 64) :: .int .i64 q :: .slice A L cA :: .int .i64 q :: cutV A cA q (L - q) :: .slice A L cA :: .int .i64 L :: .bool high :: .slice Ae en.length ce :: .agg (u32s s0).toArray :: .slice A L cA :: .int .i64 q :: .slice A q cA :: .slice Ae en.length ce :: .slice (some ⟨b2, 0, none⟩) 2 2 :: .int .i64 2 :: .int .i64 k :: .bool true :: .pointer (some ⟨b2, k, none⟩) :: .slice Ap (64 * N) cp :: .slice Ap (64 * N) cp :: .func (.func 240) #[] #[.pointer (some ⟨bC, 0, none⟩), .pointer (some ⟨bC + 1, 0, none⟩)] :: .slice (some ⟨bp, op + 64 * x.1, none⟩) 64 64 :: undef :: undef :: undef :: undef :: undef :: undef :: u48 :: undef :: []).toArray, defers := [] }) ?assign ?body ?done ?stop
   case assign =>
    intro l x W K hK
    clear hbC
    gi_wp2
    exact hK
   case stop =>
    rintro D c pre W _ _ h _
    exact h.elim
   case body =>
    rintro l pre x W ⟨hS, hdW, hKW, hsz⟩ hlen
    obtain ⟨hAe, hbp1, hbpL, hcs⟩ := HA0.out (by have := x.2; omega)
    have hkw : Keeps y01 wL wL := Keeps.refl _ _
    have hPc := row_piece (w := W) HPT.out (fun j u hu => (y4t hKW hbpL (fun e => hbp1 e)).trans (hcs j u hu)) x.1 x.2
    obtain ⟨c, hcd⟩ : ∃ c, c = Pure.blockOf pt x.1 := ⟨_, rfl⟩
    have hcl : c.length = 64 := by rw [hcd]; exact Pure.blockOf_length pt x.1 N HPT.out x.2
    obtain ⟨o, ho⟩ : ∃ o, o = op + 64 * x.1 := ⟨_, rfl⟩
    rw [← hcd, ← ho] at hPc
    rw [← ho]
    obtain ⟨S, hSd⟩ : ∃ S, S = Pure.via (fun c s => g (Pure.wordsOf high c) s) (st k) pt (pre.map (·.1)) := ⟨_, rfl⟩
    have hSl : S.length = 4 := by rw [hSd]; exact Pure.via_len (fun _ _ => HG.out _ _) _ (GL.out k) _ _
    have hS0 := hS
    rw [← hSd] at hS0
    have c1 : W.cell? ⟨b0 + 1 + 1, 0, none⟩ = some (.func (.func 183) #[] #[]) := by rw [(G3.out.keeps hKW (fun e => by have e : b0 + 1 + 1 = b1 := e; omega)).cell]; rfl
    have c2 : W.cell? ⟨b0 + 1, 0, none⟩ = some (.bool high) := by rw [(G2.out.keeps hKW (fun e => by have e : b0 + 1 = b1 := e; omega)).cell]; rfl
    have HPc := xhd hPc
    have HCl := xhd hcl
    have HCd := xhd hcd
    have HSd := xhd hSd
    have HSl := xhd hSl
    have HdW := xhd hdW
    have HKW := xhd hKW
    have HbpW := xhd (show bp < W.heap.size by have := hKW.size; omega)
    clear hbC hcs hPc hcl hcd ho hAe hkw hS hSd hSl hdW hdC hBC hKC hKW hx1 hx2
    gi_upto_region 9 with fail
    refine y7i (fun w' => w'.cell? ⟨b0 + 1 + 1, 0, none⟩ = some (.func (.func 183) #[] #[]) ∧ w'.cell? ⟨b0 + 1, 0, none⟩ = some (.bool high) ∧ Blk w' b1 238 (u32s S).toArray) 6 7 rfl (by kernel_rfl) (by kernel_rfl) (by rintro ⟨_, _, h⟩; exact h) ⟨c1, c2, hS0.drew⟩ (fun hHeld => ?_)
    refine y0t (v := .func (.func 183) #[] #[]) rfl (by kernel_rfl) (fun _ _ _ h => h) (Or.inl ⟨by rfl, by intro w hSw; have h := hSw.1; go_simp⟩) hHeld.out ?_
    simp only [Act.put, xqA, Nat.reduceAdd, xqB, xqD, xqE, xqF]
    refine y0t (v := .agg (u32s S).toArray) rfl (by kernel_rfl) (fun _ _ _ h => h) (Or.inl ⟨by rfl, fun w' hSw => y76 238 (.tmp 11) rfl b1 rfl 238 _ (0, 0) _ hSw.2.2 Tryz.underlying238 rfl (by rw [y0h]; simp [HSl.out])⟩) hHeld.out ?_
    simp only [Act.put, xqA, Nat.reduceAdd, xqB, xqC, xqD, xqE, xqF]
    refine y0t rfl (by kernel_rfl) (fun _ _ _ h => h) (Or.inl ⟨by rfl, by intro w hSw; go_simp; try with_reducible rfl⟩) hHeld.out ?_
    simp only [Act.put, xqA, Nat.reduceAdd, xqB, xqC, xqD, xqE, xqF]
    refine y0t (v := .bool high) rfl (by kernel_rfl) (fun _ _ _ h => h) (Or.inl ⟨by rfl, by intro w hSw; have h := hSw.2.1; go_simp⟩) hHeld.out ?_
    simp only [Act.put, xqA, Nat.reduceAdd, xqB, xqC, xqD, xqE, xqF]
    refine y0u (by kernel_rfl) rfl (fun K hK => ?_)
    clear hHeld
    go_simp
    refine (y9z high (fun x => x = bp) _ c HCl.out W.drew (fun b hb => by have := HbpW.out; have hb : b = bp := hb; rw [hb]; exact this) HPc.out).mono ?_
    rintro e w2 ⟨rfl, hb2⟩
    have hb2 : Below W.heap.size W w2 := ⟨hb2.os, hb2.tape, hb2.output, hb2.size, hb2.block⟩
    have hS2 := hS0.below hb2 hS0.lt
    have k1 : w2.cell? ⟨b0 + 1 + 1, 0, none⟩ = some (.func (.func 183) #[] #[]) := (hb2.cell (p := ⟨b0 + 1 + 1, 0, none⟩) (y0l c1)).trans c1
    have k2 : w2.cell? ⟨b0 + 1, 0, none⟩ = some (.bool high) := (hb2.cell (p := ⟨b0 + 1, 0, none⟩) (y0l c2)).trans c2
    refine hK.out _ _ (fun _ => ⟨k1, k2, hS2⟩) ?_
    clear hK K
    simp only [Nat.reduceAdd]
    refine y0u (by kernel_rfl) rfl (fun K hK => ?_)
    rw [if_pos (by rfl)]
    go_simp
    refine (HA.out (Pure.wordsOf high c) S w2 (Pure.wordsOf_length high c) HSl.out).mono ?_
    rintro e w3 ⟨rfl, hb3⟩
    have hS3 := hS2.below hb3 hS2.lt
    refine hK.out _ _ (fun _ => ⟨(hb3.cell (p := ⟨b0 + 1 + 1, 0, none⟩) (y0l k1)).trans k1, (hb3.cell (p := ⟨b0 + 1, 0, none⟩) (y0l k2)).trans k2, hS3⟩) ?_
    clear hK K
    simp only [Nat.reduceAdd]
    obtain ⟨T, hT⟩ : ∃ T, T = g (Pure.wordsOf high c) S := ⟨_, rfl⟩
    have hTl : T.length = 4 := by rw [hT]; exact HG.out _ _
    rw [← hT]
    refine y0u (by kernel_rfl) rfl (fun K hK => ?_)
    rw [if_pos (by rfl)]
    refine wp_store_row 238 (.tmp 11) (.tmp 47) rfl b1 _ rfl rfl 238 _ hS3 (by rw [y0h]; simp [hTl]) (by simp [HSl.out, hTl]) (y1a _) ?_
    have hB3 : Below W.heap.size W w3 := hb2.trans (hb3.mono hb2.size)
    obtain ⟨w9, hw9⟩ : ∃ w9, w9 = w3.setRow b1 (u32s T).toArray := ⟨_, rfl⟩
    have hb9 : Blk w9 b1 238 (u32s T).toArray := by rw [hw9]; exact Blk.rowSet hS3 _
    have hkf : KeepsFrom wC.heap.size W w9 := by
     rw [hw9]
     refine ⟨by simpa using hB3.size, fun k o hBk hk _ => ?_⟩
     exact (setRow_other w3 b1 k _ (by omega)).trans ((hB3.block k (Array.getElem?_eq_some_iff.1 hk).1).trans hk)
    have hkp : y1d wC.heap.size b1 W w9 := by
     rw [hw9]
     exact fun k hk hs => (setRow_other w3 b1 k _ hs).trans (hB3.block k (by omega))
    have hd9 : ∀ D ∈ ds, w9.heap[D]? = some (.deferred (some [])) := fun D hD => by
     obtain ⟨h1, _, _⟩ := HD.out.2.1 D hD
     have h2 := HdW.out D hD
     rw [hw9]
     exact (setRow_other w3 b1 D _ (by omega)).trans ((hB3.block D (Array.getElem?_eq_some_iff.1 h2).1).trans h2)
    have hk9 : Keeps (only b1) wL w9 := by
     rw [hw9]
     exact Keeps.rowSet (HKW.out.trans' (Keeps.new hB3) (fun _ h _ => h.elim)) (fun _ => y0p b1) _
    have hz9 : wC.heap.size ≤ w9.heap.size := Nat.le_trans hsz hkf.size
    have hin : (pre ++ [x]).map (·.1) = pre.map (·.1) ++ [x.1] := by simp
    have e9 : w3.setRow b1 (u32s T).toArray = w9 := hw9.symm
    rw [e9]
    refine hK.out _ _ (fun h => absurd rfl h) ?_
    clear hK K
    refine y0f (by kernel_rfl) ?_ _
    refine ⟨hkf, hkp, ?_, hd9, hk9, hz9⟩
    rw [hin, Pure.via_snoc, ← HCd.out, ← HSd.out, ← hT]
    exact hb9
   case done =>
    rintro D ys W hD hys ⟨hS, hdW, hKW, hsz⟩ hK
    rw [hys, ← HSK.out] at hS
    have hDW := (Array.getElem?_eq_some_iff.1 hK).1
    clear hbC hx1 hx2 hdC hBC hKC
    go_wp2_with fail
    have e1 : ((k : Int) + 1) = ((k + 1 : Nat) : Int) := by omega
    rw [HKK.out, e1]
    refine ⟨?_, ?_⟩
    ·rw [HI.out]
     refine ⟨k + 1, _, _, _, _, _, _, _, D :: ds, by omega, by rw [HFR.out]; rfl, by rw [List.length_cons, HD.out.1], fun D' hD' => ?_, ?_, hS, hKW⟩
     ·rcases List.mem_cons.1 hD' with rfl | h
      ·exact ⟨by omega, hDW, hK⟩
      ·exact ⟨(HD.out.2.1 D' h).1, (Array.getElem?_eq_some_iff.1 (hdW D' h)).1, hdW D' h⟩
     ·refine List.nodup_cons.2 ⟨fun h => ?_, HD.out.2.2⟩
      have h1 := (HD.out.2.1 D h).2.1
      have := hkC.size
      omega
    ·rw [HFR.out]
     simp [intOf]
     omega
  ·have hkk : k = 2 := by omega
   subst hkk
   rw [GS2.out] at hB
   have hRes := G5.out.keeps hK (fun e => by have e : b0 + 1 + 1 + 1 = b1 := e; omega)
   have HB := xhd hB
   have HR5 := xhd hRes
   have HK := xhd hK
   have hfl : (Pure.foldOf high g s0 bs).length = 4 := by rw [← GS2.out]; exact GL.out 2
   clear hB hRes hK hkl hk
   go_upto_region 11 with fail
   apply wp_region_lit
   refine wpList_load_row rfl 238 (.tmp 11) rfl b1 rfl 238 _ (0, 0) _ HB.out Tryz.underlying238 rfl (by rw [y0h]; simp [hfl]) ?_
   refine wpList_store_row rfl 238 (.tmp 8) (.tmp 49) rfl (b0 + 1 + 1 + 1) _ rfl rfl 238 _ HR5.out (by rw [y0h]; simp [hfl]) (by simp [hfl]) (y1a _) ?_
   obtain ⟨w9, hw9⟩ : ∃ w9, w9 = wr.setRow (b0 + 1 + 1 + 1) (u32s (Pure.foldOf high g s0 bs)).toArray := ⟨_, rfl⟩
   have hb9 : Blk w9 (b0 + 1 + 1 + 1) 238 (u32s (Pure.foldOf high g s0 bs)).toArray := by rw [hw9]; exact Blk.rowSet HR5.out _
   have hk9 : Below w.heap.size w w9 := by
    rw [hw9]
    exact below_setRow (Below.keeps GK.out HK.out GK.out.size (fun i hi => by have hi : i = b1 := hi; have := HB0.out; omega)) (by have := HB0.out; omega) _
   have hne : ∀ D ∈ ds, D ≠ b0 + 1 + 1 + 1 := fun D hD => by
    have h1 := (HD.out.2.1 D hD).1
    have := HR5.out.lt
    have := G5.out.lt
    omega
   have hd9 : ∀ D ∈ ds, w9.heap[D]? = some (.deferred (some [])) := fun D hD => by
    rw [hw9]
    exact (setRow_other wr (b0 + 1 + 1 + 1) D _ (hne D hD)).trans (HD.out.2.1 D hD).2.2
   have hDl : ∀ D ∈ ds, w.heap.size ≤ D := fun D hD => by
    have h1 := (HD.out.2.1 D hD).1
    have := GK.out.size
    omega
   have hnd := HD.out.2.2
   obtain ⟨D1, D0, rfl⟩ : ∃ a b, ds = [a, b] := by
    have := HD.out.1
    match ds, this with
    | [a, b], _ => exact ⟨a, b, rfl⟩
   have h1 := hd9 D1 (by simp)
   have h0 := hd9 D0 (by simp)
   have n1 := hne D1 (by simp)
   have n0 := hne D0 (by simp)
   have l1 := hDl D1 (by simp)
   have l0 := hDl D0 (by simp)
   have h10 : D1 ≠ D0 := fun e => by subst e; simp at hnd
   rw [← hw9]
   clear hw9 HD hd9 hne hDl hnd HB HR5 HK
   go_wp2
   have h0' : (w9.putObj D1 (.deferred none)).heap[D0]? = some (.deferred (some [])) := (World.putObj_heap_other h10.symm).trans h0
   have hb1' : Blk (w9.putObj D1 (.deferred none)) (b0 + 1 + 1 + 1) 238 (u32s (Pure.foldOf high g s0 bs)).toArray := (World.putObj_heap_other n1.symm).trans hb9
   have hb2' : Blk ((w9.putObj D1 (.deferred none)).putObj D0 (.deferred none)) (b0 + 1 + 1 + 1) 238 (u32s (Pure.foldOf high g s0 bs)).toArray := (World.putObj_heap_other n0.symm).trans hb1'
   refine ⟨by simp, .inl ⟨_, _, rfl, run_takeDeferred h1, ?_⟩⟩
   refine ⟨by simp, .inl ⟨_, _, rfl, run_takeDeferred h0', ?_⟩⟩
   exact ⟨_, results_cell_row rfl _ _ (b0 + 1 + 1 + 1) 238 _ (0, 0) _ rfl hb2' Tryz.underlying238 rfl (by rw [y0h]; simp [hfl]), rfl,
    (hk9.trans (belowK_b (w := w) (Nat.le_refl _) w9 D1 _ _ l1 h1 rfl rfl)).trans (belowK_b (w := w) (Nat.le_refl _) _ D0 _ _ l0 h0' rfl rfl)⟩
theorem sum_any (F : Nat → Prop) (x : Value) (bs : List UInt8) (w : World) (hF : ∀ b, F b → b < w.heap.size) (hbig : bs.length ≤ 100000000) (hr : Row w F 1 x bs.length (u8s bs)) :
  Calls Tryz.prog 150 #[x] w
   fun e w' => ∃ u, e = .returned u ∧ w'.ownsRow w.heap.size 5 1 u 16 (u8s (Pure.md4 bs)) ∧ Below w.heap.size w w' := by
 obtain ⟨A, cA, rfl, hc⟩ := hr.form
 have HR := xhd hr
 have HF := xhd hF
 have HC := xhd hc
 have HBig := xhd hbig
 clear hr hF hc hbig
 obtain ⟨st, hst⟩ : ∃ st, st = Pure.md4Start.list := ⟨_, rfl⟩
 have hsl : st.length = 4 := by rw [hst]; rfl
 have HST := xhd hst
 go_enter Tryz.func150, Tryz.ntmps150
 go_upto_region 2 with fail
 obtain ⟨b0, hb0⟩ : ∃ b0, b0 = w.heap.size := ⟨_, rfl⟩
 obtain ⟨w1, hw1⟩ : ∃ w1, w1 = w.alloc (.cells (u32s Pure.md4Start.list).toArray 238) := ⟨_, rfl⟩
 have e1 : w.alloc (.cells #[.int .u32 1732584193, .int .u32 4023233417, .int .u32 2562383102, .int .u32 271733878] 238) = w1 := hw1.symm
 rw [e1, ← hb0]
 have h1 : Blk w1 b0 238 (u32s st).toArray := by rw [hst, hw1, hb0]; exact Blk.new w _ _
 have hk1 : Keeps y01 w w1 := by rw [hw1]; exact (Keeps.refl _ w).alloc _
 have H1 := xhd h1
 have HK1 := xhd hk1
 have HB0 := xhd hb0
 have HSL := xhd hsl
 clear hw1 e1 h1 hk1 hb0 hst hsl
 apply wp_region_lit
 refine wpList_load_row rfl 238 (.tmp 3) rfl b0 rfl 238 _ (0, 0) _ H1.out Tryz.underlying238 rfl (by rw [y0h]; simp [HSL.out]) ?_
 go_wp2_with fail
 refine (fold_any false Pure.md4Of Pure.md4Of_length (fun x s w hx hs => after_list x s w hx hs) st HSL.out F _ bs w1 (fun b hb => Nat.lt_of_lt_of_le (HF.out b hb) HK1.out.size) HBig.out (HR.out.keeps HK1.out (fun _ _ h => h))).mono ?_
 rintro e w2 ⟨rfl, hb2⟩
 have h2 := H1.out.below hb2 H1.out.lt
 have HK2 := xhd ((Keeps.to_below HK1.out).trans (hb2.mono HK1.out.size))
 have H2 := xhd h2
 obtain ⟨R, hR⟩ : ∃ R, R = Pure.foldOf false Pure.md4Of st bs := ⟨_, rfl⟩
 have hRl : R.length = 4 := by
  rw [hR]
  exact Pure.via_len (n := 4) (fun _ _ => rfl) _ (Pure.via_len (n := 4) (fun _ _ => rfl) _ HSL.out _ _) _ _
 have hmd : Pure.md4 bs = Pure.wordBytes false R := by rw [Pure.md4_fold, hR, HST.out]
 rw [← hR]
 rename_i hKK
 refine hKK _ _ ?_
 refine wpList_store_row rfl 238 (.tmp 3) (.tmp 7) rfl b0 _ rfl rfl 238 _ h2 (by rw [y0h]; simp [hRl]) (by simp [hRl, HSL.out]) (y1a _) ?_
 obtain ⟨w3, hw3⟩ : ∃ w3, w3 = w2.setRow b0 (u32s R).toArray := ⟨_, rfl⟩
 have h3 : Blk w3 b0 238 (u32s R).toArray := by rw [hw3]; exact Blk.rowSet h2 _
 have hk3 : Below w.heap.size w w3 := by rw [hw3]; exact below_setRow HK2.out (by have := HB0.out; omega) _
 have e3 : w2.setRow b0 (u32s R).toArray = w3 := hw3.symm
 rw [e3]
 have HB := xhd (bytes_any false (fun b => b = b0) (.slice (some ⟨b0, 0, none⟩) 4 4) R (by omega) w3 (by
  rw [hRl]
  exact Row.block h3 rfl (by simp [hRl]) (by unfold maxLen; omega) (by omega)))
 have HK3 := xhd hk3
 have HMD := xhd hmd
 have HRL := xhd hRl
 clear hw3 h3 hk3 e3 h2 hb2 hKK hR hmd hRl H1 HK1 H2 HK2 HR
 go_wp2_with fail
 refine HB.out.mono ?_
 rintro e w4 ⟨u, rfl, hu, hb4⟩
 have HU := xhd hu
 have HK4 := xhd (HK3.out.trans (hb4.mono HK3.out.size))
 have hsz := HK3.out.size
 have HSZ := xhd hsz
 clear hu hb4 HB HK3 hsz
 go_wp2
 go_ret
 refine ⟨_, rfl, ?_, HK4.out⟩
 rw [HMD.out]
 have h := HU.out
 rw [HRL.out] at h
 exact y1l h HSZ.out
structure Env (w : World) : Prop where
 hd : y14 w
 tb : Tabs w
theorem Env.below {w w' : World} (h : Env w) (k : Below w.heap.size w w') : Env w' := ⟨h.hd.below k, h.tb.below k⟩
theorem rows_apart {w : World} {base base' n n' : Nat} {e t : TypeId} {size size' : Nat} {v v' : Value} {xs xs' : List Value} (h : w.ownsRow base e size v n xs) (h' : w.ownsRow base' t size' v' n' xs') (hne : e ≠ t) : ∀ b, v.ownBlock = some b → v'.ownBlock ≠ some b := by
 intro b hb
 rcases h'.2 with ⟨rfl, _⟩ | ⟨g', cap, cur, rfl, _, hh, _⟩
 ·simp [Value.ownBlock]
 ·intro he
  have : g' = b := by simpa [Value.ownBlock] using he
  subst this
  exact y24 h (show Blk w g' t cur from hh) hne hb
theorem told_any (A : Option Addr) (n c : Nat) (x : Value) (k : Nat) (w : World) (hg : y14 w) (h : y1p w x k) : Calls Tryz.prog 107 #[.slice A n c, x] w fun e w' => e = .returned (.tuple #[.slice A n c, .int .i64 (k : Int)]) ∧ Below w.heap.size w w' := by
 have HN := xhd (number_any x k w hg h)
 clear hg h
 go_enter Tryz.func107, Tryz.ntmps107
 go_wp2_with fail
 refine HN.out.mono ?_
 rintro e w1 ⟨rfl, hb⟩
 have HB := xhd hb
 clear hb HN
 go_wp2
 go_ret2
 exact ⟨rfl, HB.out⟩
def HashOk (w0 : World) (l : List UInt8) (e : Ending) (w' : World) : Prop :=
 ∃ A c x, e = .returned (.tuple #[.slice A (Pure.hash l).2.length c, x]) ∧ y1p w' x (Pure.hash l).1 ∧ w'.ownsRow w0.heap.size 5 1 (.slice A (Pure.hash l).2.length c) (Pure.hash l).2.length (u8s (Pure.hash l).2) ∧ Below w0.heap.size w0 w'
theorem hashOf_any (s : ByteArray) (l : List UInt8) (hl : s.data.toList = l) (hsz : l.length ≤ 1000000) (w : World) (hE : Env w) :
  Calls Tryz.prog 108 #[.string s] w (HashOk w l) := by
 have HU := xhd (y9x s l hl hsz w hE.tb)
 have HOK := xhd (fun h => Pure.hash_ok (l := l) h)
 have HBAD := xhd (fun h => Pure.hash_bad (l := l) h)
 clear hl hE
 go_enter Tryz.func108, Tryz.ntmps108
 go_wp2_with fail
 refine HU.out.mono ?_
 rintro e w1 ⟨v, x, us, rfl, hx, hus, hb1⟩
 have HB := xhd hb1
 rcases hx with ⟨rfl, h0⟩ | ⟨h0, b, rfl, hc⟩
 ·obtain ⟨hu, hlow, hul⟩ := hus h0
  obtain ⟨A1, c1, rfl⟩ := y04 hu
  have HH := xhd (HOK.out h0)
  rw [← hlow] at HH
  have HW := xhd hu
  clear hb1 HU HOK HBAD h0 hlow hu hus
  go_wp2_with fail
  go_loopw [6, 19] (fun v i wr => ∃ (k : Nat), k ≤ us.length ∧ i = .int .i64 (k : Int) ∧ wr.ownsRow w.heap.size 5 1 v (Pure.low (us.take k)).length (u8s (Pure.low (us.take k))) ∧ wr.ownsRow w.heap.size 100 1 (.slice A1 us.length c1) us.length (u16s us) ∧ Below w.heap.size w wr) (fun _ i _ => us.length - (intOf i).toNat)
  case atStart => exact ⟨0, by omega, rfl, World.ownsRow_nil _ _ _ _, HW.out, HB.out⟩
  case round =>
   obtain ⟨k, hk, rfl, hO, hW, hK⟩ := hrel
   obtain ⟨A2, c2, rfl⟩ := y04 hO
   by_cases hkl : k < us.length
   ·obtain ⟨b, rfl, _, hc⟩ := own_cell hW (by omega)
    have ck := hc k _ (u16s_at us k hkl)
    have HO := xhd hO
    have HW2 := xhd hW
    have HK := xhd hK
    have i0 : (0 : Int) ≤ (k : Int) := by omega
    have i2 : (k : Int) < (us.length : Int) := by omega
    obtain ⟨u, hu⟩ : ∃ u, u = us.getD k 0 := ⟨_, rfl⟩
    rw [← hu] at ck
    obtain ⟨x1, hx1⟩ : ∃ x, x = UInt8.ofNat (u % 256) := ⟨_, rfl⟩
    obtain ⟨x2, hx2⟩ : ∃ x, x = UInt8.ofNat (u / 256 % 256) := ⟨_, rfl⟩
    have f1 : (u : Int) % 256 = (x1.toNat : Int) := by rw [hx1, UInt8.toNat_ofNat']; omega
    have f2 : (u : Int) / 256 % 256 = (x2.toNat : Int) := by rw [hx2, UInt8.toNat_ofNat']; omega
    have hlow : Pure.low (us.take (k + 1)) = Pure.low (us.take k) ++ [x1, x2] := by
     have e : us.take (k + 1) = us.take k ++ [u] := by
      rw [hu, List.getD_eq_getElem?_getD, List.getElem?_eq_getElem hkl]
      exact (List.take_append_getElem hkl).symm
     rw [e, Pure.low_append, hx1, hx2]; rfl
    have hll := Pure.low_length (us.take k)
    rw [List.length_take] at hll
    have HLL := xhd hll
    have HLOW := xhd hlow
    clear hO hW hK hc HW HB hx1 hx2 hu hlow hll
    go_wp2_with (at_builtin; refine y0d ?_)
    unfold Hid
    refine y0n rfl (.tmp 23) (.tmp 29) rfl w.heap.size (.slice A2 (Pure.low (us.take k)).length c2) _ (Pure.low (us.take k)) rfl rfl (y0z HO.out (World.grownBy_alloc wr _ none) (by simp)) _ _ [x1, x2] rfl (y1f wr [x1, x2] _ 2 rfl rfl (by simp)) (by simp; have := HLL.out; omega) (by simp; have := HK.out.size; omega) ?_
    intro v3 w3 hown3 hg3 hat3
    have HB3 := xhd (show Below w.heap.size w w3 from ((HK.out.alloc HK.out.size _).grown hg3 (by simp; have := HK.out.size; omega) (fun k hk => y06 HO.out k hk)))
    have HW3 := xhd (y0z (y0z HW2.out (World.grownBy_alloc wr _ none) (by simp)) hg3 (fun b hb h => rows_apart HO.out HW2.out (by decide) b h hb))
    rw [← HLOW.out] at hown3
    have HO3 := xhd hown3
    clear hown3 hg3 hat3
    go_wp2_with fail
    go_roundw
    case rel => exact ⟨k + 1, by omega, rfl, HO3.out, HW3.out, HB3.out⟩
    case measure => simp [intOf]; omega
   ·have hkk : k = us.length := by omega
    subst hkk
    rw [List.take_length] at hO
    have hll := Pure.low_length us
    have HM := xhd (sum_any (fun b => (Value.slice A2 (Pure.low us).length c2).ownBlock = some b) _ (Pure.low us) wr (fun b hb => y0o hO b hb) (by omega) (Row.of_own hO))
    have HK := xhd hK
    have HO := xhd hO
    have e16 : (Pure.md4 (Pure.low us)).length = 16 := Pure.md4_length _
    have E16 := xhd e16
    clear hO hW hK HW HB hll e16
    rw [List.take_length]
    go_wp2_with fail
    refine HM.out.mono ?_
    rintro e w2 ⟨u, rfl, hu2, hb2⟩
    obtain ⟨A3, c3, rfl⟩ := y04 hu2
    have HW2 := xhd hu2
    have HB2 := xhd hb2
    clear hu2 hb2 HM
    go_wp2
    go_ret2
    refine ⟨A3, c3, _, by rw [HH.out, show ((0, Pure.md4 (Pure.low us)) : Nat × List UInt8).2 = Pure.md4 (Pure.low us) from rfl, E16.out]; rfl, by rw [HH.out]; exact .inl ⟨rfl, rfl⟩, ?_, HK.out.trans (HB2.out.mono HK.out.size)⟩
    rw [HH.out, show ((0, Pure.md4 (Pure.low us)) : Nat × List UInt8).2 = Pure.md4 (Pure.low us) from rfl, E16.out]
    exact y1l HW2.out HK.out.size
 ·have HH := xhd (HBAD.out h0)
  have HE := xhd (show y1p w1 (.iface 229 (.pointer (some ⟨b, 0, none⟩))) (Pure.secret l).1 from .inr ⟨h0, b, rfl, hc⟩)
  clear HOK HBAD HU hus hb1 h0 hc
  go_wp2_with fail
  go_ret2
  refine ⟨none, 0, _, by rw [HH.out]; rfl, by rw [HH.out]; exact HE.out, by rw [HH.out]; exact World.ownsRow_nil _ _ _ _, HB.out⟩
theorem hash_any (s : ByteArray) (l : List UInt8) (hl : s.data.toList = l) (hsz : l.length ≤ 1000000) (w : World) (hE : Env w) :
  Calls Tryz.prog 53 #[.string s] w fun e w' => ∃ v, e = .returned (.tuple #[v, .int .i64 (((Pure.hash l).1 : Nat) : Int)]) ∧ w'.ownsRow w.heap.size 5 1 v (Pure.hash l).2.length (u8s (Pure.hash l).2) ∧ Below w.heap.size w w' := by
 have HH := xhd (hashOf_any s l hl hsz w hE)
 have HE := xhd hE.hd
 clear hl hE
 go_enter Tryz.func53, Tryz.ntmps53
 go_wp2_with fail
 refine HH.out.mono ?_
 rintro e w1 ⟨A, c, x, rfl, hx, hu, hb1⟩
 have HT := xhd (told_any A (Pure.hash l).2.length c x (Pure.hash l).1 w1 (HE.out.below hb1) hx)
 have HU := xhd hu
 have HB := xhd hb1
 clear hx hu hb1 HH HE
 go_wp2_with fail
 refine HT.out.mono ?_
 rintro e w2 ⟨rfl, hb2⟩
 have HU2 := xhd (y0g HU.out (Keeps.new hb2) (fun _ _ h => h))
 have HB2 := xhd (HB.out.trans (hb2.mono HB.out.size))
 clear hb2 HT HU HB
 go_wp2
 go_ret2
 exact ⟨_, rfl, HU2.out, HB2.out⟩
namespace Pure
structure Pkt where
 code : Int
 id : Int
 data : List UInt8
def Pkt.odd (p : Pkt) : Prop := p.code < 0 ∨ 255 < p.code ∨ p.id < 0 ∨ 255 < p.id
instance (p : Pkt) : Decidable p.odd := by unfold Pkt.odd; infer_instance
def Pkt.bytes (p : Pkt) : List UInt8 :=
 [UInt8.ofNat p.code.toNat, UInt8.ofNat p.id.toNat, UInt8.ofNat ((p.data.length + 4) / 256), UInt8.ofNat ((p.data.length + 4) % 256)] ++ p.data
def encode (p : Pkt) : Nat × List UInt8 := if p.odd then (1, []) else if 1496 < p.data.length then (3, []) else (0, p.bytes)
theorem encode_odd {p : Pkt} (h : p.odd) : encode p = (1, []) := if_pos h
theorem encode_long {p : Pkt} (h : ¬ p.odd) (hl : 1496 < p.data.length) : encode p = (3, []) := by unfold encode; rw [if_neg h, if_pos hl]
theorem encode_ok {p : Pkt} (h : ¬ p.odd) (hl : ¬ 1496 < p.data.length) : encode p = (0, p.bytes) := by unfold encode; rw [if_neg h, if_neg hl]
def noPkt : Pkt := ⟨0, 0, []⟩
def stated (b : List UInt8) : Nat := (b.getD 2 0).toNat * 256 + (b.getD 3 0).toNat
def decode (b : List UInt8) : Nat × Pkt :=
 if b.length < 4 then (2, noPkt) else if stated b < 4 then (4, noPkt) else if b.length < stated b then (2, noPkt) else if 1500 < stated b then (3, noPkt)
 else (0, ⟨(b.getD 0 0).toNat, (b.getD 1 0).toNat, (b.drop 4).take (stated b - 4)⟩)
abbrev Opt := Int × List UInt8
def Opt.odd (o : Opt) : Prop := o.1 < 0 ∨ 255 < o.1 ∨ 253 < o.2.length
instance (o : Opt) : Decidable (Opt.odd o) := by unfold Opt.odd; infer_instance
def Opt.bytes (o : Opt) : List UInt8 := [UInt8.ofNat o.1.toNat, UInt8.ofNat (o.2.length + 2)] ++ o.2
def joined (l : List Opt) : List UInt8 := l.flatMap Opt.bytes
def options (l : List Opt) : Nat × List UInt8 := if 32 < l.length then (3, []) else if ∃ o ∈ l, Opt.odd o then (1, []) else (0, joined l)
theorem options_long {l : List Opt} (h : 32 < l.length) : options l = (3, []) := if_pos h
theorem options_odd {l : List Opt} (h : ¬ 32 < l.length) (o : Opt) (ho : o ∈ l) (hodd : Opt.odd o) : options l = (1, []) := by unfold options; rw [if_neg h, if_pos ⟨o, ho, hodd⟩]
theorem options_ok {l : List Opt} (h : ¬ 32 < l.length) (ho : ∀ o ∈ l, ¬ Opt.odd o) : options l = (0, joined l) := by
 unfold options
 rw [if_neg h, if_neg (fun ⟨o, h1, h2⟩ => ho o h1 h2)]
def y1v : Nat → List UInt8 → List Opt → Nat × List Opt
 | 0, _, acc => (0, acc)
 | f + 1, b, acc =>
  if b = [] then (0, acc)
  else if acc.length = 32 then (3, [])
  else if b.length < 2 ∨ (b.getD 1 0).toNat < 2 ∨ b.length < (b.getD 1 0).toNat then (4, [])
  else y1v f (b.drop (b.getD 1 0).toNat) (acc ++ [(((b.getD 0 0).toNat : Int), (b.drop 2).take ((b.getD 1 0).toNat - 2))])
theorem y3n : ∀ (f g : Nat) (b : List UInt8) (acc : List Opt), b.length ≤ f → b.length ≤ g → y1v f b acc = y1v g b acc
 | 0, 0, _, _, _, _ => rfl
 | 0, g + 1, b, acc, hf, _ => by
  have : b = [] := List.eq_nil_of_length_eq_zero (by omega)
  subst this; simp [y1v]
 | f + 1, 0, b, acc, _, hg => by
  have : b = [] := List.eq_nil_of_length_eq_zero (by omega)
  subst this; simp [y1v]
 | f + 1, g + 1, b, acc, hf, hg => by
  unfold y1v
  split
  ·rfl
  ·split
   ·rfl
   ·split
    ·rfl
    ·rename_i h
     exact y3n f g _ _ (by rw [List.length_drop]; omega) (by rw [List.length_drop]; omega)
def y1g (b : List UInt8) (acc : List Opt) : Nat × List Opt := y1v b.length b acc
theorem y7g (acc : List Opt) : y1g [] acc = (0, acc) := rfl
theorem y6c {b : List UInt8} (acc : List Opt) (hb : b ≠ []) : y1g b acc =
  if acc.length = 32 then (3, []) else if b.length < 2 ∨ (b.getD 1 0).toNat < 2 ∨ b.length < (b.getD 1 0).toNat then (4, [])
  else y1g (b.drop (b.getD 1 0).toNat) (acc ++ [(((b.getD 0 0).toNat : Int), (b.drop 2).take ((b.getD 1 0).toNat - 2))]) := by
 have h0 : 0 < b.length := List.length_pos_iff.2 hb
 obtain ⟨n, hn⟩ : ∃ n, b.length = n + 1 := ⟨b.length - 1, by omega⟩
 conv => lhs; unfold y1g; rw [hn]; unfold y1v
 rw [if_neg hb]
 split
 ·rfl
 ·split
  ·rfl
  ·rename_i h
   exact y3n _ _ _ _ (by rw [List.length_drop]; omega) (Nat.le_refl _)
def split (b : List UInt8) : Nat × List Opt := y1g b []
theorem y6d {b : List UInt8} {acc : List Opt} (hb : b ≠ []) (h : acc.length ≠ 32) (h2 : ¬ (b.length < 2 ∨ (b.getD 1 0).toNat < 2 ∨ b.length < (b.getD 1 0).toNat)) :
  y1g b acc = y1g (b.drop (b.getD 1 0).toNat) (acc ++ [(((b.getD 0 0).toNat : Int), (b.drop 2).take ((b.getD 1 0).toNat - 2))]) := by rw [y6c acc hb, if_neg h, if_neg h2]
end Pure
end Go.Proofs.YtmgicbckgpdkcaaGreatDoor
