/- Package nego: terminated, returned, ask. -/
import Derived.Test.YtmgicbckgpdkcaaGreatDoorC14
namespace Go.Proofs.YtmgicbckgpdkcaaGreatDoor
set_option maxRecDepth 100000
set_option maxHeartbeats 8000000
open _root_.Go.Lib renaming hid → xhd
open List renaming setIfInBounds_toArray → xqA, getElem_toArray → xqB, getElem_cons_succ → xqC, getElem_cons_zero → xqD, set_cons_succ → xqE, set_cons_zero → xqF
open Go.RowKit
abbrev y8j (p : Pure.Pkt) (d : Value) (code : Int) (ov : Value) : Value := .agg #[.int .i64 p.code, .int .i64 p.id, d, .int .i64 code, ov]
theorem yd5 (g : Nat) (f : NF) (p : Pure.Pkt) (d : Value) (code : Int) (ov : Value) (w : World) (h : NBlk w g f) (hp : p.code = 5) :
  Calls Tryz.prog 163 #[.pointer (some ⟨g, 0, none⟩), y8j p d code ov] w fun e w' => e = .returned (.agg #[.int .i64 6, .int .i64 p.id, .slice none 0 0]) ∧ NBlk w' g f ∧ Keeps (only g) w w' := by
 have HI := xhd y4e
 obtain ⟨rc, hrc⟩ : ∃ r, r = w.heap.size := ⟨_, rfl⟩
 obtain ⟨pc, pi, pd⟩ := p
 dsimp only at hp ⊢
 subst hp
 have hgl := h.lt
 go_enter Tryz.func163, Tryz.ntmps163
 go_upto_region 1 with fail
 rw [← hrc]
 generalize hw1 : (w.alloc _).alloc _ = w1
 have hk1 : Keeps y01 w w1 := by rw [← hw1]; exact ((Keeps.refl _ w).alloc _).alloc _
 have hC : Blk w1 rc 180 #[.int .i64 5, .int .i64 pi, d, .int .i64 code, ov] := by rw [← hw1, hrc]; exact (Blk.new w _ _).alloc _
 have hO : Blk w1 (rc + 1) 56 #[.int .i64 0, .int .i64 0, .slice none 0 0] := by
  rw [← hw1, show rc + 1 = (w.alloc (.cells #[.int .i64 5, .int .i64 pi, d, .int .i64 code, ov] 180)).heap.size by rw [hrc]; simp]
  exact Blk.new _ _ _
 have c0 : w1.cell? ⟨rc, 0, none⟩ = some (.int .i64 5) := by rw [hC.cell]; rfl
 have c1 : w1.cell? ⟨rc, 1, none⟩ = some (.int .i64 pi) := by rw [hC.cell]; rfl
 have o0 : w1.cell? ⟨rc + 1, 0, none⟩ = some (.int .i64 0) := by rw [hO.cell]; rfl
 have o1 : w1.cell? ⟨rc + 1, 1, none⟩ = some (.int .i64 0) := by rw [hO.cell]; rfl
 have o2 : w1.cell? ⟨rc + 1, 2, none⟩ = some (.slice none 0 0) := by rw [hO.cell]; rfl
 have g0 := hO.frozen 0
 have g1 := hO.frozen 1
 have g2 := hO.frozen 2
 have HZ := xhd (((hO.set 0 (.int .i64 6)).set 1 (.int .i64 pi)).set 2 (.slice none 0 0))
 have KR := (((Keeps.refl (only (rc + 1)) w1).put 0 (.int .i64 6)).put 1 (.int .i64 pi)).put 2 (.slice none 0 0)
 have HN := xhd ((h.keeps hk1 (fun h => h)).keeps KR (fun e => by have e : g = rc + 1 := e; omega))
 have HK := xhd (show Keeps (only g) w _ from (hk1.mono (fun _ h => h.elim)).trans' KR (fun i hi hl => by have e : i = rc + 1 := hi; omega))
 clear hw1 hk1 hC hO KR h hrc hgl
 go_wp2_with fail
 refine bodyPost_ret (y07 rfl _ _ (rc + 1) 56 _ (0, 0) _ rfl HZ.out Tryz.underlying56 rfl (by rw [HI.out]; rfl)) rfl ?_
 exact ⟨rfl, HN.out, HK.out⟩
theorem yd4 (g : Nat) (f : NF) (p : Pure.Pkt) (d : Value) (code : Int) (ov : Value) (id' : Nat) (w : World) (h : NBlk w g f) (hid : f.id < 256) (hid' : id' = (f.id + 1) % 256) (hp : p.code ≠ 5) :
  Calls Tryz.prog 163 #[.pointer (some ⟨g, 0, none⟩), y8j p d code ov] w fun e w' => e = .returned (.agg #[.int .i64 6, .int .i64 (id' : Int), .slice none 0 0]) ∧ NBlk w' g { f with id := id' } ∧ Keeps (only g) w w' := by
 have HI := xhd y4e
 obtain ⟨rc, hrc⟩ : ∃ r, r = w.heap.size := ⟨_, rfl⟩
 obtain ⟨pc, pi, pd⟩ := p
 dsimp only at hp ⊢
 have q5 : (pc == 5) = false := by rw [beq_eq_false_iff_ne]; exact hp
 have hgl := h.lt
 go_enter Tryz.func163, Tryz.ntmps163
 go_upto_region 1 with fail
 rw [← hrc]
 generalize hw1 : (w.alloc _).alloc _ = w1
 have hk1 : Keeps y01 w w1 := by rw [← hw1]; exact ((Keeps.refl _ w).alloc _).alloc _
 have hC : Blk w1 rc 180 #[.int .i64 pc, .int .i64 pi, d, .int .i64 code, ov] := by rw [← hw1, hrc]; exact (Blk.new w _ _).alloc _
 have hO : Blk w1 (rc + 1) 56 #[.int .i64 0, .int .i64 0, .slice none 0 0] := by
  rw [← hw1, show rc + 1 = (w.alloc (.cells #[.int .i64 pc, .int .i64 pi, d, .int .i64 code, ov] 180)).heap.size by rw [hrc]; simp]
  exact Blk.new _ _ _
 have HOW := xhd (y90 g f 6 none 0 0 id' w1 (h.keeps hk1 (fun h => h)) hid hid')
 have c0 : w1.cell? ⟨rc, 0, none⟩ = some (.int .i64 pc) := by rw [hC.cell]; rfl
 have HO := xhd hO
 have HK1 := xhd hk1
 have HRC := xhd hrc
 have HGL := xhd hgl
 clear hw1 hk1 hC hO h hid hid' hp hrc hgl
 go_wp2_with fail
 refine HOW.out.mono ?_
 rintro e w2 ⟨rfl, hn2, hk2⟩
 have hO := HO.out.keeps hk2 (fun e => by have e : rc + 1 = g := e; have := HRC.out; have := HGL.out; omega)
 have o0 : w2.cell? ⟨rc + 1, 0, none⟩ = some (.int .i64 0) := by rw [hO.cell]; rfl
 have o1 : w2.cell? ⟨rc + 1, 1, none⟩ = some (.int .i64 0) := by rw [hO.cell]; rfl
 have o2 : w2.cell? ⟨rc + 1, 2, none⟩ = some (.slice none 0 0) := by rw [hO.cell]; rfl
 have g0 := hO.frozen 0
 have g1 := hO.frozen 1
 have g2 := hO.frozen 2
 have HZ := xhd (((hO.set 0 (.int .i64 6)).set 1 (.int .i64 (id' : Int))).set 2 (.slice none 0 0))
 have KR := (((Keeps.refl (only (rc + 1)) w2).put 0 (.int .i64 6)).put 1 (.int .i64 (id' : Int))).put 2 (.slice none 0 0)
 have HN := xhd (hn2.keeps KR (fun e => by have e : g = rc + 1 := e; have := HRC.out; have := HGL.out; omega))
 have HK := xhd (show Keeps (only g) w _ from ((HK1.out.mono (fun _ h => h.elim)).trans hk2).trans' KR (fun i hi hl => by have e : i = rc + 1 := hi; have := HRC.out; omega))
 clear hO KR hn2 hk2 c0
 go_wp2_with fail
 refine bodyPost_ret (y07 rfl _ _ (rc + 1) 56 _ (0, 0) _ rfl HZ.out Tryz.underlying56 rfl (by rw [HI.out]; rfl)) rfl ?_
 exact ⟨rfl, HN.out, HK.out⟩
theorem yff (F : Nat → Prop) (v : Value) (p : Pure.Pkt) (w : World) (hF : ∀ b, F b → b < w.heap.size) (hr : Row w F 1 v p.data.length (u8s p.data)) :
  Calls Tryz.prog 164 #[pktV p v] w fun e w' => ∃ A c, e = .returned (.slice A ((Pure.encode p).2.take 1496).length c) ∧ Row w' (fun b => w.heap.size ≤ b) 1 (.slice A ((Pure.encode p).2.take 1496).length c) ((Pure.encode p).2.take 1496).length (u8s ((Pure.encode p).2.take 1496)) ∧ Keeps y01 w w' := by
 have hk0 := (Keeps.refl y01 w).alloc (.cells #[.int .i64 p.code, .int .i64 p.id, v] 56)
 have HE := xhd (encode_any F v p (w.alloc (.cells #[.int .i64 p.code, .int .i64 p.id, v] 56)) (fun b hb => Nat.lt_of_lt_of_le (hF b hb) hk0.size) (hr.keeps hk0 (fun _ _ h => h)))
 have HK0 := xhd hk0
 obtain ⟨A0, c0, rfl, _⟩ := hr.form
 obtain ⟨L, hL⟩ : ∃ L, L = (Pure.encode p).2 := ⟨_, rfl⟩
 rw [← hL] at HE ⊢
 clear hF hr hk0 hL
 by_cases hl : L.length ≤ 1496
 ·have ht : L.take 1496 = L := List.take_of_length_le hl
  rw [ht]
  have e1 : min (L.length : Int) 1496 = (L.length : Int) := by omega
  have i3 : ¬ (1496 : Int) < (L.length : Int) := by omega
  have i4 : (L.length : Int) ≤ 1496 := by omega
  clear ht
  go_enter Tryz.func164, Tryz.ntmps164
  go_wp2_with fail
  refine HE.out.mono ?_
  rintro e w1 ⟨u, rfl, hu, hb⟩
  obtain ⟨A, c, rfl⟩ := y0c hu
  have hrow := (Row.of_own hu).mono (G := fun b => w.heap.size ≤ b) (fun b hb => Nat.le_trans HK0.out.size (y0f hu b hb))
  have hcl : L.length ≤ c := by
   obtain ⟨_, _, A', c', e', hc', _⟩ := hrow
   injection e' with _ _ e3
   omega
  have HR := xhd hrow
  have HK := xhd (HK0.out.trans (Keeps.new hb))
  have i5 : (L.length : Int) ≤ (c : Int) := by omega
  clear hu hb HE hrow
  go_wp2_with fail
  go_ret
  exact ⟨A, c, rfl, HR.out, HK.out⟩
 ·have i3 : (1496 : Int) < (L.length : Int) := by omega
  have e1 : min (L.length : Int) 1496 = 1496 := by omega
  have i4 : ¬ (L.length : Int) ≤ 1496 := by omega
  have hlt : (L.take 1496).length = 1496 := by rw [List.length_take]; omega
  rw [hlt]
  have HLT := xhd hlt
  clear hlt
  go_enter Tryz.func164, Tryz.ntmps164
  go_wp2_with fail
  refine HE.out.mono ?_
  rintro e w1 ⟨u, rfl, hu, hb⟩
  obtain ⟨A, c, rfl⟩ := y0c hu
  have hrow := (Row.of_own hu).mono (G := fun b => w.heap.size ≤ b) (fun b hb => Nat.le_trans HK0.out.size (y0f hu b hb))
  have hcl : L.length ≤ c := by
   obtain ⟨_, _, A', c', e', hc', _⟩ := hrow
   injection e' with _ _ e3
   omega
  have HR := xhd (show Row w1 (fun b => w.heap.size ≤ b) 1 (.slice A 1496 c) 1496 (u8s (L.take 1496)) by rw [u8s_take]; exact hrow.take1 1496 (by omega))
  have HK := xhd (HK0.out.trans (Keeps.new hb))
  have i5 : (1496 : Int) ≤ (c : Int) := by omega
  clear hu hb HE hrow
  go_wp2_with fail
  go_ret
  exact ⟨A, c, rfl, HR.out, HK.out⟩
theorem ask_as (F : Nat → Prop) (g : Nat) (f : NF) (zq : List (Value × Pure.Opt)) (id' : Nat) (w : World) (h : NBlk w g f) (hF : ∀ b, F b → b < w.heap.size ∧ b ≠ g) (hx : ORow w F f.request zq) (hfx : FewOpts zq) (hid : f.id < 256) (hid' : id' = (f.id + 1) % 256) :
  Calls Tryz.prog 161 #[.pointer (some ⟨g, 0, none⟩)] w fun e w' => ∃ B cb u, ∃ qs : List (Value × Pure.Opt), e = .returned (.agg #[.int .i64 1, .int .i64 (id' : Int), .slice B (Pure.options (y02 zq)).2.length cb]) ∧
   Row w' (fun b => w.heap.size ≤ b) 1 (.slice B (Pure.options (y02 zq)).2.length cb) (Pure.options (y02 zq)).2.length (u8s (Pure.options (y02 zq)).2) ∧ y02 qs = y02 zq ∧ ORow w' (fun b => w.heap.size ≤ b) u qs ∧ NBlk w' g { f with id := id', aid := id', aopts := u, aopen := true } ∧ Keeps (only g) w w' := by
 obtain ⟨X, cx, hX, _⟩ := hx.form
 rw [hX] at hx
 have HX := xhd hx
 have HXE := xhd hX
 have HFX := xhd hfx
 have HFg := xhd (fun b hb (e : only g b) => (hF b hb).2 e)
 have HI := xhd y4e
 have hgl := h.lt
 obtain ⟨ro, hro⟩ : ∃ r, r = w.heap.size := ⟨_, rfl⟩
 go_enter Tryz.func161, Tryz.ntmps161
 go_upto_region 1 with fail
 rw [← hro]
 generalize hw1 : w.alloc _ = w1
 have hk1 : Keeps y01 w w1 := by rw [← hw1]; exact (Keeps.refl _ w).alloc _
 have hsz1 : w1.heap.size = ro + 1 := by rw [← hw1, hro]; simp
 have hO : Blk w1 ro 56 #[.int .i64 0, .int .i64 0, .slice none 0 0] := by rw [← hw1, hro]; exact Blk.new w _ _
 have h1 := h.keeps hk1 (fun h => h)
 have m4 : w1.cell? ⟨g, 5, none⟩ = some (.slice X zq.length cx) := by rw [← hX]; exact h1.cell 5
 have HBO := xhd (y5c F (.slice X zq.length cx) zq w1 (fun b hb => Nat.lt_of_lt_of_le (hF b hb).1 hk1.size) (hx.keeps hk1 (fun _ _ h => h)))
 have HN1 := xhd h1
 have HO1 := xhd hO
 have HK1 := xhd hk1
 have HRO := xhd hro
 have HGL0 := xhd hgl
 have HW1 := xhd hsz1
 have HOW := xhd (fun (A : Option Addr) (n c : Nat) (W : World) (hN : NBlk W g f) => y90 g f 1 A n c id' W hN hid hid')
 clear hw1 hk1 hO h1 h hF hx hfx hid hid' hX hro hgl hsz1
 go_wp2_with fail
 refine HBO.out.mono ?_
 rintro e w2 ⟨B, cb, rfl, hrb, hk2⟩
 have HN2 := xhd (HN1.out.keeps hk2 (fun h => h))
 have HO2 := xhd (HO1.out.keeps hk2 (fun h => h))
 have HRB2 := xhd hrb
 have HK2 := xhd (HK1.out.trans hk2)
 clear hrb hk2 HBO HN1 HO1 m4
 go_wp2_with fail
 refine (HOW.out _ _ _ _ HN2.out).mono ?_
 rintro e w3 ⟨rfl, hn3, hk3⟩
 have HN3 := xhd hn3
 have HO3 := xhd (HO2.out.keeps hk3 (fun e => by have e : ro = g := e; have := HRO.out; have := HGL0.out; omega))
 have HRB3 := xhd (HRB2.out.keeps hk3 (fun b hb e => by have e : b = g := e; have := HW1.out; have := HRO.out; have := HGL0.out; omega))
 have HK3 := xhd (show Keeps (only g) w w3 from (HK2.out.mono (fun _ h => h.elim)).trans hk3)
 have HS23 := xhd (show w2.heap.size ≤ w3.heap.size from hk3.size)
 have HS12 := xhd (show w1.heap.size ≤ w2.heap.size from HK2.out.size |> fun _ => by have := HK2.out.size; have := HW1.out; have := HO2.out.lt; omega)
 clear hn3 hk3 HOW HN2 HO2 HRB2
 go_upto_region 2 with fail
 obtain ⟨w4, hw4⟩ : ∃ w4, w4 = w3.alloc (.cells #[.int .i64 1, .int .i64 (id' : Int), .slice B (Pure.options (y02 zq)).2.length cb] 56) := ⟨_, rfl⟩
 obtain ⟨rp, hrp⟩ : ∃ r, r = w3.heap.size := ⟨_, rfl⟩
 rw [← hw4, ← hrp]
 have hk4 : Keeps y01 w3 w4 := by rw [hw4]; exact (Keeps.refl _ w3).alloc _
 have HP4 := xhd (show Blk w4 rp 56 #[.int .i64 1, .int .i64 (id' : Int), .slice B (Pure.options (y02 zq)).2.length cb] by rw [hw4, hrp]; exact Blk.new w3 _ _)
 have HN4 := xhd (HN3.out.keeps hk4 (fun h => h))
 have HO4 := xhd (HO3.out.keeps hk4 (fun h => h))
 have HQ1 := xhd (show w4.cell? ⟨rp, 1, none⟩ = some (.int .i64 (id' : Int)) by rw [HP4.out.cell]; rfl)
 have HM4 := xhd (show w4.cell? ⟨g, 5, none⟩ = some (.slice X zq.length cx) by rw [← HXE.out]; exact HN4.out.cell 5)
 have HKA := xhd (show Keeps (only g) w w4 from HK3.out.trans (hk4.mono (fun _ h => h.elim)))
 have HRB := xhd (HRB3.out.keeps hk4 (fun _ _ h => h))
 have HKZ := xhd (Keeps.refl y01 w4)
 have HWS := xhd (show w.heap.size + 1 = w1.heap.size by have := HW1.out; have := HRO.out; omega)
 have HGL := xhd (show g < w4.heap.size from HN4.out.lt)
 have HGL2 := xhd (show g < w.heap.size from HGL0.out)
 have HOL := xhd (show ro < w4.heap.size from HO4.out.lt)
 have HPG := xhd (show rp ≠ g by have := HN3.out.lt; omega)
 have HOG := xhd (show ro ≠ g by have := HRO.out; have := HGL0.out; omega)
 clear hw4 hrp hk4 HN3 HO3 HRB3 HK3
 refine y0b (fun w' => w'.cell? ⟨rp, 1, none⟩ = some (.int .i64 (id' : Int)) ∧ w'.cell? ⟨g, 5, none⟩ = some (.slice X zq.length cx) ∧ Blk w' rp 56 #[.int .i64 1, .int .i64 (id' : Int), .slice B (Pure.options (y02 zq)).2.length cb] ∧ NBlk w' g { f with id := id' }) 11 12 rfl (by kernel_rfl) ⟨HQ1.out, HM4.out, HP4.out, HN4.out⟩ (fun hHeld => ?_)
 have HSW := hHeld
 clear hHeld
 have HK0d := xhd (HKZ.out.drew)
 refine y00 (i := 0) rfl (by kernel_rfl) (fun _ _ _ h => h) (Or.inl ⟨by rfl, by intro w hSw; obtain ⟨s0, s1, _⟩ := hSw; go_simp; try with_reducible rfl⟩) HSW.out ?_
 simp only [Act.put, xqA, xqB, xqD, xqE, xqF]
 refine y00 (i := 1) rfl (by kernel_rfl) (fun _ _ _ h => h) (Or.inl ⟨by rfl, by intro w hSw; obtain ⟨s0, s1, _⟩ := hSw; go_simp; try with_reducible rfl⟩) HSW.out ?_
 simp only [Act.put, xqA, xqB, xqC, xqD, xqE, xqF]
 refine y00 (i := 2) rfl (by kernel_rfl) (fun _ _ _ h => h) (Or.inl ⟨by rfl, by intro w hSw; obtain ⟨s0, s1, _⟩ := hSw; go_simp; try with_reducible rfl⟩) HSW.out ?_
 simp only [Act.put, xqA, xqB, xqC, xqD, xqE, xqF]
 refine y00 (i := 3) rfl (by kernel_rfl) (fun _ _ _ h => h) (Or.inl ⟨by rfl, by intro w hSw; obtain ⟨s0, s1, _⟩ := hSw; go_simp; try with_reducible rfl⟩) HSW.out ?_
 simp only [Act.put, xqA, xqB, xqC, xqD, xqE, xqF]
 refine y00 (i := 4) rfl (by kernel_rfl) (fun _ _ _ h => h) (Or.inl ⟨by rfl, by intro w hSw; obtain ⟨s0, s1, _⟩ := hSw; go_simp; try with_reducible rfl⟩) HSW.out ?_
 simp only [Act.put, xqA, xqB, xqC, xqD, xqE, xqF]
 refine y00 (i := 5) rfl (by kernel_rfl) (fun _ _ _ h => h) (Or.inl ⟨by rfl, by intro w hSw; obtain ⟨s0, s1, _⟩ := hSw; go_simp; try with_reducible rfl⟩) HSW.out ?_
 simp only [Act.put, xqA, xqB, xqC, xqD, xqE, xqF]
 refine y00 (i := 6) rfl (by kernel_rfl) (fun _ _ _ h => h) (Or.inl ⟨by rfl, by intro w hSw; obtain ⟨s0, s1, _⟩ := hSw; go_simp; try with_reducible rfl⟩) HSW.out ?_
 simp only [Act.put, xqA, xqB, xqC, xqD, xqE, xqF]
 refine y03 (i := 7) (by kernel_rfl) rfl (fun K hK => ?_)
 try rw [if_pos (by rfl)]
 go_simp
 refine (y1v F (.slice X zq.length cx) zq _ (HX.out.keeps (HKA.out.trans (HK0d.out.mono (fun _ h => h.elim))) (fun b hb e => HFg.out b hb e)) HFX.out.len HFX.out.data).mono ?_
 rintro e w5 ⟨u, qs, rfl, hqs, hrd⟩
 obtain ⟨A5, c5, rfl⟩ := y0c hrd.own
 have hk5 := Keeps.new hrd.below
 have HQS := xhd hqs
 have HK5 := xhd (HK0d.out.trans hk5)
 have HRQ := xhd (hrd.row.mono (G := fun b => w4.heap.size ≤ b) (fun b hb => Nat.le_trans HK0d.out.size hb))
 have HS5 := xhd (And.intro (y04 HSW.out.1 hk5) (And.intro (y04 HSW.out.2.1 hk5) (And.intro (HSW.out.2.2.1.keeps hk5 (fun h => h)) (HSW.out.2.2.2.keeps hk5 (fun h => h)))))
 clear hqs hrd hk5
 refine hK.out _ _ (fun _ => HS5.out) ?_
 clear hK K
 try simp only [Act.put, xqA, Nat.reduceAdd, xqB, xqC, xqD, xqE, xqF]
 refine y00 (i := 8) rfl (by kernel_rfl) (fun _ _ _ h => h) (Or.inl ⟨by rfl, by intro w hSw; obtain ⟨s0, s1, _⟩ := hSw; go_simp; try with_reducible rfl⟩) HS5.out ?_
 simp only [Act.put, xqA, xqB, xqC, xqD, xqE, xqF]
 refine y00 (i := 9) rfl (by kernel_rfl) (fun _ _ _ h => h) (Or.inl ⟨by rfl, by intro w hSw; obtain ⟨s0, s1, _⟩ := hSw; go_simp; try with_reducible rfl⟩) HS5.out ?_
 simp only [Act.put, xqA, xqB, xqC, xqD, xqE, xqF]
 refine y00 (i := 10) rfl (by kernel_rfl) (fun _ _ _ h => h) (Or.inl ⟨by rfl, by intro w hSw; obtain ⟨s0, s1, _⟩ := hSw; go_simp; try with_reducible rfl⟩) HS5.out ?_
 simp only [Act.put, xqA, xqB, xqC, xqD, xqE, xqF]
 have hN : Blk w5 g 171 ({ f with id := id' } : NF).list.toArray := HS5.out.2.2.2
 have k5 : w5.cell? ⟨g, 6, none⟩ = some (.int .i64 (f.aid : Int)) := by rw [hN.cell]; rfl
 have k6 : w5.cell? ⟨g, 7, none⟩ = some f.aopts := by rw [hN.cell]; rfl
 have k7 : w5.cell? ⟨g, 8, none⟩ = some (.bool f.aopen) := by rw [hN.cell]; rfl
 have l5 := hN.frozen 6
 have l6 := hN.frozen 7
 have l7 := hN.frozen 8
 have HN6 := xhd (show NBlk (((w5.setCell ⟨g, 6, none⟩ (.int .i64 (id' : Int))).setCell ⟨g, 7, none⟩ (.slice A5 qs.length c5)).setCell ⟨g, 8, none⟩ (.bool true)) g { f with id := id', aid := id', aopts := .slice A5 qs.length c5, aopen := true } from ((hN.set 6 (.int .i64 (id' : Int))).set 7 (.slice A5 qs.length c5)).set 8 (.bool true))
 have KG := (((Keeps.refl (only g) w5).put 6 (.int .i64 (id' : Int))).put 7 (.slice A5 qs.length c5)).put 8 (.bool true)
 have HP6 := xhd (HS5.out.2.2.1.keeps KG (fun e => HPG.out e))
 have HRQ6 := xhd (HRQ.out.keeps KG (fun b hb e => by have e : b = g := e; have := HGL.out; omega))
 have HKG := xhd KG
 clear hN KG
 refine y03 (i := 11) (by kernel_rfl) rfl (fun K hK => ?_)
 go_simp
 refine hK.out _ _ (fun h => absurd rfl h) ?_
 clear hK K
 refine y09 (by kernel_rfl) ?_ _
 generalize hw6 : World.setCell _ ⟨g, 8, none⟩ _ = w6 at HN6 HP6 HRQ6 HKG ⊢
 have hP := HP6.out
 have p0 : w6.cell? ⟨rp, 0, none⟩ = some (.int .i64 1) := by rw [hP.cell]; rfl
 have p1 : w6.cell? ⟨rp, 1, none⟩ = some (.int .i64 (id' : Int)) := by rw [hP.cell]; rfl
 have p2 : w6.cell? ⟨rp, 2, none⟩ = some (.slice B (Pure.options (y02 zq)).2.length cb) := by rw [hP.cell]; rfl
 have hO := (HO4.out.keeps HK5.out (fun h => h)).keeps HKG.out (fun e => HOG.out e)
 have o0 : w6.cell? ⟨ro, 0, none⟩ = some (.int .i64 0) := by rw [hO.cell]; rfl
 have o1 : w6.cell? ⟨ro, 1, none⟩ = some (.int .i64 0) := by rw [hO.cell]; rfl
 have o2 : w6.cell? ⟨ro, 2, none⟩ = some (.slice none 0 0) := by rw [hO.cell]; rfl
 have g0 := hO.frozen 0
 have g1 := hO.frozen 1
 have g2 := hO.frozen 2
 have HZ := xhd (((hO.set 0 (.int .i64 1)).set 1 (.int .i64 (id' : Int))).set 2 (.slice B (Pure.options (y02 zq)).2.length cb))
 have KR := (((Keeps.refl (only ro) w6).put 0 (.int .i64 1)).put 1 (.int .i64 (id' : Int))).put 2 (.slice B (Pure.options (y02 zq)).2.length cb)
 have HN7 := xhd (HN6.out.keeps KR (fun e => HOG.out (Eq.symm e)))
 have HRQ7 := xhd ((HRQ6.out.keeps KR (fun b hb e => by have e : b = ro := e; have := HOL.out; omega)).mono (G := fun b => w.heap.size ≤ b) (fun b hb => Nat.le_trans HKA.out.size hb))
 have HRB7 := xhd (((((HRB.out.keeps HK5.out (fun _ _ h => h)).keeps HKG.out (fun b hb e => by have e : b = g := e; have := HGL2.out; have := HWS.out; omega)).keeps KR (fun b hb e => by have e : b = ro := e; have := HRO.out; have := HWS.out; omega))).mono (G := fun b => w.heap.size ≤ b) (fun b hb => by have := HWS.out; omega))
 have HK7 := xhd (show Keeps (only g) w _ from ((HKA.out.trans (HK5.out.mono (fun _ h => h.elim))).trans HKG.out).trans' KR (fun i hi hl => by have e : i = ro := hi; have := HRO.out; omega))
 clear hP hO KR hw6
 go_wp2_with fail
 refine bodyPost_ret (y07 rfl _ _ ro 56 _ (0, 0) _ rfl HZ.out Tryz.underlying56 rfl (by rw [HI.out]; rfl)) rfl ?_
 exact ⟨B, cb, _, qs, rfl, HRB7.out, HQS.out, HRQ7.out, HN7.out, HK7.out⟩
def AnsTo (w w' : World) (f : NF) (code : Int) (zs : List (Value × Pure.Opt)) (f' : NF) : Prop :=
 (code = 2 ∧ ∃ u, ∃ qs : List (Value × Pure.Opt), f' = { f with given := u } ∧ y02 qs = y02 zs ∧ ORow w' (fun b => w.heap.size ≤ b) u qs) ∨ (code = 3 ∧ f' = { f with naks := f.naks + 1 }) ∨ (code ≠ 2 ∧ code ≠ 3 ∧ f' = f)
theorem yas (F : Nat → Prop) (g : Nat) (f : NF) (p : Pure.Pkt) (d : Value) (code : Int) (ov : Value) (zs : List (Value × Pure.Opt)) (w : World) (h : NBlk w g f) (hF : ∀ b, F b → b < w.heap.size ∧ b ≠ g) (hx : ORow w F ov zs) (hfx : FewOpts zs) (hnk : f.naks ≤ 1000000) :
  Calls Tryz.prog 162 #[.pointer (some ⟨g, 0, none⟩), y8j p d code ov] w fun e w' => ∃ B cb f', e = .returned (.agg #[.int .i64 code, .int .i64 p.id, .slice B (Pure.options (y02 zs)).2.length cb]) ∧
   Row w' (fun b => w.heap.size ≤ b) 1 (.slice B (Pure.options (y02 zs)).2.length cb) (Pure.options (y02 zs)).2.length (u8s (Pure.options (y02 zs)).2) ∧ AnsTo w w' f code zs f' ∧ NBlk w' g f' ∧ Keeps (only g) w w' := by
 obtain ⟨X, cx, rfl, _⟩ := hx.form
 obtain ⟨pc, pi, pd⟩ := p
 dsimp only
 have HX := xhd hx
 have HFX := xhd hfx
 have HF := xhd hF
 have HI := xhd y4e
 have hgl := h.lt
 obtain ⟨rc, hrc⟩ : ∃ r, r = w.heap.size := ⟨_, rfl⟩
 obtain ⟨ro, hro⟩ : ∃ r, r = rc + 1 := ⟨_, rfl⟩
 go_enter Tryz.func162, Tryz.ntmps162
 go_upto_region 1 with fail
 rw [← hrc, ← hro]
 generalize hw1 : (w.alloc _).alloc _ = w1
 have hk1 : Keeps y01 w w1 := by rw [← hw1]; exact ((Keeps.refl _ w).alloc _).alloc _
 have HC1 := xhd (show Blk w1 rc 180 #[.int .i64 pc, .int .i64 pi, d, .int .i64 code, .slice X zs.length cx] by rw [← hw1, hrc]; exact (Blk.new w _ _).alloc _)
 have HO1 := xhd (show Blk w1 ro 56 #[.int .i64 0, .int .i64 0, .slice none 0 0] by
  rw [← hw1, show ro = (w.alloc (.cells #[.int .i64 pc, .int .i64 pi, d, .int .i64 code, .slice X zs.length cx] 180)).heap.size by rw [hro, hrc]; simp]
  exact Blk.new _ _ _)
 have HN1 := xhd (h.keeps hk1 (fun h => h))
 have HK1 := xhd (show Keeps (only g) w w1 from hk1.mono (fun _ h => h.elim))
 have HKN := xhd hk1
 have HRO := xhd (show w.heap.size < ro by omega)
 have HOG := xhd (show ro ≠ g by omega)
 have HCG := xhd (show rc ≠ g by omega)
 have HW1 := xhd (show w1.heap.size = ro + 1 by rw [← hw1, hro, hrc]; simp)
 have HCP := xhd (y1v F (.slice X zs.length cx) zs w1 (hx.keeps hk1 (fun _ _ h => h)) hfx.len hfx.data)
 have q3 : w1.cell? ⟨rc, 3, none⟩ = some (.int .i64 code) := by rw [HC1.out.cell]; rfl
 have q4 : w1.cell? ⟨rc, 4, none⟩ = some (.slice X zs.length cx) := by rw [HC1.out.cell]; rfl
 clear hw1 hk1 h hF hx hfx hrc hgl hro
 by_cases h2 : code = 2
 ·have e2 : (code == 2) = true := by rw [beq_iff_eq]; exact h2
  have H2 := xhd h2
  clear h2
  go_wp2_with fail
  refine HCP.out.mono ?_
  rintro e w2 ⟨u, qs, rfl, hqs, hrd⟩
  obtain ⟨A5, c5, rfl⟩ := y0c hrd.own
  have hk2 : Keeps y01 w1 w2 := Keeps.new hrd.below
  have hN2 : Blk w2 g 171 f.list.toArray := HN1.out.keeps hk2 (fun h => h)
  have k11 : w2.cell? ⟨g, 12, none⟩ = some f.given := by rw [hN2.cell]; rfl
  have l11 := hN2.frozen 12
  have KG := (Keeps.refl (only g) w2).put 12 (.slice A5 qs.length c5)
  have HN4 := xhd (show NBlk (w2.setCell ⟨g, 12, none⟩ (.slice A5 qs.length c5)) g { f with given := .slice A5 qs.length c5 } from hN2.set 12 _)
  have HC4 := xhd ((HC1.out.keeps hk2 (fun h => h)).keeps KG HCG.out)
  have HO4 := xhd ((HO1.out.keeps hk2 (fun h => h)).keeps KG HOG.out)
  have HKA := xhd ((HK1.out.trans (hk2.mono (fun _ h => h.elim))).trans KG)
  have HQ4 := xhd (hrd.row.keeps KG (fun b hb e => by have e : b = g := e; have := HN1.out.lt; omega))
  have HQS := xhd hqs
  clear hqs hrd hk2 hN2 KG q3 q4
  go_upto_region 6 with fail
  clear k11 l11
  obtain ⟨w4, hw4⟩ : ∃ w4, w4 = w2.setCell ⟨g, 12, none⟩ (.slice A5 qs.length c5) := ⟨_, rfl⟩
  rw [← hw4] at HC4 HO4 HN4 HKA HQ4 ⊢
  have HKZ := xhd (Keeps.refl y01 w4)
  have HOL := xhd (show ro < w4.heap.size from HO4.out.lt)
  clear hw4
  refine y0b (fun w' => Blk w' rc 180 #[.int .i64 pc, .int .i64 pi, d, .int .i64 code, .slice X zs.length cx] ∧ Blk w' ro 56 #[.int .i64 0, .int .i64 0, .slice none 0 0]) 9 10 rfl (by kernel_rfl) ⟨HC4.out, HO4.out⟩ (fun hHeld => ?_)
  have HSW := hHeld
  clear hHeld
  have HK0d := xhd (HKZ.out.drew)
  refine y00 (i := 0) rfl (by kernel_rfl) (fun _ _ _ h => h) (Or.inl ⟨by rfl, by intro w hSw; obtain ⟨s0, s1⟩ := hSw; have q0 : w.cell? ⟨rc, 0, none⟩ = some (.int .i64 pc) := by {rw [s0.cell]; rfl}; have q1 : w.cell? ⟨rc, 1, none⟩ = some (.int .i64 pi) := by {rw [s0.cell]; rfl}; have q3 : w.cell? ⟨rc, 3, none⟩ = some (.int .i64 code) := by {rw [s0.cell]; rfl}; have q4 : w.cell? ⟨rc, 4, none⟩ = some (.slice X zs.length cx) := by {rw [s0.cell]; rfl}; go_simp; try with_reducible rfl⟩) HSW.out ?_
  simp only [Act.put, xqA, xqB, xqD, xqE, xqF]
  refine y00 (i := 1) rfl (by kernel_rfl) (fun _ _ _ h => h) (Or.inl ⟨by rfl, by intro w hSw; obtain ⟨s0, s1⟩ := hSw; have q0 : w.cell? ⟨rc, 0, none⟩ = some (.int .i64 pc) := by {rw [s0.cell]; rfl}; have q1 : w.cell? ⟨rc, 1, none⟩ = some (.int .i64 pi) := by {rw [s0.cell]; rfl}; have q3 : w.cell? ⟨rc, 3, none⟩ = some (.int .i64 code) := by {rw [s0.cell]; rfl}; have q4 : w.cell? ⟨rc, 4, none⟩ = some (.slice X zs.length cx) := by {rw [s0.cell]; rfl}; go_simp; try with_reducible rfl⟩) HSW.out ?_
  simp only [Act.put, xqA, xqB, xqC, xqD, xqE, xqF]
  refine y00 (i := 2) rfl (by kernel_rfl) (fun _ _ _ h => h) (Or.inl ⟨by rfl, by intro w hSw; obtain ⟨s0, s1⟩ := hSw; have q0 : w.cell? ⟨rc, 0, none⟩ = some (.int .i64 pc) := by {rw [s0.cell]; rfl}; have q1 : w.cell? ⟨rc, 1, none⟩ = some (.int .i64 pi) := by {rw [s0.cell]; rfl}; have q3 : w.cell? ⟨rc, 3, none⟩ = some (.int .i64 code) := by {rw [s0.cell]; rfl}; have q4 : w.cell? ⟨rc, 4, none⟩ = some (.slice X zs.length cx) := by {rw [s0.cell]; rfl}; go_simp; try with_reducible rfl⟩) HSW.out ?_
  simp only [Act.put, xqA, xqB, xqC, xqD, xqE, xqF]
  refine y00 (i := 3) rfl (by kernel_rfl) (fun _ _ _ h => h) (Or.inl ⟨by rfl, by intro w hSw; obtain ⟨s0, s1⟩ := hSw; have q0 : w.cell? ⟨rc, 0, none⟩ = some (.int .i64 pc) := by {rw [s0.cell]; rfl}; have q1 : w.cell? ⟨rc, 1, none⟩ = some (.int .i64 pi) := by {rw [s0.cell]; rfl}; have q3 : w.cell? ⟨rc, 3, none⟩ = some (.int .i64 code) := by {rw [s0.cell]; rfl}; have q4 : w.cell? ⟨rc, 4, none⟩ = some (.slice X zs.length cx) := by {rw [s0.cell]; rfl}; go_simp; try with_reducible rfl⟩) HSW.out ?_
  simp only [Act.put, xqA, xqB, xqC, xqD, xqE, xqF]
  refine y00 (i := 4) rfl (by kernel_rfl) (fun _ _ _ h => h) (Or.inl ⟨by rfl, by intro w hSw; obtain ⟨s0, s1⟩ := hSw; have q0 : w.cell? ⟨rc, 0, none⟩ = some (.int .i64 pc) := by {rw [s0.cell]; rfl}; have q1 : w.cell? ⟨rc, 1, none⟩ = some (.int .i64 pi) := by {rw [s0.cell]; rfl}; have q3 : w.cell? ⟨rc, 3, none⟩ = some (.int .i64 code) := by {rw [s0.cell]; rfl}; have q4 : w.cell? ⟨rc, 4, none⟩ = some (.slice X zs.length cx) := by {rw [s0.cell]; rfl}; go_simp; try with_reducible rfl⟩) HSW.out ?_
  simp only [Act.put, xqA, xqB, xqC, xqD, xqE, xqF]
  refine y00 (i := 5) rfl (by kernel_rfl) (fun _ _ _ h => h) (Or.inl ⟨by rfl, by intro w hSw; obtain ⟨s0, s1⟩ := hSw; have q0 : w.cell? ⟨rc, 0, none⟩ = some (.int .i64 pc) := by {rw [s0.cell]; rfl}; have q1 : w.cell? ⟨rc, 1, none⟩ = some (.int .i64 pi) := by {rw [s0.cell]; rfl}; have q3 : w.cell? ⟨rc, 3, none⟩ = some (.int .i64 code) := by {rw [s0.cell]; rfl}; have q4 : w.cell? ⟨rc, 4, none⟩ = some (.slice X zs.length cx) := by {rw [s0.cell]; rfl}; go_simp; try with_reducible rfl⟩) HSW.out ?_
  simp only [Act.put, xqA, xqB, xqC, xqD, xqE, xqF]
  refine y00 (i := 6) rfl (by kernel_rfl) (fun _ _ _ h => h) (Or.inl ⟨by rfl, by intro w hSw; obtain ⟨s0, s1⟩ := hSw; have q0 : w.cell? ⟨rc, 0, none⟩ = some (.int .i64 pc) := by {rw [s0.cell]; rfl}; have q1 : w.cell? ⟨rc, 1, none⟩ = some (.int .i64 pi) := by {rw [s0.cell]; rfl}; have q3 : w.cell? ⟨rc, 3, none⟩ = some (.int .i64 code) := by {rw [s0.cell]; rfl}; have q4 : w.cell? ⟨rc, 4, none⟩ = some (.slice X zs.length cx) := by {rw [s0.cell]; rfl}; go_simp; try with_reducible rfl⟩) HSW.out ?_
  simp only [Act.put, xqA, xqB, xqC, xqD, xqE, xqF]
  refine y03 (i := 7) (by kernel_rfl) rfl (fun K hK => ?_)
  try rw [if_pos (by rfl)]
  go_simp
  refine (y5c F (.slice X zs.length cx) zs _ (fun b hb => Nat.lt_of_lt_of_le (HF.out b hb).1 (Nat.le_trans HKA.out.size HK0d.out.size)) ((HX.out.keeps HKA.out (fun b hb e => (HF.out b hb).2 e)).keeps HK0d.out (fun _ _ h => h))).mono ?_
  rintro e w5 ⟨B, cb, rfl, hrb, hk5⟩
  have HK5 := xhd (HK0d.out.trans hk5)
  have HRB := xhd (hrb.mono (G := fun b => w4.heap.size ≤ b) (fun b hb => Nat.le_trans HK0d.out.size hb))
  have HS5 := xhd (And.intro (HSW.out.1.keeps hk5 (fun h => h)) (HSW.out.2.keeps hk5 (fun h => h)))
  clear hrb hk5
  refine hK.out _ _ (fun _ => HS5.out) ?_
  clear hK K
  try simp only [Act.put, xqA, Nat.reduceAdd, xqB, xqC, xqD, xqE, xqF]
  refine y00 (i := 8) rfl (by kernel_rfl) (fun _ _ _ h => h) (Or.inl ⟨by rfl, by intro w hSw; obtain ⟨s0, s1⟩ := hSw; have q0 : w.cell? ⟨rc, 0, none⟩ = some (.int .i64 pc) := by {rw [s0.cell]; rfl}; have q1 : w.cell? ⟨rc, 1, none⟩ = some (.int .i64 pi) := by {rw [s0.cell]; rfl}; have q3 : w.cell? ⟨rc, 3, none⟩ = some (.int .i64 code) := by {rw [s0.cell]; rfl}; have q4 : w.cell? ⟨rc, 4, none⟩ = some (.slice X zs.length cx) := by {rw [s0.cell]; rfl}; go_simp; try with_reducible rfl⟩) HS5.out ?_
  simp only [Act.put, xqA, xqB, xqC, xqD, xqE, xqF]
  have hO := HS5.out.2
  have o0 : w5.cell? ⟨ro, 0, none⟩ = some (.int .i64 0) := by rw [hO.cell]; rfl
  have o1 : w5.cell? ⟨ro, 1, none⟩ = some (.int .i64 0) := by rw [hO.cell]; rfl
  have o2 : w5.cell? ⟨ro, 2, none⟩ = some (.slice none 0 0) := by rw [hO.cell]; rfl
  have g0 := hO.frozen 0
  have g1 := hO.frozen 1
  have g2 := hO.frozen 2
  have HZ := xhd (((hO.set 0 (.int .i64 code)).set 1 (.int .i64 pi)).set 2 (.slice B (Pure.options (y02 zs)).2.length cb))
  have KR := (((Keeps.refl (only ro) w5).put 0 (.int .i64 code)).put 1 (.int .i64 pi)).put 2 (.slice B (Pure.options (y02 zs)).2.length cb)
  have HN7 := xhd ((HN4.out.keeps HK5.out (fun h => h)).keeps KR (fun e => HOG.out (Eq.symm e)))
  have HRB7 := xhd ((HRB.out.keeps KR (fun b hb e => by have e : b = ro := e; have := HOL.out; omega)).mono (G := fun b => w.heap.size ≤ b) (fun b hb => Nat.le_trans HKA.out.size hb))
  have HK7 := xhd (show Keeps (only g) w _ from (HKA.out.trans (HK5.out.mono (fun _ h => h.elim))).trans' KR (fun i hi hl => by have e : i = ro := hi; have := HRO.out; omega))
  skip
  clear hO
  refine y03 (i := 9) (by kernel_rfl) rfl (fun K hK => ?_)
  go_simp
  refine hK.out _ _ (fun h => absurd rfl h) ?_
  clear hK K
  refine y09 (by kernel_rfl) ?_ _
  have HAN := xhd (show AnsTo w _ f code zs _ from .inl ⟨H2.out, _, qs, rfl, HQS.out, ((HQ4.out.keeps HK5.out (fun _ _ h => h)).keeps KR (fun b hb e => by have e : b = ro := e; have := HW1.out; omega)).mono (fun b hb => by have := HW1.out; have := HRO.out; omega)⟩)
  clear KR
  go_wp2_with fail
  refine bodyPost_ret (y07 rfl _ _ ro 56 _ (0, 0) _ rfl HZ.out Tryz.underlying56 rfl (by rw [HI.out]; rfl)) rfl ?_
  exact ⟨B, cb, _, rfl, HRB7.out, HAN.out, HN7.out, HK7.out⟩
 ·have e2 : (code == 2) = false := by rw [beq_eq_false_iff_ne]; exact h2
  by_cases h3 : code = 3
  ·have e3 : (code == 3) = true := by rw [beq_iff_eq]; exact h3
   have H3 := xhd h3
   clear h3 h2
   have hN2 : Blk w1 g 171 f.list.toArray := HN1.out
   have k9 : w1.cell? ⟨g, 10, none⟩ = some (.int .i64 (f.naks : Int)) := by rw [hN2.cell]; rfl
   have l9 := hN2.frozen 10
   have wr9 : wrap64 ((f.naks : Int) + 1) = ((f.naks + 1 : Nat) : Int) := by rw [IntWalk.wrap64_in _ (by omega)]; omega
   have cst : ((f.naks : Int) + 1) = ((f.naks + 1 : Nat) : Int) := by omega
   have KG := (Keeps.refl (only g) w1).put 10 (.int .i64 ((f.naks : Int) + 1))
   have HN4 := xhd (show NBlk (w1.setCell ⟨g, 10, none⟩ (.int .i64 ((f.naks : Int) + 1))) g { f with naks := f.naks + 1 } from hN2.set 10 _)
   have HC4 := xhd (HC1.out.keeps KG HCG.out)
   have HO4 := xhd (HO1.out.keeps KG HOG.out)
   have HKA := xhd (HK1.out.trans KG)
   clear hN2 KG q4 wr9 cst
   go_upto_region 6 with fail
   clear k9 l9 q3
   obtain ⟨w4, hw4⟩ : ∃ w4, w4 = w1.setCell ⟨g, 10, none⟩ (.int .i64 ((f.naks : Int) + 1)) := ⟨_, rfl⟩
   rw [← hw4] at HC4 HO4 HN4 HKA ⊢
   have HKZ := xhd (Keeps.refl y01 w4)
   have HOL := xhd (show ro < w4.heap.size from HO4.out.lt)
   clear hw4
   refine y0b (fun w' => Blk w' rc 180 #[.int .i64 pc, .int .i64 pi, d, .int .i64 code, .slice X zs.length cx] ∧ Blk w' ro 56 #[.int .i64 0, .int .i64 0, .slice none 0 0]) 9 10 rfl (by kernel_rfl) ⟨HC4.out, HO4.out⟩ (fun hHeld => ?_)
   have HSW := hHeld
   clear hHeld
   have HK0d := xhd (HKZ.out.drew)
   refine y00 (i := 0) rfl (by kernel_rfl) (fun _ _ _ h => h) (Or.inl ⟨by rfl, by intro w hSw; obtain ⟨s0, s1⟩ := hSw; have q0 : w.cell? ⟨rc, 0, none⟩ = some (.int .i64 pc) := by {rw [s0.cell]; rfl}; have q1 : w.cell? ⟨rc, 1, none⟩ = some (.int .i64 pi) := by {rw [s0.cell]; rfl}; have q3 : w.cell? ⟨rc, 3, none⟩ = some (.int .i64 code) := by {rw [s0.cell]; rfl}; have q4 : w.cell? ⟨rc, 4, none⟩ = some (.slice X zs.length cx) := by {rw [s0.cell]; rfl}; go_simp; try with_reducible rfl⟩) HSW.out ?_
   simp only [Act.put, xqA, xqB, xqD, xqE, xqF]
   refine y00 (i := 1) rfl (by kernel_rfl) (fun _ _ _ h => h) (Or.inl ⟨by rfl, by intro w hSw; obtain ⟨s0, s1⟩ := hSw; have q0 : w.cell? ⟨rc, 0, none⟩ = some (.int .i64 pc) := by {rw [s0.cell]; rfl}; have q1 : w.cell? ⟨rc, 1, none⟩ = some (.int .i64 pi) := by {rw [s0.cell]; rfl}; have q3 : w.cell? ⟨rc, 3, none⟩ = some (.int .i64 code) := by {rw [s0.cell]; rfl}; have q4 : w.cell? ⟨rc, 4, none⟩ = some (.slice X zs.length cx) := by {rw [s0.cell]; rfl}; go_simp; try with_reducible rfl⟩) HSW.out ?_
   simp only [Act.put, xqA, xqB, xqC, xqD, xqE, xqF]
   refine y00 (i := 2) rfl (by kernel_rfl) (fun _ _ _ h => h) (Or.inl ⟨by rfl, by intro w hSw; obtain ⟨s0, s1⟩ := hSw; have q0 : w.cell? ⟨rc, 0, none⟩ = some (.int .i64 pc) := by {rw [s0.cell]; rfl}; have q1 : w.cell? ⟨rc, 1, none⟩ = some (.int .i64 pi) := by {rw [s0.cell]; rfl}; have q3 : w.cell? ⟨rc, 3, none⟩ = some (.int .i64 code) := by {rw [s0.cell]; rfl}; have q4 : w.cell? ⟨rc, 4, none⟩ = some (.slice X zs.length cx) := by {rw [s0.cell]; rfl}; go_simp; try with_reducible rfl⟩) HSW.out ?_
   simp only [Act.put, xqA, xqB, xqC, xqD, xqE, xqF]
   refine y00 (i := 3) rfl (by kernel_rfl) (fun _ _ _ h => h) (Or.inl ⟨by rfl, by intro w hSw; obtain ⟨s0, s1⟩ := hSw; have q0 : w.cell? ⟨rc, 0, none⟩ = some (.int .i64 pc) := by {rw [s0.cell]; rfl}; have q1 : w.cell? ⟨rc, 1, none⟩ = some (.int .i64 pi) := by {rw [s0.cell]; rfl}; have q3 : w.cell? ⟨rc, 3, none⟩ = some (.int .i64 code) := by {rw [s0.cell]; rfl}; have q4 : w.cell? ⟨rc, 4, none⟩ = some (.slice X zs.length cx) := by {rw [s0.cell]; rfl}; go_simp; try with_reducible rfl⟩) HSW.out ?_
   simp only [Act.put, xqA, xqB, xqC, xqD, xqE, xqF]
   refine y00 (i := 4) rfl (by kernel_rfl) (fun _ _ _ h => h) (Or.inl ⟨by rfl, by intro w hSw; obtain ⟨s0, s1⟩ := hSw; have q0 : w.cell? ⟨rc, 0, none⟩ = some (.int .i64 pc) := by {rw [s0.cell]; rfl}; have q1 : w.cell? ⟨rc, 1, none⟩ = some (.int .i64 pi) := by {rw [s0.cell]; rfl}; have q3 : w.cell? ⟨rc, 3, none⟩ = some (.int .i64 code) := by {rw [s0.cell]; rfl}; have q4 : w.cell? ⟨rc, 4, none⟩ = some (.slice X zs.length cx) := by {rw [s0.cell]; rfl}; go_simp; try with_reducible rfl⟩) HSW.out ?_
   simp only [Act.put, xqA, xqB, xqC, xqD, xqE, xqF]
   refine y00 (i := 5) rfl (by kernel_rfl) (fun _ _ _ h => h) (Or.inl ⟨by rfl, by intro w hSw; obtain ⟨s0, s1⟩ := hSw; have q0 : w.cell? ⟨rc, 0, none⟩ = some (.int .i64 pc) := by {rw [s0.cell]; rfl}; have q1 : w.cell? ⟨rc, 1, none⟩ = some (.int .i64 pi) := by {rw [s0.cell]; rfl}; have q3 : w.cell? ⟨rc, 3, none⟩ = some (.int .i64 code) := by {rw [s0.cell]; rfl}; have q4 : w.cell? ⟨rc, 4, none⟩ = some (.slice X zs.length cx) := by {rw [s0.cell]; rfl}; go_simp; try with_reducible rfl⟩) HSW.out ?_
   simp only [Act.put, xqA, xqB, xqC, xqD, xqE, xqF]
   refine y00 (i := 6) rfl (by kernel_rfl) (fun _ _ _ h => h) (Or.inl ⟨by rfl, by intro w hSw; obtain ⟨s0, s1⟩ := hSw; have q0 : w.cell? ⟨rc, 0, none⟩ = some (.int .i64 pc) := by {rw [s0.cell]; rfl}; have q1 : w.cell? ⟨rc, 1, none⟩ = some (.int .i64 pi) := by {rw [s0.cell]; rfl}; have q3 : w.cell? ⟨rc, 3, none⟩ = some (.int .i64 code) := by {rw [s0.cell]; rfl}; have q4 : w.cell? ⟨rc, 4, none⟩ = some (.slice X zs.length cx) := by {rw [s0.cell]; rfl}; go_simp; try with_reducible rfl⟩) HSW.out ?_
   simp only [Act.put, xqA, xqB, xqC, xqD, xqE, xqF]
   refine y03 (i := 7) (by kernel_rfl) rfl (fun K hK => ?_)
   try rw [if_pos (by rfl)]
   go_simp
   refine (y5c F (.slice X zs.length cx) zs _ (fun b hb => Nat.lt_of_lt_of_le (HF.out b hb).1 (Nat.le_trans HKA.out.size HK0d.out.size)) ((HX.out.keeps HKA.out (fun b hb e => (HF.out b hb).2 e)).keeps HK0d.out (fun _ _ h => h))).mono ?_
   rintro e w5 ⟨B, cb, rfl, hrb, hk5⟩
   have HK5 := xhd (HK0d.out.trans hk5)
   have HRB := xhd (hrb.mono (G := fun b => w4.heap.size ≤ b) (fun b hb => Nat.le_trans HK0d.out.size hb))
   have HS5 := xhd (And.intro (HSW.out.1.keeps hk5 (fun h => h)) (HSW.out.2.keeps hk5 (fun h => h)))
   clear hrb hk5
   refine hK.out _ _ (fun _ => HS5.out) ?_
   clear hK K
   try simp only [Act.put, xqA, Nat.reduceAdd, xqB, xqC, xqD, xqE, xqF]
   refine y00 (i := 8) rfl (by kernel_rfl) (fun _ _ _ h => h) (Or.inl ⟨by rfl, by intro w hSw; obtain ⟨s0, s1⟩ := hSw; have q0 : w.cell? ⟨rc, 0, none⟩ = some (.int .i64 pc) := by {rw [s0.cell]; rfl}; have q1 : w.cell? ⟨rc, 1, none⟩ = some (.int .i64 pi) := by {rw [s0.cell]; rfl}; have q3 : w.cell? ⟨rc, 3, none⟩ = some (.int .i64 code) := by {rw [s0.cell]; rfl}; have q4 : w.cell? ⟨rc, 4, none⟩ = some (.slice X zs.length cx) := by {rw [s0.cell]; rfl}; go_simp; try with_reducible rfl⟩) HS5.out ?_
   simp only [Act.put, xqA, xqB, xqC, xqD, xqE, xqF]
   have hO := HS5.out.2
   have o0 : w5.cell? ⟨ro, 0, none⟩ = some (.int .i64 0) := by rw [hO.cell]; rfl
   have o1 : w5.cell? ⟨ro, 1, none⟩ = some (.int .i64 0) := by rw [hO.cell]; rfl
   have o2 : w5.cell? ⟨ro, 2, none⟩ = some (.slice none 0 0) := by rw [hO.cell]; rfl
   have g0 := hO.frozen 0
   have g1 := hO.frozen 1
   have g2 := hO.frozen 2
   have HZ := xhd (((hO.set 0 (.int .i64 code)).set 1 (.int .i64 pi)).set 2 (.slice B (Pure.options (y02 zs)).2.length cb))
   have KR := (((Keeps.refl (only ro) w5).put 0 (.int .i64 code)).put 1 (.int .i64 pi)).put 2 (.slice B (Pure.options (y02 zs)).2.length cb)
   have HN7 := xhd ((HN4.out.keeps HK5.out (fun h => h)).keeps KR (fun e => HOG.out (Eq.symm e)))
   have HRB7 := xhd ((HRB.out.keeps KR (fun b hb e => by have e : b = ro := e; have := HOL.out; omega)).mono (G := fun b => w.heap.size ≤ b) (fun b hb => Nat.le_trans HKA.out.size hb))
   have HK7 := xhd (show Keeps (only g) w _ from (HKA.out.trans (HK5.out.mono (fun _ h => h.elim))).trans' KR (fun i hi hl => by have e : i = ro := hi; have := HRO.out; omega))
   skip
   clear hO
   refine y03 (i := 9) (by kernel_rfl) rfl (fun K hK => ?_)
   go_simp
   refine hK.out _ _ (fun h => absurd rfl h) ?_
   clear hK K
   refine y09 (by kernel_rfl) ?_ _
   have HAN := xhd (fun W => show AnsTo w W f code zs { f with naks := f.naks + 1 } from .inr (.inl ⟨H3.out, rfl⟩))
   clear KR
   go_wp2_with fail
   refine bodyPost_ret (y07 rfl _ _ ro 56 _ (0, 0) _ rfl HZ.out Tryz.underlying56 rfl (by rw [HI.out]; rfl)) rfl ?_
   exact ⟨B, cb, _, rfl, HRB7.out, HAN.out _, HN7.out, HK7.out⟩
  ·have e3 : (code == 3) = false := by rw [beq_eq_false_iff_ne]; exact h3
   have H23 := xhd (And.intro h2 h3)
   clear h2 h3
   go_upto_region 6 with fail
   have HN4 := xhd HN1.out
   have HC4 := xhd HC1.out
   have HO4 := xhd HO1.out
   have HKA := xhd HK1.out
   clear q3 q4 HN1 HC1 HO1 HK1
   obtain ⟨w4, hw4⟩ : ∃ w4, w4 = w1 := ⟨_, rfl⟩
   rw [← hw4] at HC4 HO4 HN4 HKA ⊢
   have HKZ := xhd (Keeps.refl y01 w4)
   have HOL := xhd (show ro < w4.heap.size from HO4.out.lt)
   clear hw4
   refine y0b (fun w' => Blk w' rc 180 #[.int .i64 pc, .int .i64 pi, d, .int .i64 code, .slice X zs.length cx] ∧ Blk w' ro 56 #[.int .i64 0, .int .i64 0, .slice none 0 0]) 9 10 rfl (by kernel_rfl) ⟨HC4.out, HO4.out⟩ (fun hHeld => ?_)
   have HSW := hHeld
   clear hHeld
   have HK0d := xhd (HKZ.out.drew)
   refine y00 (i := 0) rfl (by kernel_rfl) (fun _ _ _ h => h) (Or.inl ⟨by rfl, by intro w hSw; obtain ⟨s0, s1⟩ := hSw; have q0 : w.cell? ⟨rc, 0, none⟩ = some (.int .i64 pc) := by {rw [s0.cell]; rfl}; have q1 : w.cell? ⟨rc, 1, none⟩ = some (.int .i64 pi) := by {rw [s0.cell]; rfl}; have q3 : w.cell? ⟨rc, 3, none⟩ = some (.int .i64 code) := by {rw [s0.cell]; rfl}; have q4 : w.cell? ⟨rc, 4, none⟩ = some (.slice X zs.length cx) := by {rw [s0.cell]; rfl}; go_simp; try with_reducible rfl⟩) HSW.out ?_
   simp only [Act.put, xqA, xqB, xqD, xqE, xqF]
   refine y00 (i := 1) rfl (by kernel_rfl) (fun _ _ _ h => h) (Or.inl ⟨by rfl, by intro w hSw; obtain ⟨s0, s1⟩ := hSw; have q0 : w.cell? ⟨rc, 0, none⟩ = some (.int .i64 pc) := by {rw [s0.cell]; rfl}; have q1 : w.cell? ⟨rc, 1, none⟩ = some (.int .i64 pi) := by {rw [s0.cell]; rfl}; have q3 : w.cell? ⟨rc, 3, none⟩ = some (.int .i64 code) := by {rw [s0.cell]; rfl}; have q4 : w.cell? ⟨rc, 4, none⟩ = some (.slice X zs.length cx) := by {rw [s0.cell]; rfl}; go_simp; try with_reducible rfl⟩) HSW.out ?_
   simp only [Act.put, xqA, xqB, xqC, xqD, xqE, xqF]
   refine y00 (i := 2) rfl (by kernel_rfl) (fun _ _ _ h => h) (Or.inl ⟨by rfl, by intro w hSw; obtain ⟨s0, s1⟩ := hSw; have q0 : w.cell? ⟨rc, 0, none⟩ = some (.int .i64 pc) := by {rw [s0.cell]; rfl}; have q1 : w.cell? ⟨rc, 1, none⟩ = some (.int .i64 pi) := by {rw [s0.cell]; rfl}; have q3 : w.cell? ⟨rc, 3, none⟩ = some (.int .i64 code) := by {rw [s0.cell]; rfl}; have q4 : w.cell? ⟨rc, 4, none⟩ = some (.slice X zs.length cx) := by {rw [s0.cell]; rfl}; go_simp; try with_reducible rfl⟩) HSW.out ?_
   simp only [Act.put, xqA, xqB, xqC, xqD, xqE, xqF]
   refine y00 (i := 3) rfl (by kernel_rfl) (fun _ _ _ h => h) (Or.inl ⟨by rfl, by intro w hSw; obtain ⟨s0, s1⟩ := hSw; have q0 : w.cell? ⟨rc, 0, none⟩ = some (.int .i64 pc) := by {rw [s0.cell]; rfl}; have q1 : w.cell? ⟨rc, 1, none⟩ = some (.int .i64 pi) := by {rw [s0.cell]; rfl}; have q3 : w.cell? ⟨rc, 3, none⟩ = some (.int .i64 code) := by {rw [s0.cell]; rfl}; have q4 : w.cell? ⟨rc, 4, none⟩ = some (.slice X zs.length cx) := by {rw [s0.cell]; rfl}; go_simp; try with_reducible rfl⟩) HSW.out ?_
   simp only [Act.put, xqA, xqB, xqC, xqD, xqE, xqF]
   refine y00 (i := 4) rfl (by kernel_rfl) (fun _ _ _ h => h) (Or.inl ⟨by rfl, by intro w hSw; obtain ⟨s0, s1⟩ := hSw; have q0 : w.cell? ⟨rc, 0, none⟩ = some (.int .i64 pc) := by {rw [s0.cell]; rfl}; have q1 : w.cell? ⟨rc, 1, none⟩ = some (.int .i64 pi) := by {rw [s0.cell]; rfl}; have q3 : w.cell? ⟨rc, 3, none⟩ = some (.int .i64 code) := by {rw [s0.cell]; rfl}; have q4 : w.cell? ⟨rc, 4, none⟩ = some (.slice X zs.length cx) := by {rw [s0.cell]; rfl}; go_simp; try with_reducible rfl⟩) HSW.out ?_
   simp only [Act.put, xqA, xqB, xqC, xqD, xqE, xqF]
   refine y00 (i := 5) rfl (by kernel_rfl) (fun _ _ _ h => h) (Or.inl ⟨by rfl, by intro w hSw; obtain ⟨s0, s1⟩ := hSw; have q0 : w.cell? ⟨rc, 0, none⟩ = some (.int .i64 pc) := by {rw [s0.cell]; rfl}; have q1 : w.cell? ⟨rc, 1, none⟩ = some (.int .i64 pi) := by {rw [s0.cell]; rfl}; have q3 : w.cell? ⟨rc, 3, none⟩ = some (.int .i64 code) := by {rw [s0.cell]; rfl}; have q4 : w.cell? ⟨rc, 4, none⟩ = some (.slice X zs.length cx) := by {rw [s0.cell]; rfl}; go_simp; try with_reducible rfl⟩) HSW.out ?_
   simp only [Act.put, xqA, xqB, xqC, xqD, xqE, xqF]
   refine y00 (i := 6) rfl (by kernel_rfl) (fun _ _ _ h => h) (Or.inl ⟨by rfl, by intro w hSw; obtain ⟨s0, s1⟩ := hSw; have q0 : w.cell? ⟨rc, 0, none⟩ = some (.int .i64 pc) := by {rw [s0.cell]; rfl}; have q1 : w.cell? ⟨rc, 1, none⟩ = some (.int .i64 pi) := by {rw [s0.cell]; rfl}; have q3 : w.cell? ⟨rc, 3, none⟩ = some (.int .i64 code) := by {rw [s0.cell]; rfl}; have q4 : w.cell? ⟨rc, 4, none⟩ = some (.slice X zs.length cx) := by {rw [s0.cell]; rfl}; go_simp; try with_reducible rfl⟩) HSW.out ?_
   simp only [Act.put, xqA, xqB, xqC, xqD, xqE, xqF]
   refine y03 (i := 7) (by kernel_rfl) rfl (fun K hK => ?_)
   try rw [if_pos (by rfl)]
   go_simp
   refine (y5c F (.slice X zs.length cx) zs _ (fun b hb => Nat.lt_of_lt_of_le (HF.out b hb).1 (Nat.le_trans HKA.out.size HK0d.out.size)) ((HX.out.keeps HKA.out (fun b hb e => (HF.out b hb).2 e)).keeps HK0d.out (fun _ _ h => h))).mono ?_
   rintro e w5 ⟨B, cb, rfl, hrb, hk5⟩
   have HK5 := xhd (HK0d.out.trans hk5)
   have HRB := xhd (hrb.mono (G := fun b => w4.heap.size ≤ b) (fun b hb => Nat.le_trans HK0d.out.size hb))
   have HS5 := xhd (And.intro (HSW.out.1.keeps hk5 (fun h => h)) (HSW.out.2.keeps hk5 (fun h => h)))
   clear hrb hk5
   refine hK.out _ _ (fun _ => HS5.out) ?_
   clear hK K
   try simp only [Act.put, xqA, Nat.reduceAdd, xqB, xqC, xqD, xqE, xqF]
   refine y00 (i := 8) rfl (by kernel_rfl) (fun _ _ _ h => h) (Or.inl ⟨by rfl, by intro w hSw; obtain ⟨s0, s1⟩ := hSw; have q0 : w.cell? ⟨rc, 0, none⟩ = some (.int .i64 pc) := by {rw [s0.cell]; rfl}; have q1 : w.cell? ⟨rc, 1, none⟩ = some (.int .i64 pi) := by {rw [s0.cell]; rfl}; have q3 : w.cell? ⟨rc, 3, none⟩ = some (.int .i64 code) := by {rw [s0.cell]; rfl}; have q4 : w.cell? ⟨rc, 4, none⟩ = some (.slice X zs.length cx) := by {rw [s0.cell]; rfl}; go_simp; try with_reducible rfl⟩) HS5.out ?_
   simp only [Act.put, xqA, xqB, xqC, xqD, xqE, xqF]
   have hO := HS5.out.2
   have o0 : w5.cell? ⟨ro, 0, none⟩ = some (.int .i64 0) := by rw [hO.cell]; rfl
   have o1 : w5.cell? ⟨ro, 1, none⟩ = some (.int .i64 0) := by rw [hO.cell]; rfl
   have o2 : w5.cell? ⟨ro, 2, none⟩ = some (.slice none 0 0) := by rw [hO.cell]; rfl
   have g0 := hO.frozen 0
   have g1 := hO.frozen 1
   have g2 := hO.frozen 2
   have HZ := xhd (((hO.set 0 (.int .i64 code)).set 1 (.int .i64 pi)).set 2 (.slice B (Pure.options (y02 zs)).2.length cb))
   have KR := (((Keeps.refl (only ro) w5).put 0 (.int .i64 code)).put 1 (.int .i64 pi)).put 2 (.slice B (Pure.options (y02 zs)).2.length cb)
   have HN7 := xhd ((HN4.out.keeps HK5.out (fun h => h)).keeps KR (fun e => HOG.out (Eq.symm e)))
   have HRB7 := xhd ((HRB.out.keeps KR (fun b hb e => by have e : b = ro := e; have := HOL.out; omega)).mono (G := fun b => w.heap.size ≤ b) (fun b hb => Nat.le_trans HKA.out.size hb))
   have HK7 := xhd (show Keeps (only g) w _ from (HKA.out.trans (HK5.out.mono (fun _ h => h.elim))).trans' KR (fun i hi hl => by have e : i = ro := hi; have := HRO.out; omega))
   skip
   clear hO
   refine y03 (i := 9) (by kernel_rfl) rfl (fun K hK => ?_)
   go_simp
   refine hK.out _ _ (fun h => absurd rfl h) ?_
   clear hK K
   refine y09 (by kernel_rfl) ?_ _
   have HAN := xhd (fun W => show AnsTo w W f code zs f from .inr (.inr ⟨H23.out.1, H23.out.2, rfl⟩))
   clear KR
   go_wp2_with fail
   refine bodyPost_ret (y07 rfl _ _ ro 56 _ (0, 0) _ rfl HZ.out Tryz.underlying56 rfl (by rw [HI.out]; rfl)) rfl ?_
   exact ⟨B, cb, _, rfl, HRB7.out, HAN.out _, HN7.out, HK7.out⟩
abbrev y2s (p : Value × Pure.Pkt) : List Value := [.int .i64 p.2.code, .int .i64 p.2.id, p.1]
abbrev y0l (ps : List (Value × Pure.Pkt)) : List Value := ps.flatMap y2s
theorem y6f (ps : List (Value × Pure.Pkt)) (k j : Nat) (p : Value × Pure.Pkt) (h : ps[k]? = some p) (hj : j < 3) : (y0l ps)[k * 3 + j]? = (y2s p)[j]? := flat_at y2s 3 (fun _ => rfl) ps k j p h hj
structure PRow (w : World) (F : Nat → Prop) (x : Value) (ps : List (Value × Pure.Pkt)) : Prop where
 out : Row w F 3 x ps.length (y0l ps)
 rows : ∀ p ∈ ps, Row w F 1 p.1 p.2.data.length (u8s p.2.data)
theorem PRow.keeps {S F : Nat → Prop} {w w' : World} {x : Value} {ps : List (Value × Pure.Pkt)} (h : PRow w F x ps) (k : Keeps S w w') (hs : ∀ b, F b → ¬ S b) : PRow w' F x ps :=
 ⟨h.out.keeps k hs, fun p hp => (h.rows p hp).keeps k hs⟩
theorem PRow.mono {F G : Nat → Prop} {w : World} {x : Value} {ps : List (Value × Pure.Pkt)} (h : PRow w F x ps) (hG : ∀ b, F b → G b) : PRow w G x ps :=
 ⟨h.out.mono hG, fun p hp => (h.rows p hp).mono hG⟩
theorem PRow.nil (w : World) (F : Nat → Prop) : PRow w F (.slice none 0 0) [] := ⟨Row.nil _ _ _, by simp⟩
theorem PRow.form {w : World} {F : Nat → Prop} {x : Value} {ps : List (Value × Pure.Pkt)} (h : PRow w F x ps) : ∃ A c, x = .slice A ps.length c ∧ ps.length ≤ c := by
 obtain ⟨_, _, A, c, rfl, hc, _⟩ := h.out
 exact ⟨A, c, rfl, hc⟩
theorem PRow.pick {w : World} {F : Nat → Prop} {X : Option Addr} {n cx : Nat} {ps : List (Value × Pure.Pkt)} (h : PRow w F (.slice X n cx) ps) (k : Nat) (hk : k < ps.length) :
  ∃ p o A c q, X = some ⟨p, o, none⟩ ∧ F p ∧ (∀ j u, (y2s (.slice A q.data.length c, q))[j]? = some u → w.cell? ⟨p, o + k * 3 + j, none⟩ = some u) ∧ Row w F 1 (.slice A q.data.length c) q.data.length (u8s q.data) ∧ ps[k]? = some (.slice A q.data.length c, q) := by
 obtain ⟨_, _, A', c', e, _, _, hh⟩ := h.out
 obtain ⟨p, o, rfl, hF, hc⟩ := hh (by omega)
 injection e with e1 _ _
 have hget := List.getElem?_eq_getElem hk
 have hr := h.rows ps[k] (List.getElem_mem hk)
 obtain ⟨A, c, hform, _⟩ := hr.form
 refine ⟨p, o, A, c, ps[k].2, e1, hF, fun j u hu => ?_, by rw [← hform]; exact hr, by rw [hget, ← hform]⟩
 rw [← hform] at hu
 have hj : j < 3 := (List.getElem?_eq_some_iff.1 hu).1
 rw [Nat.add_assoc]
 exact hc (k * 3 + j) u ((y6f ps k j _ hget hj).trans hu)
end Go.Proofs.YtmgicbckgpdkcaaGreatDoor
