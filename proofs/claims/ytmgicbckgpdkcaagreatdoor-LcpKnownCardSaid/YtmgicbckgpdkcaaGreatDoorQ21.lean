/- Package nego: terminated, returned, ask. -/
import Derived.Test.YtmgicbckgpdkcaaGreatDoorQ20
namespace Go.Proofs.YtmgicbckgpdkcaaGreatDoor
set_option maxRecDepth 100000
set_option maxHeartbeats 8000000
open Lib renaming hid → xhd
open List renaming setIfInBounds_toArray → xqA, getElem_toArray → xqB, getElem_cons_succ → xqC, getElem_cons_zero → xqD, set_cons_succ → xqE, set_cons_zero → xqF
open Go.RowKit
abbrev causeV (p : Pure.Pkt) (d : Value) (code : Int) (ov : Value) : Value := .agg #[.int .i64 p.code, .int .i64 p.id, d, .int .i64 code, ov]
theorem terminated_req (g : Nat) (f : NF) (p : Pure.Pkt) (d : Value) (code : Int) (ov : Value) (w : World) (h : NBlk w g f) (hp : p.code = 5) :
  Calls Tryz.prog 163 #[.pointer (some ⟨g, 0, none⟩), causeV p d code ov] w fun e w' => e = .returned (.agg #[.int .i64 6, .int .i64 p.id, .slice none 0 0]) ∧ NBlk w' g f ∧ Keeps (only g) w w' := by
 have HI := xhd npkt_info
 obtain ⟨rc, hrc⟩ : ∃ r, r = w.heap.size := ⟨_, rfl⟩
 obtain ⟨pc, pi, pd⟩ := p
 dsimp only at hp ⊢
 subst hp
 have hgl := h.lt
 go_enter Tryz.func163, Tryz.ntmps163
 go_upto_region 1 with fail
 rw [← hrc]
 generalize hw1 : (w.alloc _).alloc _ = w1
 have hk1 : Keeps nobody w w1 := by rw [← hw1]; exact ((Keeps.refl _ w).alloc _).alloc _
 have hC : Blk w1 rc 180 #[.int .i64 5, .int .i64 pi, d, .int .i64 code, ov] := by rw [← hw1, hrc]; exact (Blk.new w _ _).alloc _
 have hO : Blk w1 (rc + 1) 56 #[.int .i64 0, .int .i64 0, .slice none 0 0] := by
  rw [← hw1, show rc + 1 = (w.alloc (.cells #[.int .i64 5, .int .i64 pi, d, .int .i64 code, ov] 180)).heap.size by rw [hrc]; simp]
  exact Blk.new _ _ _
 have c0 : w1.cell? ⟨rc, 0, none⟩ = some (.int .i64 5) := by rw [hC.cell]; rfl
 have c1 : w1.cell? ⟨rc, 1, none⟩ = some (.int .i64 pi) := by rw [hC.cell]; rfl
 have o0 : w1.cell? ⟨rc + 1, 0, none⟩ = some (.int .i64 0) := by rw [hO.cell]; rfl
 have o1 : w1.cell? ⟨rc + 1, 1, none⟩ = some (.int .i64 0) := by rw [hO.cell]; rfl
 have o2 : w1.cell? ⟨rc + 1, 2, none⟩ = some (.slice none 0 0) := by rw [hO.cell]; rfl
 have g0 := hO.frozen 0
 have g1 := hO.frozen 1
 have g2 := hO.frozen 2
 have HZ := xhd (((hO.set 0 (.int .i64 6)).set 1 (.int .i64 pi)).set 2 (.slice none 0 0))
 have KR := (((Keeps.refl (only (rc + 1)) w1).put 0 (.int .i64 6)).put 1 (.int .i64 pi)).put 2 (.slice none 0 0)
 have HN := xhd ((h.keeps hk1 (fun h => h)).keeps KR (fun e => by have e : g = rc + 1 := e; omega))
 have HK := xhd (show Keeps (only g) w _ from (hk1.mono (fun _ h => h.elim)).trans' KR (fun i hi hl => by have e : i = rc + 1 := hi; omega))
 clear hw1 hk1 hC hO KR h hrc hgl
 go_wp2_with fail
 refine bodyPost_ret (results_row1 rfl _ _ (rc + 1) 56 _ (0, 0) _ rfl HZ.out Tryz.underlying56 rfl (by rw [HI.out]; rfl)) rfl ?_
 exact ⟨rfl, HN.out, HK.out⟩
theorem terminated_own (g : Nat) (f : NF) (p : Pure.Pkt) (d : Value) (code : Int) (ov : Value) (id' : Nat) (w : World) (h : NBlk w g f) (hid : f.id < 256) (hid' : id' = (f.id + 1) % 256) (hp : p.code ≠ 5) :
  Calls Tryz.prog 163 #[.pointer (some ⟨g, 0, none⟩), causeV p d code ov] w fun e w' => e = .returned (.agg #[.int .i64 6, .int .i64 (id' : Int), .slice none 0 0]) ∧ NBlk w' g { f with id := id' } ∧ Keeps (only g) w w' := by
 have HI := xhd npkt_info
 obtain ⟨rc, hrc⟩ : ∃ r, r = w.heap.size := ⟨_, rfl⟩
 obtain ⟨pc, pi, pd⟩ := p
 dsimp only at hp ⊢
 have q5 : (pc == 5) = false := by rw [beq_eq_false_iff_ne]; exact hp
 have hgl := h.lt
 go_enter Tryz.func163, Tryz.ntmps163
 go_upto_region 1 with fail
 rw [← hrc]
 generalize hw1 : (w.alloc _).alloc _ = w1
 have hk1 : Keeps nobody w w1 := by rw [← hw1]; exact ((Keeps.refl _ w).alloc _).alloc _
 have hC : Blk w1 rc 180 #[.int .i64 pc, .int .i64 pi, d, .int .i64 code, ov] := by rw [← hw1, hrc]; exact (Blk.new w _ _).alloc _
 have hO : Blk w1 (rc + 1) 56 #[.int .i64 0, .int .i64 0, .slice none 0 0] := by
  rw [← hw1, show rc + 1 = (w.alloc (.cells #[.int .i64 pc, .int .i64 pi, d, .int .i64 code, ov] 180)).heap.size by rw [hrc]; simp]
  exact Blk.new _ _ _
 have HOW := xhd (own_as g f 6 none 0 0 id' w1 (h.keeps hk1 (fun h => h)) hid hid')
 have c0 : w1.cell? ⟨rc, 0, none⟩ = some (.int .i64 pc) := by rw [hC.cell]; rfl
 have HO := xhd hO
 have HK1 := xhd hk1
 have HRC := xhd hrc
 have HGL := xhd hgl
 clear hw1 hk1 hC hO h hid hid' hp hrc hgl
 go_wp2_with fail
 refine HOW.out.mono ?_
 rintro e w2 ⟨rfl, hn2, hk2⟩
 have hO := HO.out.keeps hk2 (fun e => by have e : rc + 1 = g := e; have := HRC.out; have := HGL.out; omega)
 have o0 : w2.cell? ⟨rc + 1, 0, none⟩ = some (.int .i64 0) := by rw [hO.cell]; rfl
 have o1 : w2.cell? ⟨rc + 1, 1, none⟩ = some (.int .i64 0) := by rw [hO.cell]; rfl
 have o2 : w2.cell? ⟨rc + 1, 2, none⟩ = some (.slice none 0 0) := by rw [hO.cell]; rfl
 have g0 := hO.frozen 0
 have g1 := hO.frozen 1
 have g2 := hO.frozen 2
 have HZ := xhd (((hO.set 0 (.int .i64 6)).set 1 (.int .i64 (id' : Int))).set 2 (.slice none 0 0))
 have KR := (((Keeps.refl (only (rc + 1)) w2).put 0 (.int .i64 6)).put 1 (.int .i64 (id' : Int))).put 2 (.slice none 0 0)
 have HN := xhd (hn2.keeps KR (fun e => by have e : g = rc + 1 := e; have := HRC.out; have := HGL.out; omega))
 have HK := xhd (show Keeps (only g) w _ from ((HK1.out.mono (fun _ h => h.elim)).trans hk2).trans' KR (fun i hi hl => by have e : i = rc + 1 := hi; have := HRC.out; omega))
 clear hO KR hn2 hk2 c0
 go_wp2_with fail
 refine bodyPost_ret (results_row1 rfl _ _ (rc + 1) 56 _ (0, 0) _ rfl HZ.out Tryz.underlying56 rfl (by rw [HI.out]; rfl)) rfl ?_
 exact ⟨rfl, HN.out, HK.out⟩
theorem returned_any (F : Nat → Prop) (v : Value) (p : Pure.Pkt) (w : World) (hF : ∀ b, F b → b < w.heap.size) (hr : Row w F 1 v p.data.length (u8s p.data)) :
  Calls Tryz.prog 164 #[pktV p v] w fun e w' => ∃ A c, e = .returned (.slice A ((Pure.encode p).2.take 1496).length c) ∧ Row w' (fun b => w.heap.size ≤ b) 1 (.slice A ((Pure.encode p).2.take 1496).length c) ((Pure.encode p).2.take 1496).length (u8s ((Pure.encode p).2.take 1496)) ∧ Keeps nobody w w' := by
 have hk0 := (Keeps.refl nobody w).alloc (.cells #[.int .i64 p.code, .int .i64 p.id, v] 56)
 have HE := xhd (encode_any F v p (w.alloc (.cells #[.int .i64 p.code, .int .i64 p.id, v] 56)) (fun b hb => Nat.lt_of_lt_of_le (hF b hb) hk0.size) (hr.keeps hk0 (fun _ _ h => h)))
 have HK0 := xhd hk0
 obtain ⟨A0, c0, rfl, _⟩ := hr.form
 obtain ⟨L, hL⟩ : ∃ L, L = (Pure.encode p).2 := ⟨_, rfl⟩
 rw [← hL] at HE ⊢
 clear hF hr hk0 hL
 by_cases hl : L.length ≤ 1496
 ·have ht : L.take 1496 = L := List.take_of_length_le hl
  rw [ht]
  have e1 : min (L.length : Int) 1496 = (L.length : Int) := by omega
  have i3 : ¬ (1496 : Int) < (L.length : Int) := by omega
  have i4 : (L.length : Int) ≤ 1496 := by omega
  clear ht
  go_enter Tryz.func164, Tryz.ntmps164
  go_wp2_with fail
  refine HE.out.mono ?_
  rintro e w1 ⟨u, rfl, hu, hb⟩
  obtain ⟨A, c, rfl⟩ := own_form hu
  have hrow := (Row.of_own hu).mono (G := fun b => w.heap.size ≤ b) (fun b hb => Nat.le_trans HK0.out.size (ownsRow_ge hu b hb))
  have hcl : L.length ≤ c := by
   obtain ⟨_, _, A', c', e', hc', _⟩ := hrow
   injection e' with _ _ e3
   omega
  have HR := xhd hrow
  have HK := xhd (HK0.out.trans (Keeps.new hb))
  have i5 : (L.length : Int) ≤ (c : Int) := by omega
  clear hu hb HE hrow
  go_wp2_with fail
  go_ret
  exact ⟨A, c, rfl, HR.out, HK.out⟩
 ·have i3 : (1496 : Int) < (L.length : Int) := by omega
  have e1 : min (L.length : Int) 1496 = 1496 := by omega
  have i4 : ¬ (L.length : Int) ≤ 1496 := by omega
  have hlt : (L.take 1496).length = 1496 := by rw [List.length_take]; omega
  rw [hlt]
  have HLT := xhd hlt
  clear hlt
  go_enter Tryz.func164, Tryz.ntmps164
  go_wp2_with fail
  refine HE.out.mono ?_
  rintro e w1 ⟨u, rfl, hu, hb⟩
  obtain ⟨A, c, rfl⟩ := own_form hu
  have hrow := (Row.of_own hu).mono (G := fun b => w.heap.size ≤ b) (fun b hb => Nat.le_trans HK0.out.size (ownsRow_ge hu b hb))
  have hcl : L.length ≤ c := by
   obtain ⟨_, _, A', c', e', hc', _⟩ := hrow
   injection e' with _ _ e3
   omega
  have HR := xhd (show Row w1 (fun b => w.heap.size ≤ b) 1 (.slice A 1496 c) 1496 (u8s (L.take 1496)) by rw [u8s_take]; exact hrow.take1 1496 (by omega))
  have HK := xhd (HK0.out.trans (Keeps.new hb))
  have i5 : (1496 : Int) ≤ (c : Int) := by omega
  clear hu hb HE hrow
  go_wp2_with fail
  go_ret
  exact ⟨A, c, rfl, HR.out, HK.out⟩
theorem ask_as (F : Nat → Prop) (g : Nat) (f : NF) (zq : List (Value × Pure.Opt)) (id' : Nat) (w : World) (h : NBlk w g f) (hF : ∀ b, F b → b < w.heap.size ∧ b ≠ g) (hx : ORow w F f.request zq) (hfx : FewOpts zq) (hid : f.id < 256) (hid' : id' = (f.id + 1) % 256) :
  Calls Tryz.prog 161 #[.pointer (some ⟨g, 0, none⟩)] w fun e w' => ∃ B cb u, ∃ qs : List (Value × Pure.Opt), e = .returned (.agg #[.int .i64 1, .int .i64 (id' : Int), .slice B (Pure.options (optsOf zq)).2.length cb]) ∧
   Row w' (fun b => w.heap.size ≤ b) 1 (.slice B (Pure.options (optsOf zq)).2.length cb) (Pure.options (optsOf zq)).2.length (u8s (Pure.options (optsOf zq)).2) ∧ optsOf qs = optsOf zq ∧ ORow w' (fun b => w.heap.size ≤ b) u qs ∧ NBlk w' g { f with id := id', aid := id', aopts := u, aopen := true } ∧ Keeps (only g) w w' := by
 obtain ⟨X, cx, hX, _⟩ := hx.form
 rw [hX] at hx
 have HX := xhd hx
 have HXE := xhd hX
 have HFX := xhd hfx
 have HFg := xhd (fun b hb (e : only g b) => (hF b hb).2 e)
 have HI := xhd npkt_info
 have hgl := h.lt
 obtain ⟨ro, hro⟩ : ∃ r, r = w.heap.size := ⟨_, rfl⟩
 go_enter Tryz.func161, Tryz.ntmps161
 go_upto_region 1 with fail
 rw [← hro]
 generalize hw1 : w.alloc _ = w1
 have hk1 : Keeps nobody w w1 := by rw [← hw1]; exact (Keeps.refl _ w).alloc _
 have hsz1 : w1.heap.size = ro + 1 := by rw [← hw1, hro]; simp
 have hO : Blk w1 ro 56 #[.int .i64 0, .int .i64 0, .slice none 0 0] := by rw [← hw1, hro]; exact Blk.new w _ _
 have h1 := h.keeps hk1 (fun h => h)
 have m4 : w1.cell? ⟨g, 5, none⟩ = some (.slice X zq.length cx) := by rw [← hX]; exact h1.cell 5
 have HBO := xhd (bytesOf_any F (.slice X zq.length cx) zq w1 (fun b hb => Nat.lt_of_lt_of_le (hF b hb).1 hk1.size) (hx.keeps hk1 (fun _ _ h => h)))
 have HN1 := xhd h1
 have HO1 := xhd hO
 have HK1 := xhd hk1
 have HRO := xhd hro
 have HGL0 := xhd hgl
 have HW1 := xhd hsz1
 have HOW := xhd (fun (A : Option Addr) (n c : Nat) (W : World) (hN : NBlk W g f) => own_as g f 1 A n c id' W hN hid hid')
 clear hw1 hk1 hO h1 h hF hx hfx hid hid' hX hro hgl hsz1
 go_wp2_with fail
 refine HBO.out.mono ?_
 rintro e w2 ⟨B, cb, rfl, hrb, hk2⟩
 have HN2 := xhd (HN1.out.keeps hk2 (fun h => h))
 have HO2 := xhd (HO1.out.keeps hk2 (fun h => h))
 have HRB2 := xhd hrb
 have HK2 := xhd (HK1.out.trans hk2)
 clear hrb hk2 HBO HN1 HO1 m4
 go_wp2_with fail
 refine (HOW.out _ _ _ _ HN2.out).mono ?_
 rintro e w3 ⟨rfl, hn3, hk3⟩
 have HN3 := xhd hn3
 have HO3 := xhd (HO2.out.keeps hk3 (fun e => by have e : ro = g := e; have := HRO.out; have := HGL0.out; omega))
 have HRB3 := xhd (HRB2.out.keeps hk3 (fun b hb e => by have e : b = g := e; have := HW1.out; have := HRO.out; have := HGL0.out; omega))
 have HK3 := xhd (show Keeps (only g) w w3 from (HK2.out.mono (fun _ h => h.elim)).trans hk3)
 have HS23 := xhd (show w2.heap.size ≤ w3.heap.size from hk3.size)
 have HS12 := xhd (show w1.heap.size ≤ w2.heap.size from HK2.out.size |> fun _ => by have := HK2.out.size; have := HW1.out; have := HO2.out.lt; omega)
 clear hn3 hk3 HOW HN2 HO2 HRB2
 go_upto_region 2 with fail
 obtain ⟨w4, hw4⟩ : ∃ w4, w4 = w3.alloc (.cells #[.int .i64 1, .int .i64 (id' : Int), .slice B (Pure.options (optsOf zq)).2.length cb] 56) := ⟨_, rfl⟩
 obtain ⟨rp, hrp⟩ : ∃ r, r = w3.heap.size := ⟨_, rfl⟩
 rw [← hw4, ← hrp]
 have hk4 : Keeps nobody w3 w4 := by rw [hw4]; exact (Keeps.refl _ w3).alloc _
 have HP4 := xhd (show Blk w4 rp 56 #[.int .i64 1, .int .i64 (id' : Int), .slice B (Pure.options (optsOf zq)).2.length cb] by rw [hw4, hrp]; exact Blk.new w3 _ _)
 have HN4 := xhd (HN3.out.keeps hk4 (fun h => h))
 have HO4 := xhd (HO3.out.keeps hk4 (fun h => h))
 have HQ1 := xhd (show w4.cell? ⟨rp, 1, none⟩ = some (.int .i64 (id' : Int)) by rw [HP4.out.cell]; rfl)
 have HM4 := xhd (show w4.cell? ⟨g, 5, none⟩ = some (.slice X zq.length cx) by rw [← HXE.out]; exact HN4.out.cell 5)
 have HKA := xhd (show Keeps (only g) w w4 from HK3.out.trans (hk4.mono (fun _ h => h.elim)))
 have HRB := xhd (HRB3.out.keeps hk4 (fun _ _ h => h))
 have HKZ := xhd (Keeps.refl nobody w4)
 have HWS := xhd (show w.heap.size + 1 = w1.heap.size by have := HW1.out; have := HRO.out; omega)
 have HGL := xhd (show g < w4.heap.size from HN4.out.lt)
 have HGL2 := xhd (show g < w.heap.size from HGL0.out)
 have HOL := xhd (show ro < w4.heap.size from HO4.out.lt)
 have HPG := xhd (show rp ≠ g by have := HN3.out.lt; omega)
 have HOG := xhd (show ro ≠ g by have := HRO.out; have := HGL0.out; omega)
 clear hw4 hrp hk4 HN3 HO3 HRB3 HK3
 refine wp_region_Z (fun w' => w'.cell? ⟨rp, 1, none⟩ = some (.int .i64 (id' : Int)) ∧ w'.cell? ⟨g, 5, none⟩ = some (.slice X zq.length cx) ∧ Blk w' rp 56 #[.int .i64 1, .int .i64 (id' : Int), .slice B (Pure.options (optsOf zq)).2.length cb] ∧ NBlk w' g { f with id := id' }) 11 12 rfl (by kernel_rfl) ⟨HQ1.out, HM4.out, HP4.out, HN4.out⟩ (fun hHeld => ?_)
 have HSW := hHeld
 clear hHeld
 have HK0d := xhd (HKZ.out.drew)
 refine wpAnyZ_take (i := 0) rfl (by kernel_rfl) (fun _ _ _ h => h) (Or.inl ⟨by rfl, by intro w hSw; obtain ⟨s0, s1, _⟩ := hSw; go_simp; try with_reducible rfl⟩) HSW.out ?_
 simp only [Act.put, xqA, xqB, xqD, xqE, xqF]
 refine wpAnyZ_take (i := 1) rfl (by kernel_rfl) (fun _ _ _ h => h) (Or.inl ⟨by rfl, by intro w hSw; obtain ⟨s0, s1, _⟩ := hSw; go_simp; try with_reducible rfl⟩) HSW.out ?_
 simp only [Act.put, xqA, xqB, xqC, xqD, xqE, xqF]
 refine wpAnyZ_take (i := 2) rfl (by kernel_rfl) (fun _ _ _ h => h) (Or.inl ⟨by rfl, by intro w hSw; obtain ⟨s0, s1, _⟩ := hSw; go_simp; try with_reducible rfl⟩) HSW.out ?_
 simp only [Act.put, xqA, xqB, xqC, xqD, xqE, xqF]
 refine wpAnyZ_take (i := 3) rfl (by kernel_rfl) (fun _ _ _ h => h) (Or.inl ⟨by rfl, by intro w hSw; obtain ⟨s0, s1, _⟩ := hSw; go_simp; try with_reducible rfl⟩) HSW.out ?_
 simp only [Act.put, xqA, xqB, xqC, xqD, xqE, xqF]
 refine wpAnyZ_take (i := 4) rfl (by kernel_rfl) (fun _ _ _ h => h) (Or.inl ⟨by rfl, by intro w hSw; obtain ⟨s0, s1, _⟩ := hSw; go_simp; try with_reducible rfl⟩) HSW.out ?_
 simp only [Act.put, xqA, xqB, xqC, xqD, xqE, xqF]
 refine wpAnyZ_take (i := 5) rfl (by kernel_rfl) (fun _ _ _ h => h) (Or.inl ⟨by rfl, by intro w hSw; obtain ⟨s0, s1, _⟩ := hSw; go_simp; try with_reducible rfl⟩) HSW.out ?_
 simp only [Act.put, xqA, xqB, xqC, xqD, xqE, xqF]
 refine wpAnyZ_take (i := 6) rfl (by kernel_rfl) (fun _ _ _ h => h) (Or.inl ⟨by rfl, by intro w hSw; obtain ⟨s0, s1, _⟩ := hSw; go_simp; try with_reducible rfl⟩) HSW.out ?_
 simp only [Act.put, xqA, xqB, xqC, xqD, xqE, xqF]
 refine wpAnyZ_one (i := 7) (by kernel_rfl) rfl (fun K hK => ?_)
 try rw [if_pos (by rfl)]
 go_simp
 refine (copies_any F (.slice X zq.length cx) zq _ (HX.out.keeps (HKA.out.trans (HK0d.out.mono (fun _ h => h.elim))) (fun b hb e => HFg.out b hb e)) HFX.out.len HFX.out.data).mono ?_
 rintro e w5 ⟨u, qs, rfl, hqs, hrd⟩
 obtain ⟨A5, c5, rfl⟩ := own_form hrd.own
 have hk5 := Keeps.new hrd.below
 have HQS := xhd hqs
 have HK5 := xhd (HK0d.out.trans hk5)
 have HRQ := xhd (hrd.row.mono (G := fun b => w4.heap.size ≤ b) (fun b hb => Nat.le_trans HK0d.out.size hb))
 have HS5 := xhd (And.intro (cell_quiet HSW.out.1 hk5) (And.intro (cell_quiet HSW.out.2.1 hk5) (And.intro (HSW.out.2.2.1.keeps hk5 (fun h => h)) (HSW.out.2.2.2.keeps hk5 (fun h => h)))))
 clear hqs hrd hk5
 refine hK.out _ _ (fun _ => HS5.out) ?_
 clear hK K
 try simp only [Act.put, xqA, Nat.reduceAdd, xqB, xqC, xqD, xqE, xqF]
 refine wpAnyZ_take (i := 8) rfl (by kernel_rfl) (fun _ _ _ h => h) (Or.inl ⟨by rfl, by intro w hSw; obtain ⟨s0, s1, _⟩ := hSw; go_simp; try with_reducible rfl⟩) HS5.out ?_
 simp only [Act.put, xqA, xqB, xqC, xqD, xqE, xqF]
 refine wpAnyZ_take (i := 9) rfl (by kernel_rfl) (fun _ _ _ h => h) (Or.inl ⟨by rfl, by intro w hSw; obtain ⟨s0, s1, _⟩ := hSw; go_simp; try with_reducible rfl⟩) HS5.out ?_
 simp only [Act.put, xqA, xqB, xqC, xqD, xqE, xqF]
 refine wpAnyZ_take (i := 10) rfl (by kernel_rfl) (fun _ _ _ h => h) (Or.inl ⟨by rfl, by intro w hSw; obtain ⟨s0, s1, _⟩ := hSw; go_simp; try with_reducible rfl⟩) HS5.out ?_
 simp only [Act.put, xqA, xqB, xqC, xqD, xqE, xqF]
 have hN : Blk w5 g 171 ({ f with id := id' } : NF).list.toArray := HS5.out.2.2.2
 have k5 : w5.cell? ⟨g, 6, none⟩ = some (.int .i64 (f.aid : Int)) := by rw [hN.cell]; rfl
 have k6 : w5.cell? ⟨g, 7, none⟩ = some f.aopts := by rw [hN.cell]; rfl
 have k7 : w5.cell? ⟨g, 8, none⟩ = some (.bool f.aopen) := by rw [hN.cell]; rfl
 have l5 := hN.frozen 6
 have l6 := hN.frozen 7
 have l7 := hN.frozen 8
 have HN6 := xhd (show NBlk (((w5.setCell ⟨g, 6, none⟩ (.int .i64 (id' : Int))).setCell ⟨g, 7, none⟩ (.slice A5 qs.length c5)).setCell ⟨g, 8, none⟩ (.bool true)) g { f with id := id', aid := id', aopts := .slice A5 qs.length c5, aopen := true } from ((hN.set 6 (.int .i64 (id' : Int))).set 7 (.slice A5 qs.length c5)).set 8 (.bool true))
 have KG := (((Keeps.refl (only g) w5).put 6 (.int .i64 (id' : Int))).put 7 (.slice A5 qs.length c5)).put 8 (.bool true)
 have HP6 := xhd (HS5.out.2.2.1.keeps KG (fun e => HPG.out e))
 have HRQ6 := xhd (HRQ.out.keeps KG (fun b hb e => by have e : b = g := e; have := HGL.out; omega))
 have HKG := xhd KG
 clear hN KG
 refine wpAnyZ_one (i := 11) (by kernel_rfl) rfl (fun K hK => ?_)
 go_simp
 refine hK.out _ _ (fun h => absurd rfl h) ?_
 clear hK K
 refine wpAnyZ_done (by kernel_rfl) ?_ _
 generalize hw6 : World.setCell _ ⟨g, 8, none⟩ _ = w6 at HN6 HP6 HRQ6 HKG ⊢
 have hP := HP6.out
 have p0 : w6.cell? ⟨rp, 0, none⟩ = some (.int .i64 1) := by rw [hP.cell]; rfl
 have p1 : w6.cell? ⟨rp, 1, none⟩ = some (.int .i64 (id' : Int)) := by rw [hP.cell]; rfl
 have p2 : w6.cell? ⟨rp, 2, none⟩ = some (.slice B (Pure.options (optsOf zq)).2.length cb) := by rw [hP.cell]; rfl
 have hO := (HO4.out.keeps HK5.out (fun h => h)).keeps HKG.out (fun e => HOG.out e)
 have o0 : w6.cell? ⟨ro, 0, none⟩ = some (.int .i64 0) := by rw [hO.cell]; rfl
 have o1 : w6.cell? ⟨ro, 1, none⟩ = some (.int .i64 0) := by rw [hO.cell]; rfl
 have o2 : w6.cell? ⟨ro, 2, none⟩ = some (.slice none 0 0) := by rw [hO.cell]; rfl
 have g0 := hO.frozen 0
 have g1 := hO.frozen 1
 have g2 := hO.frozen 2
 have HZ := xhd (((hO.set 0 (.int .i64 1)).set 1 (.int .i64 (id' : Int))).set 2 (.slice B (Pure.options (optsOf zq)).2.length cb))
 have KR := (((Keeps.refl (only ro) w6).put 0 (.int .i64 1)).put 1 (.int .i64 (id' : Int))).put 2 (.slice B (Pure.options (optsOf zq)).2.length cb)
 have HN7 := xhd (HN6.out.keeps KR (fun e => HOG.out (Eq.symm e)))
 have HRQ7 := xhd ((HRQ6.out.keeps KR (fun b hb e => by have e : b = ro := e; have := HOL.out; omega)).mono (G := fun b => w.heap.size ≤ b) (fun b hb => Nat.le_trans HKA.out.size hb))
 have HRB7 := xhd (((((HRB.out.keeps HK5.out (fun _ _ h => h)).keeps HKG.out (fun b hb e => by have e : b = g := e; have := HGL2.out; have := HWS.out; omega)).keeps KR (fun b hb e => by have e : b = ro := e; have := HRO.out; have := HWS.out; omega))).mono (G := fun b => w.heap.size ≤ b) (fun b hb => by have := HWS.out; omega))
 have HK7 := xhd (show Keeps (only g) w _ from ((HKA.out.trans (HK5.out.mono (fun _ h => h.elim))).trans HKG.out).trans' KR (fun i hi hl => by have e : i = ro := hi; have := HRO.out; omega))
 clear hP hO KR hw6
 go_wp2_with fail
 refine bodyPost_ret (results_row1 rfl _ _ ro 56 _ (0, 0) _ rfl HZ.out Tryz.underlying56 rfl (by rw [HI.out]; rfl)) rfl ?_
 exact ⟨B, cb, _, qs, rfl, HRB7.out, HQS.out, HRQ7.out, HN7.out, HK7.out⟩
end Go.Proofs.YtmgicbckgpdkcaaGreatDoor
