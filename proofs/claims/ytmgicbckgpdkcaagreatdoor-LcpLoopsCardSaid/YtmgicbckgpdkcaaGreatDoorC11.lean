/- Contracts of package slices over bytes: Grow of nil, Concat. -/
import Derived.Lib.AppendZerosOnto
import Derived.Lib.SliceRun
import Derived.Lib.Walk
import Derived.Test.YtmgicbckgpdkcaaGreatDoorC10
namespace Go.Proofs.YtmgicbckgpdkcaaGreatDoor
set_option maxRecDepth 100000
set_option maxHeartbeats 8000000
open _root_.Go.Lib renaming hid → xhd
open Go.RowKit
theorem y9d (n : Nat) : (Builtin.zeroCells (Value.cells (.int .u8 0)) n).size = n := by
 simp [Builtin.zeroCells, Value.cells]
theorem grow_nil (n : Nat) (w : World) (hn : n ≤ 140737488355328) :
  Calls Tryz.prog 141 #[.slice none 0 0, .int .i64 n] w fun e w' => ∃ u, e = .returned u ∧ w'.ownsRow w.heap.size 5 1 u 0 [] ∧ Below w.heap.size w w' := by
 by_cases h0 : n = 0
 ·subst h0
  go_enter Tryz.func141, Tryz.ntmps141
  go_wp2
  go_ret
  exact ⟨_, rfl, ⟨by simp, .inl ⟨rfl, rfl⟩⟩, Below.refl _ _⟩
 ·obtain ⟨i0, hi0, hz0, hz1, hz2⟩ := info_parts y5a
  have hpos : (n : Int) > 0 := by omega
  have hrz : ∀ ty, (Builtin.append_ #[29, 3] ty #[.slice none 0 0, .int .i64 n]).run Tryz.prog w =
    .ok (.slice (some ⟨w.heap.size, 0, none⟩) n (grownCap w n 0 5)) (w.drew.alloc (.cells (([] : List Value).toArray ++ Builtin.zeroCells (Value.cells (.int .u8 0)) n ++ Builtin.zeroCells (Value.cells (.int .u8 0)) (grownCap w n 0 5 - n)) 5)) := fun ty => by
   have h := Lib.run_append_grow_zeros w 29 3 ty 5 i0 (.int .u8 0) .i64 .i64 Tryz.underlying29 Tryz.underlying3 hi0 hz0 none 0 0 []
    (run_firstCells_none w.drew i0.size 0 0 0) n (by omega) (by omega) (by omega) (by omega) (by rw [hz2]; omega) (by
     rw [hz2]
     have : Builtin.nextslicecap (0 + n) 0 = n := by unfold Builtin.nextslicecap; rw [if_pos (by omega)]; omega
     rw [this]; omega)
   simpa only [Nat.zero_add] using h
  have hGn : n ≤ grownCap w n 0 5 := grownCap_ge w _ _ _
  have hGm := grownCap_le_maxLen w n 0 5 (by unfold maxLen; omega)
  obtain ⟨G, hG⟩ : ∃ G, G = grownCap w n 0 5 := ⟨_, rfl⟩
  rw [← hG] at hrz hGn hGm
  obtain ⟨Z, hZ⟩ : ∃ Z, Z = (([] : List Value).toArray ++ Builtin.zeroCells (Value.cells (.int .u8 0)) n ++ Builtin.zeroCells (Value.cells (.int .u8 0)) (G - n)) := ⟨_, rfl⟩
  rw [← hZ] at hrz
  have hZs : Z.size = G := by rw [hZ, Array.size_append, Array.size_append, y9d, y9d]; simp; omega
  have HZ := xhd hZs
  have HGM := xhd hGm
  have hG63 : G ≤ 9223372036854775807 := by unfold maxLen at hGm; omega
  clear hi0 hz0 hz1 hz2 hG hZ hZs hGm
  go_enter Tryz.func141, Tryz.ntmps141
  go_wp2_with (at_builtin; refine Lib.wpList_append_run _ rfl _ _ _ _ rfl _ _ rfl rfl _ _ (hrz _) ?_)
  go_ret
  refine ⟨_, rfl, ⟨by simp, .inr ⟨w.heap.size, G, Z, rfl, Nat.le_refl _, ?_, by omega, HGM.out, by rw [HZ.out]; simp, by simp⟩⟩, ?_⟩
  ·exact Blk.new w.drew 5 Z
  ·exact (Below.drewN (Below.refl _ w) 1).alloc (Nat.le_refl _) _
structure Parts (w : World) (g : Nat) (F : Nat → Prop) (ps : List (Value × List UInt8)) : Prop where
 blk : Blk w g 29 (ps.map Prod.fst).toArray
 rows : ∀ p ∈ ps, Row w F 1 p.1 p.2.length (u8s p.2)
theorem Parts.keeps {S : Nat → Prop} {w w' : World} {g : Nat} {F : Nat → Prop} {ps : List (Value × List UInt8)} (h : Parts w g F ps) (k : Keeps S w w') (hg : ¬ S g) (hs : ∀ b, F b → ¬ S b) : Parts w' g F ps :=
 ⟨h.blk.keeps k hg, fun p hp => (h.rows p hp).keeps k hs⟩
def joined (ps : List (Value × List UInt8)) : List UInt8 := ps.flatMap Prod.snd
theorem y9w (ps : List (Value × List UInt8)) (k : Nat) (p : Value × List UInt8) (h : ps[k]? = some p) : joined (ps.take (k + 1)) = joined (ps.take k) ++ p.2 := by
 unfold joined
 rw [List.take_add_one, h, List.flatMap_append]
 simp
theorem y3n (ps : List (Value × List UInt8)) (k : Nat) : (joined (ps.take k)).length ≤ (joined ps).length := by
 have : ps = ps.take k ++ ps.drop k := (List.take_append_drop k ps).symm
 unfold joined
 conv => rhs; rw [this]
 rw [List.flatMap_append, List.length_append]
 omega
theorem y7p (F : Nat → Prop) (g : Nat) (ps : List (Value × List UInt8)) (w : World) (h : Parts w g F ps) (hF : ∀ b, F b → b < w.heap.size) (hp : ps.length ≤ 1000) (hl : (joined ps).length ≤ 140737488355328) :
  Calls Tryz.prog 91 #[.slice (some ⟨g, 0, none⟩) ps.length ps.length] w fun e w' => ∃ u, e = .returned u ∧ w'.ownsRow w.heap.size 5 1 u (joined ps).length (u8s (joined ps)) ∧ Below w.heap.size w w' := by
 have H := xhd h
 have HF := xhd hF
 have hcells : ∀ k p, ps[k]? = some p → w.cell? ⟨g, k, none⟩ = some p.1 := fun k p hk => by
  rw [h.blk.cell]; simp [hk]
 have HC := xhd hcells
 have hgl := h.blk.lt
 clear h hF hcells
 go_enter Tryz.func91, Tryz.ntmps91
 go_wp2_with fail
 go_loop [3, 11] (fun s i => ∃ k : Nat, k ≤ ps.length ∧ i = .int .i64 k ∧ s = .int .i64 (joined (ps.take k)).length) (fun _ i => ps.length - (intOf i).toNat)
 case atStart => exact ⟨0, by omega, rfl, rfl⟩
 case round =>
  obtain ⟨k, hk, rfl, rfl⟩ := hrel
  have hle := y3n ps k
  by_cases hlt : k < ps.length
  ·obtain ⟨p, hpk⟩ : ∃ p, ps[k]? = some p := ⟨_, List.getElem?_eq_getElem hlt⟩
   have c0 := HC.out k p hpk
   obtain ⟨Ap, cp, hv, _⟩ := (H.out.rows p (List.mem_of_getElem? hpk)).form
   rw [hv] at c0
   have hle2 := y3n ps (k + 1)
   have hj := y9w ps k p hpk
   have hjl := congrArg List.length hj
   rw [List.length_append] at hjl
   have HJ := xhd hjl
   have hi0 : (0 : Int) ≤ (k : Int) := by omega
   have hi1 : (k : Int) < (ps.length : Int) := by omega
   obtain ⟨J, hJ⟩ : ∃ J, J = (joined (ps.take k)).length := ⟨_, rfl⟩
   rw [← hJ] at hle HJ ⊢
   have hJ2 : J + p.2.length ≤ 140737488355328 := by have := HJ.out; omega
   have hneg : ¬ ((J : Int) + p.2.length < 0) := by omega
   clear hv hpk hj hjl hJ hle2
   go_wp2
   go_round
   case rel => exact ⟨k + 1, by omega, by go_num, by rw [HJ.out]; go_num⟩
   case measure => simp [intOf]; omega
  ·have hk' : k = ps.length := by omega
   have hj : joined (ps.take k) = joined ps := by rw [hk', List.take_length]
   rw [hj]
   clear hj hk' hle
   go_wp2_with fail
   refine (grow_nil (joined ps).length w hl).mono ?_
   rintro e w1 ⟨u1, rfl, hown1, hb1⟩
   have O1 := xhd hown1
   have B1 := xhd hb1
   clear hown1 hb1
   go_wp2_with fail
   obtain ⟨i0, hi0, hz0, hz1, hz2⟩ := info_parts y5a
   have I := xhd (And.intro hi0 (And.intro hz0 (And.intro hz1 hz2)))
   clear hi0 hz0 hz1 hz2
   go_loopw [6, 27] (fun u i wr => ∃ k : Nat, k ≤ ps.length ∧ i = .int .i64 k ∧ wr.ownsRow w.heap.size 5 1 u (joined (ps.take k)).length (u8s (joined (ps.take k))) ∧ Below w.heap.size w wr) (fun _ i _ => ps.length - (intOf i).toNat)
   case atStart => exact ⟨0, by omega, rfl, O1.out, B1.out⟩
   case round =>
    obtain ⟨k, hk, rfl, hown, hb⟩ := hrel
    have O := xhd hown
    have B := xhd hb
    have hle := y3n ps k
    clear hown hb O1 B1
    by_cases hlt : k < ps.length
    ·obtain ⟨p, hpk⟩ : ∃ p, ps[k]? = some p := ⟨_, List.getElem?_eq_getElem hlt⟩
     have c0 := (B.out.cell (p := ⟨g, k, none⟩) hgl).trans (HC.out k p hpk)
     have hrow := (H.out.rows p (List.mem_of_getElem? hpk)).keeps (Keeps.new B.out) (fun _ _ h => h)
     obtain ⟨Ap, cp, hv, _⟩ := hrow.form
     rw [hv] at c0 hrow
     have HRow := xhd hrow
     have hle2 := y3n ps (k + 1)
     have hj := y9w ps k p hpk
     have hi0 : (0 : Int) ≤ (k : Int) := by omega
     have hi1 : (k : Int) < (ps.length : Int) := by omega
     have HJ := xhd hj
     have hJ2 : (joined (ps.take k)).length + p.2.length ≤ 140737488355328 := by have := congrArg List.length hj; rw [List.length_append] at this; omega
     obtain ⟨J, hJ⟩ : ∃ J, J = joined (ps.take k) := ⟨_, rfl⟩
     rw [← hJ] at O HJ hJ2
     have HJJ := xhd hJ
     clear hv hpk hj hle2 hrow hJ hle
     go_wp2_with (at_builtin; refine y0t ?_)
     unfold Hid
     obtain ⟨hi0', hz0, hz1, hz2⟩ := I.out
     refine y1a rfl (.tmp 31) (.tmp 32) _ rfl w.heap.size 5 i0 _ 1 1 Tryz.underlying29 hi0' hz0 hz1 hz2 rfl (by omega) u6 J.length (u8s J)
      rfl O.out F _ p.2.length (u8s p.2) rfl HRow.out (y73 p.2) (by simp only [maxLen]; omega) (by omega) (by have := B.out.size; omega) ?_
     intro v3 w3 hown3 hg3 hat3
     have hown3' : w3.ownsRow w.heap.size 5 1 v3 (joined (ps.take (k + 1))).length (u8s (joined (ps.take (k + 1)))) := by
      rw [HJ.out, List.length_append, show u8s (J ++ p.2) = u8s J ++ u8s p.2 by simp]
      exact hown3
     have hb3 := Below.grown B.out hg3 B.out.size (fun q hq => (y0f O.out q hq))
     have O3 := xhd hown3'
     have B3 := xhd hb3
     clear hown3 hown3' hg3 hat3 hb3 hi0' hz0 hz1 hz2 c0
     go_wp2
     go_roundw
     case rel => exact ⟨k + 1, by omega, by go_num, O3.out, B3.out⟩
     case measure => simp [intOf]; omega
    ·have hk' : k = ps.length := by omega
     have hj : joined (ps.take k) = joined ps := by rw [hk', List.take_length]
     rw [hj] at O
     clear hj hk' hle
     go_wp2
     go_ret
     exact ⟨u6, rfl, O.out, B.out⟩
theorem y7v (n : Int) (w : World) : Calls Tryz.prog 185 #[.int .i64 n] w fun e w' => e = .returned (.bool (decide (0 ≤ n ∧ n ≤ 255))) ∧ w = w' := by
 by_cases h : 0 ≤ n
 ·have d0 : decide (0 ≤ n) = true := decide_eq_true h
  have hd : decide (0 ≤ n ∧ n ≤ 255) = decide (n ≤ 255) := by simp [h]
  rw [hd]
  clear h hd
  go_enter Tryz.func185, Tryz.ntmps185
  go_wp2
  go_ret
  exact ⟨rfl, rfl⟩
 ·have d0 : decide (0 ≤ n) = false := decide_eq_false h
  have hd : decide (0 ≤ n ∧ n ≤ 255) = false := by simp [h]
  rw [hd]
  clear h hd
  go_enter Tryz.func185, Tryz.ntmps185
  go_wp2
  go_ret
  exact ⟨rfl, rfl⟩
theorem encode_any (F : Nat → Prop) (v : Value) (p : Pure.Pkt) (w : World) (hF : ∀ b, F b → b < w.heap.size) (hr : Row w F 1 v p.data.length (u8s p.data)) :
  Calls Tryz.prog 192 #[pktV p v] w fun e w' => ∃ u, e = .returned (.tuple #[u, .int .i64 (((Pure.encode p).1 : Nat) : Int)]) ∧ w'.ownsRow w.heap.size 5 1 u (Pure.encode p).2.length (u8s (Pure.encode p).2) ∧ Below w.heap.size w w' := by
 obtain ⟨A, cA, rfl, hc⟩ := hr.form
 have hml := hr.2.1
 unfold maxLen at hml
 have HR := xhd hr
 have HF := xhd hF
 clear hr hF
 obtain ⟨c, i, l⟩ := p
 dsimp only at *
 have HBc := xhd (fun w => y7v c w)
 have HBi := xhd (fun w => y7v i w)
 obtain ⟨g, hg⟩ : ∃ g, g = w.heap.size := ⟨_, rfl⟩
 go_enter Tryz.func192, Tryz.ntmps192
 go_upto_region 1 with fail
 rw [← hg]
 generalize hw1 : w.alloc _ = w1
 have HB := xhd (show Blk w1 g 56 #[.int .i64 c, .int .i64 i, .slice A l.length cA] by rw [← hw1, hg]; exact Blk.new w _ _)
 have HK := xhd (show Keeps y01 w w1 by rw [← hw1]; exact (Keeps.refl _ w).alloc _)
 have HZ := xhd (show w1.heap.size = g + 1 by rw [← hw1, hg]; simp)
 have HG := xhd hg
 clear hw1 hg
 have c0 : w1.cell? ⟨g, 0, none⟩ = some (.int .i64 c) := by rw [HB.out.cell]; rfl
 have c1 : w1.cell? ⟨g, 1, none⟩ = some (.int .i64 i) := by rw [HB.out.cell]; rfl
 have c2 : w1.cell? ⟨g, 2, none⟩ = some (.slice A l.length cA) := by rw [HB.out.cell]; rfl
 obtain ⟨od, hod⟩ : ∃ b, b = decide (Pure.Pkt.odd ⟨c, i, l⟩) := ⟨_, rfl⟩
 obtain ⟨bc, hbc⟩ : ∃ b, b = decide (0 ≤ c ∧ c ≤ 255) := ⟨_, rfl⟩
 obtain ⟨bi, hbi⟩ : ∃ b, b = decide (0 ≤ i ∧ i ≤ 255) := ⟨_, rfl⟩
 have hob : od = (!bc || !bi) := by
  have ho : Pure.Pkt.odd ⟨c, i, l⟩ ↔ (c < 0 ∨ 255 < c ∨ i < 0 ∨ 255 < i) := Iff.rfl
  rw [hod, hbc, hbi, Bool.eq_iff_iff]
  simp only [ho, decide_eq_true_eq, Bool.or_eq_true, Bool.not_eq_true', decide_eq_false_iff_not]
  omega
 rw [← hbc] at HBc
 rw [← hbi] at HBi
 have HOD := xhd hod
 clear hod hbc hbi
 go_cut [6] (fun v wx => v = .bool od ∧ w1 = wx)
 case first =>
  have HOB := xhd hob
  clear hob
  cases bc
  ·go_wp2_with fail
   refine (HBc.out _).mono ?_
   rintro e w2 ⟨rfl, rfl⟩
   go_wp2
   go_meet
   exact ⟨by rw [HOB.out]; rfl, rfl⟩
  ·go_wp2_with fail
   refine (HBc.out _).mono ?_
   rintro e w2 ⟨rfl, rfl⟩
   go_wp2_with fail
   refine (HBi.out _).mono ?_
   rintro e w2 ⟨rfl, rfl⟩
   go_wp2
   go_meet
   exact ⟨by rw [HOB.out]; rfl, rfl⟩
 case rest =>
  obtain ⟨rfl, rfl⟩ := hcut
  clear hob HBc HBi
  cases od
  ·have ho : ¬ Pure.Pkt.odd ⟨c, i, l⟩ := of_decide_eq_false HOD.out.symm
   have hci : 0 ≤ c ∧ c ≤ 255 ∧ 0 ≤ i ∧ i ≤ 255 := by unfold Pure.Pkt.odd at ho; dsimp only at ho; omega
   by_cases hl : 1496 < l.length
   ·have he := Pure.encode_long ho hl
    have HE := xhd he
    have d0 : decide ((1496 : Int) < (l.length : Int)) = true := decide_eq_true (by omega)
    clear he ho
    go_wp2
    go_ret2
    exact ⟨_, by rw [HE.out]; rfl, by rw [HE.out]; exact World.ownsRow_nil _ _ _ _, HK.out.to_below⟩
   ·have he := Pure.encode_ok ho hl
    have d0 : decide ((1496 : Int) < (l.length : Int)) = false := decide_eq_false (by omega)
    obtain ⟨n, hn⟩ : ∃ n, n = l.length + 4 := ⟨_, rfl⟩
    have en : (4 : Int) + (l.length : Int) = (n : Int) := by omega
    obtain ⟨x1, hx1⟩ : ∃ x, x = UInt8.ofNat c.toNat := ⟨_, rfl⟩
    obtain ⟨x2, hx2⟩ : ∃ x, x = UInt8.ofNat i.toNat := ⟨_, rfl⟩
    obtain ⟨x3, hx3⟩ : ∃ x, x = UInt8.ofNat (n / 256) := ⟨_, rfl⟩
    obtain ⟨x4, hx4⟩ : ∃ x, x = UInt8.ofNat (n % 256) := ⟨_, rfl⟩
    have hby : Pure.Pkt.bytes ⟨c, i, l⟩ = [x1, x2, x3, x4] ++ l := by rw [hx1, hx2, hx3, hx4, hn]; rfl
    rw [hby] at he
    have f1 : c = (x1.toNat : Int) := by rw [hx1, UInt8.toNat_ofNat']; omega
    have f2 : i = (x2.toNat : Int) := by rw [hx2, UInt8.toNat_ofNat']; omega
    have f3 : (n : Int) / 256 = (x3.toNat : Int) := by rw [hx3, UInt8.toNat_ofNat']; omega
    have f4 : (n : Int) % 256 = (x4.toNat : Int) := by rw [hx4, UInt8.toNat_ofNat']; omega
    have hn2 : n ≤ 1500 := by omega
    subst f1 f2
    have HE := xhd he
    have hx1l := x1.toNat_lt
    have hx2l := x2.toNat_lt
    have HLL := xhd (show ([x1, x2, x3, x4] ++ l).length ≤ 1500 by simp; omega)
    clear he ho hby hx1 hx2 hx3 hx4 hn hci
    go_upto_region 7 with fail
    obtain ⟨q, hq⟩ : ∃ q, q = w1.heap.size := ⟨_, rfl⟩
    rw [← hq]
    generalize hw2 : w1.alloc _ = w2
    have hbw : w2.heap.size = q + 1 := by rw [← hw2, hq]; simp
    have hk2 : Keeps y01 w1 w2 := by rw [← hw2]; exact (Keeps.refl _ w1).alloc _
    have hrh : Row w2 (fun b => b < w2.heap.size) 1 (.slice (some ⟨q, 0, none⟩) 4 4) ([x1, x2, x3, x4] : List UInt8).length (u8s [x1, x2, x3, x4]) := by
     have h := y7g w1 [x1, x2, x3, x4] #[.int .u8 x1.toNat, .int .u8 x2.toNat, .int .u8 x3.toNat, .int .u8 x4.toNat] 4 rfl rfl (by simp)
     rw [hw2, ← hq] at h
     exact h.mono (fun b hb => by omega)
    have hrl : Row w2 (fun b => b < w2.heap.size) 1 (.slice A l.length cA) l.length (u8s l) := ((HR.out.keeps HK.out (fun _ _ h => h)).keeps hk2 (fun _ _ h => h)).mono (fun b hb => by have := HF.out b hb; have := HK.out.size; have := hk2.size; omega)
    have hk3 := (Keeps.refl y01 w2).alloc (.cells #[.slice (some ⟨q, 0, none⟩) 4 4, .slice A l.length cA] 29)
    have hparts : Parts (w2.alloc (.cells #[.slice (some ⟨q, 0, none⟩) 4 4, .slice A l.length cA] 29)) w2.heap.size (fun b => b < w2.heap.size) [(.slice (some ⟨q, 0, none⟩) 4 4, [x1, x2, x3, x4]), (.slice A l.length cA, l)] := by
     refine ⟨Blk.new w2 _ _, fun p hp => ?_⟩
     simp only [List.mem_cons, List.not_mem_nil, or_false] at hp
     rcases hp with rfl | rfl
     ·exact hrh.keeps hk3 (fun _ _ h => h)
     ·exact hrl.keeps hk3 (fun _ _ h => h)
    have c2' := y04 c2 hk2
    have HP := xhd hparts
    have HJ := xhd (show joined [((.slice (some ⟨q, 0, none⟩) 4 4 : Value), [x1, x2, x3, x4]), (.slice A l.length cA, l)] = [x1, x2, x3, x4] ++ l by simp [joined])
    have HK3 := xhd ((HK.out.trans hk2).trans hk3)
    have HW2 := xhd (HK.out.trans hk2).size
    clear hw2 hk2 hrh hrl hparts hk3 c0 c1 c2 hq hbw f3 f4 en hn2
    go_wp2_with fail
    refine (y7p (fun b => b < w2.heap.size) w2.heap.size [(.slice (some ⟨q, 0, none⟩) 4 4, [x1, x2, x3, x4]), (.slice A l.length cA, l)] _ HP.out (fun b hb => by simp; omega) (by simp) (by rw [HJ.out]; have := HLL.out; omega)).mono ?_
    rintro e w4 ⟨u2, rfl, hown, hb4⟩
    rw [HJ.out] at hown
    have HO := xhd (y3r (base' := w.heap.size) hown (by have := HW2.out; simp; omega))
    have HB4 := xhd (Below.quiet HK3.out.to_below (Keeps.new hb4) HK3.out.size)
    clear hown hb4
    go_wp2
    go_ret2
    exact ⟨u2, by rw [HE.out]; rfl, by rw [HE.out]; exact HO.out, HB4.out⟩
  ·have ho : Pure.Pkt.odd ⟨c, i, l⟩ := of_decide_eq_true HOD.out.symm
   have HE := xhd (Pure.encode_odd ho)
   clear ho
   go_wp2
   go_ret2
   exact ⟨_, by rw [HE.out]; rfl, by rw [HE.out]; exact World.ownsRow_nil _ _ _ _, HK.out.to_below⟩
theorem ya2 (F : Nat → Prop) (x : Value) (ps : List (Value × Pure.Opt)) (w : World) (hF : ∀ b, F b → b < w.heap.size) (hx : ORow w F x ps) :
  Calls Tryz.prog 155 #[x] w fun e w' => ∃ u, e = .returned (.tuple #[u, .int .i64 (((Pure.options (y02 ps)).1 : Nat) : Int)]) ∧ w'.ownsRow w.heap.size 5 1 u (Pure.options (y02 ps)).2.length (u8s (Pure.options (y02 ps)).2) ∧ Below w.heap.size w w' := by
 obtain ⟨A, cA, rfl, hc⟩ := hx.form
 have hm := hx.out.2.1
 unfold maxLen at hm
 have HX := xhd hx
 have HF := xhd hF
 clear hx hF
 have hlen : (y02 ps).length = ps.length := by simp
 have HBy := xhd (fun n w => y7v n w)
 go_enter Tryz.func155, Tryz.ntmps155
 by_cases h32 : 32 < ps.length
 ·have HO := xhd (Pure.options_long (l := y02 ps) (by rw [hlen]; exact h32))
  have d0 : decide ((32 : Int) < (ps.length : Int)) = true := decide_eq_true (by omega)
  clear hlen
  go_wp2
  go_ret2
  exact ⟨_, by rw [HO.out]; rfl, by rw [HO.out]; exact World.ownsRow_nil _ _ _ _, Below.refl _ _⟩
 ·have d0 : decide ((32 : Int) < (ps.length : Int)) = false := decide_eq_false (by omega)
  have HLen := xhd hlen
  clear hlen
  go_wp2_with fail
  go_loopw [4, 12] (fun v i wr => ∃ k : Nat, k ≤ ps.length ∧ i = .int .i64 (k : Int) ∧ wr.ownsRow w.heap.size 5 1 v (Pure.joined ((y02 ps).take k)).length (u8s (Pure.joined ((y02 ps).take k))) ∧ (Pure.joined ((y02 ps).take k)).length ≤ 255 * k ∧ (∀ o ∈ (y02 ps).take k, ¬ Pure.Opt.odd o) ∧ Below w.heap.size w wr) (fun _ i _ => ps.length - (intOf i).toNat)
  case atStart => exact ⟨0, by omega, rfl, World.ownsRow_nil _ _ _ _, by simp [Pure.joined], by simp, Below.refl _ _⟩
  case round =>
   obtain ⟨k, hk, rfl, hW, hJl, hE, hK⟩ := hrel
   have HW := xhd hW
   have HE := xhd hE
   have HK := xhd hK
   obtain ⟨A2, c2, rfl⟩ := y0c hW
   by_cases hkl : k < ps.length
   ·have i0 : (0 : Int) ≤ (k : Int) := by omega
    have i1 : (k : Int) < (ps.length : Int) := by omega
    obtain ⟨p, o, A1, c1, s, la, rfl, hFp, x0, x1, hra, hpa⟩ := (HX.out.keeps (Keeps.new hK) (fun _ _ h => h)).pick k hkl
    have hps : (y02 ps)[k]? = some (s, la) := by rw [List.getElem?_map, hpa]; rfl
    have HPS := xhd hps
    have HRA := xhd hra
    have hml := hra.2.1
    unfold maxLen at hml
    obtain ⟨J, hJ⟩ : ∃ J, J = Pure.joined ((y02 ps).take k) := ⟨_, rfl⟩
    rw [← hJ] at HW hJl ⊢
    have HJ := xhd hJ
    clear hW hE hra hpa hps hJ
    go_upto_region 7 with fail
    obtain ⟨r, hr⟩ : ∃ r, r = wr.heap.size := ⟨_, rfl⟩
    rw [← hr]
    generalize hw1 : wr.alloc _ = w1
    have hb1 : Blk w1 r 31 #[.int .i64 s, .slice A1 la.length c1] := by rw [← hw1, hr]; exact Blk.new wr _ _
    have hk1 : Keeps y01 wr w1 := by rw [← hw1]; exact (Keeps.refl _ wr).alloc _
    have y0 : w1.cell? ⟨r, 0, none⟩ = some (.int .i64 s) := by rw [hb1.cell]; rfl
    have y1 : w1.cell? ⟨r, 1, none⟩ = some (.slice A1 la.length c1) := by rw [hb1.cell]; rfl
    have HW1 := xhd (y0o HW.out hk1 (fun _ _ h => h))
    have HKw := xhd (Below.quiet HK.out hk1 HK.out.size)
    have HRA1 := xhd (HRA.out.keeps hk1 (fun _ _ h => h))
    have hrw : w.heap.size ≤ r := by rw [hr]; exact HK.out.size
    have hAr : (Value.slice A2 J.length c2).ownBlock ≠ some r := fun e => by have := y12 HW.out r e; omega
    clear hw1 hr hb1 hk1 x0 x1 HW HK HRA hK
    obtain ⟨od, hod⟩ : ∃ b, b = decide (Pure.Opt.odd (s, la)) := ⟨_, rfl⟩
    obtain ⟨bs, hbs⟩ : ∃ b, b = decide (0 ≤ s ∧ s ≤ 255) := ⟨_, rfl⟩
    have hob : od = (!bs || decide (253 < (la.length : Int))) := by
     have ho : Pure.Opt.odd (s, la) ↔ (s < 0 ∨ 255 < s ∨ 253 < la.length) := Iff.rfl
     rw [hod, hbs, Bool.eq_iff_iff]
     simp only [ho, decide_eq_true_eq, Bool.or_eq_true, Bool.not_eq_true', decide_eq_false_iff_not]
     omega
    have HBs := xhd (HBy.out s)
    rw [← hbs] at HBs
    have HOD := xhd hod
    have HOB := xhd hob
    clear hod hbs hob HBy
    go_cut [25] (fun v wx => v = .bool od ∧ w1 = wx)
    case first =>
     cases bs
     ·go_wp2_with fail
      refine (HBs.out _).mono ?_
      rintro e w2 ⟨rfl, rfl⟩
      go_wp2
      go_meet
      exact ⟨by rw [HOB.out]; rfl, rfl⟩
     ·go_wp2_with fail
      refine (HBs.out _).mono ?_
      rintro e w2 ⟨rfl, rfl⟩
      go_wp2
      go_meet
      exact ⟨by rw [HOB.out]; rfl, rfl⟩
    case rest =>
     obtain ⟨rfl, rfl⟩ := hcut
     clear HOB HBs
     cases od
     ·have ho : ¬ Pure.Opt.odd (s, la) := of_decide_eq_false HOD.out.symm
      have hodd : 0 ≤ s ∧ s ≤ 255 ∧ la.length ≤ 253 := by unfold Pure.Opt.odd at ho; dsimp only at ho; omega
      have HE' := xhd (show ∀ o ∈ (y02 ps).take (k + 1), ¬ Pure.Opt.odd o by
       intro o hoo
       rw [yam _ k _ HPS.out] at hoo
       rcases List.mem_append.1 hoo with h | h
       ·exact HE.out o h
       ·simp at h; rw [h]; exact ho)
      obtain ⟨x1', hx1⟩ : ∃ x : UInt8, x = UInt8.ofNat s.toNat := ⟨_, rfl⟩
      obtain ⟨x2', hx2⟩ : ∃ x : UInt8, x = UInt8.ofNat (la.length + 2) := ⟨_, rfl⟩
      have f1 : s = (x1'.toNat : Int) := by rw [hx1, UInt8.toNat_ofNat']; omega
      have f2 : (2 : Int) + (la.length : Int) = (x2'.toNat : Int) := by rw [hx2, UInt8.toNat_ofNat']; omega
      have hby : Pure.Opt.bytes (s, la) = [x1', x2'] ++ la := by rw [hx1, hx2]; rfl
      have hJ' : Pure.joined ((y02 ps).take (k + 1)) = J ++ [x1', x2'] ++ la := by
       rw [yam _ k _ HPS.out, yfc, hby, HJ.out, List.append_assoc]
      have HJ' := xhd hJ'
      have hla : la.length ≤ 253 := hodd.2.2
      have t1 := x1'.toNat_lt
      have t2 := x2'.toNat_lt
      clear hx1 hx2 hby hJ' ho hodd HJ HPS HE HOD
      subst f1
      have u1 : IntKind.u8.wrap (x1'.toNat : Int) = (x1'.toNat : Int) := IntWalk.u8_in _ (by omega)
      have u2 : IntKind.i64.wrap (x2'.toNat : Int) = (x2'.toNat : Int) := IntWalk.i64_in _ (by omega)
      have u3 : IntKind.u8.wrap (x2'.toNat : Int) = (x2'.toNat : Int) := IntWalk.u8_in _ (by omega)
      go_wp2_with (at_builtin; refine y0t ?_)
      unfold Hid
      obtain ⟨wb, hwb⟩ : ∃ wb, wb = w1.alloc (.cells #[.int .u8 (x1'.toNat : Int), .int .u8 (x2'.toNat : Int)] 5) := ⟨_, rfl⟩
      rw [← hwb]
      have hkb : Keeps y01 w1 wb := by rw [hwb]; exact (Keeps.refl _ w1).alloc _
      have hrb : Row wb (fun x => x = w1.heap.size) 1 (.slice (some ⟨w1.heap.size, 0, none⟩) 2 2) 2 (u8s [x1', x2']) := by
       have := y7g w1 [x1', x2'] #[.int .u8 (x1'.toNat : Int), .int .u8 (x2'.toNat : Int)] 2 rfl rfl (by simp)
       rw [hwb]
       exact this
      have hzb : wb.heap.size = w1.heap.size + 1 := by rw [hwb]; simp
      have hcb : wb.cell? ⟨r, 1, none⟩ = some (.slice A1 la.length c1) := y8w y1 hkb
      have HBb := xhd (Below.quiet HKw.out hkb HKw.out.size)
      have hWb := y0o HW1.out hkb (fun _ _ h => h)
      clear hwb
      refine y1n rfl (.tmp 26) (.tmp 35) rfl w.heap.size (.slice A2 J.length c2) J.length J rfl rfl hWb _ _ [x1', x2'] rfl hrb (by simp; omega) HBb.out.size ?_
      intro v3 w3 hown3 hg3 hat3
      obtain ⟨J2, hJ2⟩ : ∃ l, l = J ++ [x1', x2'] := ⟨_, rfl⟩
      have HJ2l := xhd (show J2.length = J.length + 2 by rw [hJ2]; simp)
      rw [← hJ2] at hown3 HJ'
      clear hJ2
      have hrl : r < wb.heap.size := by have := y0x hcb; omega
      have hc3 : w3.cell? ⟨r, 1, none⟩ = some (.slice A1 la.length c1) :=
       (World.cell?_of_block (w := wb) (a := ⟨r, 1, none⟩) (hg3.block r hrl (fun e => hAr e.symm))).trans hcb
      have HB3 := xhd (HBb.out.grown hg3 HBb.out.size (fun k hk => y0f HW1.out k hk))
      have HO3 := xhd hown3
      have hkw3 : Keeps (fun b => w.heap.size ≤ b) w1 w3 := (hkb.mono (fun _ h => h.elim)).grown hg3 (fun k hk _ => y0f HW1.out k hk)
      have HR3 := xhd (HRA1.out.keeps hkw3 (fun b hb hs => by have h1 := HF.out b hb; have h2 : w.heap.size ≤ b := hs; omega))
      obtain ⟨A3, c3, rfl⟩ := y0c hown3
      clear hkw3 hown3 hg3 hat3 hcb hkb hrb hWb y0 y1 hzb hrl
      go_wp2_with (at_builtin; refine y0t ?_)
      unfold Hid
      refine y1n rfl (.tmp 37) (.tmp 39) rfl w.heap.size _ J2.length J2 rfl rfl HO3.out F (.slice A1 la.length c1) la rfl HR3.out (by have := HJ2l.out; omega) HB3.out.size ?_
      intro v4 w4 hown4 hg4 hat4
      have HB4 := xhd (HB3.out.grown hg4 HB3.out.size (fun k hk => y0f HO3.out k hk))
      rw [← HJ'.out] at hown4
      have hl4 : (Pure.joined ((y02 ps).take (k + 1))).length ≤ 255 * (k + 1) := by
       rw [HJ'.out]; simp only [List.length_append]; have := HJ2l.out; omega
      have HO4 := xhd hown4
      clear hown4 hg4 hat4
      go_wp2_with fail
      go_roundw
      case rel => exact ⟨k + 1, by omega, by go_num, HO4.out, hl4, HE'.out, HB4.out⟩
      case measure => simp [intOf]; omega
     ·have ho : Pure.Opt.odd (s, la) := of_decide_eq_true HOD.out.symm
      have HO := xhd (Pure.options_odd (l := y02 ps) (by rw [HLen.out]; exact h32) (s, la) (List.mem_of_getElem? HPS.out) ho)
      clear ho HOD
      go_wp2
      go_ret2
      exact ⟨_, by rw [HO.out]; rfl, by rw [HO.out]; exact World.ownsRow_nil _ _ _ _, HKw.out⟩
   ·have hkk : k = ps.length := by omega
    subst hkk
    have htk : (y02 ps).take ps.length = y02 ps := List.take_of_length_le (by rw [HLen.out]; omega)
    rw [htk] at HW HE ⊢
    have HO := xhd (Pure.options_ok (l := y02 ps) (by rw [HLen.out]; exact h32) HE.out)
    rw [htk] at hW hJl
    clear hW hJl hE hK hkl hk htk
    go_wp2
    go_ret2
    exact ⟨_, by rw [HO.out]; rfl, by rw [HO.out]; exact HW.out, HK.out⟩
structure FewRules (us : List (Value × Pure.Rule)) : Prop where
 len : us.length ≤ 100000
 ok : ∀ p ∈ us, p.2.Ok ∧ p.2.want.length ≤ 100000
structure FewOpts (zs : List (Value × Pure.Opt)) : Prop where
 len : zs.length ≤ 100000
 data : ∀ p ∈ zs, p.2.2.length ≤ 100000
theorem dead_ok : Pure.deadRule.Ok := fun h => by simp [Pure.deadRule] at h
theorem FewRules.pick {us : List (Value × Pure.Rule)} (h : FewRules us) {r : Pure.Rule} (hp : (∃ p ∈ us, p.2 = r) ∨ r = Pure.deadRule) : r.Ok ∧ r.want.length ≤ 100000 := by
 rcases hp with ⟨p, hp, rfl⟩ | rfl
 ·exact h.ok p hp
 ·exact ⟨dead_ok, by simp [Pure.deadRule]⟩
theorem Offs.form {w w' : World} {e : Ending} {o : Option (List UInt8)} (h : Offs w e w' o) : ∃ A n c, e = .returned (.tuple #[.slice A n c, .bool o.isSome]) ∧ Keeps y01 w w' ∧ ∀ d, o = some d → n = d.length ∧ Row w' (fun b => w.heap.size ≤ b) 1 (.slice A n c) n (u8s d) := by
 cases o with
 | none => exact ⟨none, 0, 0, h.1, h.2, fun d hd => by cases hd⟩
 | some d =>
  obtain ⟨A, c, he, hr, hk⟩ := h
  exact ⟨A, d.length, c, he, hk, fun d' hd => by injection hd with hd; subst hd; exact ⟨rfl, hr⟩⟩
theorem ye9 (F : Nat → Prop) (x : Value) (ps : List (Value × Pure.Opt)) (w : World) (hF : ∀ b, F b → b < w.heap.size) (hx : ORow w F x ps) :
  Calls Tryz.prog 115 #[x] w fun e w' => e = .returned (.bool (decide ((Pure.options (y02 ps)).1 = 0))) ∧ Keeps y01 w w' := by
 have HO := xhd (ya2 F x ps w hF hx)
 have HD := xhd (show decide ((Pure.options (y02 ps)).1 = 0) = ((((Pure.options (y02 ps)).1 : Nat) : Int) == 0) by
  by_cases h : (Pure.options (y02 ps)).1 = 0
  ·rw [h]; rfl
  ·rw [decide_eq_false h]; symm; rw [beq_eq_false_iff_ne]; omega)
 clear hF hx
 go_enter Tryz.func115, Tryz.ntmps115
 go_wp2_with fail
 refine HO.out.mono ?_
 rintro e w1 ⟨u, rfl, hu, hb⟩
 obtain ⟨A, c, rfl⟩ := y0c hu
 have HK := xhd (Keeps.new hb)
 clear hu hb HO
 go_wp2_with fail
 go_ret
 exact ⟨by rw [HD.out]; rfl, HK.out⟩
theorem y5c (F : Nat → Prop) (x : Value) (ps : List (Value × Pure.Opt)) (w : World) (hF : ∀ b, F b → b < w.heap.size) (hx : ORow w F x ps) :
  Calls Tryz.prog 191 #[x] w fun e w' => ∃ A c, e = .returned (.slice A (Pure.options (y02 ps)).2.length c) ∧ Row w' (fun b => w.heap.size ≤ b) 1 (.slice A (Pure.options (y02 ps)).2.length c) (Pure.options (y02 ps)).2.length (u8s (Pure.options (y02 ps)).2) ∧ Keeps y01 w w' := by
 have HO := xhd (ya2 F x ps w hF hx)
 clear hF hx
 go_enter Tryz.func191, Tryz.ntmps191
 go_wp2_with fail
 refine HO.out.mono ?_
 rintro e w1 ⟨u, rfl, hu, hb⟩
 obtain ⟨A, c, rfl⟩ := y0c hu
 have HU := xhd ((Row.of_own hu).mono (G := fun b => w.heap.size ≤ b) (fun b hb => y0f hu b hb))
 have HK := xhd (Keeps.new hb)
 clear hu hb HO
 go_wp2_with fail
 go_ret
 exact ⟨_, _, rfl, HU.out, HK.out⟩
theorem yhl (Fu Fx : Nat → Prop) (xu x : Value) (us : List (Value × Pure.Rule)) (zs : List (Value × Pure.Opt)) (rejects : Bool) (w : World) (hu : RRow w Fu xu us) (hx : ORow w Fx x zs) (hfu : FewRules us) (hfx : FewOpts zs) :
  Calls Tryz.prog 157 #[xu, x, .bool rejects] w fun e w' => ∃ u, ∃ qs : List (Value × Pure.Opt), e = .returned u ∧ y02 qs = (Pure.judgeTo (y08 us) rejects (y02 zs) zs.length).1 ∧ Read w w' u qs := by
 obtain ⟨X, cx, rfl, _⟩ := hx.form
 obtain ⟨U, cu, rfl, _⟩ := hu.form
 have HX := xhd hx
 have HU := xhd hu
 have HFU := xhd hfu
 have HFX := xhd hfx
 have hzl := hfx.len
 clear hx hu hfu hfx
 go_enter Tryz.func157, Tryz.ntmps157
 go_wp2_with fail
 go_loopw [7, 15] (fun v i wr => ∃ k : Nat, k ≤ zs.length ∧ i = .int .i64 (k : Int) ∧ ∃ qs : List (Value × Pure.Opt), y02 qs = (Pure.judgeTo (y08 us) rejects (y02 zs) k).1 ∧ qs.length ≤ k ∧ Read w wr v qs) (fun _ i _ => zs.length - (intOf i).toNat)
 case atStart => exact ⟨0, by omega, rfl, [], rfl, by simp, Read.nil w⟩
 case round =>
  obtain ⟨k, hk, rfl, qs, hqs, hql, hrd⟩ := hrel
  obtain ⟨A2, c2, rfl⟩ := y0c hrd.own
  have HQS := xhd hqs
  have HRD := xhd hrd
  clear hqs hrd
  by_cases hkl : k < zs.length
  ·have i0' : (0 : Int) ≤ (k : Int) := by omega
   have i1 : (k : Int) < (zs.length : Int) := by omega
   have d1 : decide ((k : Int) < (zs.length : Int)) = true := decide_eq_true (by omega)
   have d2 : decide (k < zs.length) = true := decide_eq_true hkl
   have hkw : Keeps y01 w wr := Keeps.new HRD.out.below
   obtain ⟨bx, ox, A1, c1, t, D, rfl, hFb, x0, x1, hra, hpa⟩ := (HX.out.keeps hkw (fun _ _ h => h)).pick k hkl
   have hDl : D.length ≤ 100000 := HFX.out.data _ (List.mem_of_getElem? hpa)
   have hok : (y02 zs)[k]? = some (t, D) := by rw [List.getElem?_map, hpa]; rfl
   have HST := xhd (Pure.judgeTo_step (y08 us) rejects (y02 zs) k (t, D) hok)
   have HOK := xhd hok
   have HRA := xhd hra
   have HKW := xhd hkw
   clear hra hpa hok hkw
   go_upto_region 5 with fail
   obtain ⟨wb, hwb⟩ : ∃ wb, wb = wr.alloc (.cells #[.int .i64 t, .slice A1 D.length c1] 31) := ⟨_, rfl⟩
   obtain ⟨gb, hgb⟩ : ∃ gb, gb = wr.heap.size := ⟨_, rfl⟩
   rw [← hwb, ← hgb]
   have hkb : Keeps y01 wr wb := by rw [hwb]; exact (Keeps.refl _ wr).alloc _
   have hbb : Blk wb gb 31 #[.int .i64 t, .slice A1 D.length c1] := by rw [hwb, hgb]; exact Blk.new wr _ _
   have y0 : wb.cell? ⟨gb, 0, none⟩ = some (.int .i64 t) := by rw [hbb.cell]; rfl
   have y1 : wb.cell? ⟨gb, 1, none⟩ = some (.slice A1 D.length c1) := by rw [hbb.cell]; rfl
   have HKb := xhd hkb
   have HRF := xhd (y5i Fu (.slice U us.length cu) us t wb (HU.out.keeps (HKW.out.trans hkb) (fun _ _ h => h)))
   clear hwb hgb hbb hkb x0 x1
   go_wp2_with fail
   refine HRF.out.mono ?_
   rintro e w2 ⟨pA, pc, pr, rfl, hpr, hrow, hin, hk2⟩
   have HPR := xhd hpr
   have HIN := xhd (HFU.out.pick hin)
   have HRW := xhd hrow
   have HK2 := xhd (HKb.out.trans hk2)
   have y0' := y04 y0 hk2
   have y1' := y04 y1 hk2
   clear hpr hrow hin hk2 HRF y0 y1
   go_upto_region 6 with fail
   obtain ⟨w3, hw3⟩ : ∃ w3, w3 = w2.alloc (.cells (y0a (.slice pA pr.want.length pc, pr)).toArray 122) := ⟨_, rfl⟩
   obtain ⟨gr, hgr⟩ : ∃ gr, gr = w2.heap.size := ⟨_, rfl⟩
   rw [show w2.alloc (.cells #[.int .i64 pr.type, .int .i64 pr.len, .int .i64 pr.how, .int .i64 pr.lo, .int .i64 pr.hi, .slice pA pr.want.length pc, .bool pr.need] 122) = w3 from hw3.symm, ← hgr]
   have hk3 : Keeps y01 w2 w3 := by rw [hw3]; exact (Keeps.refl _ w2).alloc _
   have hb3 : Blk w3 gr 122 (y0a (.slice pA pr.want.length pc, pr)).toArray := by rw [hw3, hgr]; exact Blk.new w2 _ _
   have HC3 := xhd (fun j u (h : (y0a (.slice pA pr.want.length pc, pr))[j]? = some u) => show w3.cell? ⟨gr, j, none⟩ = some u by rw [hb3.cell, List.getElem?_toArray]; exact h)
   have HK3 := xhd (HK2.out.trans hk3)
   have HY := xhd (And.intro (y04 y0' hk3) (y04 y1' hk3))
   have HRW3 := xhd (HRW.out.keeps hk3 (fun _ _ h => h))
   have HOF := xhd (y8t Fx (fun _ => True) (.slice pA pr.want.length pc) (.slice A1 D.length c1) pr D w3 (HRA.out.keeps HK3.out (fun _ _ h => h)) HRW3.out (by have := HIN.out.2; omega) HIN.out.1)
   have z0 := HC3.out 0 _ rfl
   have z1 := HC3.out 1 _ rfl
   have z2 := HC3.out 2 _ rfl
   have z3 := HC3.out 3 _ rfl
   have z4 := HC3.out 4 _ rfl
   have z5 := HC3.out 5 _ rfl
   have z6 := HC3.out 6 _ rfl
   have yy := HY.out.2
   clear hw3 hgr hk3 hb3 y0' y1'
   go_wp2_with fail
   refine HOF.out.mono ?_
   rintro e w4 hoff
   obtain ⟨oA, on', oc, rfl, hk4, _⟩ := hoff.form
   obtain ⟨ok, hok⟩ : ∃ ok, ok = (pr.offerP D).isSome := ⟨_, rfl⟩
   rw [← hok]
   have HOKS := xhd hok
   have HK4 := xhd (HK3.out.trans hk4)
   have HC4 := xhd (fun j u (h : (y0a (.slice pA pr.want.length pc, pr))[j]? = some u) => y04 (HC3.out j u h) hk4)
   have HY4 := xhd (And.intro (y04 HY.out.1 hk4) (y04 HY.out.2 hk4))
   have HRW4 := xhd (HRW3.out.keeps hk4 (fun _ _ h => h))
   clear z0 z1 z2 z3 z4 z5 z6 yy hoff hk4 hok HOF HC3 HY HRW3
   have HFI := xhd (yaf Fx (.slice (some ⟨bx, ox, none⟩) zs.length cx) zs t w4 (HX.out.keeps (HKW.out.trans HK4.out) (fun _ _ h => h)))
   go_upto_region 7 with fail
   go_cut [50] (fun s wx => s = .bool (Pure.refuses (y08 us) rejects ((y02 zs).take k) (t, D)) ∧ Keeps y01 w4 wx)
   case first =>
    have yy := HY4.out.1
    go_wp2_with fail
    refine HFI.out.mono ?_
    rintro e w5 ⟨i, rfl, hp, hk5⟩
    obtain ⟨B, hB⟩ : ∃ B, B = decide (i < (k : Int)) := ⟨_, rfl⟩
    have HBF := xhd (show B = Pure.hasType ((y02 zs).take k) t from hB.trans (hp.before k (t, D) HOK.out (by simp)))
    have HC5 := xhd (fun j u (h : (y0a (.slice pA pr.want.length pc, pr))[j]? = some u) => y04 (HC4.out j u h) hk5)
    have y5 := y04 HY4.out.2 hk5
    have HPF := xhd (ydp Fx (fun _ => True) (.slice pA pr.want.length pc) (.slice A1 D.length c1) pr D w5 (HRA.out.keeps (HK4.out.trans hk5) (fun _ _ h => h)) (HRW4.out.keeps hk5 (fun _ _ h => h)) HIN.out.1)
    have HK5 := xhd hk5
    have z0 := HC5.out 0 _ rfl
    have z1 := HC5.out 1 _ rfl
    have z2 := HC5.out 2 _ rfl
    have z3 := HC5.out 3 _ rfl
    have z4 := HC5.out 4 _ rfl
    have z5 := HC5.out 5 _ rfl
    have z6 := HC5.out 6 _ rfl
    clear hp hk5 yy HFI
    cases B
    ·have dB : decide (i < (k : Int)) = false := hB.symm
     clear hB
     obtain ⟨f, hf⟩ : ∃ f, f = decide (pr.fits D) := ⟨_, rfl⟩
     rw [← hf] at HPF
     have HE := xhd (show Pure.refuses (y08 us) rejects ((y02 zs).take k) (t, D) = (!f && (rejects || !ok)) by
      unfold Pure.refuses
      dsimp only
      rw [← HBF.out, ← HPR.out, ← hf, Bool.false_or, HOKS.out, Pure.offerP_some]
      cases pr.offers D <;> rfl)
     clear hf
     go_wp2_with fail
     refine HPF.out.mono ?_
     rintro e w6 ⟨rfl, hk6⟩
     have HK6 := xhd (HK5.out.trans hk6)
     clear hk6 z0 z1 z2 z3 z4 z5 z6 y5 HPF
     cases f
     ·cases rejects
      ·cases ok
       ·go_wp2_with fail
        go_meet
        exact ⟨congrArg Value.bool HE.out.symm, HK6.out⟩
       ·go_wp2_with fail
        go_meet
        exact ⟨congrArg Value.bool HE.out.symm, HK6.out⟩
      ·go_wp2_with fail
       go_meet
       exact ⟨congrArg Value.bool HE.out.symm, HK6.out⟩
     ·go_wp2_with fail
      go_meet
      exact ⟨congrArg Value.bool HE.out.symm, HK6.out⟩
    ·have dB : decide (i < (k : Int)) = true := hB.symm
     clear hB
     have HE := xhd (show Pure.refuses (y08 us) rejects ((y02 zs).take k) (t, D) = true by
      unfold Pure.refuses
      dsimp only
      rw [← HBF.out]
      rfl)
     go_wp2_with fail
     go_meet
     exact ⟨congrArg Value.bool HE.out.symm, HK5.out⟩
   case rest =>
    obtain ⟨hs, hkc⟩ := hcut
    obtain ⟨b, hb⟩ : ∃ b, b = Pure.refuses (y08 us) rejects ((y02 zs).take k) (t, D) := ⟨_, rfl⟩
    rw [← hb] at hs HST
    have HKC := xhd (HK4.out.trans hkc)
    have y0 := y04 HY4.out.1 hkc
    have y1 := y04 HY4.out.2 hkc
    subst hs
    clear hkc hb HFI HC4 HY4
    cases b
    ·have HST2 := xhd (show (Pure.judgeTo (y08 us) rejects (y02 zs) (k + 1)).1 = (Pure.judgeTo (y08 us) rejects (y02 zs) k).1 by rw [HST.out]; rfl)
     clear HST y0 y1
     go_wp2_with fail
     go_roundw
     case rel => exact ⟨k + 1, by omega, by go_num, _, by rw [HST2.out, ← HQS.out], by omega, HRD.out.keeps HKC.out⟩
     case measure => simp [intOf] <;> omega
    ·have HST2 := xhd (show (Pure.judgeTo (y08 us) rejects (y02 zs) (k + 1)).1 = (Pure.judgeTo (y08 us) rejects (y02 zs) k).1 ++ [(t, D)] by rw [HST.out]; rfl)
     have HCP := xhd (y7q Fx (.slice A1 D.length c1) t D wc (HRA.out.keeps HKC.out (fun _ _ h => h)) (by omega))
     clear HST
     go_wp2_with fail
     refine HCP.out.mono ?_
     rintro e w7 ⟨A3, c3, rfl, hu, hk7⟩
     have hkr : Keeps y01 wr w7 := HKC.out.trans hk7
     have HUU := xhd (HRD.out.fresh (hu.mono (G := fun b => wr.heap.size ≤ b) (fun b hb => Nat.le_trans HKC.out.size hb)))
     have HR2 := xhd (HRD.out.keeps hkr)
     clear hu hk7 hkr HCP y0 y1
     go_wp2_with (at_builtin; refine y0t ?_)
     unfold Hid
     refine y3d rfl (.tmp 51) (.tmp 54) rfl _ qs A3 c3 t D rfl rfl HR2.out (by omega) HUU.out ?_
     intro A4 c4 w8 hread hkx
     have HRead := xhd hread
     clear hread hkx
     go_wp2_with fail
     go_roundw
     case rel => exact ⟨k + 1, by omega, by go_num, qs ++ [(.slice A3 D.length c3, (t, D))], by rw [HST2.out, ← HQS.out]; simp [y02], by simp; omega, HRead.out⟩
     case measure => simp [intOf] <;> omega
  ·have hkk : k = zs.length := by omega
   subst hkk
   have d1 : decide ((zs.length : Int) < (zs.length : Int)) = false := decide_eq_false (by omega)
   have d2 : decide (zs.length < zs.length) = false := decide_eq_false (by omega)
   go_wp2
   go_ret
   exact ⟨_, qs, rfl, HQS.out, HRD.out⟩
end Go.Proofs.YtmgicbckgpdkcaaGreatDoor
