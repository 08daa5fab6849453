/- The document's Md4: the steps of a block. -/
import Derived.Test.YtmgicbckgpdkcaaGreatDoorL6
namespace Go.Proofs.YtmgicbckgpdkcaaGreatDoor
set_option maxRecDepth 100000
set_option maxHeartbeats 8000000
open _root_.Go.Lib renaming hid → xhd
open List renaming setIfInBounds_toArray → xqA, getElem_toArray → xqB, getElem_cons_succ → xqC, getElem_cons_zero → xqD, set_cons_succ → xqE, set_cons_zero → xqF
open Go.RowKit
theorem y12 {w : World} {o : Obj} {a : Addr} {v : Value} (h : w.cell? a = some v) : (w.alloc o).drew.cell? a = some v := (World.cell?_alloc_lt w o a (by rcases Nat.lt_or_ge a.block w.heap.size with hl | hg; exact hl; simp [World.cell?, Array.getElem?_eq_none hg] at h)).trans h
theorem y72 (c0 c1 c2 c3 c4 c7 c9 c15 c16 c17 c18 c19 c20 c21 c22 c23 c24 c25 c26 c27 c28 c29 c30 c31 c32 c33 c34 c35 c36 c37 c38 c39 c40 c41 c42 c43 c44 c45 c46 c47 c48 c49 c50 c51 c52 c53 c54 c55 c56 c57 c58 c59 c60 c61 c62 c63 c64 c65 c66 c67 c68 c163 c164 c165 c166 c167 c168 c169 c170 c171 c172 c173 c174 c175 c176 c177 c178 c179 c180 c181 c182 c183 c184 c185 c186 c187 c188 c189 c190 c191 c192 c193 c194 c195 c196 c197 : Value) (u12 u13 u14 u69 u70 u71 u72 u73 u74 u75 u76 u77 u78 u79 u80 u81 u82 u83 u84 u85 u86 u87 u88 u89 u90 u91 u92 u93 u94 u95 u96 u97 u98 u99 u100 u101 u102 u103 u104 u105 u106 u107 u108 u109 u110 u111 u112 u113 u114 u115 u116 u117 u118 u119 u120 u121 u122 u123 u124 u125 u126 u127 u128 u129 u130 u131 u132 u133 u134 u135 u136 u137 u138 u139 u140 u141 u142 u143 u144 u145 u146 u147 u148 u149 u150 u151 u152 u153 u154 u155 u156 u157 u158 u159 u160 u161 u162 : Value) (x : List UInt32) (hx : x.length = 16) (h : Pure.W4) (bo bt bx bq : Nat) (w0 : World) (hO : Blk w0 bo 3 (ints Pure.md4Order).toArray) (hT : Blk w0 bt 3 (ints Pure.md4Turns).toArray) (hX : Blk w0 bx 23 (u32s x).toArray) (hV : Blk w0 bq 23 (u32s h.list).toArray) (Q0 : Exit → Act → World → Prop)
  (hQ : ∀ (c : List PanicEntry) (a : Act) (d : Option Nat) (v : Value) (w : World), Q0 (.panic c) (a.put d v) w → Q0 (.panic c) a w)
  (hexit : ∀ (v12 v13 v14 v69 v70 v71 v72 v73 v74 v75 v76 v77 v78 v79 v80 v81 v82 v83 v84 v85 v86 v87 v88 v89 v90 v91 v92 v93 v94 v95 v96 v97 v98 v99 v100 v101 v102 v103 v104 v105 v106 v107 v108 v109 v110 v111 v112 v113 v114 v115 v116 v117 v118 v119 v120 v121 v122 v123 v124 v125 v126 v127 v128 v129 v130 v131 v132 v133 v134 v135 v136 v137 v138 v139 v140 v141 v142 v143 v144 v145 v146 v147 v148 v149 v150 v151 v152 v153 v154 v155 v156 v157 v158 v159 v160 v161 v162 : Value) (bv' : Nat) (wr : World), Blk wr bv' 23 (u32s (Pure.md4Steps x h 48).list).toArray → Below w0.heap.size w0 wr → (bv' = bq ∨ w0.heap.size ≤ bv') → Q0 (.exit 4) { tmps := (c0 :: c1 :: c2 :: c3 :: c4 :: .slice (some ⟨bo, 0, none⟩) 48 48 :: .slice (some ⟨bt, 0, none⟩) 12 12 :: c7 :: .slice (some ⟨bx, 0, none⟩) 16 16 :: c9 :: .slice (some ⟨bv', 0, none⟩) 4 4 :: .int .i64 ((48 : Nat) : Int) :: v12 :: v13 :: v14 :: c15 :: c16 :: c17 :: c18 :: c19 :: c20 :: c21 :: c22 :: c23 :: c24 :: c25 :: c26 :: c27 :: c28 :: c29 :: c30 :: c31 :: c32 :: c33 :: c34 :: c35 :: c36 :: c37 :: c38 :: c39 :: c40 :: c41 :: c42 :: c43 :: c44 :: c45 :: c46 :: c47 :: c48 :: c49 :: c50 :: c51 :: c52 :: c53 :: c54 :: c55 :: c56 :: c57 :: c58 :: c59 :: c60 :: c61 :: c62 :: c63 :: c64 :: c65 :: c66 :: c67 :: c68 :: v69 :: v70 :: v71 :: v72 :: v73 :: v74 :: v75 :: v76 :: v77 :: v78 :: v79 :: v80 :: v81 :: v82 :: v83 :: v84 :: v85 :: v86 :: v87 :: v88 :: v89 :: v90 :: v91 :: v92 :: v93 :: v94 :: v95 :: v96 :: v97 :: v98 :: v99 :: v100 :: v101 :: v102 :: v103 :: v104 :: v105 :: v106 :: v107 :: v108 :: v109 :: v110 :: v111 :: v112 :: v113 :: v114 :: v115 :: v116 :: v117 :: v118 :: v119 :: v120 :: v121 :: v122 :: v123 :: v124 :: v125 :: v126 :: v127 :: v128 :: v129 :: v130 :: v131 :: v132 :: v133 :: v134 :: v135 :: v136 :: v137 :: v138 :: v139 :: v140 :: v141 :: v142 :: v143 :: v144 :: v145 :: v146 :: v147 :: v148 :: v149 :: v150 :: v151 :: v152 :: v153 :: v154 :: v155 :: v156 :: v157 :: v158 :: v159 :: v160 :: v161 :: v162 :: c163 :: c164 :: c165 :: c166 :: c167 :: c168 :: c169 :: c170 :: c171 :: c172 :: c173 :: c174 :: c175 :: c176 :: c177 :: c178 :: c179 :: c180 :: c181 :: c182 :: c183 :: c184 :: c185 :: c186 :: c187 :: c188 :: c189 :: c190 :: c191 :: c192 :: c193 :: c194 :: c195 :: c196 :: c197 :: []).toArray, defers := [] } wr) :
  Code.wp Tryz.prog (Code.loop docBody3) Q0 { tmps := (c0 :: c1 :: c2 :: c3 :: c4 :: .slice (some ⟨bo, 0, none⟩) 48 48 :: .slice (some ⟨bt, 0, none⟩) 12 12 :: c7 :: .slice (some ⟨bx, 0, none⟩) 16 16 :: c9 :: .slice (some ⟨bq, 0, none⟩) 4 4 :: .int .i64 0 :: u12 :: u13 :: u14 :: c15 :: c16 :: c17 :: c18 :: c19 :: c20 :: c21 :: c22 :: c23 :: c24 :: c25 :: c26 :: c27 :: c28 :: c29 :: c30 :: c31 :: c32 :: c33 :: c34 :: c35 :: c36 :: c37 :: c38 :: c39 :: c40 :: c41 :: c42 :: c43 :: c44 :: c45 :: c46 :: c47 :: c48 :: c49 :: c50 :: c51 :: c52 :: c53 :: c54 :: c55 :: c56 :: c57 :: c58 :: c59 :: c60 :: c61 :: c62 :: c63 :: c64 :: c65 :: c66 :: c67 :: c68 :: u69 :: u70 :: u71 :: u72 :: u73 :: u74 :: u75 :: u76 :: u77 :: u78 :: u79 :: u80 :: u81 :: u82 :: u83 :: u84 :: u85 :: u86 :: u87 :: u88 :: u89 :: u90 :: u91 :: u92 :: u93 :: u94 :: u95 :: u96 :: u97 :: u98 :: u99 :: u100 :: u101 :: u102 :: u103 :: u104 :: u105 :: u106 :: u107 :: u108 :: u109 :: u110 :: u111 :: u112 :: u113 :: u114 :: u115 :: u116 :: u117 :: u118 :: u119 :: u120 :: u121 :: u122 :: u123 :: u124 :: u125 :: u126 :: u127 :: u128 :: u129 :: u130 :: u131 :: u132 :: u133 :: u134 :: u135 :: u136 :: u137 :: u138 :: u139 :: u140 :: u141 :: u142 :: u143 :: u144 :: u145 :: u146 :: u147 :: u148 :: u149 :: u150 :: u151 :: u152 :: u153 :: u154 :: u155 :: u156 :: u157 :: u158 :: u159 :: u160 :: u161 :: u162 :: c163 :: c164 :: c165 :: c166 :: c167 :: c168 :: c169 :: c170 :: c171 :: c172 :: c173 :: c174 :: c175 :: c176 :: c177 :: c178 :: c179 :: c180 :: c181 :: c182 :: c183 :: c184 :: c185 :: c186 :: c187 :: c188 :: c189 :: c190 :: c191 :: c192 :: c193 :: c194 :: c195 :: c196 :: c197 :: []).toArray, defers := [] } w0 := by
 conv => arg 2; arg 1; whnf
 have HO := xhd hO
 have HT := xhd hT
 have HX := xhd hX
 have HV0 := xhd hV
 clear hO hT hX hV
 go_loopw [10, 11] (fun v i wr => ∃ s bv : Nat, s ≤ 48 ∧ i = .int .i64 (s : Int) ∧ v = .slice (some ⟨bv, 0, none⟩) 4 4 ∧ Blk wr bv 23 (u32s (Pure.md4Steps x h s).list).toArray ∧ Below w0.heap.size w0 wr ∧ (bv = bq ∨ w0.heap.size ≤ bv)) (fun _ i _ => 48 - (intOf i).toNat)
 case atStart => exact ⟨0, bq, by omega, rfl, rfl, HV0.out, Below.refl _ _, .inl rfl⟩
 case round =>
  clear HV0
  obtain ⟨s, bv, hs, rfl, rfl, hV, hB, hbq⟩ := hrel
  by_cases hsl : s < 48
  ·clear hexit
   obtain ⟨v, hv⟩ : ∃ v, v = Pure.md4Steps x h s := ⟨_, rfl⟩
   rw [← hv] at hV
   have c0 : wr.cell? ⟨bv, 0, none⟩ = some (.int .u32 v.a.toNat) := by rw [hV.cell]; rfl
   have c1 : wr.cell? ⟨bv, 1, none⟩ = some (.int .u32 v.b.toNat) := by rw [hV.cell]; rfl
   have c2 : wr.cell? ⟨bv, 2, none⟩ = some (.int .u32 v.c.toNat) := by rw [hV.cell]; rfl
   have c3 : wr.cell? ⟨bv, 3, none⟩ = some (.int .u32 v.d.toNat) := by rw [hV.cell]; rfl
   obtain ⟨g1, hg1⟩ : ∃ g1, g1 = v.b &&& v.c := ⟨_, rfl⟩
   obtain ⟨g2, hg2⟩ : ∃ g2, g2 = ~~~v.b := ⟨_, rfl⟩
   obtain ⟨g3, hg3⟩ : ∃ g3, g3 = g2 &&& v.d := ⟨_, rfl⟩
   obtain ⟨f0, hf0⟩ : ∃ f0, f0 = g1 ||| g3 := ⟨_, rfl⟩
   have e1 := y1h v.b v.c
   have e2 := not_u32 v.b
   have e3 := y1h g2 v.d
   have e4 := y23 g1 g3
   rw [← hg1] at e1
   rw [← hg2] at e2
   rw [← hg3] at e3
   rw [← hf0] at e4
   have HV := xhd hV
   have HB := xhd hB
   have HVV := xhd hv
   have HF0 := xhd (show f0 = v.b &&& v.c ||| ~~~v.b &&& v.d by rw [hf0, hg3, hg2, hg1])
   have hs0 : (0 : Int) ≤ (s : Int) := by omega
   have hs1 : (s : Int) < 48 := by omega
   clear hV hB hv hf0 hg1 hg2 hg3 hbq
   have hsg : IntKind.u32.signed = false := rfl
   go_upto_region 17 with fail
   go_quiet (fail)
   obtain ⟨wb, hwb⟩ : ∃ wb, wb = wr.drewN nq := ⟨_, rfl⟩
   rw [← hwb]
   have b0' : wb.cell? ⟨bv, 0, none⟩ = some (.int .u32 v.a.toNat) := by rw [hwb]; exact c0
   have b1 : wb.cell? ⟨bv, 1, none⟩ = some (.int .u32 v.b.toNat) := by rw [hwb]; exact c1
   have b2 : wb.cell? ⟨bv, 2, none⟩ = some (.int .u32 v.c.toNat) := by rw [hwb]; exact c2
   have b3 : wb.cell? ⟨bv, 3, none⟩ = some (.int .u32 v.d.toNat) := by rw [hwb]; exact c3
   have KB := xhd (Keeps.of_drewN hwb)
   clear hwb c0 c1 c2 c3 e1 e2 e3 e4
   obtain ⟨p1, hp1⟩ : ∃ p1, p1 = v.b &&& v.c := ⟨_, rfl⟩
   obtain ⟨p2, hp2⟩ : ∃ p2, p2 = v.b &&& v.d := ⟨_, rfl⟩
   obtain ⟨p3, hp3⟩ : ∃ p3, p3 = p1 ||| p2 := ⟨_, rfl⟩
   obtain ⟨p4, hp4⟩ : ∃ p4, p4 = v.c &&& v.d := ⟨_, rfl⟩
   obtain ⟨f1, hf1⟩ : ∃ f1, f1 = p3 ||| p4 := ⟨_, rfl⟩
   have e1 := y1h v.b v.c
   have e2 := y1h v.b v.d
   have e3 := y23 p1 p2
   have e4 := y1h v.c v.d
   have e5 := y23 p3 p4
   rw [← hp1] at e1
   rw [← hp2] at e2
   rw [← hp3] at e3
   rw [← hp4] at e4
   rw [← hf1] at e5
   have HF1 := xhd (show f1 = v.b &&& v.c ||| v.b &&& v.d ||| v.c &&& v.d by rw [hf1, hp3, hp4, hp2, hp1])
   obtain ⟨fa, hfa⟩ : ∃ fa, fa = if s < 16 then f0 else f1 := ⟨_, rfl⟩
   obtain ⟨ta, hta⟩ : ∃ ta : UInt32, ta = if s < 16 then 0 else 0x5a827999 := ⟨_, rfl⟩
   have HFA := xhd hfa
   have HTA := xhd hta
   clear hp1 hp2 hp3 hp4 hf1 hfa hta
   go_upto_if 90 with fail
   go_cut [12, 13] from 69 to 162 (fun f t wx => f = .int .u32 fa.toNat ∧ t = .int .u32 ta.toNat ∧ ∃ n, wx = wb.drewN n)
   case first =>
    by_cases h16 : s < 16
    ·have h16' : ¬ (16 : Int) ≤ (s : Int) := by omega
     have hfa : fa = f0 := by rw [HFA.out, if_pos h16]
     have hta : ta = 0 := by rw [HTA.out, if_pos h16]
     go_wp2_with fail
     go_meet
     case rel => exact ⟨by rw [hfa], by rw [hta]; rfl, 0, rfl⟩
    ·have h16' : (16 : Int) ≤ (s : Int) := by omega
     have hfa : fa = f1 := by rw [HFA.out, if_neg h16]
     have hta : ta = 0x5a827999 := by rw [HTA.out, if_neg h16]
     clear h16
     go_upto_region 20 with fail
     go_quiet (fail)
     go_wp2_with fail
     go_meet
     case rel => exact ⟨by rw [hfa], by rw [hta]; rfl, _, rfl⟩
   case rest =>
   obtain ⟨rfl, rfl, n1, hn1⟩ := hcut
   have d0 : wc.cell? ⟨bv, 0, none⟩ = some (.int .u32 v.a.toNat) := by rw [hn1]; exact b0'
   have d1 : wc.cell? ⟨bv, 1, none⟩ = some (.int .u32 v.b.toNat) := by rw [hn1]; exact b1
   have d2 : wc.cell? ⟨bv, 2, none⟩ = some (.int .u32 v.c.toNat) := by rw [hn1]; exact b2
   have d3 : wc.cell? ⟨bv, 3, none⟩ = some (.int .u32 v.d.toNat) := by rw [hn1]; exact b3
   have KC := xhd (KB.out.trans (Keeps.of_drewN hn1))
   clear b0' b1 b2 b3 hn1 KB e1 e2 e3 e4 e5
   obtain ⟨p5, hp5⟩ : ∃ p5, p5 = v.b ^^^ v.c := ⟨_, rfl⟩
   obtain ⟨f2, hf2⟩ : ∃ f2, f2 = p5 ^^^ v.d := ⟨_, rfl⟩
   have e1 := y2y v.b v.c
   have e2 := y2y p5 v.d
   rw [← hp5] at e1
   rw [← hf2] at e2
   have HF2 := xhd (show f2 = v.b ^^^ v.c ^^^ v.d by rw [hf2, hp5])
   obtain ⟨fb, hfb⟩ : ∃ fb, fb = if s < 32 then fa else f2 := ⟨_, rfl⟩
   obtain ⟨tb, htb⟩ : ∃ tb : UInt32, tb = if s < 32 then ta else 0x6ed9eba1 := ⟨_, rfl⟩
   have HFB := xhd hfb
   have HTB := xhd htb
   clear hp5 hf2 hfb htb
   go_upto_if 115 with fail
   go_cut [12, 13] from 69 to 162 (fun f t wx => f = .int .u32 fb.toNat ∧ t = .int .u32 tb.toNat ∧ ∃ n, wx = wc.drewN n)
   case first =>
    by_cases h32 : s < 32
    ·have h32' : ¬ (32 : Int) ≤ (s : Int) := by omega
     have hfb : fb = fa := by rw [HFB.out, if_pos h32]
     have htb : tb = ta := by rw [HTB.out, if_pos h32]
     clear h32
     go_wp2_with fail
     go_meet
     case rel => exact ⟨by rw [hfb], by rw [htb], 0, rfl⟩
    ·have h32' : (32 : Int) ≤ (s : Int) := by omega
     have hfb : fb = f2 := by rw [HFB.out, if_neg h32]
     have htb : tb = 0x6ed9eba1 := by rw [HTB.out, if_neg h32]
     clear h32
     go_upto_region 23 with fail
     go_quiet (fail)
     go_wp2_with fail
     go_meet
     case rel => exact ⟨by rw [hfb], by rw [htb]; rfl, _, rfl⟩
   case rest =>
   obtain ⟨rfl, rfl, n2, hn2⟩ := hcut
   have q0 : wc.cell? ⟨bv, 0, none⟩ = some (.int .u32 v.a.toNat) := by rw [hn2]; exact d0
   have q1 : wc.cell? ⟨bv, 1, none⟩ = some (.int .u32 v.b.toNat) := by rw [hn2]; exact d1
   have q2 : wc.cell? ⟨bv, 2, none⟩ = some (.int .u32 v.c.toNat) := by rw [hn2]; exact d2
   have q3 : wc.cell? ⟨bv, 3, none⟩ = some (.int .u32 v.d.toNat) := by rw [hn2]; exact d3
   have kc := KC.out.trans (Keeps.of_drewN hn2)
   have hfF : fb = Pure.md4F s v.b v.c v.d := by
    rw [HFB.out, HFA.out, HF0.out, HF1.out, HF2.out]
    unfold Pure.md4F
    by_cases h16 : s < 16
    ·rw [if_pos (show s < 32 by omega), if_pos h16, if_pos h16]
    ·by_cases h32 : s < 32
     ·rw [if_pos h32, if_neg h16, if_neg h16, if_pos h32]
     ·rw [if_neg h32, if_neg h16, if_neg h32]
   have htT : tb = Pure.md4T s := by
    rw [HTB.out, HTA.out]
    unfold Pure.md4T
    by_cases h16 : s < 16
    ·rw [if_pos (show s < 32 by omega), if_pos h16, if_pos h16]
    ·by_cases h32 : s < 32
     ·rw [if_pos h32, if_neg h16, if_neg h16, if_pos h32]
     ·rw [if_neg h32, if_neg h16, if_neg h32]
   obtain ⟨kq, hkq⟩ : ∃ kq, kq = Pure.md4Order.getD s 0 := ⟨_, rfl⟩
   have hkq2 : kq < 16 := by rw [hkq]; exact Pure.md4Order_range _ hsl
   have hB1 := Below.quiet HB.out kc HB.out.size
   have ck : wc.cell? ⟨bo, s, none⟩ = some (.int .i64 (kq : Int)) := by
    rw [((HO.out.below HB.out HO.out.lt).keeps kc (fun h => h)).cell, hkq, ← ints_at Pure.md4Order s hsl]; simp
   have cx : wc.cell? ⟨bx, kq, none⟩ = some (.int .u32 (x.getD kq 0).toNat) := by
    rw [((HX.out.below HB.out HX.out.lt).keeps kc (fun h => h)).cell, ← y19 x kq (by omega)]; simp
   obtain ⟨xv, hxv⟩ : ∃ xv, xv = x.getD kq 0 := ⟨_, rfl⟩
   rw [← hxv] at cx
   obtain ⟨e, he⟩ : ∃ e, e = s / 16 := ⟨_, rfl⟩
   obtain ⟨r, hr⟩ : ∃ r, r = s % 4 := ⟨_, rfl⟩
   obtain ⟨z, hz⟩ : ∃ z, z = e * 4 + r := ⟨_, rfl⟩
   have heI : (s : Int) / 16 = (e : Int) := by omega
   have hrI : (s : Int) % 4 = (r : Int) := by omega
   have hzI : (e : Int) * 4 + (r : Int) = (z : Int) := by omega
   have he0 : (0 : Int) ≤ (e : Int) := by omega
   have he1 : (e : Int) < 3 := by omega
   have hr0 : (0 : Int) ≤ (r : Int) := by omega
   have hr1 : (r : Int) < 4 := by omega
   have hz0 : (0 : Int) ≤ (z : Int) := by omega
   have hz1 : (z : Int) < 12 := by omega
   have hwe : IntKind.i64.wrap (e : Int) = (e : Int) := IntWalk.i64_in _ (by omega)
   have hwr : IntKind.i64.wrap (r : Int) = (r : Int) := IntWalk.i64_in _ (by omega)
   have hwz : IntKind.i64.wrap (z : Int) = (z : Int) := IntWalk.i64_in _ (by omega)
   have hwk : IntKind.i64.wrap (kq : Int) = (kq : Int) := IntWalk.i64_in _ (by omega)
   have hk0 : (0 : Int) ≤ (kq : Int) := by omega
   have hk1 : (kq : Int) < 16 := by omega
   obtain ⟨tq, htq⟩ : ∃ tq, tq = Pure.md4Turns.getD z 0 := ⟨_, rfl⟩
   have hzr : z = s / 16 * 4 + s % 4 := by omega
   obtain ⟨ht1, ht2⟩ := Pure.md4Turns_range s hsl
   rw [← hzr, ← htq] at ht1 ht2
   have ct : wc.cell? ⟨bt, z, none⟩ = some (.int .i64 (tq : Int)) := by
    rw [((HT.out.below HB.out HT.out.lt).keeps kc (fun h => h)).cell, htq, ← ints_at Pure.md4Turns z (by show z < 12; omega)]; simp
   obtain ⟨m1, hm1⟩ : ∃ m1, m1 = v.a + fb := ⟨_, rfl⟩
   obtain ⟨m2, hm2⟩ : ∃ m2, m2 = m1 + xv := ⟨_, rfl⟩
   obtain ⟨m3, hm3⟩ : ∃ m3, m3 = m2 + tb := ⟨_, rfl⟩
   obtain ⟨m4, hm4⟩ : ∃ m4, m4 = Pure.rotl m3 tq := ⟨_, rfl⟩
   have i1 := y13 v.a fb
   have i2 := y13 m1 xv
   have i3 := y13 m2 tb
   rw [← hm1] at i1
   rw [← hm2] at i2
   rw [← hm3] at i3
   have hl := rotl_any m3 tq ht1 ht2
   rw [← hm4] at hl
   have HL := xhd hl
   have hnext : Pure.md4Steps x h (s + 1) = ⟨v.d, m4, v.b, v.c⟩ := by
    show Pure.md4Step x s (Pure.md4Steps x h s) = _
    rw [← HVV.out]
    unfold Pure.md4Step
    rw [← hfF, ← htT, ← hkq, ← hxv, ← hzr, ← htq, ← hm1, ← hm2, ← hm3, ← hm4]
   have HN := xhd hnext
   have KD := xhd hB1
   clear hn2 kc KC hfF htT hkq hxv he hr hz htq hzr hm1 hm2 hm3 hm4 hl hnext hB1 HFA HFB HTA HTB HF0 HF1 HF2 HVV HB d0 d1 d2 d3 e1 e2
   go_upto_region 25 with fail
   go_quiet (refine Calls.quiet_of_same (HL.out _))
   obtain ⟨wd, hwd⟩ : ∃ wd, wd = wc.drewN nq := ⟨_, rfl⟩
   rw [← hwd]
   have r1 : wd.cell? ⟨bv, 1, none⟩ = some (.int .u32 v.b.toNat) := by rw [hwd]; exact q1
   have r2 : wd.cell? ⟨bv, 2, none⟩ = some (.int .u32 v.c.toNat) := by rw [hwd]; exact q2
   have r3 : wd.cell? ⟨bv, 3, none⟩ = some (.int .u32 v.d.toNat) := by rw [hwd]; exact q3
   have KE := xhd (Below.quiet KD.out (Keeps.of_drewN hwd) KD.out.size)
   clear q0 q1 q2 q3 ck cx ct hwd KD i1 i2 i3 HL
   go_upto_region 26 with fail
   refine y0i (fun w' => w'.cell? ⟨bv, 1, none⟩ = some (.int .u32 v.b.toNat) ∧ w'.cell? ⟨bv, 2, none⟩ = some (.int .u32 v.c.toNat) ∧ w'.cell? ⟨bv, 3, none⟩ = some (.int .u32 v.d.toNat)) 10 12 rfl (by kernel_rfl) ⟨r1, r2, r3⟩ (fun hHeld => ?_)
   iterate 10
    refine y0t rfl (by kernel_rfl) (fun _ _ _ h => hQ _ _ _ _ _ h) (Or.inl ⟨by rfl, by intro w hSw; obtain ⟨s0, s1, s2⟩ := hSw; go_simp; try with_reducible rfl⟩) hHeld.out ?_
    simp only [Act.put, xqA, Nat.reduceAdd, xqB, xqC, xqD, xqE, xqF]
   refine y0u (by kernel_rfl) rfl (fun K hK => ?_)
   clear hHeld
   go_simp
   refine hK.out _ _ (fun h => absurd rfl h) ?_
   clear hK K
   refine y0u (by kernel_rfl) rfl (fun K hK => ?_)
   go_simp
   refine hK.out _ _ (fun _ => ⟨(y12 r1), (y12 r2), (y12 r3)⟩) ?_
   clear hK K
   refine y0f (by kernel_rfl) ?_ _
   go_wp2_with fail
   refine ⟨⟨s + 1, wd.heap.size, by omega, by go_num, rfl, ?_, ?_, .inr KE.out.size⟩, by simp [intOf]; omega⟩
   ·rw [HN.out]
    exact (Blk.new wd 23 _).drew
   ·exact Below.drew ((KE.out).alloc KE.out.size _)
  ·have hqq : s = 48 := by omega
   subst hqq
   clear hs hsl
   go_wp2_with fail
   exact hexit _ _ _ _ _ _ _ _ _ _ _ _ _ _ _ _ _ _ _ _ _ _ _ _ _ _ _ _ _ _ _ _ _ _ _ _ _ _ _ _ _ _ _ _ _ _ _ _ _ _ _ _ _ _ _ _ _ _ _ _ _ _ _ _ _ _ _ _ _ _ _ _ _ _ _ _ _ _ _ _ _ _ _ _ _ _ _ _ _ _ _ _ _ _ _ _ _ bv wr hV hB hbq
theorem y7l (c0 c1 c2 c4 c5 c6 c7 c8 c9 c11 c12 c13 c14 c16 c17 c18 c19 c20 c21 c22 c23 c24 c25 c26 c27 c28 c29 c30 c31 c32 c33 c34 c35 c36 c37 c38 c39 c40 c41 c42 c43 c44 c45 c46 c47 c48 c49 c50 c51 c52 c53 c54 c55 c56 c57 c58 c59 c60 c61 c62 c63 c64 c65 c66 c67 c68 c69 c70 c71 c72 c73 c74 c75 c76 c77 c78 c79 c80 c81 c82 c83 c84 c85 c86 c87 c88 c89 c90 c91 c92 c93 c94 c95 c96 c97 c98 c99 c100 c101 c102 c103 c104 c105 c106 c107 c108 c109 c110 c111 c112 c113 c114 c115 c116 c117 c118 c119 c120 c121 c122 c123 c124 c125 c126 c127 c128 c129 c130 c131 c132 c133 c134 c135 c136 c137 c138 c139 c140 c141 c142 c143 c144 c145 c146 c147 c148 c149 c150 c151 c152 c153 c154 c155 c156 c157 c158 c159 c160 c161 c162 c179 c180 c181 c182 c183 c184 c185 c186 c187 c188 c189 c190 c191 c192 c193 c194 c195 c196 c197 : Value) (u163 u164 u165 u166 u167 u168 u169 u170 u171 u172 u173 u174 u175 u176 u177 u178 : Value) (h v : Pure.W4) (bh bv : Nat) (hne : bv ≠ bh) (w0 : World) (hH : Blk w0 bh 23 (u32s h.list).toArray) (hV : Blk w0 bv 23 (u32s v.list).toArray) (Q0 : Exit → Act → World → Prop)
  (hQ : ∀ (c : List PanicEntry) (a : Act) (d : Option Nat) (v : Value) (w : World), Q0 (.panic c) (a.put d v) w → Q0 (.panic c) a w)
  (hexit : ∀ (v163 v164 v165 v166 v167 v168 v169 v170 v171 v172 v173 v174 v175 v176 v177 v178 : Value) (wr : World), Blk wr bh 23 (u32s (Pure.W4.list ⟨h.a + v.a, h.b + v.b, h.c + v.c, h.d + v.d⟩)).toArray → Keeps (only bh) w0 wr → Q0 (.exit 6) { tmps := (c0 :: c1 :: c2 :: .slice (some ⟨bh, 0, none⟩) 4 4 :: c4 :: c5 :: c6 :: c7 :: c8 :: c9 :: .slice (some ⟨bv, 0, none⟩) 4 4 :: c11 :: c12 :: c13 :: c14 :: .int .i64 ((4 : Nat) : Int) :: c16 :: c17 :: c18 :: c19 :: c20 :: c21 :: c22 :: c23 :: c24 :: c25 :: c26 :: c27 :: c28 :: c29 :: c30 :: c31 :: c32 :: c33 :: c34 :: c35 :: c36 :: c37 :: c38 :: c39 :: c40 :: c41 :: c42 :: c43 :: c44 :: c45 :: c46 :: c47 :: c48 :: c49 :: c50 :: c51 :: c52 :: c53 :: c54 :: c55 :: c56 :: c57 :: c58 :: c59 :: c60 :: c61 :: c62 :: c63 :: c64 :: c65 :: c66 :: c67 :: c68 :: c69 :: c70 :: c71 :: c72 :: c73 :: c74 :: c75 :: c76 :: c77 :: c78 :: c79 :: c80 :: c81 :: c82 :: c83 :: c84 :: c85 :: c86 :: c87 :: c88 :: c89 :: c90 :: c91 :: c92 :: c93 :: c94 :: c95 :: c96 :: c97 :: c98 :: c99 :: c100 :: c101 :: c102 :: c103 :: c104 :: c105 :: c106 :: c107 :: c108 :: c109 :: c110 :: c111 :: c112 :: c113 :: c114 :: c115 :: c116 :: c117 :: c118 :: c119 :: c120 :: c121 :: c122 :: c123 :: c124 :: c125 :: c126 :: c127 :: c128 :: c129 :: c130 :: c131 :: c132 :: c133 :: c134 :: c135 :: c136 :: c137 :: c138 :: c139 :: c140 :: c141 :: c142 :: c143 :: c144 :: c145 :: c146 :: c147 :: c148 :: c149 :: c150 :: c151 :: c152 :: c153 :: c154 :: c155 :: c156 :: c157 :: c158 :: c159 :: c160 :: c161 :: c162 :: v163 :: v164 :: v165 :: v166 :: v167 :: v168 :: v169 :: v170 :: v171 :: v172 :: v173 :: v174 :: v175 :: v176 :: v177 :: v178 :: c179 :: c180 :: c181 :: c182 :: c183 :: c184 :: c185 :: c186 :: c187 :: c188 :: c189 :: c190 :: c191 :: c192 :: c193 :: c194 :: c195 :: c196 :: c197 :: []).toArray, defers := [] } wr) :
  Code.wp Tryz.prog (Code.loop docBody4) Q0 { tmps := (c0 :: c1 :: c2 :: .slice (some ⟨bh, 0, none⟩) 4 4 :: c4 :: c5 :: c6 :: c7 :: c8 :: c9 :: .slice (some ⟨bv, 0, none⟩) 4 4 :: c11 :: c12 :: c13 :: c14 :: .int .i64 0 :: c16 :: c17 :: c18 :: c19 :: c20 :: c21 :: c22 :: c23 :: c24 :: c25 :: c26 :: c27 :: c28 :: c29 :: c30 :: c31 :: c32 :: c33 :: c34 :: c35 :: c36 :: c37 :: c38 :: c39 :: c40 :: c41 :: c42 :: c43 :: c44 :: c45 :: c46 :: c47 :: c48 :: c49 :: c50 :: c51 :: c52 :: c53 :: c54 :: c55 :: c56 :: c57 :: c58 :: c59 :: c60 :: c61 :: c62 :: c63 :: c64 :: c65 :: c66 :: c67 :: c68 :: c69 :: c70 :: c71 :: c72 :: c73 :: c74 :: c75 :: c76 :: c77 :: c78 :: c79 :: c80 :: c81 :: c82 :: c83 :: c84 :: c85 :: c86 :: c87 :: c88 :: c89 :: c90 :: c91 :: c92 :: c93 :: c94 :: c95 :: c96 :: c97 :: c98 :: c99 :: c100 :: c101 :: c102 :: c103 :: c104 :: c105 :: c106 :: c107 :: c108 :: c109 :: c110 :: c111 :: c112 :: c113 :: c114 :: c115 :: c116 :: c117 :: c118 :: c119 :: c120 :: c121 :: c122 :: c123 :: c124 :: c125 :: c126 :: c127 :: c128 :: c129 :: c130 :: c131 :: c132 :: c133 :: c134 :: c135 :: c136 :: c137 :: c138 :: c139 :: c140 :: c141 :: c142 :: c143 :: c144 :: c145 :: c146 :: c147 :: c148 :: c149 :: c150 :: c151 :: c152 :: c153 :: c154 :: c155 :: c156 :: c157 :: c158 :: c159 :: c160 :: c161 :: c162 :: u163 :: u164 :: u165 :: u166 :: u167 :: u168 :: u169 :: u170 :: u171 :: u172 :: u173 :: u174 :: u175 :: u176 :: u177 :: u178 :: c179 :: c180 :: c181 :: c182 :: c183 :: c184 :: c185 :: c186 :: c187 :: c188 :: c189 :: c190 :: c191 :: c192 :: c193 :: c194 :: c195 :: c196 :: c197 :: []).toArray, defers := [] } w0 := by
 conv => arg 2; arg 1; whnf
 have HH0 := xhd hH
 have HV := xhd hV
 have HNE := xhd hne
 clear hH hV hne
 go_loopw [15] (fun i wr => ∃ q : Nat, q ≤ 4 ∧ i = .int .i64 (q : Int) ∧ Blk wr bh 23 (u32s (Pure.sumTo h v q)).toArray ∧ Keeps (only bh) w0 wr) (fun i _ => 4 - (intOf i).toNat)
 case atStart => exact ⟨0, by omega, rfl, by rw [Pure.sumTo_zero]; exact HH0.out, Keeps.refl _ _⟩
 case round =>
  clear HH0
  obtain ⟨q, hq, rfl, hS, hK⟩ := hrel
  by_cases hql : q < 4
  ·clear hexit
   have hi0 : (0 : Int) ≤ (q : Int) := by omega
   have hi1 : (q : Int) < 4 := by omega
   have hV := HV.out.keeps hK (fun e => HNE.out e)
   have hnext := Pure.sumTo_succ h v q hql
   obtain ⟨S, hSS⟩ : ∃ S, S = Pure.sumTo h v q := ⟨_, rfl⟩
   have hS4 : S.length = 4 := by rw [hSS]; rfl
   rw [← hSS] at hS hnext
   obtain ⟨L, hL⟩ : ∃ L, L = v.list := ⟨_, rfl⟩
   have hL4 : L.length = 4 := by rw [hL]; rfl
   rw [← hL] at hV hnext
   obtain ⟨y, hy⟩ : ∃ y, y = S.getD q 0 := ⟨_, rfl⟩
   obtain ⟨z, hz⟩ : ∃ z, z = L.getD q 0 := ⟨_, rfl⟩
   have k0 : wr.cell? ⟨bh, q, none⟩ = some (.int .u32 y.toNat) := by rw [hS.cell, hy, ← y19 S q (by omega)]; simp
   have k1 : wr.cell? ⟨bv, q, none⟩ = some (.int .u32 z.toNat) := by rw [hV.cell, hz, ← y19 L q (by omega)]; simp
   have f0 : wr.frozen? ⟨bh, q, none⟩ = false := hS.frozen q
   obtain ⟨s, hs⟩ : ∃ s, s = y + z := ⟨_, rfl⟩
   have a1 := y13 y z
   rw [← hs] at a1
   rw [← hy, ← hz, ← hs] at hnext
   have HS := xhd hS
   have HN := xhd hnext
   have HK := xhd hK
   clear hV hK hSS hS4 hL hL4 hy hz hs hS hnext
   go_upto_region 30 with fail
   refine y0i (fun w' => w'.cell? ⟨bh, q, none⟩ = some (.int .u32 y.toNat) ∧ w'.cell? ⟨bv, q, none⟩ = some (.int .u32 z.toNat)) 12 13 rfl (by kernel_rfl) ⟨k0, k1⟩ (fun hHeld => ?_)
   iterate 12
    refine y0t rfl (by kernel_rfl) (fun _ _ _ h => hQ _ _ _ _ _ h) (Or.inl ⟨by rfl, by intro w hSw; obtain ⟨s0, s1⟩ := hSw; go_simp; try with_reducible rfl⟩) hHeld.out ?_
    simp only [Act.put, xqA, Nat.reduceAdd, xqB, xqC, xqD, xqE, xqF]
   refine y0u (by kernel_rfl) rfl (fun K hK => ?_)
   clear hHeld
   go_simp
   refine hK.out _ _ (fun h => absurd rfl h) ?_
   clear hK K
   refine y0f (by kernel_rfl) ?_ _
   go_wp2_with fail
   go_roundw
   case rel =>
    refine ⟨q + 1, by omega, by go_num, ?_, ?_⟩
    ·rw [HN.out, ← y36, a1]
     exact (HS.out.set q _).drew
    ·exact (HK.out.store bh q (fun _ => y0p bh) _).drew
   case measure => simp [intOf]; omega
  ·have hqq : q = 4 := by omega
   subst hqq
   clear hq hql
   go_wp2_with fail
   exact hexit _ _ _ _ _ _ _ _ _ _ _ _ _ _ _ _ wr (by rw [← Pure.sumTo_four]; exact hS) hK
theorem y8b (c0 c1 c2 c4 c5 c6 c7 c8 c9 c10 c11 c12 c13 c14 c15 c18 c19 c20 c21 c22 c23 c24 c25 c26 c27 c28 c29 c30 c31 c32 c33 c34 c35 c36 c37 c38 c39 c40 c41 c42 c43 c44 c45 c46 c47 c48 c49 c50 c51 c52 c53 c54 c55 c56 c57 c58 c59 c60 c61 c62 c63 c64 c65 c66 c67 c68 c69 c70 c71 c72 c73 c74 c75 c76 c77 c78 c79 c80 c81 c82 c83 c84 c85 c86 c87 c88 c89 c90 c91 c92 c93 c94 c95 c96 c97 c98 c99 c100 c101 c102 c103 c104 c105 c106 c107 c108 c109 c110 c111 c112 c113 c114 c115 c116 c117 c118 c119 c120 c121 c122 c123 c124 c125 c126 c127 c128 c129 c130 c131 c132 c133 c134 c135 c136 c137 c138 c139 c140 c141 c142 c143 c144 c145 c146 c147 c148 c149 c150 c151 c152 c153 c154 c155 c156 c157 c158 c159 c160 c161 c162 c163 c164 c165 c166 c167 c168 c169 c170 c171 c172 c173 c174 c175 c176 c177 c178 c197 : Value) (u179 u180 u181 u182 u183 u184 u185 u186 u187 u188 u189 u190 u191 u192 u193 u194 u195 u196 : Value) (h : Pure.W4) (bh n0 : Nat) (hbh : bh < n0 ∨ True) (w0 : World) (hH : Blk w0 bh 23 (u32s h.list).toArray) (hB0 : n0 ≤ w0.heap.size) (Q0 : Exit → Act → World → Prop)
  (_ : ∀ (c : List PanicEntry) (a : Act) (d : Option Nat) (v : Value) (w : World), Q0 (.panic c) (a.put d v) w → Q0 (.panic c) a w)
  (hexit : ∀ (v179 v180 v181 v182 v183 v184 v185 v186 v187 v188 v189 v190 v191 v192 v193 v194 v195 v196 : Value) (u : Value) (wr : World), wr.ownsRow n0 5 1 u 16 (u8s ((List.range 16).map (Pure.outLow h.list))) → Below n0 w0 wr → Q0 (.exit 8) { tmps := (c0 :: c1 :: c2 :: .slice (some ⟨bh, 0, none⟩) 4 4 :: c4 :: c5 :: c6 :: c7 :: c8 :: c9 :: c10 :: c11 :: c12 :: c13 :: c14 :: c15 :: u :: .int .i64 ((16 : Nat) : Int) :: c18 :: c19 :: c20 :: c21 :: c22 :: c23 :: c24 :: c25 :: c26 :: c27 :: c28 :: c29 :: c30 :: c31 :: c32 :: c33 :: c34 :: c35 :: c36 :: c37 :: c38 :: c39 :: c40 :: c41 :: c42 :: c43 :: c44 :: c45 :: c46 :: c47 :: c48 :: c49 :: c50 :: c51 :: c52 :: c53 :: c54 :: c55 :: c56 :: c57 :: c58 :: c59 :: c60 :: c61 :: c62 :: c63 :: c64 :: c65 :: c66 :: c67 :: c68 :: c69 :: c70 :: c71 :: c72 :: c73 :: c74 :: c75 :: c76 :: c77 :: c78 :: c79 :: c80 :: c81 :: c82 :: c83 :: c84 :: c85 :: c86 :: c87 :: c88 :: c89 :: c90 :: c91 :: c92 :: c93 :: c94 :: c95 :: c96 :: c97 :: c98 :: c99 :: c100 :: c101 :: c102 :: c103 :: c104 :: c105 :: c106 :: c107 :: c108 :: c109 :: c110 :: c111 :: c112 :: c113 :: c114 :: c115 :: c116 :: c117 :: c118 :: c119 :: c120 :: c121 :: c122 :: c123 :: c124 :: c125 :: c126 :: c127 :: c128 :: c129 :: c130 :: c131 :: c132 :: c133 :: c134 :: c135 :: c136 :: c137 :: c138 :: c139 :: c140 :: c141 :: c142 :: c143 :: c144 :: c145 :: c146 :: c147 :: c148 :: c149 :: c150 :: c151 :: c152 :: c153 :: c154 :: c155 :: c156 :: c157 :: c158 :: c159 :: c160 :: c161 :: c162 :: c163 :: c164 :: c165 :: c166 :: c167 :: c168 :: c169 :: c170 :: c171 :: c172 :: c173 :: c174 :: c175 :: c176 :: c177 :: c178 :: v179 :: v180 :: v181 :: v182 :: v183 :: v184 :: v185 :: v186 :: v187 :: v188 :: v189 :: v190 :: v191 :: v192 :: v193 :: v194 :: v195 :: v196 :: c197 :: []).toArray, defers := [] } wr) :
  Code.wp Tryz.prog (Code.loop docBody5) Q0 { tmps := (c0 :: c1 :: c2 :: .slice (some ⟨bh, 0, none⟩) 4 4 :: c4 :: c5 :: c6 :: c7 :: c8 :: c9 :: c10 :: c11 :: c12 :: c13 :: c14 :: c15 :: .slice none 0 0 :: .int .i64 0 :: c18 :: c19 :: c20 :: c21 :: c22 :: c23 :: c24 :: c25 :: c26 :: c27 :: c28 :: c29 :: c30 :: c31 :: c32 :: c33 :: c34 :: c35 :: c36 :: c37 :: c38 :: c39 :: c40 :: c41 :: c42 :: c43 :: c44 :: c45 :: c46 :: c47 :: c48 :: c49 :: c50 :: c51 :: c52 :: c53 :: c54 :: c55 :: c56 :: c57 :: c58 :: c59 :: c60 :: c61 :: c62 :: c63 :: c64 :: c65 :: c66 :: c67 :: c68 :: c69 :: c70 :: c71 :: c72 :: c73 :: c74 :: c75 :: c76 :: c77 :: c78 :: c79 :: c80 :: c81 :: c82 :: c83 :: c84 :: c85 :: c86 :: c87 :: c88 :: c89 :: c90 :: c91 :: c92 :: c93 :: c94 :: c95 :: c96 :: c97 :: c98 :: c99 :: c100 :: c101 :: c102 :: c103 :: c104 :: c105 :: c106 :: c107 :: c108 :: c109 :: c110 :: c111 :: c112 :: c113 :: c114 :: c115 :: c116 :: c117 :: c118 :: c119 :: c120 :: c121 :: c122 :: c123 :: c124 :: c125 :: c126 :: c127 :: c128 :: c129 :: c130 :: c131 :: c132 :: c133 :: c134 :: c135 :: c136 :: c137 :: c138 :: c139 :: c140 :: c141 :: c142 :: c143 :: c144 :: c145 :: c146 :: c147 :: c148 :: c149 :: c150 :: c151 :: c152 :: c153 :: c154 :: c155 :: c156 :: c157 :: c158 :: c159 :: c160 :: c161 :: c162 :: c163 :: c164 :: c165 :: c166 :: c167 :: c168 :: c169 :: c170 :: c171 :: c172 :: c173 :: c174 :: c175 :: c176 :: c177 :: c178 :: u179 :: u180 :: u181 :: u182 :: u183 :: u184 :: u185 :: u186 :: u187 :: u188 :: u189 :: u190 :: u191 :: u192 :: u193 :: u194 :: u195 :: u196 :: c197 :: []).toArray, defers := [] } w0 := by
 conv => arg 2; arg 1; whnf
 have HH := xhd hH
 have HBh := xhd hbh
 have HB0 := xhd hB0
 clear hH hbh hB0
 go_loopw [16, 17] (fun v i wr => ∃ q : Nat, q ≤ 16 ∧ i = .int .i64 (q : Int) ∧ wr.ownsRow n0 5 1 v q (u8s ((List.range q).map (Pure.outLow h.list))) ∧ Below n0 w0 wr ∧ Blk wr bh 23 (u32s h.list).toArray ∧ n0 ≤ wr.heap.size) (fun _ i _ => 16 - (intOf i).toNat)
 case atStart => exact ⟨0, by omega, rfl, World.ownsRow_nil _ _ _ _, Below.refl _ _, HH.out, HB0.out⟩
 case round =>
  clear HH
  obtain ⟨q, hq, rfl, hW, hK, hS, hn⟩ := hrel
  obtain ⟨A2, c2, rfl⟩ := y04 hW
  by_cases hql : q < 16
  ·clear hexit
   obtain ⟨t, ht⟩ : ∃ t, t = q / 4 := ⟨_, rfl⟩
   obtain ⟨r, hr⟩ : ∃ r, r = q % 4 := ⟨_, rfl⟩
   have htI : (q : Int) / 4 = (t : Int) := by omega
   have hrI : (q : Int) % 4 = (r : Int) := by omega
   have ht1 : (0 : Int) ≤ (t : Int) := by omega
   have ht2 : (t : Int) < 4 := by omega
   have hr4 : r < 4 := by omega
   have hwt : IntKind.i64.wrap (t : Int) = (t : Int) := IntWalk.i64_in _ (by omega)
   have hwr : IntKind.i64.wrap (r : Int) = (r : Int) := IntWalk.i64_in _ (by omega)
   have k0 : wr.cell? ⟨bh, t, none⟩ = some (.int .u32 (h.list.getD t 0).toNat) := by rw [hS.cell, ← y19 h.list t (by rw [Pure.W4.list_length]; omega)]; simp
   obtain ⟨V, hV⟩ : ∃ V, V = h.list.getD t 0 := ⟨_, rfl⟩
   rw [← hV] at k0
   have hsh := shr_u32 V (8 * r) (by omega)
   obtain ⟨Y, hY⟩ : ∃ Y : UInt8, Y = Pure.outLow h.list q := ⟨_, rfl⟩
   have hmin : min (8 * (q % 4)) 32 = 8 * r := by omega
   have hYv : (V.toNat : Int) / 2 ^ (8 * r) % 256 = (Y.toNat : Int) := by rw [hsh, low_u32, hY]; unfold Pure.outLow; rw [← ht, ← hr, ← hV]
   have hnext : (List.range (q + 1)).map (Pure.outLow h.list) = (List.range q).map (Pure.outLow h.list) ++ [Y] := by rw [List.range_succ, List.map_append, hY]; rfl
   have HN := xhd hnext
   have HMin := xhd hmin
   have HYV := xhd hYv
   have HW := xhd hW
   have HK := xhd hK
   have HS := xhd hS
   have Hn := xhd hn
   clear ht hr hV hsh hY hmin hnext hW hK hS hn hYv
   go_wp2_with (at_builtin; refine y0d ?_)
   unfold Hid
   rw [HYV.out]
   have hn := Hn.out
   refine y0n rfl (.tmp 183) (.tmp 195) rfl n0 (.slice A2 q c2) q ((List.range q).map (Pure.outLow h.list)) (by simp) rfl (y0z HW.out (World.grownBy_alloc wr _ none) (by simp)) _ _ [Y] rfl (new1 wr Y) (by simp; omega) (by simp; omega) ?_
   intro v3 w3 hown3 hg3 hat3
   have HO3 := xhd hown3
   have HB3 := xhd (show Below n0 w0 w3 from ((HK.out.alloc hn _).grown hg3 (by simp; omega) (fun k hk => y06 HW.out k hk)))
   have HS3 := xhd (show Blk w3 bh 23 (u32s h.list).toArray from (HS.out.alloc _).grown hg3 (fun e => y24 HW.out HS.out (by decide) e.symm))
   have Hn3 := xhd (show n0 ≤ w3.heap.size by have := hg3.size; simp at this; omega)
   clear hown3 hg3 hat3 hn
   go_wp2_with fail
   go_roundw
   case rel =>
    refine ⟨q + 1, by omega, by go_num, ?_, HB3.out, HS3.out, Hn3.out⟩
    rw [HN.out]
    have h3 := HO3.out
    simpa using h3
   case measure => simp [intOf]; omega
  ·have hqq : q = 16 := by omega
   subst hqq
   clear hq hql
   go_wp2_with fail
   exact hexit _ _ _ _ _ _ _ _ _ _ _ _ _ _ _ _ _ _ _ wr hW hK
theorem docmd4_any (F : Nat → Prop) (x : Value) (bs : List UInt8) (w : World) (hF : ∀ b, F b → b < w.heap.size) (hbig : bs.length ≤ 10000000) (hr : Row w F 1 x bs.length (u8s bs)) :
  Calls Tryz.prog 112 #[x] w
   fun e w' => ∃ u, e = .returned u ∧ w'.ownsRow w.heap.size 5 1 u 16 (u8s (Pure.md4 bs)) ∧ Below w.heap.size w w' := by
 have HP := xhd (pad_any true F x bs)
 have HR := xhd hr
 have HF := xhd hF
 have hwant : Pure.md4 bs = (List.range 16).map (Pure.outLow (Pure.md4Blocks (Pure.pad true bs) ((Pure.pad true bs).length / 64)).list) := rfl
 obtain ⟨m, hm⟩ : ∃ m, m = Pure.pad true bs := ⟨_, rfl⟩
 obtain ⟨K, hK⟩ : ∃ K, K = m.length / 64 := ⟨_, rfl⟩
 have hmK : m.length = 64 * K := by have := Pure.pad_blocks true bs; rw [← hm] at this; omega
 have hK2 : K ≤ 1000000 := by have := Pure.pad_le true bs; rw [← hm] at this; omega
 rw [← hm, ← hK] at hwant
 rw [← hm, hmK] at HP
 have HW := xhd hwant
 have HM := xhd hmK
 clear hr hF hwant hm hK hmK
 go_enter Tryz.func112, Tryz.ntmps112
 go_upto_region 2 with fail
 obtain ⟨bh, hbh⟩ : ∃ bh, bh = w.heap.size := ⟨_, rfl⟩
 obtain ⟨w1, hw1⟩ : ∃ w1, w1 = w.alloc (.cells (u32s Pure.md4Start.list).toArray 23) := ⟨_, rfl⟩
 have e1 : w.alloc (.cells #[.int .u32 1732584193, .int .u32 4023233417, .int .u32 2562383102, .int .u32 271733878] 23) = w1 := hw1.symm
 rw [e1, ← hbh]
 have h1 : Blk w1 bh 23 (u32s (Pure.md4Blocks m 0).list).toArray := by rw [hw1, hbh]; exact Blk.new w _ _
 have hk1 : Below w.heap.size w w1 := by rw [hw1]; exact Keeps.to_below ((Keeps.refl _ w).alloc _)
 have hs1 : w1.heap.size = bh + 1 := by rw [hw1, hbh]; simp
 have hP := HP.out w1 (HR.out.keeps (Keeps.new hk1) (fun _ _ h => h)) (fun b hb => Nat.lt_of_lt_of_le (HF.out b hb) hk1.size) (by omega)
 have HP' := xhd hP
 have H1 := xhd h1
 have HK1 := xhd hk1
 have HBh := xhd hbh
 clear hP HP hw1 e1 h1 hk1 hbh HR HF
 go_wp2_with fail
 refine HP'.out.mono ?_
 rintro e w2 ⟨u4, rfl, hu4, hb2⟩
 have hs2 : bh + 1 ≤ w2.heap.size := by have := hb2.size; omega
 obtain ⟨A, c, rfl⟩ := y04 hu4
 have HU4 := xhd (Row.of_own hu4)
 have HO := xhd (fun b (hb : (Value.slice A (64 * K) c).ownBlock = some b) => And.intro (y06 hu4 b hb) (y0o hu4 b hb))
 have H2 := xhd (H1.out.below hb2 H1.out.lt)
 have HK2 := xhd (HK1.out.trans (hb2.mono HK1.out.size))
 have HS1 := xhd hs1
 clear HP' H1 HK1 hu4 hb2 hs1
 go_upto_region 5 with fail
 obtain ⟨bo, hbo⟩ : ∃ bo, bo = w2.heap.size := ⟨_, rfl⟩
 obtain ⟨w3, hw3⟩ : ∃ w3, w3 = (w2.alloc (.cells (ints Pure.md4Order).toArray 3)).alloc (.cells (ints Pure.md4Turns).toArray 3) := ⟨_, rfl⟩
 have hO3 : Blk w3 bo 3 (ints Pure.md4Order).toArray := by rw [hw3, hbo]; exact (Blk.new w2 _ _).alloc _
 have hT3 : Blk w3 (bo + 1) 3 (ints Pure.md4Turns).toArray := by
  rw [hw3, hbo]
  have := Blk.new (w2.alloc (.cells (ints Pure.md4Order).toArray 3)) 3 (ints Pure.md4Turns).toArray
  rw [World.size_alloc] at this
  exact this
 have hs3 : w3.heap.size = bo + 1 + 1 := by rw [hw3, hbo]; simp
 have hk3 : Keeps y01 w2 w3 := by rw [hw3]; exact ((Keeps.refl _ w2).alloc _).alloc _
 have H3 := xhd (H2.out.keeps hk3 (fun h => h))
 have HU3 := xhd ((HU4.out.strong.keeps hk3 (fun _ _ h => h)).mono (G := fun b => w1.heap.size ≤ b ∧ b < bo) (fun b hb => by rw [hbo]; exact HO.out b hb.1))
 have HK3 := xhd (Below.quiet HK2.out hk3 HK2.out.size)
 have HO3 := xhd hO3
 have HT3 := xhd hT3
 have HS3 := xhd hs3
 have HBo := xhd (show bh < bo by omega)
 have HB1 := xhd (show bh < w1.heap.size by have := HS1.out; omega)
 have HNw := xhd (show w.heap.size ≤ bo by have := HBh.out; omega)
 have e3 : (w2.alloc (.cells #[.int .i64 0, .int .i64 1, .int .i64 2, .int .i64 3, .int .i64 4, .int .i64 5, .int .i64 6, .int .i64 7, .int .i64 8, .int .i64 9, .int .i64 10, .int .i64 11, .int .i64 12, .int .i64 13, .int .i64 14, .int .i64 15, .int .i64 0, .int .i64 4, .int .i64 8, .int .i64 12, .int .i64 1, .int .i64 5, .int .i64 9, .int .i64 13, .int .i64 2, .int .i64 6, .int .i64 10, .int .i64 14, .int .i64 3, .int .i64 7, .int .i64 11, .int .i64 15, .int .i64 0, .int .i64 8, .int .i64 4, .int .i64 12, .int .i64 2, .int .i64 10, .int .i64 6, .int .i64 14, .int .i64 1, .int .i64 9, .int .i64 5, .int .i64 13, .int .i64 3, .int .i64 11, .int .i64 7, .int .i64 15] 3)).alloc (.cells #[.int .i64 3, .int .i64 7, .int .i64 11, .int .i64 19, .int .i64 3, .int .i64 5, .int .i64 9, .int .i64 13, .int .i64 3, .int .i64 9, .int .i64 11, .int .i64 15] 3) = w3 := hw3.symm
 rw [e3, ← hbo]
 clear hbo hw3 e3 hO3 hT3 hs3 hk3 H2 HU4 HK2 HO hs2
 go_wp2_with fail
 go_loopw [7] (fun i wr => ∃ k : Nat, k ≤ K ∧ i = .int .i64 ((64 * k : Nat) : Int) ∧ Blk wr bh 23 (u32s (Pure.md4Blocks m k).list).toArray ∧ Keeps (only bh) w3 wr) (fun i _ => 64 * K - (intOf i).toNat)
 case atStart => exact ⟨0, by omega, rfl, H3.out, Keeps.refl _ _⟩
 case round =>
  clear H3
  obtain ⟨k, hk, rfl, hH, hK⟩ := hrel
  have HH := xhd hH
  have HK := xhd hK
  have HR := xhd (HU3.out.keeps hK (fun b hb h => by have h : b = bh := h; have := HB1.out; omega))
  obtain ⟨p, hp⟩ : ∃ p, p = 64 * k := ⟨_, rfl⟩
  rw [← hp]
  have hp0 : (0 : Int) ≤ (p : Int) := by omega
  have hp1 : (p : Int) ≤ 64 * (K : Int) := by omega
  by_cases hkl : k < K
  ·have hp2 : (p : Int) < 64 * (K : Int) := by omega
   have HP0 := xhd hp
   clear hH hK hp hp1
   go_wp2_with (at_make; refine y0d ?_)
   unfold Hid
   refine y40 rfl _ _ rfl 16 .i64 .i64 rfl rfl (by omega) ?_
   intro w4 hX4 hk4 hs4
   obtain ⟨bx, hbx⟩ : ∃ bx, bx = wr.heap.size := ⟨_, rfl⟩
   rw [← hbx] at hX4 hs4 ⊢
   have hw3r := HK.out.size
   have HX4 := xhd hX4
   have HK4 := xhd hk4
   have HS4 := xhd hs4
   have HBx := xhd hbx
   have HBx2 := xhd (show bo + 1 < bx by have := HS3.out; omega)
   clear hX4 hk4 hs4 hbx hw3r
   go_wp2_with fail
   refine y73 _ _ _ _ _ _ _ _ _ _ _ _ _ _ _ _ _ _ _ _ _ _ _ _ _ _ _ _ _ _ _ _ _ _ _ _ _ _ _ _ _ _ _ _ _ _ _ _ _ _ _ _ _ _ _ _ _ _ _ _ _ _ _ _ _ _ _ _ _ _ _ _ _ _ _ _ _ _ _ _ _ _ _ _ _ _ _ _ _ _ _ _ _ _ _ _ _ _ _ _ _ _ _ _ _ _ _ _ _ _ _ _ _ _ _ _ _ _ _ _ _ _ _ _ _ _ _ _ _ _ _ _ _ _ _ _ _ _ _ _ _ _ _ _ _ _ _ _ _ _ _ _ _ _ _ _ _ _ _ _ _ _ _ _ _ _ _ _ _ _ _ _ _ _ _ _ _ _ _ _ _ _ _ _ _ _ _ _ _ _ _ _ _ _ A c m K p bx (by have := HP0.out; omega) HM.out (by omega) (fun b => w1.heap.size ≤ b ∧ b < bo) (fun hb => by have := HBx2.out; omega) w4 (HR.out.keeps HK4.out (fun _ _ h => h)) HX4.out _ (fun _ _ d _ _ h => by cases d <;> exact h) ?_
   intros
   rename_i w5 hX5 hk5
   have HX5 := xhd hX5
   have HK5 := xhd ((HK4.out.mono (T := only bx) (fun _ h => h.elim)).trans hk5)
   have hH5 := HH.out.keeps HK5.out (fun e => by have e : bh = bx := e; have := HBx2.out; have := HBo.out; omega)
   have HH5 := xhd hH5
   have s0 : w5.cell? ⟨bh, 0, none⟩ = some (.int .u32 (Pure.md4Blocks m k).a.toNat) := by rw [hH5.cell]; rfl
   have s1 : w5.cell? ⟨bh, 1, none⟩ = some (.int .u32 (Pure.md4Blocks m k).b.toNat) := by rw [hH5.cell]; rfl
   have s2 : w5.cell? ⟨bh, 2, none⟩ = some (.int .u32 (Pure.md4Blocks m k).c.toNat) := by rw [hH5.cell]; rfl
   have s3 : w5.cell? ⟨bh, 3, none⟩ = some (.int .u32 (Pure.md4Blocks m k).d.toNat) := by rw [hH5.cell]; rfl
   obtain ⟨st, hst⟩ : ∃ st, st = Pure.md4Blocks m k := ⟨_, rfl⟩
   rw [← hst] at s0 s1 s2 s3 HH5
   have HST := xhd hst
   have hw5 : w5.heap.size = bx + 1 ∨ True := .inr trivial
   clear hst hX5 hk5 hH5 HH HR HX4 hw5
   go_upto_region 13 with fail
   refine y0i (fun w' => w'.cell? ⟨bh, 0, none⟩ = some (.int .u32 st.a.toNat) ∧ w'.cell? ⟨bh, 1, none⟩ = some (.int .u32 st.b.toNat) ∧ w'.cell? ⟨bh, 2, none⟩ = some (.int .u32 st.c.toNat) ∧ w'.cell? ⟨bh, 3, none⟩ = some (.int .u32 st.d.toNat)) 12 14 rfl (by kernel_rfl) ⟨s0, s1, s2, s3⟩ (fun hHeld => ?_)
   iterate 12
    refine y0t rfl (by kernel_rfl) (fun _ _ _ h => h) (Or.inl ⟨by rfl, by intro w hSw; obtain ⟨s0, s1, s2, s3⟩ := hSw; go_simp; try with_reducible rfl⟩) hHeld.out ?_
    simp only [Act.put, xqA, Nat.reduceAdd, xqB, xqC, xqD, xqE, xqF]
   refine y0u (by kernel_rfl) rfl (fun KK hKK => ?_)
   clear hHeld
   go_simp
   refine hKK.out _ _ (fun h => absurd rfl h) ?_
   clear hKK KK
   refine y0u (by kernel_rfl) rfl (fun KK hKK => ?_)
   go_simp
   refine hKK.out _ _ (fun _ => ⟨y12 s0, y12 s1, y12 s2, y12 s3⟩) ?_
   clear hKK KK
   refine y0f (by kernel_rfl) ?_ _
   go_wp2_with fail
   obtain ⟨bv, hbv⟩ : ∃ bv, bv = w5.heap.size := ⟨_, rfl⟩
   obtain ⟨w6, hw6⟩ : ∃ w6, w6 = (w5.alloc (.cells (u32s st.list).toArray 23)).drew := ⟨_, rfl⟩
   have e6 : (w5.alloc (.cells #[.int .u32 st.a.toNat, .int .u32 st.b.toNat, .int .u32 st.c.toNat, .int .u32 st.d.toNat] 23)).drew = w6 := hw6.symm
   rw [e6, ← hbv]
   have hV6 : Blk w6 bv 23 (u32s st.list).toArray := by rw [hw6, hbv]; exact (Blk.new w5 _ _).drew
   have hk6 : Keeps y01 w5 w6 := by rw [hw6]; exact ((Keeps.refl _ w5).alloc _).drew
   have hs6 : w6.heap.size = bv + 1 := by rw [hw6, hbv]; exact World.size_alloc _ _
   have hk6' := hk6.mono (T := only bx) (fun _ h => h.elim)
   have HK6 := xhd (HK5.out.trans hk6')
   have HV6 := xhd hV6
   have HX6 := xhd (HX5.out.keeps hk6 (fun h => h))
   have HH6 := xhd (HH5.out.keeps hk6 (fun h => h))
   have HS6 := xhd hs6
   have HBv := xhd (show bh < bv by have := HK5.out.size; have := HBx.out; have := HBx2.out; have := HBo.out; omega)
   have HBv2 := xhd (show bx ≤ bv by have := HK5.out.size; have := HBx.out; omega)
   clear hbv hw6 e6 hV6 hk6 hs6 hk6' s0 s1 s2 s3 HX5 HH5 HK5 HK4 HS4
   have hO6 := (HO3.out.keeps HK.out (fun e => by have e : bo = bh := e; have := HBo.out; omega)).keeps HK6.out (fun e => by have e : bo = bx := e; have := HBx2.out; omega)
   have hT6 := (HT3.out.keeps HK.out (fun e => by have e : bo + 1 = bh := e; have := HBo.out; omega)).keeps HK6.out (fun e => by have e : bo + 1 = bx := e; have := HBx2.out; omega)
   refine y72 _ _ _ _ _ _ _ _ _ _ _ _ _ _ _ _ _ _ _ _ _ _ _ _ _ _ _ _ _ _ _ _ _ _ _ _ _ _ _ _ _ _ _ _ _ _ _ _ _ _ _ _ _ _ _ _ _ _ _ _ _ _ _ _ _ _ _ _ _ _ _ _ _ _ _ _ _ _ _ _ _ _ _ _ _ _ _ _ _ _ _ _ _ _ _ _ _ _ _ _ _ _ _ _ _ _ _ _ _ _ _ _ _ _ _ _ _ _ _ _ _ _ _ _ _ _ _ _ _ _ _ _ _ _ _ _ _ _ _ _ _ _ _ _ _ _ _ _ _ _ _ _ _ _ _ _ _ _ _ _ _ _ _ _ _ _ _ _ _ _ _ _ _ _ _ _ _ _ _ _ _ _ _ _ _ _ _ _ _ _ _ _ _ (Pure.wordsLow m p 64) (Pure.wordsLow_length _ _ _) st bo (bo + 1) bx bv w6 hO6 hT6 HX6.out HV6.out _ (fun _ _ d _ _ h => by cases d <;> exact h) ?_
   clear hO6 hT6
   intros
   rename_i bv2 w7 hV7 hb7 hq7
   have hne7 : bv2 ≠ bh := by have := HBv.out; have := HS6.out; omega
   have hlt6 := HH6.out.lt
   have hH7 := HH6.out.below hb7 HH6.out.lt
   have hp7 : Keeps (only bh) w3 w7 := by
    have k6 : Keeps (only bh) w3 w6 := HK.out.trans' HK6.out (fun i hi hlt => by have hi : i = bx := hi; have := HBx.out; have := HK.out.size; omega)
    exact k6.trans' (T := y01) (Keeps.new hb7) (fun _ h => h.elim)
   have HK7 := xhd hp7
   have HN7 := xhd hne7
   have HV7 := xhd hV7
   have HH7 := xhd hH7
   clear hne7 hlt6 hH7 hp7 hV7 hb7 hq7 HH6 HV6 HX6 HK6 HS6 HBv HBv2
   go_wp2_with fail
   refine y7l _ _ _ _ _ _ _ _ _ _ _ _ _ _ _ _ _ _ _ _ _ _ _ _ _ _ _ _ _ _ _ _ _ _ _ _ _ _ _ _ _ _ _ _ _ _ _ _ _ _ _ _ _ _ _ _ _ _ _ _ _ _ _ _ _ _ _ _ _ _ _ _ _ _ _ _ _ _ _ _ _ _ _ _ _ _ _ _ _ _ _ _ _ _ _ _ _ _ _ _ _ _ _ _ _ _ _ _ _ _ _ _ _ _ _ _ _ _ _ _ _ _ _ _ _ _ _ _ _ _ _ _ _ _ _ _ _ _ _ _ _ _ _ _ _ _ _ _ _ _ _ _ _ _ _ _ _ _ _ _ _ _ _ _ _ _ _ _ _ _ _ _ _ _ _ _ _ _ _ _ _ _ _ _ _ _ _ _ _ _ _ _ _ _ _ st (Pure.md4Steps (Pure.wordsLow m p 64) st 48) bh bv2 HN7.out w7 HH7.out HV7.out _ (fun _ _ d _ _ h => by cases d <;> exact h) ?_
   intros
   rename_i w8 hH8 hk8
   have hH8' : Blk w8 bh 23 (u32s (Pure.md4Blocks m (k + 1)).list).toArray := by
    have e : (⟨st.a + (Pure.md4Steps (Pure.wordsLow m p 64) st 48).a, st.b + (Pure.md4Steps (Pure.wordsLow m p 64) st 48).b, st.c + (Pure.md4Steps (Pure.wordsLow m p 64) st 48).c, st.d + (Pure.md4Steps (Pure.wordsLow m p 64) st 48).d⟩ : Pure.W4) = Pure.md4Blocks m (k + 1) := by
     rw [Pure.md4Blocks, ← HST.out, ← HP0.out]
    rw [← e]
    exact hH8
   have HH8 := xhd hH8'
   have HK8 := xhd (HK7.out.trans hk8)
   clear hH8 hH8' hk8 HH7 HV7 HN7 HK7
   go_wp2_with fail
   go_roundw
   case rel =>
    refine ⟨k + 1, by omega, ?_, HH8.out, HK8.out⟩
    have := HP0.out
    go_num
   case measure => simp [intOf]; omega
  ·obtain rfl : k = K := by omega
   clear hkl hk
   go_wp2_with fail
   have hn0 : w.heap.size ≤ wr.heap.size := by have := hK.size; have := HS3.out; have := HNw.out; omega
   refine y8b _ _ _ _ _ _ _ _ _ _ _ _ _ _ _ _ _ _ _ _ _ _ _ _ _ _ _ _ _ _ _ _ _ _ _ _ _ _ _ _ _ _ _ _ _ _ _ _ _ _ _ _ _ _ _ _ _ _ _ _ _ _ _ _ _ _ _ _ _ _ _ _ _ _ _ _ _ _ _ _ _ _ _ _ _ _ _ _ _ _ _ _ _ _ _ _ _ _ _ _ _ _ _ _ _ _ _ _ _ _ _ _ _ _ _ _ _ _ _ _ _ _ _ _ _ _ _ _ _ _ _ _ _ _ _ _ _ _ _ _ _ _ _ _ _ _ _ _ _ _ _ _ _ _ _ _ _ _ _ _ _ _ _ _ _ _ _ _ _ _ _ _ _ _ _ _ _ _ _ _ _ _ _ _ _ _ _ _ _ _ _ _ _ _ _ (Pure.md4Blocks m k) bh w.heap.size (.inr trivial) wr hH hn0 _ ?_ ?_
   ·exact fun _ _ d _ _ h => by cases d <;> exact h
   ·intros
    rename_i u8 w9 ho9 hb9
    have HO9 := xhd ho9
    have HB9 := xhd ((Below.keeps HK3.out hK HK3.out.size (fun i hi => by have hi : i = bh := hi; have := HBh.out; omega)).trans hb9)
    clear ho9 hb9 hH hK
    go_wp2
    go_ret
    refine ⟨_, rfl, ?_, HB9.out⟩
    rw [HW.out]
    exact HO9.out
namespace Pure
def hash (l : List UInt8) : Nat × List UInt8 := if (secret l).1 = 0 then (0, md4 (secret l).2) else ((secret l).1, [])
theorem hash_ok {l : List UInt8} (h : (secret l).1 = 0) : hash l = (0, md4 (secret l).2) := if_pos h
theorem hash_bad {l : List UInt8} (h : (secret l).1 ≠ 0) : hash l = ((secret l).1, []) := if_neg h
theorem secret_length (l : List UInt8) : (secret l).2.length ≤ 512 := by
 unfold secret
 split
 ·simp
 ·split <;> simp; omega
theorem secret_lt (l : List UInt8) : (secret l).1 ≤ 4 := by
 unfold secret
 split
 ·simp
 ·split <;> simp
end Pure
theorem y8c (s : ByteArray) (l : List UInt8) (hl : s.data.toList = l) (hsz : l.length ≤ 1000000) (w : World) :
  Calls Tryz.prog 56 #[.string s] w fun e w' => ∃ v, e = .returned (.tuple #[v, .int .i64 (((Pure.hash l).1 : Nat) : Int)]) ∧ w'.ownsRow w.heap.size 5 1 v (Pure.hash l).2.length (u8s (Pure.hash l).2) ∧ Below w.heap.size w w' := by
 have HU := xhd (units_any s l hl hsz)
 have hlen := Pure.secret_length l
 have hcode := Pure.secret_lt l
 obtain ⟨E, hE⟩ : ∃ E, E = (Pure.secret l).1 := ⟨_, rfl⟩
 obtain ⟨U, hUU⟩ : ∃ U, U = (Pure.secret l).2 := ⟨_, rfl⟩
 have hok := fun h => Pure.hash_ok (l := l) h
 have hbad := fun h => Pure.hash_bad (l := l) h
 rw [← hE] at HU hcode hok hbad
 rw [← hUU] at HU hlen hok
 have HOK := xhd hok
 have HBAD := xhd hbad
 clear hok hbad hE hUU hl
 go_enter Tryz.func56, Tryz.ntmps56
 go_wp2_with fail
 refine (HU.out w).mono ?_
 rintro e w1 ⟨v, rfl, hu, hb1⟩
 obtain ⟨A1, c1, rfl⟩ := y04 hu
 have HW := xhd hu
 have HB := xhd hb1
 clear hu hb1 HU
 by_cases h0 : E = 0
 ·subst h0
  have HM := xhd (docmd4_any (fun b => (Value.slice A1 U.length c1).ownBlock = some b) _ U w1 (fun b hb => y0o HW.out b hb) (by omega) (Row.of_own HW.out))
  have HH := xhd (HOK.out rfl)
  clear HOK HBAD
  go_wp2_with fail
  refine HM.out.mono ?_
  rintro e w2 ⟨u, rfl, hu2, hb2⟩
  obtain ⟨A2, c2, rfl⟩ := y04 hu2
  have HW2 := xhd hu2
  have HB2 := xhd hb2
  clear hu2 hb2 HM
  go_wp2
  go_ret2
  refine ⟨_, by rw [HH.out]; rfl, ?_, HB.out.trans (HB2.out.mono HB.out.size)⟩
  rw [HH.out]
  have h := y1l HW2.out HB.out.size
  have e16 : (Pure.md4 U).length = 16 := by have := h.1; simpa using this
  rw [show ((0, Pure.md4 U) : Nat × List UInt8).2 = Pure.md4 U from rfl, e16]
  exact h
 ·have HH := xhd (HBAD.out h0)
  have d0 : ((E : Int) != 0) = true := by rw [bne_iff_ne]; omega
  clear HOK HBAD
  go_wp2
  go_ret2
  exact ⟨_, by rw [HH.out]; rfl, by rw [HH.out]; exact World.ownsRow_nil _ _ _ _, HB.out⟩
end Go.Proofs.YtmgicbckgpdkcaaGreatDoor
