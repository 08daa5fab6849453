/- The document's Md4: the steps of a block. -/
import Derived.Test.YtkllaghfiofnjaaDoorDigR1
import Derived.BigQuiet
namespace Go.Proofs.YtkllaghfiofnjaaDoor
open Go.RowKit
theorem cell_alloc_old {w : World} {o : Obj} {a : Addr} {v : Value} (h : w.cell? a = some v) : (w.alloc o).drew.cell? a = some v := (World.cell?_alloc_lt w o a (by rcases Nat.lt_or_ge a.block w.heap.size with hl | hg; exact hl; simp [World.cell?, Array.getElem?_eq_none hg] at h)).trans h
set_option maxRecDepth 1000000 in
set_option maxHeartbeats 8000000 in
theorem docSteps_loop (c0 c1 c2 c3 c4 c7 c9 c15 c16 c17 c18 c19 c20 c21 c22 c23 c24 c25 c26 c27 c28 c29 c30 c31 c32 c33 c34 c35 c36 c37 c38 c39 c40 c41 c42 c43 c44 c45 c46 c47 c48 c49 c50 c51 c52 c53 c54 c55 c56 c57 c58 c59 c60 c61 c62 c63 c64 c65 c66 c67 c68 c163 c164 c165 c166 c167 c168 c169 c170 c171 c172 c173 c174 c175 c176 c177 c178 c179 c180 c181 c182 c183 c184 c185 c186 c187 c188 c189 c190 c191 c192 c193 c194 c195 c196 c197 : Value) (u12 u13 u14 u69 u70 u71 u72 u73 u74 u75 u76 u77 u78 u79 u80 u81 u82 u83 u84 u85 u86 u87 u88 u89 u90 u91 u92 u93 u94 u95 u96 u97 u98 u99 u100 u101 u102 u103 u104 u105 u106 u107 u108 u109 u110 u111 u112 u113 u114 u115 u116 u117 u118 u119 u120 u121 u122 u123 u124 u125 u126 u127 u128 u129 u130 u131 u132 u133 u134 u135 u136 u137 u138 u139 u140 u141 u142 u143 u144 u145 u146 u147 u148 u149 u150 u151 u152 u153 u154 u155 u156 u157 u158 u159 u160 u161 u162 : Value) (x : List UInt32) (hx : x.length = 16) (h : Pure.W4) (bo bt bx bq : Nat) (w0 : World) (hO : Blk w0 bo 3 (ints Pure.md4Order).toArray) (hT : Blk w0 bt 3 (ints Pure.md4Turns).toArray) (hX : Blk w0 bx 38 (u32s x).toArray) (hV : Blk w0 bq 38 (u32s h.list).toArray) (Q0 : Exit → Act → World → Prop)
    (hQ : ∀ (c : List PanicEntry) (a : Act) (d : Option Nat) (v : Value) (w : World), Q0 (.panic c) (a.put d v) w → Q0 (.panic c) a w)
    (hexit : ∀ (v12 v13 v14 v69 v70 v71 v72 v73 v74 v75 v76 v77 v78 v79 v80 v81 v82 v83 v84 v85 v86 v87 v88 v89 v90 v91 v92 v93 v94 v95 v96 v97 v98 v99 v100 v101 v102 v103 v104 v105 v106 v107 v108 v109 v110 v111 v112 v113 v114 v115 v116 v117 v118 v119 v120 v121 v122 v123 v124 v125 v126 v127 v128 v129 v130 v131 v132 v133 v134 v135 v136 v137 v138 v139 v140 v141 v142 v143 v144 v145 v146 v147 v148 v149 v150 v151 v152 v153 v154 v155 v156 v157 v158 v159 v160 v161 v162 : Value) (bv' : Nat) (wr : World), Blk wr bv' 38 (u32s (Pure.md4Steps x h 48).list).toArray → Below w0.heap.size w0 wr → (bv' = bq ∨ w0.heap.size ≤ bv') → Q0 (.exit 4) { tmps := (c0 :: c1 :: c2 :: c3 :: c4 :: .slice (some ⟨bo, 0, none⟩) 48 48 :: .slice (some ⟨bt, 0, none⟩) 12 12 :: c7 :: .slice (some ⟨bx, 0, none⟩) 16 16 :: c9 :: .slice (some ⟨bv', 0, none⟩) 4 4 :: .int .i64 ((48 : Nat) : Int) :: v12 :: v13 :: v14 :: c15 :: c16 :: c17 :: c18 :: c19 :: c20 :: c21 :: c22 :: c23 :: c24 :: c25 :: c26 :: c27 :: c28 :: c29 :: c30 :: c31 :: c32 :: c33 :: c34 :: c35 :: c36 :: c37 :: c38 :: c39 :: c40 :: c41 :: c42 :: c43 :: c44 :: c45 :: c46 :: c47 :: c48 :: c49 :: c50 :: c51 :: c52 :: c53 :: c54 :: c55 :: c56 :: c57 :: c58 :: c59 :: c60 :: c61 :: c62 :: c63 :: c64 :: c65 :: c66 :: c67 :: c68 :: v69 :: v70 :: v71 :: v72 :: v73 :: v74 :: v75 :: v76 :: v77 :: v78 :: v79 :: v80 :: v81 :: v82 :: v83 :: v84 :: v85 :: v86 :: v87 :: v88 :: v89 :: v90 :: v91 :: v92 :: v93 :: v94 :: v95 :: v96 :: v97 :: v98 :: v99 :: v100 :: v101 :: v102 :: v103 :: v104 :: v105 :: v106 :: v107 :: v108 :: v109 :: v110 :: v111 :: v112 :: v113 :: v114 :: v115 :: v116 :: v117 :: v118 :: v119 :: v120 :: v121 :: v122 :: v123 :: v124 :: v125 :: v126 :: v127 :: v128 :: v129 :: v130 :: v131 :: v132 :: v133 :: v134 :: v135 :: v136 :: v137 :: v138 :: v139 :: v140 :: v141 :: v142 :: v143 :: v144 :: v145 :: v146 :: v147 :: v148 :: v149 :: v150 :: v151 :: v152 :: v153 :: v154 :: v155 :: v156 :: v157 :: v158 :: v159 :: v160 :: v161 :: v162 :: c163 :: c164 :: c165 :: c166 :: c167 :: c168 :: c169 :: c170 :: c171 :: c172 :: c173 :: c174 :: c175 :: c176 :: c177 :: c178 :: c179 :: c180 :: c181 :: c182 :: c183 :: c184 :: c185 :: c186 :: c187 :: c188 :: c189 :: c190 :: c191 :: c192 :: c193 :: c194 :: c195 :: c196 :: c197 :: []).toArray, defers := [] } wr) :
    Code.wp Tryd.prog (Code.loop docBody3) Q0 { tmps := (c0 :: c1 :: c2 :: c3 :: c4 :: .slice (some ⟨bo, 0, none⟩) 48 48 :: .slice (some ⟨bt, 0, none⟩) 12 12 :: c7 :: .slice (some ⟨bx, 0, none⟩) 16 16 :: c9 :: .slice (some ⟨bq, 0, none⟩) 4 4 :: .int .i64 0 :: u12 :: u13 :: u14 :: c15 :: c16 :: c17 :: c18 :: c19 :: c20 :: c21 :: c22 :: c23 :: c24 :: c25 :: c26 :: c27 :: c28 :: c29 :: c30 :: c31 :: c32 :: c33 :: c34 :: c35 :: c36 :: c37 :: c38 :: c39 :: c40 :: c41 :: c42 :: c43 :: c44 :: c45 :: c46 :: c47 :: c48 :: c49 :: c50 :: c51 :: c52 :: c53 :: c54 :: c55 :: c56 :: c57 :: c58 :: c59 :: c60 :: c61 :: c62 :: c63 :: c64 :: c65 :: c66 :: c67 :: c68 :: u69 :: u70 :: u71 :: u72 :: u73 :: u74 :: u75 :: u76 :: u77 :: u78 :: u79 :: u80 :: u81 :: u82 :: u83 :: u84 :: u85 :: u86 :: u87 :: u88 :: u89 :: u90 :: u91 :: u92 :: u93 :: u94 :: u95 :: u96 :: u97 :: u98 :: u99 :: u100 :: u101 :: u102 :: u103 :: u104 :: u105 :: u106 :: u107 :: u108 :: u109 :: u110 :: u111 :: u112 :: u113 :: u114 :: u115 :: u116 :: u117 :: u118 :: u119 :: u120 :: u121 :: u122 :: u123 :: u124 :: u125 :: u126 :: u127 :: u128 :: u129 :: u130 :: u131 :: u132 :: u133 :: u134 :: u135 :: u136 :: u137 :: u138 :: u139 :: u140 :: u141 :: u142 :: u143 :: u144 :: u145 :: u146 :: u147 :: u148 :: u149 :: u150 :: u151 :: u152 :: u153 :: u154 :: u155 :: u156 :: u157 :: u158 :: u159 :: u160 :: u161 :: u162 :: c163 :: c164 :: c165 :: c166 :: c167 :: c168 :: c169 :: c170 :: c171 :: c172 :: c173 :: c174 :: c175 :: c176 :: c177 :: c178 :: c179 :: c180 :: c181 :: c182 :: c183 :: c184 :: c185 :: c186 :: c187 :: c188 :: c189 :: c190 :: c191 :: c192 :: c193 :: c194 :: c195 :: c196 :: c197 :: []).toArray, defers := [] } w0 := by
  conv => arg 2; arg 1; whnf
  have HO := Lib.hid hO
  have HT := Lib.hid hT
  have HX := Lib.hid hX
  have HV0 := Lib.hid hV
  clear hO hT hX hV
  go_loopw [10, 11] (fun v i wr => ∃ s bv : Nat, s ≤ 48 ∧ i = .int .i64 (s : Int) ∧ v = .slice (some ⟨bv, 0, none⟩) 4 4 ∧ Blk wr bv 38 (u32s (Pure.md4Steps x h s).list).toArray ∧ Below w0.heap.size w0 wr ∧ (bv = bq ∨ w0.heap.size ≤ bv)) (fun _ i _ => 48 - (intOf i).toNat)
  case atStart => exact ⟨0, bq, by omega, rfl, rfl, HV0.out, Below.refl _ _, .inl rfl⟩
  case round =>
    clear HV0
    obtain ⟨s, bv, hs, rfl, rfl, hV, hB, hbq⟩ := hrel
    by_cases hsl : s < 48
    · clear hexit
      obtain ⟨v, hv⟩ : ∃ v, v = Pure.md4Steps x h s := ⟨_, rfl⟩
      rw [← hv] at hV
      have c0 : wr.cell? ⟨bv, 0, none⟩ = some (.int .u32 v.a.toNat) := by rw [hV.cell]; rfl
      have c1 : wr.cell? ⟨bv, 1, none⟩ = some (.int .u32 v.b.toNat) := by rw [hV.cell]; rfl
      have c2 : wr.cell? ⟨bv, 2, none⟩ = some (.int .u32 v.c.toNat) := by rw [hV.cell]; rfl
      have c3 : wr.cell? ⟨bv, 3, none⟩ = some (.int .u32 v.d.toNat) := by rw [hV.cell]; rfl
      obtain ⟨g1, hg1⟩ : ∃ g1, g1 = v.b &&& v.c := ⟨_, rfl⟩
      obtain ⟨g2, hg2⟩ : ∃ g2, g2 = ~~~v.b := ⟨_, rfl⟩
      obtain ⟨g3, hg3⟩ : ∃ g3, g3 = g2 &&& v.d := ⟨_, rfl⟩
      obtain ⟨f0, hf0⟩ : ∃ f0, f0 = g1 ||| g3 := ⟨_, rfl⟩
      have e1 := and_u32 v.b v.c
      have e2 := not_u32 v.b
      have e3 := and_u32 g2 v.d
      have e4 := or_u32 g1 g3
      rw [← hg1] at e1
      rw [← hg2] at e2
      rw [← hg3] at e3
      rw [← hf0] at e4
      have HV := Lib.hid hV
      have HB := Lib.hid hB
      have HVV := Lib.hid hv
      have HF0 := Lib.hid (show f0 = v.b &&& v.c ||| ~~~v.b &&& v.d by rw [hf0, hg3, hg2, hg1])
      have hs0 : (0 : Int) ≤ (s : Int) := by omega
      have hs1 : (s : Int) < 48 := by omega
      clear hV hB hv hf0 hg1 hg2 hg3 hbq
      have hsg : IntKind.u32.signed = false := rfl
      go_upto_region 17 with fail
      go_quiet (fail)
      obtain ⟨wb, hwb⟩ : ∃ wb, wb = wr.drewN nq := ⟨_, rfl⟩
      rw [← hwb]
      have b0' : wb.cell? ⟨bv, 0, none⟩ = some (.int .u32 v.a.toNat) := by rw [hwb]; exact c0
      have b1 : wb.cell? ⟨bv, 1, none⟩ = some (.int .u32 v.b.toNat) := by rw [hwb]; exact c1
      have b2 : wb.cell? ⟨bv, 2, none⟩ = some (.int .u32 v.c.toNat) := by rw [hwb]; exact c2
      have b3 : wb.cell? ⟨bv, 3, none⟩ = some (.int .u32 v.d.toNat) := by rw [hwb]; exact c3
      have KB := Lib.hid (Keeps.of_drewN hwb)
      clear hwb c0 c1 c2 c3 e1 e2 e3 e4
      obtain ⟨p1, hp1⟩ : ∃ p1, p1 = v.b &&& v.c := ⟨_, rfl⟩
      obtain ⟨p2, hp2⟩ : ∃ p2, p2 = v.b &&& v.d := ⟨_, rfl⟩
      obtain ⟨p3, hp3⟩ : ∃ p3, p3 = p1 ||| p2 := ⟨_, rfl⟩
      obtain ⟨p4, hp4⟩ : ∃ p4, p4 = v.c &&& v.d := ⟨_, rfl⟩
      obtain ⟨f1, hf1⟩ : ∃ f1, f1 = p3 ||| p4 := ⟨_, rfl⟩
      have e1 := and_u32 v.b v.c
      have e2 := and_u32 v.b v.d
      have e3 := or_u32 p1 p2
      have e4 := and_u32 v.c v.d
      have e5 := or_u32 p3 p4
      rw [← hp1] at e1
      rw [← hp2] at e2
      rw [← hp3] at e3
      rw [← hp4] at e4
      rw [← hf1] at e5
      have HF1 := Lib.hid (show f1 = v.b &&& v.c ||| v.b &&& v.d ||| v.c &&& v.d by rw [hf1, hp3, hp4, hp2, hp1])
      obtain ⟨fa, hfa⟩ : ∃ fa, fa = if s < 16 then f0 else f1 := ⟨_, rfl⟩
      obtain ⟨ta, hta⟩ : ∃ ta : UInt32, ta = if s < 16 then 0 else 0x5a827999 := ⟨_, rfl⟩
      have HFA := Lib.hid hfa
      have HTA := Lib.hid hta
      clear hp1 hp2 hp3 hp4 hf1 hfa hta
      go_upto_if 90 with fail
      go_cut [12, 13] from 69 to 162 (fun f t wx => f = .int .u32 fa.toNat ∧ t = .int .u32 ta.toNat ∧ ∃ n, wx = wb.drewN n)
      case first =>
        by_cases h16 : s < 16
        · have h16' : ¬ (16 : Int) ≤ (s : Int) := by omega
          have hfa : fa = f0 := by rw [HFA.out, if_pos h16]
          have hta : ta = 0 := by rw [HTA.out, if_pos h16]
          go_wp2_with fail
          go_meet
          case rel => exact ⟨by rw [hfa], by rw [hta]; rfl, 0, rfl⟩
        · have h16' : (16 : Int) ≤ (s : Int) := by omega
          have hfa : fa = f1 := by rw [HFA.out, if_neg h16]
          have hta : ta = 0x5a827999 := by rw [HTA.out, if_neg h16]
          clear h16
          go_upto_region 20 with fail
          go_quiet (fail)
          go_wp2_with fail
          go_meet
          case rel => exact ⟨by rw [hfa], by rw [hta]; rfl, _, rfl⟩
      case rest =>
      obtain ⟨rfl, rfl, n1, hn1⟩ := hcut
      have d0 : wc.cell? ⟨bv, 0, none⟩ = some (.int .u32 v.a.toNat) := by rw [hn1]; exact b0'
      have d1 : wc.cell? ⟨bv, 1, none⟩ = some (.int .u32 v.b.toNat) := by rw [hn1]; exact b1
      have d2 : wc.cell? ⟨bv, 2, none⟩ = some (.int .u32 v.c.toNat) := by rw [hn1]; exact b2
      have d3 : wc.cell? ⟨bv, 3, none⟩ = some (.int .u32 v.d.toNat) := by rw [hn1]; exact b3
      have KC := Lib.hid (KB.out.trans (Keeps.of_drewN hn1))
      clear b0' b1 b2 b3 hn1 KB e1 e2 e3 e4 e5
      obtain ⟨p5, hp5⟩ : ∃ p5, p5 = v.b ^^^ v.c := ⟨_, rfl⟩
      obtain ⟨f2, hf2⟩ : ∃ f2, f2 = p5 ^^^ v.d := ⟨_, rfl⟩
      have e1 := xor_u32 v.b v.c
      have e2 := xor_u32 p5 v.d
      rw [← hp5] at e1
      rw [← hf2] at e2
      have HF2 := Lib.hid (show f2 = v.b ^^^ v.c ^^^ v.d by rw [hf2, hp5])
      obtain ⟨fb, hfb⟩ : ∃ fb, fb = if s < 32 then fa else f2 := ⟨_, rfl⟩
      obtain ⟨tb, htb⟩ : ∃ tb : UInt32, tb = if s < 32 then ta else 0x6ed9eba1 := ⟨_, rfl⟩
      have HFB := Lib.hid hfb
      have HTB := Lib.hid htb
      clear hp5 hf2 hfb htb
      go_upto_if 115 with fail
      go_cut [12, 13] from 69 to 162 (fun f t wx => f = .int .u32 fb.toNat ∧ t = .int .u32 tb.toNat ∧ ∃ n, wx = wc.drewN n)
      case first =>
        by_cases h32 : s < 32
        · have h32' : ¬ (32 : Int) ≤ (s : Int) := by omega
          have hfb : fb = fa := by rw [HFB.out, if_pos h32]
          have htb : tb = ta := by rw [HTB.out, if_pos h32]
          clear h32
          go_wp2_with fail
          go_meet
          case rel => exact ⟨by rw [hfb], by rw [htb], 0, rfl⟩
        · have h32' : (32 : Int) ≤ (s : Int) := by omega
          have hfb : fb = f2 := by rw [HFB.out, if_neg h32]
          have htb : tb = 0x6ed9eba1 := by rw [HTB.out, if_neg h32]
          clear h32
          go_upto_region 23 with fail
          go_quiet (fail)
          go_wp2_with fail
          go_meet
          case rel => exact ⟨by rw [hfb], by rw [htb]; rfl, _, rfl⟩
      case rest =>
      obtain ⟨rfl, rfl, n2, hn2⟩ := hcut
      have q0 : wc.cell? ⟨bv, 0, none⟩ = some (.int .u32 v.a.toNat) := by rw [hn2]; exact d0
      have q1 : wc.cell? ⟨bv, 1, none⟩ = some (.int .u32 v.b.toNat) := by rw [hn2]; exact d1
      have q2 : wc.cell? ⟨bv, 2, none⟩ = some (.int .u32 v.c.toNat) := by rw [hn2]; exact d2
      have q3 : wc.cell? ⟨bv, 3, none⟩ = some (.int .u32 v.d.toNat) := by rw [hn2]; exact d3
      have kc := KC.out.trans (Keeps.of_drewN hn2)
      have hfF : fb = Pure.md4F s v.b v.c v.d := by
        rw [HFB.out, HFA.out, HF0.out, HF1.out, HF2.out]
        unfold Pure.md4F
        by_cases h16 : s < 16
        · rw [if_pos (show s < 32 by omega), if_pos h16, if_pos h16]
        · by_cases h32 : s < 32
          · rw [if_pos h32, if_neg h16, if_neg h16, if_pos h32]
          · rw [if_neg h32, if_neg h16, if_neg h32]
      have htT : tb = Pure.md4T s := by
        rw [HTB.out, HTA.out]
        unfold Pure.md4T
        by_cases h16 : s < 16
        · rw [if_pos (show s < 32 by omega), if_pos h16, if_pos h16]
        · by_cases h32 : s < 32
          · rw [if_pos h32, if_neg h16, if_neg h16, if_pos h32]
          · rw [if_neg h32, if_neg h16, if_neg h32]
      obtain ⟨kq, hkq⟩ : ∃ kq, kq = Pure.md4Order.getD s 0 := ⟨_, rfl⟩
      have hkq2 : kq < 16 := by rw [hkq]; exact Pure.md4Order_range _ hsl
      have hB1 := Below.quiet HB.out kc HB.out.size
      have ck : wc.cell? ⟨bo, s, none⟩ = some (.int .i64 (kq : Int)) := by
        rw [((HO.out.below HB.out HO.out.lt).keeps kc (fun h => h)).cell, hkq, ← ints_at Pure.md4Order s hsl]; simp
      have cx : wc.cell? ⟨bx, kq, none⟩ = some (.int .u32 (x.getD kq 0).toNat) := by
        rw [((HX.out.below HB.out HX.out.lt).keeps kc (fun h => h)).cell, ← u32s_at x kq (by omega)]; simp
      obtain ⟨xv, hxv⟩ : ∃ xv, xv = x.getD kq 0 := ⟨_, rfl⟩
      rw [← hxv] at cx
      obtain ⟨e, he⟩ : ∃ e, e = s / 16 := ⟨_, rfl⟩
      obtain ⟨r, hr⟩ : ∃ r, r = s % 4 := ⟨_, rfl⟩
      obtain ⟨z, hz⟩ : ∃ z, z = e * 4 + r := ⟨_, rfl⟩
      have heI : (s : Int) / 16 = (e : Int) := by omega
      have hrI : (s : Int) % 4 = (r : Int) := by omega
      have hzI : (e : Int) * 4 + (r : Int) = (z : Int) := by omega
      have he0 : (0 : Int) ≤ (e : Int) := by omega
      have he1 : (e : Int) < 3 := by omega
      have hr0 : (0 : Int) ≤ (r : Int) := by omega
      have hr1 : (r : Int) < 4 := by omega
      have hz0 : (0 : Int) ≤ (z : Int) := by omega
      have hz1 : (z : Int) < 12 := by omega
      have hwe : IntKind.i64.wrap (e : Int) = (e : Int) := IntWalk.i64_in _ (by omega)
      have hwr : IntKind.i64.wrap (r : Int) = (r : Int) := IntWalk.i64_in _ (by omega)
      have hwz : IntKind.i64.wrap (z : Int) = (z : Int) := IntWalk.i64_in _ (by omega)
      have hwk : IntKind.i64.wrap (kq : Int) = (kq : Int) := IntWalk.i64_in _ (by omega)
      have hk0 : (0 : Int) ≤ (kq : Int) := by omega
      have hk1 : (kq : Int) < 16 := by omega
      obtain ⟨tq, htq⟩ : ∃ tq, tq = Pure.md4Turns.getD z 0 := ⟨_, rfl⟩
      have hzr : z = s / 16 * 4 + s % 4 := by omega
      obtain ⟨ht1, ht2⟩ := Pure.md4Turns_range s hsl
      rw [← hzr, ← htq] at ht1 ht2
      have ct : wc.cell? ⟨bt, z, none⟩ = some (.int .i64 (tq : Int)) := by
        rw [((HT.out.below HB.out HT.out.lt).keeps kc (fun h => h)).cell, htq, ← ints_at Pure.md4Turns z (by show z < 12; omega)]; simp
      obtain ⟨m1, hm1⟩ : ∃ m1, m1 = v.a + fb := ⟨_, rfl⟩
      obtain ⟨m2, hm2⟩ : ∃ m2, m2 = m1 + xv := ⟨_, rfl⟩
      obtain ⟨m3, hm3⟩ : ∃ m3, m3 = m2 + tb := ⟨_, rfl⟩
      obtain ⟨m4, hm4⟩ : ∃ m4, m4 = Pure.left m3 tq := ⟨_, rfl⟩
      have i1 := add_u32 v.a fb
      have i2 := add_u32 m1 xv
      have i3 := add_u32 m2 tb
      rw [← hm1] at i1
      rw [← hm2] at i2
      rw [← hm3] at i3
      have hl := left_any m3 tq ht1 ht2
      rw [← hm4] at hl
      have HL := Lib.hid hl
      have hnext : Pure.md4Steps x h (s + 1) = ⟨v.d, m4, v.b, v.c⟩ := by
        show Pure.md4Step x s (Pure.md4Steps x h s) = _
        rw [← HVV.out]
        unfold Pure.md4Step
        rw [← hfF, ← htT, ← hkq, ← hxv, ← hzr, ← htq, ← hm1, ← hm2, ← hm3, ← hm4]
      have HN := Lib.hid hnext
      have KD := Lib.hid hB1
      clear hn2 kc KC hfF htT hkq hxv he hr hz htq hzr hm1 hm2 hm3 hm4 hl hnext hB1 HFA HFB HTA HTB HF0 HF1 HF2 HVV HB d0 d1 d2 d3 e1 e2
      go_upto_region 25 with fail
      go_quiet (refine Calls.quiet_of_same (HL.out _))
      obtain ⟨wd, hwd⟩ : ∃ wd, wd = wc.drewN nq := ⟨_, rfl⟩
      rw [← hwd]
      have r1 : wd.cell? ⟨bv, 1, none⟩ = some (.int .u32 v.b.toNat) := by rw [hwd]; exact q1
      have r2 : wd.cell? ⟨bv, 2, none⟩ = some (.int .u32 v.c.toNat) := by rw [hwd]; exact q2
      have r3 : wd.cell? ⟨bv, 3, none⟩ = some (.int .u32 v.d.toNat) := by rw [hwd]; exact q3
      have KE := Lib.hid (Below.quiet KD.out (Keeps.of_drewN hwd) KD.out.size)
      clear q0 q1 q2 q3 ck cx ct hwd KD i1 i2 i3 HL
      go_upto_region 26 with fail
      refine wp_region_Z (fun w' => w'.cell? ⟨bv, 1, none⟩ = some (.int .u32 v.b.toNat) ∧ w'.cell? ⟨bv, 2, none⟩ = some (.int .u32 v.c.toNat) ∧ w'.cell? ⟨bv, 3, none⟩ = some (.int .u32 v.d.toNat)) 10 12 rfl (by kernel_rfl) ⟨r1, r2, r3⟩ (fun hHeld => ?_)
      iterate 10
        refine wpAnyZ_next rfl (by kernel_rfl) (fun _ _ _ h => hQ _ _ _ _ _ h) (Or.inl ⟨by rfl, by intro w hSw; obtain ⟨s0, s1, s2⟩ := hSw; go_simp; try with_reducible rfl⟩) hHeld.out ?_
        simp only [Act.put, List.setIfInBounds_toArray, Nat.reduceAdd, List.getElem_toArray, List.getElem_cons_succ, List.getElem_cons_zero, List.set_cons_succ, List.set_cons_zero]
      refine wpAnyZ_step (by kernel_rfl) rfl (fun K hK => ?_)
      clear hHeld
      go_simp
      refine hK.out _ _ (fun h => absurd rfl h) ?_
      clear hK K
      refine wpAnyZ_step (by kernel_rfl) rfl (fun K hK => ?_)
      go_simp
      refine hK.out _ _ (fun _ => ⟨(cell_alloc_old r1), (cell_alloc_old r2), (cell_alloc_old r3)⟩) ?_
      clear hK K
      refine wpAnyZ_done (by kernel_rfl) ?_ _
      go_wp2_with fail
      refine ⟨⟨s + 1, wd.heap.size, by omega, by go_num, rfl, ?_, ?_, .inr KE.out.size⟩, by simp [intOf]; omega⟩
      · rw [HN.out]
        exact (Blk.new wd 38 _).drew
      · exact Below.drew ((KE.out).alloc KE.out.size _)
    · have hqq : s = 48 := by omega
      subst hqq
      clear hs hsl
      go_wp2_with fail
      exact hexit _ _ _ _ _ _ _ _ _ _ _ _ _ _ _ _ _ _ _ _ _ _ _ _ _ _ _ _ _ _ _ _ _ _ _ _ _ _ _ _ _ _ _ _ _ _ _ _ _ _ _ _ _ _ _ _ _ _ _ _ _ _ _ _ _ _ _ _ _ _ _ _ _ _ _ _ _ _ _ _ _ _ _ _ _ _ _ _ _ _ _ _ _ _ _ _ _ bv wr hV hB hbq
end Go.Proofs.YtkllaghfiofnjaaDoor
