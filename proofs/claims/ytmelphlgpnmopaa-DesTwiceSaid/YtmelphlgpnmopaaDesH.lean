/- The document's Des: the rounds. -/
import Derived.Test.YtmelphlgpnmopaaDesD
import Derived.Test.YtmelphlgpnmopaaDesG
import Derived.Test.YtmelphlgpnmopaaDesB
namespace Go.Proofs.Ytmelphlgpnmopaa
open Go.RowKit
theorem Row.lo {w : World} {F : Nat → Prop} {v : Value} {n : Nat} {xs : List Value} (h : Row w F 1 v n xs) : Row w (fun b => b < w.heap.size) 1 v n xs := h.strong.mono (fun _ h => h.2)
theorem Row.go {w w' : World} {v : Value} {n : Nat} {xs : List Value} (h : Row w (fun b => b < w.heap.size) 1 v n xs) (hb : Below w.heap.size w w') : Row w' (fun b => b < w'.heap.size) 1 v n xs :=
  (h.keeps (Keeps.new hb) (fun _ _ h => h)).mono (fun _ hx => Nat.lt_of_lt_of_le hx hb.size)
theorem Pure.pc2_range (k : Nat) (h : k < Pure.desPc2.length) : 1 ≤ Pure.desPc2.getD k 0 ∧ Pure.desPc2.getD k 0 ≤ 28 + 28 := by
  have : ∀ k < 48, 1 ≤ Pure.desPc2.getD k 0 ∧ Pure.desPc2.getD k 0 ≤ 28 + 28 := by decide
  exact this k h
theorem Pure.p_range (k : Nat) (h : k < Pure.desP.length) : 1 ≤ Pure.desP.getD k 0 ∧ Pure.desP.getD k 0 ≤ 32 := by
  have : ∀ k < 32, 1 ≤ Pure.desP.getD k 0 ∧ Pure.desP.getD k 0 ≤ 32 := by decide
  exact this k h
set_option maxRecDepth 1000000 in
set_option maxHeartbeats 8000000 in
theorem desRounds_loop (c0 c1 c2 c3 c4 c5 c8 c9 c10 c11 c27 c28 c29 c30 c31 c32 c33 c34 c35 c36 c37 c38 c39 c40 c41 c42 c43 c44 c45 c46 c47 c48 c49 c50 c51 c52 c53 c54 c55 c56 c57 c58 c59 c60 c61 c62 c63 c64 c65 c66 c67 c68 c69 c70 c71 c72 c205 c206 c207 c208 c209 c210 c211 c212 c213 c214 c215 c216 c217 c218 c219 c220 c221 c222 c223 c224 c225 c226 c227 c228 c229 c230 c231 : Value) (u17 u18 u19 u20 u21 u22 u23 u24 u25 u26 u73 u74 u75 u76 u77 u78 u79 u80 u81 u82 u83 u84 u85 u86 u87 u88 u89 u90 u91 u92 u93 u94 u95 u96 u97 u98 u99 u100 u101 u102 u103 u104 u105 u106 u107 u108 u109 u110 u111 u112 u113 u114 u115 u116 u117 u118 u119 u120 u121 u122 u123 u124 u125 u126 u127 u128 u129 u130 u131 u132 u133 u134 u135 u136 u137 u138 u139 u140 u141 u142 u143 u144 u145 u146 u147 u148 u149 u150 u151 u152 u153 u154 u155 u156 u157 u158 u159 u160 u161 u162 u163 u164 u165 u166 u167 u168 u169 u170 u171 u172 u173 u174 u175 u176 u177 u178 u179 u180 u181 u182 u183 u184 u185 u186 u187 u188 u189 u190 u191 u192 u193 u194 u195 u196 u197 u198 u199 u200 u201 u202 u203 u204 : Value) (vc vd vl vr : Value) (b14 b15 : Nat) (s : Pure.Halves) (hs : Pure.Good s) (G1 G2 G3 G4 : Nat → Prop) (w0 : World) (hP : Blk w0 b14 3 (ints Pure.desPc2).toArray) (hP2 : Blk w0 b15 3 (ints Pure.desP).toArray) (hc : Row w0 G1 1 vc 28 (u8s (Pure.bb s.c))) (hd : Row w0 G2 1 vd 28 (u8s (Pure.bb s.d))) (hl : Row w0 G3 1 vl 32 (u8s (Pure.bb s.l))) (hr : Row w0 G4 1 vr 32 (u8s (Pure.bb s.r)))
    (Q0 : Exit → Act → World → Prop) (hQ : ∀ (c : List PanicEntry) (a : Act) (d : Option Nat) (v : Value) (w : World), Q0 (.panic c) (a.put d v) w → Q0 (.panic c) a w)
    (hexit : ∀ (v17 v18 v19 v20 v21 v22 v23 v24 v25 v26 v73 v74 v75 v76 v77 v78 v79 v80 v81 v82 v83 v84 v85 v86 v87 v88 v89 v90 v91 v92 v93 v94 v95 v96 v97 v98 v99 v100 v101 v102 v103 v104 v105 v106 v107 v108 v109 v110 v111 v112 v113 v114 v115 v116 v117 v118 v119 v120 v121 v122 v123 v124 v125 v126 v127 v128 v129 v130 v131 v132 v133 v134 v135 v136 v137 v138 v139 v140 v141 v142 v143 v144 v145 v146 v147 v148 v149 v150 v151 v152 v153 v154 v155 v156 v157 v158 v159 v160 v161 v162 v163 v164 v165 v166 v167 v168 v169 v170 v171 v172 v173 v174 v175 v176 v177 v178 v179 v180 v181 v182 v183 v184 v185 v186 v187 v188 v189 v190 v191 v192 v193 v194 v195 v196 v197 v198 v199 v200 v201 v202 v203 v204 : Value) (vc' vd' vl' vr' : Value) (wr : World), Row wr (fun b => b < wr.heap.size) 1 vl' 32 (u8s (Pure.bb (Pure.desRounds s 16).l)) → Row wr (fun b => b < wr.heap.size) 1 vr' 32 (u8s (Pure.bb (Pure.desRounds s 16).r)) → Below w0.heap.size w0 wr → Q0 (.exit 2) { tmps := (c0 :: c1 :: c2 :: c3 :: c4 :: c5 :: vc' :: vd' :: c8 :: c9 :: c10 :: c11 :: vl' :: vr' :: .slice (some ⟨b14, 0, none⟩) 48 48 :: .slice (some ⟨b15, 0, none⟩) 32 32 :: .int .i64 ((16 : Nat) + 1 : Int) :: v17 :: v18 :: v19 :: v20 :: v21 :: v22 :: v23 :: v24 :: v25 :: v26 :: c27 :: c28 :: c29 :: c30 :: c31 :: c32 :: c33 :: c34 :: c35 :: c36 :: c37 :: c38 :: c39 :: c40 :: c41 :: c42 :: c43 :: c44 :: c45 :: c46 :: c47 :: c48 :: c49 :: c50 :: c51 :: c52 :: c53 :: c54 :: c55 :: c56 :: c57 :: c58 :: c59 :: c60 :: c61 :: c62 :: c63 :: c64 :: c65 :: c66 :: c67 :: c68 :: c69 :: c70 :: c71 :: c72 :: v73 :: v74 :: v75 :: v76 :: v77 :: v78 :: v79 :: v80 :: v81 :: v82 :: v83 :: v84 :: v85 :: v86 :: v87 :: v88 :: v89 :: v90 :: v91 :: v92 :: v93 :: v94 :: v95 :: v96 :: v97 :: v98 :: v99 :: v100 :: v101 :: v102 :: v103 :: v104 :: v105 :: v106 :: v107 :: v108 :: v109 :: v110 :: v111 :: v112 :: v113 :: v114 :: v115 :: v116 :: v117 :: v118 :: v119 :: v120 :: v121 :: v122 :: v123 :: v124 :: v125 :: v126 :: v127 :: v128 :: v129 :: v130 :: v131 :: v132 :: v133 :: v134 :: v135 :: v136 :: v137 :: v138 :: v139 :: v140 :: v141 :: v142 :: v143 :: v144 :: v145 :: v146 :: v147 :: v148 :: v149 :: v150 :: v151 :: v152 :: v153 :: v154 :: v155 :: v156 :: v157 :: v158 :: v159 :: v160 :: v161 :: v162 :: v163 :: v164 :: v165 :: v166 :: v167 :: v168 :: v169 :: v170 :: v171 :: v172 :: v173 :: v174 :: v175 :: v176 :: v177 :: v178 :: v179 :: v180 :: v181 :: v182 :: v183 :: v184 :: v185 :: v186 :: v187 :: v188 :: v189 :: v190 :: v191 :: v192 :: v193 :: v194 :: v195 :: v196 :: v197 :: v198 :: v199 :: v200 :: v201 :: v202 :: v203 :: v204 :: c205 :: c206 :: c207 :: c208 :: c209 :: c210 :: c211 :: c212 :: c213 :: c214 :: c215 :: c216 :: c217 :: c218 :: c219 :: c220 :: c221 :: c222 :: c223 :: c224 :: c225 :: c226 :: c227 :: c228 :: c229 :: c230 :: c231 :: []).toArray, defers := [] } wr) :
    Code.wp Try.prog (Code.loop desB2) Q0 { tmps := (c0 :: c1 :: c2 :: c3 :: c4 :: c5 :: vc :: vd :: c8 :: c9 :: c10 :: c11 :: vl :: vr :: .slice (some ⟨b14, 0, none⟩) 48 48 :: .slice (some ⟨b15, 0, none⟩) 32 32 :: .int .i64 1 :: u17 :: u18 :: u19 :: u20 :: u21 :: u22 :: u23 :: u24 :: u25 :: u26 :: c27 :: c28 :: c29 :: c30 :: c31 :: c32 :: c33 :: c34 :: c35 :: c36 :: c37 :: c38 :: c39 :: c40 :: c41 :: c42 :: c43 :: c44 :: c45 :: c46 :: c47 :: c48 :: c49 :: c50 :: c51 :: c52 :: c53 :: c54 :: c55 :: c56 :: c57 :: c58 :: c59 :: c60 :: c61 :: c62 :: c63 :: c64 :: c65 :: c66 :: c67 :: c68 :: c69 :: c70 :: c71 :: c72 :: u73 :: u74 :: u75 :: u76 :: u77 :: u78 :: u79 :: u80 :: u81 :: u82 :: u83 :: u84 :: u85 :: u86 :: u87 :: u88 :: u89 :: u90 :: u91 :: u92 :: u93 :: u94 :: u95 :: u96 :: u97 :: u98 :: u99 :: u100 :: u101 :: u102 :: u103 :: u104 :: u105 :: u106 :: u107 :: u108 :: u109 :: u110 :: u111 :: u112 :: u113 :: u114 :: u115 :: u116 :: u117 :: u118 :: u119 :: u120 :: u121 :: u122 :: u123 :: u124 :: u125 :: u126 :: u127 :: u128 :: u129 :: u130 :: u131 :: u132 :: u133 :: u134 :: u135 :: u136 :: u137 :: u138 :: u139 :: u140 :: u141 :: u142 :: u143 :: u144 :: u145 :: u146 :: u147 :: u148 :: u149 :: u150 :: u151 :: u152 :: u153 :: u154 :: u155 :: u156 :: u157 :: u158 :: u159 :: u160 :: u161 :: u162 :: u163 :: u164 :: u165 :: u166 :: u167 :: u168 :: u169 :: u170 :: u171 :: u172 :: u173 :: u174 :: u175 :: u176 :: u177 :: u178 :: u179 :: u180 :: u181 :: u182 :: u183 :: u184 :: u185 :: u186 :: u187 :: u188 :: u189 :: u190 :: u191 :: u192 :: u193 :: u194 :: u195 :: u196 :: u197 :: u198 :: u199 :: u200 :: u201 :: u202 :: u203 :: u204 :: c205 :: c206 :: c207 :: c208 :: c209 :: c210 :: c211 :: c212 :: c213 :: c214 :: c215 :: c216 :: c217 :: c218 :: c219 :: c220 :: c221 :: c222 :: c223 :: c224 :: c225 :: c226 :: c227 :: c228 :: c229 :: c230 :: c231 :: []).toArray, defers := [] } w0 := by
  conv => arg 2; arg 1; whnf
  have HP := Lib.hid hP
  have HP2 := Lib.hid hP2
  have HS := Lib.hid hs
  have HC0 := Lib.hid hc.lo
  have HD0 := Lib.hid hd.lo
  have HL0 := Lib.hid hl.lo
  have HR0 := Lib.hid hr.lo
  clear hP hP2 hs hc hd hl hr
  go_loopw [6, 7, 12, 13, 16] (fun uc ud ul ur v wr => ∃ n : Nat, n ≤ 16 ∧ v = .int .i64 ((n : Int) + 1) ∧ Row wr (fun b => b < wr.heap.size) 1 uc 28 (u8s (Pure.bb (Pure.desRounds s n).c)) ∧ Row wr (fun b => b < wr.heap.size) 1 ud 28 (u8s (Pure.bb (Pure.desRounds s n).d)) ∧
    Row wr (fun b => b < wr.heap.size) 1 ul 32 (u8s (Pure.bb (Pure.desRounds s n).l)) ∧ Row wr (fun b => b < wr.heap.size) 1 ur 32 (u8s (Pure.bb (Pure.desRounds s n).r)) ∧ Below w0.heap.size w0 wr) (fun _ _ _ _ v _ => 17 - (intOf v).toNat)
  case atStart => exact ⟨0, by omega, rfl, HC0.out, HD0.out, HL0.out, HR0.out, Below.refl _ _⟩
  case round =>
    clear HC0 HD0 HL0 HR0
    obtain ⟨n, hn, rfl, hc, hd, hl, hr, hK⟩ := hrel
    have HC := Lib.hid hc
    have HD := Lib.hid hd
    have HL := Lib.hid hl
    have HR := Lib.hid hr
    have HK := Lib.hid hK
    have HG := Lib.hid (HS.out.rounds n)
    obtain ⟨Ac, cc, rfl, hcc⟩ := hc.form
    obtain ⟨Ad, cd, rfl, hcd⟩ := hd.form
    obtain ⟨Al, cl, rfl, hcl⟩ := hl.form
    obtain ⟨Ar, cr, rfl, hcr⟩ := hr.form
    obtain ⟨sn, hsn⟩ : ∃ sn, sn = Pure.desRounds s n := ⟨_, rfl⟩
    rw [← hsn] at HC HD HL HR HG
    have HSn := Lib.hid hsn
    clear hc hd hl hr hK hsn
    by_cases hnl : n < 16
    · clear hexit
      obtain ⟨by', hby⟩ : ∃ b, b = Pure.desBy (n + 1) := ⟨_, rfl⟩
      have hby1 : 1 ≤ by' ∧ by' ≤ 2 := by rw [hby]; unfold Pure.desBy; split <;> omega
      have HBy := Lib.hid hby
      clear hby
      go_upto_region 19 with fail
      go_cut [90] from 73 to 204 (fun v wx => v = .bool (decide (by' = 1)) ∧ wx = wr)
      case first =>
        clear HC HD HL HR HG HSn
        rcases (show n = 0 ∨ n = 1 ∨ n = 2 ∨ n = 3 ∨ n = 4 ∨ n = 5 ∨ n = 6 ∨ n = 7 ∨ n = 8 ∨ n = 9 ∨ n = 10 ∨ n = 11 ∨ n = 12 ∨ n = 13 ∨ n = 14 ∨ n = 15 by omega) with rfl | rfl | rfl | rfl | rfl | rfl | rfl | rfl | rfl | rfl | rfl | rfl | rfl | rfl | rfl | rfl
        all_goals
          have hv : by' = _ := HBy.out
          simp only [Pure.desBy] at hv
          subst hv
          go_wp2_with fail
          go_meet
          exact ⟨rfl, rfl⟩
      case rest =>
      obtain ⟨rfl, rfl⟩ := hcut
      go_upto_if 90 with fail
      go_cut [17] from 73 to 204 (fun v wx => v = .int .i64 (by' : Int) ∧ wx = wc)
      case first =>
        rcases (show by' = 1 ∨ by' = 2 by omega) with h | h
        all_goals
          rw [h]
          go_wp2_with fail
          go_meet
          exact ⟨by rw [h]; rfl, rfl⟩
      case rest =>
      obtain ⟨rfl, rfl⟩ := hcut
      obtain ⟨cv, hcv⟩ : ∃ cv, cv = Pure.desTurn sn.c by' := ⟨_, rfl⟩
      obtain ⟨dv, hdv⟩ : ∃ dv, dv = Pure.desTurn sn.d by' := ⟨_, rfl⟩
      obtain ⟨kv, hkv⟩ : ∃ kv, kv = Pure.desRoundKey cv dv := ⟨_, rfl⟩
      have hcl28 : cv.length = 28 := by rw [hcv, Pure.desTurn_length, HG.out.c]
      have hdl28 : dv.length = 28 := by rw [hdv, Pure.desTurn_length, HG.out.d]
      have hnext : Pure.desRounds s (n + 1) = ⟨cv, dv, sn.r, Pure.desXor sn.l (Pure.desF sn.r kv)⟩ := by
        show Pure.desRound (n + 1) (Pure.desRounds s n) = _
        rw [← HSn.out, hkv, hcv, hdv, HBy.out]
        rfl
      have HT1 := Lib.hid (turn_any (fun b => b < wc.heap.size) _ sn.c HG.out.c by' hby1.1 hby1.2 wc (fun _ h => h) HC.out)
      have HN := Lib.hid hnext
      have HKv := Lib.hid hkv
      have HCv := Lib.hid hcv
      have HDv := Lib.hid hdv
      have HCl := Lib.hid hcl28
      have HDl := Lib.hid hdl28
      clear hcv hdv hkv hcl28 hdl28 hnext HSn
      go_wp2_with fail
      refine HT1.out.mono ?_
      rintro e w1 ⟨u1, rfl, hu1, hb1⟩
      have HU1 := Lib.hid (show Row w1 (fun b => b < w1.heap.size) 1 u1 28 (u8s (Pure.bb cv)) by rw [HCv.out]; exact (Row.of_own hu1).lo)
      have HL1 := Lib.hid (HL.out.go hb1)
      have HR1 := Lib.hid (HR.out.go hb1)
      have HK1 := Lib.hid (HK.out.trans (hb1.mono HK.out.size))
      have HT2 := Lib.hid (turn_any (fun b => b < w1.heap.size) _ sn.d HG.out.d by' hby1.1 hby1.2 w1 (fun _ h => h) (HD.out.go hb1))
      obtain ⟨A1, cA1, rfl, hcA1⟩ := HU1.out.form
      clear HT1 HC HD HL HR HK hu1 hb1
      go_wp2_with fail
      refine HT2.out.mono ?_
      rintro e w2 ⟨u2, rfl, hu2, hb2⟩
      have HU2 := Lib.hid (show Row w2 (fun b => b < w2.heap.size) 1 u2 28 (u8s (Pure.bb dv)) by rw [HDv.out]; exact (Row.of_own hu2).lo)
      have HU12 := Lib.hid (HU1.out.go hb2)
      have HL2 := Lib.hid (HL1.out.go hb2)
      have HR2 := Lib.hid (HR1.out.go hb2)
      have HK2 := Lib.hid (HK1.out.trans (hb2.mono HK1.out.size))
      have hlc : (Pure.bb cv).length = 28 := by rw [Pure.bb_length, HCl.out]
      have hld : (Pure.bb dv).length = 28 := by rw [Pure.bb_length, HDl.out]
      have HCp := Lib.hid (copy_any (fun b => b < w2.heap.size) _ (Pure.bb cv) w2 (by rw [hlc]; exact HU12.out) (fun _ h => h) (by rw [hlc]; omega))
      have HLc := Lib.hid hlc
      have HLd := Lib.hid hld
      obtain ⟨A2, cA2, rfl, hcA2⟩ := HU2.out.form
      clear HT2 HU1 HL1 HR1 HK1 hu2 hb2 hlc hld
      go_wp2_with fail
      refine HCp.out.mono ?_
      rintro e w3 ⟨u3, rfl, hu3, hb3⟩
      rw [HLc.out] at hu3
      obtain ⟨A3, cA3, rfl⟩ := own_form hu3
      have HU3 := Lib.hid hu3
      have HU23 := Lib.hid (HU2.out.go hb3)
      have HB3 := Lib.hid hb3
      have hz3 := hb3.size
      clear HCp hu3 hb3
      go_wp2_with (at_builtin; refine stopHere ?_)
      unfold Hid
      refine wp_append_u8 rfl (.tmp 98) (.tmp 99) rfl w2.heap.size (.slice A3 28 cA3) 28 (Pure.bb cv) HLc.out rfl HU3.out _ _ (Pure.bb dv) rfl (by rw [HLd.out]; exact HU23.out) (by rw [HLd.out]; omega) hz3 ?_
      intro v4 w4 hown4 hg4 hat4
      have hb4 : Below w2.heap.size w2 w4 := HB3.out.grown hg4 hz3 (fun k hk => ownsRow_ge HU3.out k hk)
      have hr4 : Row w4 (fun b => b < w4.heap.size) 1 v4 56 (u8s (Pure.bb (cv ++ dv))) := by
        have h := (Row.of_own hown4).lo
        rw [← Pure.bb_append] at h
        rw [Pure.bb_length, List.length_append, HCl.out, HDl.out] at h
        exact h
      have HL4 := Lib.hid (HL2.out.go hb4)
      have HR4 := Lib.hid (HR2.out.go hb4)
      have HU14 := Lib.hid (HU12.out.go hb4)
      have HU24 := Lib.hid (HU2.out.go hb4)
      have HK4 := Lib.hid (HK2.out.trans (hb4.mono HK2.out.size))
      have hp4 := HP.out.below HK4.out HP.out.lt
      have HPk := Lib.hid (pick_any (fun b => b < w4.heap.size) (fun b => b = b14) v4 (.slice (some ⟨b14, 0, none⟩) 48 48) (cv ++ dv) Pure.desPc2 w4 (by rw [List.length_append, HCl.out, HDl.out]; exact hr4) (Row.block hp4 rfl rfl (by unfold maxLen; decide) (Nat.le_refl _)) (fun k hk => by rw [List.length_append, HCl.out, HDl.out]; exact Pure.pc2_range k hk) (by decide) (by rw [List.length_append, HCl.out, HDl.out]; omega))
      obtain ⟨A4, cA4, rfl, hcA4⟩ := hr4.form
      clear HU3 HU23 HB3 hown4 hg4 hat4 hb4 hr4 hp4 HL2 HR2 HK2 HU12 HU2
      go_wp2_with fail
      refine HPk.out.mono ?_
      rintro e w5 ⟨u5, rfl, hu5, hb5⟩
      have hu5' : w5.ownsRow w4.heap.size 5 1 u5 48 (u8s (Pure.bb kv)) := by rw [HKv.out]; exact hu5
      have HU5 := Lib.hid ((Row.of_own hu5').lo)
      have HL5 := Lib.hid (HL4.out.go hb5)
      have HR5 := Lib.hid (HR4.out.go hb5)
      have HU15 := Lib.hid (HU14.out.go hb5)
      have HU25 := Lib.hid (HU24.out.go hb5)
      have HK5 := Lib.hid (HK4.out.trans (hb5.mono HK4.out.size))
      obtain ⟨A5, cA5, rfl⟩ := own_form hu5'
      have hkl : kv.length = 48 := by rw [HKv.out, Pure.desRoundKey_length]
      clear HPk HL4 HR4 HU14 HU24 HK4 hu5 hu5' hb5
      go_wp2_with fail
      refine desBox_loop _ _ _ _ _ _ _ _ _ _ _ _ _ _ _ _ _ _ _ _ _ _ _ _ _ _ _ _ _ _ _ _ _ _ _ _ _ _ _ _ _ _ _ _ _ _ _ _ _ _ _ _ _ _ _ _ _ _ _ _ _ _ _ _ _ _ _ _ _ _ _ _ _ _ _ _ _ _ _ _ _ _ _ _ _ _ _ _ _ _ _ _ _ _ _ _ _ _ _ _ _ _ _ _ _ _ _ _ _ _ _ _ _ _ _ _ _ _ _ _ _ _ _ _ _ _ _ _ _ _ _ _ _ _ _ _ _ _ _ _ _ _ _ _ _ _ _ _ _ _ _ _ _ _ _ _ _ _ _ _ _ _ _ _ _ _ _ _ _ _ _ _ _ _ _ _ _ _ _ _ _ _ _ _ _ _ _ _ _ _ _ _ _ _ _ _ _ _ _ _ _ _ _ _ _ _ _ _ _ _ _ _ _ _ _ _ _ _ _ _ _ _ _ _ _ _ _ _ Ar A5 cr cA5 sn.r kv HG.out.r hkl _ _ w5 HR5.out HU5.out _ (fun _ _ _ _ _ h => hQ _ _ _ _ _ h) ?_
      intros
      rename_i vout w6 hO6 hb6
      have HO6 := Lib.hid ((Row.of_own hO6).lo)
      have HL6 := Lib.hid (HL5.out.go hb6)
      have HR6 := Lib.hid (HR5.out.go hb6)
      have HU16 := Lib.hid (HU15.out.go hb6)
      have HU26 := Lib.hid (HU25.out.go hb6)
      have HK6 := Lib.hid (HK5.out.trans (hb6.mono HK5.out.size))
      have hp6 := HP2.out.below HK6.out HP2.out.lt
      have hol : (Pure.desOuts sn.r kv 8).length = 32 := Pure.desOuts_length _ _ 8
      have HPk := Lib.hid (pick_any (fun b => b < w6.heap.size) (fun b => b = b15) vout (.slice (some ⟨b15, 0, none⟩) 32 32) (Pure.desOuts sn.r kv 8) Pure.desP w6 (by rw [hol]; exact HO6.out) (Row.block hp6 rfl rfl (by unfold maxLen; decide) (Nat.le_refl _)) (fun k hk => by rw [hol]; exact Pure.p_range k hk) (by decide) (by rw [hol]; omega))
      obtain ⟨A6, cA6, rfl, hcA6⟩ := HO6.out.form
      clear HU5 HL5 HR5 HU15 HU25 HK5 hO6 hb6 hp6 hkl hol
      go_wp2_with fail
      refine HPk.out.mono ?_
      rintro e w7 ⟨u7, rfl, hu7, hb7⟩
      have hu7' : w7.ownsRow w6.heap.size 5 1 u7 32 (u8s (Pure.bb (Pure.desF sn.r kv))) := hu7
      have HU7 := Lib.hid ((Row.of_own hu7').lo)
      have HL7 := Lib.hid (HL6.out.go hb7)
      have HR7 := Lib.hid (HR6.out.go hb7)
      have HU17 := Lib.hid (HU16.out.go hb7)
      have HU27 := Lib.hid (HU26.out.go hb7)
      have HK7 := Lib.hid (HK6.out.trans (hb7.mono HK6.out.size))
      obtain ⟨A7, cA7, rfl⟩ := own_form hu7'
      clear HPk HL6 HR6 HU16 HU26 HK6 HO6 hu7 hu7' hb7
      go_wp2_with (at_make; refine stopHere ?_)
      unfold Hid
      refine wpList_make_u8 rfl _ _ rfl 32 .i64 .i64 rfl rfl (by omega) ?_
      intro w8 hX8 hk8 hs8
      obtain ⟨bn, hbn⟩ : ∃ bn, bn = w7.heap.size := ⟨_, rfl⟩
      rw [← hbn] at hX8 hs8 ⊢
      have hb8 := Keeps.to_below hk8
      have HX8 := Lib.hid hX8
      have HB8 := Lib.hid hb8
      have HBn := Lib.hid hbn
      clear hX8 hk8 hs8 hbn hb8
      go_wp2_with fail
      have hne : ∀ x, x < w7.heap.size → ¬ x = bn := fun x hx e => by have := HBn.out; omega
      refine desXor_loop _ _ _ _ _ _ _ _ _ _ _ _ _ _ _ _ _ _ _ _ _ _ _ _ _ _ _ _ _ _ _ _ _ _ _ _ _ _ _ _ _ _ _ _ _ _ _ _ _ _ _ _ _ _ _ _ _ _ _ _ _ _ _ _ _ _ _ _ _ _ _ _ _ _ _ _ _ _ _ _ _ _ _ _ _ _ _ _ _ _ _ _ _ _ _ _ _ _ _ _ _ _ _ _ _ _ _ _ _ _ _ _ _ _ _ _ _ _ _ _ _ _ _ _ _ _ _ _ _ _ _ _ _ _ _ _ _ _ _ _ _ _ _ _ _ _ _ _ _ _ _ _ _ _ _ _ _ _ _ _ _ _ _ _ _ _ _ _ _ _ _ _ _ _ _ _ _ _ _ _ _ _ _ _ _ _ _ _ _ _ _ _ _ _ _ _ _ _ _ _ _ _ _ _ _ _ _ _ _ _ _ _ _ _ _ _ _ _ _ _ _ _ _ _ _ _ _ _ Al A7 cl cA7 sn.l (Pure.desF sn.r kv) HG.out.l (by unfold Pure.desF; rw [Pure.pick_length]; rfl) bn (fun b => b < w7.heap.size) (fun b => b < w7.heap.size) (by have := HBn.out; omega) (by have := HBn.out; omega) w8 (HL7.out.keeps (Keeps.new HB8.out) (fun _ _ h => h)) (HU7.out.keeps (Keeps.new HB8.out) (fun _ _ h => h)) HX8.out _ (fun _ _ _ _ _ h => hQ _ _ _ _ _ h) ?_
      intros
      rename_i w9 hX9 hk9
      have hb9 : Below w7.heap.size w7 w9 := Below.keeps HB8.out hk9 HB8.out.size (fun i hi => by have hi : i = bn := hi; have := HBn.out; omega)
      rw [Pure.desXorTo_all] at hX9
      have HX9 := Lib.hid (show Row w9 (fun b => b < w9.heap.size) 1 (.slice (some ⟨bn, 0, none⟩) 32 32) 32 (u8s (Pure.bb (Pure.desXor sn.l (Pure.desF sn.r kv)))) from (Row.block (F := fun b => b = bn) hX9 rfl (by simp [Pure.bb_length, Pure.desXor_length]) (by unfold maxLen; decide) (Nat.le_refl _)).lo)
      have HR9 := Lib.hid (HR7.out.go hb9)
      have HU19 := Lib.hid (HU17.out.go hb9)
      have HU29 := Lib.hid (HU27.out.go hb9)
      have HK9 := Lib.hid (HK7.out.trans (hb9.mono HK7.out.size))
      clear hX9 hk9 hb9 HR7 HL7 HU17 HU27 HK7 HU7 HX8 HB8 hne
      go_wp2_with fail
      go_roundw
      case rel =>
        refine ⟨n + 1, by omega, by go_num, ?_, ?_, ?_, ?_, HK9.out⟩
        · rw [HN.out]; exact HU19.out
        · rw [HN.out]; exact HU29.out
        · rw [HN.out]; exact HR9.out
        · rw [HN.out]; exact HX9.out
      case measure => simp [intOf]; omega
    · have hnn : n = 16 := by omega
      subst hnn
      have hl2 := HL.out
      have hr2 := HR.out
      rw [HSn.out] at hl2 hr2
      clear hn hnl
      go_wp2_with fail
      exact hexit _ _ _ _ _ _ _ _ _ _ _ _ _ _ _ _ _ _ _ _ _ _ _ _ _ _ _ _ _ _ _ _ _ _ _ _ _ _ _ _ _ _ _ _ _ _ _ _ _ _ _ _ _ _ _ _ _ _ _ _ _ _ _ _ _ _ _ _ _ _ _ _ _ _ _ _ _ _ _ _ _ _ _ _ _ _ _ _ _ _ _ _ _ _ _ _ _ _ _ _ _ _ _ _ _ _ _ _ _ _ _ _ _ _ _ _ _ _ _ _ _ _ _ _ _ _ _ _ _ _ _ _ _ _ _ _ _ _ _ _ _ _ _ _ _ _ wr hl2 hr2 HK.out
end Go.Proofs.Ytmelphlgpnmopaa
