/- The document's Des: the boxes. -/
import Derived.Test.YtmelphlgpnmopaaDesC
import Derived.Test.YtmelphlgpnmopaaDesBox
namespace Go.Proofs.Ytmelphlgpnmopaa
open Go.RowKit
theorem Pure.desBox_length (i : Nat) : (Pure.desBox i).length = 64 := by
  rcases (show i = 0 ∨ i = 1 ∨ i = 2 ∨ i = 3 ∨ i = 4 ∨ i = 5 ∨ i = 6 ∨ 7 ≤ i by omega) with rfl | rfl | rfl | rfl | rfl | rfl | rfl | h
  all_goals first | rfl | skip
  obtain ⟨j, rfl⟩ : ∃ j, i = j + 7 := ⟨i - 7, by omega⟩
  rfl
theorem Pure.desBox_lt (i a : Nat) : (Pure.desBox i).getD a 0 < 16 := by
  have h7 : ∀ i < 8, ∀ x ∈ Pure.desBox i, x < 16 := by decide +kernel
  have h8 : ∀ i, ∀ x ∈ Pure.desBox i, x < 16 := fun i => by
    rcases Nat.lt_or_ge i 8 with h | h
    · exact h7 i h
    · obtain ⟨j, rfl⟩ : ∃ j, i = j + 7 := ⟨i - 7, by omega⟩
      exact h7 7 (by omega)
  rw [List.getD_eq_getElem?_getD]
  rcases Nat.lt_or_ge a (Pure.desBox i).length with h | h
  · rw [List.getElem?_eq_getElem h]
    exact h8 i _ (List.getElem_mem h)
  · rw [List.getElem?_eq_none h]
    exact Nat.zero_lt_succ _
theorem Pure.desOuts_succ (r k : List Bool) (i : Nat) : Pure.desOuts r k (i + 1) = Pure.desOuts r k i ++ Pure.nibble (Pure.desNum r k i) := by
  unfold Pure.desOuts
  rw [List.range_succ, List.flatMap_append]
  simp
theorem Pure.desOuts_length (r k : List Bool) : ∀ i, (Pure.desOuts r k i).length = 4 * i
  | 0 => rfl
  | i + 1 => by
    rw [Pure.desOuts_succ, List.length_append, Pure.desOuts_length r k i]
    show 4 * i + 4 = _
    omega
theorem and1_bb (s t : Nat) (hs : s < 4294967296) : bits .and .i64 ((s : Int) / 2 ^ t) 1 = ((Pure.bb1 (s.testBit t)).toNat : Int) := by
  rw [and1_i64 s t hs]
  cases s.testBit t <;> rfl
theorem Pure.desNum_lt (r k : List Bool) (i : Nat) : Pure.desNum r k i < 16 := Pure.desBox_lt _ _
set_option maxRecDepth 1000000 in
set_option maxHeartbeats 8000000 in
theorem desBox_loop (c0 c1 c2 c3 c4 c5 c6 c7 c8 c9 c10 c11 c12 c14 c15 c16 c17 c24 c25 c26 c27 c28 c29 c30 c31 c32 c33 c34 c35 c36 c37 c38 c39 c40 c41 c42 c43 c44 c45 c46 c47 c48 c49 c50 c51 c52 c53 c54 c55 c56 c57 c58 c59 c60 c61 c62 c63 c64 c65 c66 c67 c68 c69 c70 c71 c72 c73 c74 c75 c76 c77 c78 c79 c80 c81 c82 c83 c84 c85 c86 c87 c88 c89 c90 c91 c92 c93 c94 c95 c96 c97 c98 c99 c100 c101 c102 c183 c184 c185 c186 c187 c188 c189 c190 c191 c192 c193 c194 c195 c196 c197 c198 c199 c200 c201 c202 c203 c204 c205 c206 c207 c208 c209 c210 c211 c212 c213 c214 c215 c216 c217 c218 c219 c220 c221 c222 c223 c224 c225 c226 c227 c228 c229 c230 c231 : Value) (u21 u22 u23 u103 u104 u105 u106 u107 u108 u109 u110 u111 u112 u113 u114 u115 u116 u117 u118 u119 u120 u121 u122 u123 u124 u125 u126 u127 u128 u129 u130 u131 u132 u133 u134 u135 u136 u137 u138 u139 u140 u141 u142 u143 u144 u145 u146 u147 u148 u149 u150 u151 u152 u153 u154 u155 u156 u157 u158 u159 u160 u161 u162 u163 u164 u165 u166 u167 u168 u169 u170 u171 u172 u173 u174 u175 u176 u177 u178 u179 u180 u181 u182 : Value) (Ar Ak : Option Addr) (cr ck : Nat) (r k : List Bool) (hrl : r.length = 32) (hkl : k.length = 48) (G G2 : Nat → Prop) (w0 : World) (hR : Row w0 G 1 (.slice Ar 32 cr) 32 (u8s (Pure.bb r))) (hKk : Row w0 G2 1 (.slice Ak 48 ck) 48 (u8s (Pure.bb k)))
    (Q0 : Exit → Act → World → Prop) (hQ : ∀ (c : List PanicEntry) (a : Act) (d : Option Nat) (v : Value) (w : World), Q0 (.panic c) (a.put d v) w → Q0 (.panic c) a w)
    (hexit : ∀ (v21 v22 v23 v103 v104 v105 v106 v107 v108 v109 v110 v111 v112 v113 v114 v115 v116 v117 v118 v119 v120 v121 v122 v123 v124 v125 v126 v127 v128 v129 v130 v131 v132 v133 v134 v135 v136 v137 v138 v139 v140 v141 v142 v143 v144 v145 v146 v147 v148 v149 v150 v151 v152 v153 v154 v155 v156 v157 v158 v159 v160 v161 v162 v163 v164 v165 v166 v167 v168 v169 v170 v171 v172 v173 v174 v175 v176 v177 v178 v179 v180 v181 v182 : Value) (vout : Value) (wr : World), wr.ownsRow w0.heap.size 5 1 vout 32 (u8s (Pure.bb (Pure.desOuts r k 8))) → Below w0.heap.size w0 wr → Q0 (.exit 4) { tmps := (c0 :: c1 :: c2 :: c3 :: c4 :: c5 :: c6 :: c7 :: c8 :: c9 :: c10 :: c11 :: c12 :: .slice Ar 32 cr :: c14 :: c15 :: c16 :: c17 :: .slice Ak 48 ck :: vout :: .int .i64 ((8 : Nat) : Int) :: v21 :: v22 :: v23 :: c24 :: c25 :: c26 :: c27 :: c28 :: c29 :: c30 :: c31 :: c32 :: c33 :: c34 :: c35 :: c36 :: c37 :: c38 :: c39 :: c40 :: c41 :: c42 :: c43 :: c44 :: c45 :: c46 :: c47 :: c48 :: c49 :: c50 :: c51 :: c52 :: c53 :: c54 :: c55 :: c56 :: c57 :: c58 :: c59 :: c60 :: c61 :: c62 :: c63 :: c64 :: c65 :: c66 :: c67 :: c68 :: c69 :: c70 :: c71 :: c72 :: c73 :: c74 :: c75 :: c76 :: c77 :: c78 :: c79 :: c80 :: c81 :: c82 :: c83 :: c84 :: c85 :: c86 :: c87 :: c88 :: c89 :: c90 :: c91 :: c92 :: c93 :: c94 :: c95 :: c96 :: c97 :: c98 :: c99 :: c100 :: c101 :: c102 :: v103 :: v104 :: v105 :: v106 :: v107 :: v108 :: v109 :: v110 :: v111 :: v112 :: v113 :: v114 :: v115 :: v116 :: v117 :: v118 :: v119 :: v120 :: v121 :: v122 :: v123 :: v124 :: v125 :: v126 :: v127 :: v128 :: v129 :: v130 :: v131 :: v132 :: v133 :: v134 :: v135 :: v136 :: v137 :: v138 :: v139 :: v140 :: v141 :: v142 :: v143 :: v144 :: v145 :: v146 :: v147 :: v148 :: v149 :: v150 :: v151 :: v152 :: v153 :: v154 :: v155 :: v156 :: v157 :: v158 :: v159 :: v160 :: v161 :: v162 :: v163 :: v164 :: v165 :: v166 :: v167 :: v168 :: v169 :: v170 :: v171 :: v172 :: v173 :: v174 :: v175 :: v176 :: v177 :: v178 :: v179 :: v180 :: v181 :: v182 :: c183 :: c184 :: c185 :: c186 :: c187 :: c188 :: c189 :: c190 :: c191 :: c192 :: c193 :: c194 :: c195 :: c196 :: c197 :: c198 :: c199 :: c200 :: c201 :: c202 :: c203 :: c204 :: c205 :: c206 :: c207 :: c208 :: c209 :: c210 :: c211 :: c212 :: c213 :: c214 :: c215 :: c216 :: c217 :: c218 :: c219 :: c220 :: c221 :: c222 :: c223 :: c224 :: c225 :: c226 :: c227 :: c228 :: c229 :: c230 :: c231 :: []).toArray, defers := [] } wr) :
    Code.wp Try.prog (Code.loop desB3) Q0 { tmps := (c0 :: c1 :: c2 :: c3 :: c4 :: c5 :: c6 :: c7 :: c8 :: c9 :: c10 :: c11 :: c12 :: .slice Ar 32 cr :: c14 :: c15 :: c16 :: c17 :: .slice Ak 48 ck :: .slice none 0 0 :: .int .i64 0 :: u21 :: u22 :: u23 :: c24 :: c25 :: c26 :: c27 :: c28 :: c29 :: c30 :: c31 :: c32 :: c33 :: c34 :: c35 :: c36 :: c37 :: c38 :: c39 :: c40 :: c41 :: c42 :: c43 :: c44 :: c45 :: c46 :: c47 :: c48 :: c49 :: c50 :: c51 :: c52 :: c53 :: c54 :: c55 :: c56 :: c57 :: c58 :: c59 :: c60 :: c61 :: c62 :: c63 :: c64 :: c65 :: c66 :: c67 :: c68 :: c69 :: c70 :: c71 :: c72 :: c73 :: c74 :: c75 :: c76 :: c77 :: c78 :: c79 :: c80 :: c81 :: c82 :: c83 :: c84 :: c85 :: c86 :: c87 :: c88 :: c89 :: c90 :: c91 :: c92 :: c93 :: c94 :: c95 :: c96 :: c97 :: c98 :: c99 :: c100 :: c101 :: c102 :: u103 :: u104 :: u105 :: u106 :: u107 :: u108 :: u109 :: u110 :: u111 :: u112 :: u113 :: u114 :: u115 :: u116 :: u117 :: u118 :: u119 :: u120 :: u121 :: u122 :: u123 :: u124 :: u125 :: u126 :: u127 :: u128 :: u129 :: u130 :: u131 :: u132 :: u133 :: u134 :: u135 :: u136 :: u137 :: u138 :: u139 :: u140 :: u141 :: u142 :: u143 :: u144 :: u145 :: u146 :: u147 :: u148 :: u149 :: u150 :: u151 :: u152 :: u153 :: u154 :: u155 :: u156 :: u157 :: u158 :: u159 :: u160 :: u161 :: u162 :: u163 :: u164 :: u165 :: u166 :: u167 :: u168 :: u169 :: u170 :: u171 :: u172 :: u173 :: u174 :: u175 :: u176 :: u177 :: u178 :: u179 :: u180 :: u181 :: u182 :: c183 :: c184 :: c185 :: c186 :: c187 :: c188 :: c189 :: c190 :: c191 :: c192 :: c193 :: c194 :: c195 :: c196 :: c197 :: c198 :: c199 :: c200 :: c201 :: c202 :: c203 :: c204 :: c205 :: c206 :: c207 :: c208 :: c209 :: c210 :: c211 :: c212 :: c213 :: c214 :: c215 :: c216 :: c217 :: c218 :: c219 :: c220 :: c221 :: c222 :: c223 :: c224 :: c225 :: c226 :: c227 :: c228 :: c229 :: c230 :: c231 :: []).toArray, defers := [] } w0 := by
  conv => arg 2; arg 1; whnf
  have HR := Lib.hid (hR.strong.mono (G := fun b => b < w0.heap.size) (fun _ h => h.2))
  have HKk := Lib.hid (hKk.strong.mono (G := fun b => b < w0.heap.size) (fun _ h => h.2))
  have HRl := Lib.hid hrl
  have HKl := Lib.hid hkl
  clear hR hKk hrl hkl
  go_loopw [19, 20] (fun u v wr => ∃ i : Nat, i ≤ 8 ∧ v = .int .i64 (i : Int) ∧ wr.ownsRow w0.heap.size 5 1 u (4 * i) (u8s (Pure.bb (Pure.desOuts r k i))) ∧ Below w0.heap.size w0 wr) (fun _ v _ => 8 - (intOf v).toNat)
  case atStart => exact ⟨0, by omega, rfl, World.ownsRow_nil _ _ _ _, Below.refl _ _⟩
  case round =>
    obtain ⟨i, hi, rfl, hX, hK⟩ := hrel
    have HX := Lib.hid hX
    have HK := Lib.hid hK
    by_cases hil : i < 8
    · clear hexit
      obtain ⟨A2, c2, rfl⟩ := own_form hX
      have hi0 : (0 : Int) ≤ (i : Int) := by omega
      have hi1 : (i : Int) < 8 := by omega
      have hsz := hK.size
      clear hX hK
      go_wp2_with (at_make; refine stopHere ?_)
      unfold Hid
      refine wpList_make_ints rfl _ _ rfl 6 .i64 .i64 rfl rfl (by omega) ?_
      intro w4 hX4 hk4 hs4
      obtain ⟨bs, hbs⟩ : ∃ bs, bs = wr.heap.size := ⟨_, rfl⟩
      rw [← hbs] at hX4 hs4 ⊢
      have hbw : w0.heap.size ≤ bs := by omega
      have HX4 := Lib.hid hX4
      have HK4 := Lib.hid hk4
      have HS4 := Lib.hid hs4
      have HBs := Lib.hid hbs
      clear hX4 hk4 hs4 hbs hsz
      go_wp2_with fail
      refine desSix_loop _ _ _ _ _ _ _ _ _ _ _ _ _ _ _ _ _ _ _ _ _ _ _ _ _ _ _ _ _ _ _ _ _ _ _ _ _ _ _ _ _ _ _ _ _ _ _ _ _ _ _ _ _ _ _ _ _ _ _ _ _ _ _ _ _ _ _ _ _ _ _ _ _ _ _ _ _ _ _ _ _ _ _ _ _ _ _ _ _ _ _ _ _ _ _ _ _ _ _ _ _ _ _ _ _ _ _ _ _ _ _ _ _ _ _ _ _ _ _ _ _ _ _ _ _ _ _ _ _ _ _ _ _ _ _ _ _ _ _ _ _ _ _ _ _ _ _ _ _ _ _ _ _ _ _ _ _ _ _ _ _ _ _ _ _ _ _ _ _ _ _ _ _ _ _ _ _ _ _ _ _ _ _ _ _ _ _ _ _ _ _ _ _ _ _ _ _ _ _ _ _ _ _ _ _ _ _ _ _ _ _ _ _ _ _ _ _ _ _ _ _ _ _ _ _ _ _ Ar Ak cr ck r k HRl.out HKl.out i hil bs (fun b => b < w0.heap.size) (fun b => b < w0.heap.size) (by omega) (by omega) w4 ((HR.out.keeps (Keeps.new HK.out) (fun _ _ h => h)).keeps HK4.out (fun _ _ h => h)) ((HKk.out.keeps (Keeps.new HK.out) (fun _ _ h => h)).keeps HK4.out (fun _ _ h => h)) HX4.out _ (fun _ _ _ _ _ h => hQ _ _ _ _ _ h) ?_
      intros
      rename_i w5 hX5 hk5
      have HK5 := Lib.hid ((HK4.out.mono (T := only bs) (fun _ h => h.elim)).trans hk5)
      have hsx : ∀ t, t < 6 → w5.cell? ⟨bs, t, none⟩ = some (.int .i64 (((Pure.desSix r k i t).toNat : Nat) : Int)) := fun t ht => by
        rw [hX5.cell]
        have := ints_at (Pure.desSixes r k i 6) t (by rw [Pure.desSixes_length _ _ _ _ (Nat.le_refl _)]; exact ht)
        rw [show (ints (Pure.desSixes r k i 6)).toArray[t]? = (ints (Pure.desSixes r k i 6))[t]? by simp, this]
        congr 2
        unfold Pure.desSixes
        rw [List.getD_eq_getElem?_getD, Nat.sub_self, List.replicate_zero, List.append_nil, List.getElem?_map, List.getElem?_range ht]
        rfl
      have hbl : ∀ t, (Pure.desSix r k i t).toNat ≤ 1 := fun t => Bool.toNat_le _
      have k0 := hsx 0 (by omega)
      have l0 := hbl 0
      obtain ⟨x0, hx0⟩ : ∃ x, x = (Pure.desSix r k i 0).toNat := ⟨_, rfl⟩
      rw [← hx0] at k0 l0
      have k1 := hsx 1 (by omega)
      have l1 := hbl 1
      obtain ⟨x1, hx1⟩ : ∃ x, x = (Pure.desSix r k i 1).toNat := ⟨_, rfl⟩
      rw [← hx1] at k1 l1
      have k2 := hsx 2 (by omega)
      have l2 := hbl 2
      obtain ⟨x2, hx2⟩ : ∃ x, x = (Pure.desSix r k i 2).toNat := ⟨_, rfl⟩
      rw [← hx2] at k2 l2
      have k3 := hsx 3 (by omega)
      have l3 := hbl 3
      obtain ⟨x3, hx3⟩ : ∃ x, x = (Pure.desSix r k i 3).toNat := ⟨_, rfl⟩
      rw [← hx3] at k3 l3
      have k4 := hsx 4 (by omega)
      have l4 := hbl 4
      obtain ⟨x4, hx4⟩ : ∃ x, x = (Pure.desSix r k i 4).toNat := ⟨_, rfl⟩
      rw [← hx4] at k4 l4
      have k5 := hsx 5 (by omega)
      have l5 := hbl 5
      obtain ⟨x5, hx5⟩ : ∃ x, x = (Pure.desSix r k i 5).toNat := ⟨_, rfl⟩
      rw [← hx5] at k5 l5
      obtain ⟨m1, hm1⟩ : ∃ m, m = 2 * x0 := ⟨_, rfl⟩
      obtain ⟨m2, hm2⟩ : ∃ m, m = m1 + x5 := ⟨_, rfl⟩
      obtain ⟨m3, hm3⟩ : ∃ m, m = 16 * m2 := ⟨_, rfl⟩
      obtain ⟨m4, hm4⟩ : ∃ m, m = 8 * x1 := ⟨_, rfl⟩
      obtain ⟨m5, hm5⟩ : ∃ m, m = m3 + m4 := ⟨_, rfl⟩
      obtain ⟨m6, hm6⟩ : ∃ m, m = 4 * x2 := ⟨_, rfl⟩
      obtain ⟨m7, hm7⟩ : ∃ m, m = m5 + m6 := ⟨_, rfl⟩
      obtain ⟨m8, hm8⟩ : ∃ m, m = 2 * x3 := ⟨_, rfl⟩
      obtain ⟨m9, hm9⟩ : ∃ m, m = m7 + m8 := ⟨_, rfl⟩
      obtain ⟨m10, hm10⟩ : ∃ m, m = m9 + x4 := ⟨_, rfl⟩
      have vm1 : IntKind.i64.wrap (2 * (x0 : Int)) = (m1 : Int) := by rw [IntWalk.i64_in _ (by omega)]; omega
      have vm2 : IntKind.i64.wrap ((m1 : Int) + (x5 : Int)) = (m2 : Int) := by rw [IntWalk.i64_in _ (by omega)]; omega
      have vm3 : IntKind.i64.wrap (16 * (m2 : Int)) = (m3 : Int) := by rw [IntWalk.i64_in _ (by omega)]; omega
      have vm4 : IntKind.i64.wrap (8 * (x1 : Int)) = (m4 : Int) := by rw [IntWalk.i64_in _ (by omega)]; omega
      have vm5 : IntKind.i64.wrap ((m3 : Int) + (m4 : Int)) = (m5 : Int) := by rw [IntWalk.i64_in _ (by omega)]; omega
      have vm6 : IntKind.i64.wrap (4 * (x2 : Int)) = (m6 : Int) := by rw [IntWalk.i64_in _ (by omega)]; omega
      have vm7 : IntKind.i64.wrap ((m5 : Int) + (m6 : Int)) = (m7 : Int) := by rw [IntWalk.i64_in _ (by omega)]; omega
      have vm8 : IntKind.i64.wrap (2 * (x3 : Int)) = (m8 : Int) := by rw [IntWalk.i64_in _ (by omega)]; omega
      have vm9 : IntKind.i64.wrap ((m7 : Int) + (m8 : Int)) = (m9 : Int) := by rw [IntWalk.i64_in _ (by omega)]; omega
      have vm10 : IntKind.i64.wrap ((m9 : Int) + (x4 : Int)) = (m10 : Int) := by rw [IntWalk.i64_in _ (by omega)]; omega
      have hat : Pure.desAt r k i = m10 := by
        unfold Pure.desAt
        rw [← hx0, ← hx1, ← hx2, ← hx3, ← hx4, ← hx5]
        omega
      have hm0 : (0 : Int) ≤ (m10 : Int) := by omega
      have hm64 : (m10 : Int) < 64 := by omega
      have HAt := Lib.hid hat
      clear hm1 hm2 hm3 hm4 hm5 hm6 hm7 hm8 hm9 hm10 hx0 hx1 hx2 hx3 hx4 hx5 hat hsx hbl hX5 hk5 HX4 HR HKk HRl HKl
      go_upto_region 33 with fail
      refine wp_region_Z (fun w' => w'.cell? ⟨bs, 0, none⟩ = some (.int .i64 (x0 : Int)) ∧ w'.cell? ⟨bs, 1, none⟩ = some (.int .i64 (x1 : Int)) ∧ w'.cell? ⟨bs, 2, none⟩ = some (.int .i64 (x2 : Int)) ∧ w'.cell? ⟨bs, 3, none⟩ = some (.int .i64 (x3 : Int)) ∧ w'.cell? ⟨bs, 4, none⟩ = some (.int .i64 (x4 : Int)) ∧ w'.cell? ⟨bs, 5, none⟩ = some (.int .i64 (x5 : Int))) 32 33 rfl (by kernel_rfl) ⟨k0, k1, k2, k3, k4, k5⟩ (fun hHeld => ?_)
      clear k0 k1 k2 k3 k4 k5
      refine wpAnyZ_take (i := 0) rfl (by kernel_rfl) (fun _ _ _ h => hQ _ _ _ _ _ h) (Or.inl ⟨by rfl, by intro w hSw; obtain ⟨s0, s1, s2, s3, s4, s5⟩ := hSw; go_simp; try with_reducible rfl⟩) hHeld.out ?_
      simp only [Act.put, List.setIfInBounds_toArray, Nat.reduceAdd, List.getElem_toArray, List.getElem_cons_succ, List.getElem_cons_zero, List.set_cons_succ, List.set_cons_zero]
      refine wpAnyZ_take (i := 2) rfl (by kernel_rfl) (fun _ _ _ h => hQ _ _ _ _ _ h) (Or.inl ⟨by rfl, by intro w hSw; obtain ⟨s0, s1, s2, s3, s4, s5⟩ := hSw; go_simp; try with_reducible rfl⟩) hHeld.out ?_
      simp only [Act.put, List.setIfInBounds_toArray, Nat.reduceAdd, List.getElem_toArray, List.getElem_cons_succ, List.getElem_cons_zero, List.set_cons_succ, List.set_cons_zero]
      refine wpAnyZ_take (i := 3) rfl (by kernel_rfl) (fun _ _ _ h => hQ _ _ _ _ _ h) (Or.inl ⟨by rfl, by intro w hSw; obtain ⟨s0, s1, s2, s3, s4, s5⟩ := hSw; go_simp; try with_reducible rfl⟩) hHeld.out ?_
      simp only [Act.put, List.setIfInBounds_toArray, Nat.reduceAdd, List.getElem_toArray, List.getElem_cons_succ, List.getElem_cons_zero, List.set_cons_succ, List.set_cons_zero]
      refine wpAnyZ_take (i := 4) rfl (by kernel_rfl) (fun _ _ _ h => hQ _ _ _ _ _ h) (Or.inl ⟨by rfl, by intro w hSw; obtain ⟨s0, s1, s2, s3, s4, s5⟩ := hSw; go_simp; try with_reducible rfl⟩) hHeld.out ?_
      simp only [Act.put, List.setIfInBounds_toArray, Nat.reduceAdd, List.getElem_toArray, List.getElem_cons_succ, List.getElem_cons_zero, List.set_cons_succ, List.set_cons_zero]
      refine wpAnyZ_take (i := 5) rfl (by kernel_rfl) (fun _ _ _ h => hQ _ _ _ _ _ h) (Or.inl ⟨by rfl, by intro w hSw; obtain ⟨s0, s1, s2, s3, s4, s5⟩ := hSw; go_simp; try with_reducible rfl⟩) hHeld.out ?_
      simp only [Act.put, List.setIfInBounds_toArray, Nat.reduceAdd, List.getElem_toArray, List.getElem_cons_succ, List.getElem_cons_zero, List.set_cons_succ, List.set_cons_zero]
      refine wpAnyZ_take (i := 6) rfl (by kernel_rfl) (fun _ _ _ h => hQ _ _ _ _ _ h) (Or.inl ⟨by rfl, by intro w hSw; obtain ⟨s0, s1, s2, s3, s4, s5⟩ := hSw; go_simp; try with_reducible rfl⟩) hHeld.out ?_
      simp only [Act.put, List.setIfInBounds_toArray, Nat.reduceAdd, List.getElem_toArray, List.getElem_cons_succ, List.getElem_cons_zero, List.set_cons_succ, List.set_cons_zero]
      refine wpAnyZ_take (i := 7) rfl (by kernel_rfl) (fun _ _ _ h => hQ _ _ _ _ _ h) (Or.inl ⟨by rfl, by intro w hSw; obtain ⟨s0, s1, s2, s3, s4, s5⟩ := hSw; go_simp; try with_reducible rfl⟩) hHeld.out ?_
      simp only [Act.put, List.setIfInBounds_toArray, Nat.reduceAdd, List.getElem_toArray, List.getElem_cons_succ, List.getElem_cons_zero, List.set_cons_succ, List.set_cons_zero]
      refine wpAnyZ_take (i := 8) rfl (by kernel_rfl) (fun _ _ _ h => hQ _ _ _ _ _ h) (Or.inl ⟨by rfl, by intro w hSw; obtain ⟨s0, s1, s2, s3, s4, s5⟩ := hSw; go_simp; try with_reducible rfl⟩) hHeld.out ?_
      simp only [Act.put, List.setIfInBounds_toArray, Nat.reduceAdd, List.getElem_toArray, List.getElem_cons_succ, List.getElem_cons_zero, List.set_cons_succ, List.set_cons_zero]
      refine wpAnyZ_take (i := 9) rfl (by kernel_rfl) (fun _ _ _ h => hQ _ _ _ _ _ h) (Or.inl ⟨by rfl, by intro w hSw; obtain ⟨s0, s1, s2, s3, s4, s5⟩ := hSw; go_simp; try with_reducible rfl⟩) hHeld.out ?_
      simp only [Act.put, List.setIfInBounds_toArray, Nat.reduceAdd, List.getElem_toArray, List.getElem_cons_succ, List.getElem_cons_zero, List.set_cons_succ, List.set_cons_zero]
      refine wpAnyZ_take (i := 10) rfl (by kernel_rfl) (fun _ _ _ h => hQ _ _ _ _ _ h) (Or.inl ⟨by rfl, by intro w hSw; obtain ⟨s0, s1, s2, s3, s4, s5⟩ := hSw; go_simp; try with_reducible rfl⟩) hHeld.out ?_
      simp only [Act.put, List.setIfInBounds_toArray, Nat.reduceAdd, List.getElem_toArray, List.getElem_cons_succ, List.getElem_cons_zero, List.set_cons_succ, List.set_cons_zero]
      refine wpAnyZ_take (i := 11) rfl (by kernel_rfl) (fun _ _ _ h => hQ _ _ _ _ _ h) (Or.inl ⟨by rfl, by intro w hSw; obtain ⟨s0, s1, s2, s3, s4, s5⟩ := hSw; go_simp; try with_reducible rfl⟩) hHeld.out ?_
      simp only [Act.put, List.setIfInBounds_toArray, Nat.reduceAdd, List.getElem_toArray, List.getElem_cons_succ, List.getElem_cons_zero, List.set_cons_succ, List.set_cons_zero]
      refine wpAnyZ_take (i := 12) rfl (by kernel_rfl) (fun _ _ _ h => hQ _ _ _ _ _ h) (Or.inl ⟨by rfl, by intro w hSw; obtain ⟨s0, s1, s2, s3, s4, s5⟩ := hSw; go_simp; try with_reducible rfl⟩) hHeld.out ?_
      simp only [Act.put, List.setIfInBounds_toArray, Nat.reduceAdd, List.getElem_toArray, List.getElem_cons_succ, List.getElem_cons_zero, List.set_cons_succ, List.set_cons_zero]
      refine wpAnyZ_take (i := 13) rfl (by kernel_rfl) (fun _ _ _ h => hQ _ _ _ _ _ h) (Or.inl ⟨by rfl, by intro w hSw; obtain ⟨s0, s1, s2, s3, s4, s5⟩ := hSw; go_simp; try with_reducible rfl⟩) hHeld.out ?_
      simp only [Act.put, List.setIfInBounds_toArray, Nat.reduceAdd, List.getElem_toArray, List.getElem_cons_succ, List.getElem_cons_zero, List.set_cons_succ, List.set_cons_zero]
      refine wpAnyZ_take (i := 14) rfl (by kernel_rfl) (fun _ _ _ h => hQ _ _ _ _ _ h) (Or.inl ⟨by rfl, by intro w hSw; obtain ⟨s0, s1, s2, s3, s4, s5⟩ := hSw; go_simp; try with_reducible rfl⟩) hHeld.out ?_
      simp only [Act.put, List.setIfInBounds_toArray, Nat.reduceAdd, List.getElem_toArray, List.getElem_cons_succ, List.getElem_cons_zero, List.set_cons_succ, List.set_cons_zero]
      refine wpAnyZ_take (i := 15) rfl (by kernel_rfl) (fun _ _ _ h => hQ _ _ _ _ _ h) (Or.inl ⟨by rfl, by intro w hSw; obtain ⟨s0, s1, s2, s3, s4, s5⟩ := hSw; go_simp; try with_reducible rfl⟩) hHeld.out ?_
      simp only [Act.put, List.setIfInBounds_toArray, Nat.reduceAdd, List.getElem_toArray, List.getElem_cons_succ, List.getElem_cons_zero, List.set_cons_succ, List.set_cons_zero]
      refine wpAnyZ_take (i := 16) rfl (by kernel_rfl) (fun _ _ _ h => hQ _ _ _ _ _ h) (Or.inl ⟨by rfl, by intro w hSw; obtain ⟨s0, s1, s2, s3, s4, s5⟩ := hSw; go_simp; try with_reducible rfl⟩) hHeld.out ?_
      simp only [Act.put, List.setIfInBounds_toArray, Nat.reduceAdd, List.getElem_toArray, List.getElem_cons_succ, List.getElem_cons_zero, List.set_cons_succ, List.set_cons_zero]
      refine wpAnyZ_take (i := 17) rfl (by kernel_rfl) (fun _ _ _ h => hQ _ _ _ _ _ h) (Or.inl ⟨by rfl, by intro w hSw; obtain ⟨s0, s1, s2, s3, s4, s5⟩ := hSw; go_simp; try with_reducible rfl⟩) hHeld.out ?_
      simp only [Act.put, List.setIfInBounds_toArray, Nat.reduceAdd, List.getElem_toArray, List.getElem_cons_succ, List.getElem_cons_zero, List.set_cons_succ, List.set_cons_zero]
      refine wpAnyZ_take (i := 18) rfl (by kernel_rfl) (fun _ _ _ h => hQ _ _ _ _ _ h) (Or.inl ⟨by rfl, by intro w hSw; obtain ⟨s0, s1, s2, s3, s4, s5⟩ := hSw; go_simp; try with_reducible rfl⟩) hHeld.out ?_
      simp only [Act.put, List.setIfInBounds_toArray, Nat.reduceAdd, List.getElem_toArray, List.getElem_cons_succ, List.getElem_cons_zero, List.set_cons_succ, List.set_cons_zero]
      refine wpAnyZ_take (i := 19) rfl (by kernel_rfl) (fun _ _ _ h => hQ _ _ _ _ _ h) (Or.inl ⟨by rfl, by intro w hSw; obtain ⟨s0, s1, s2, s3, s4, s5⟩ := hSw; go_simp; try with_reducible rfl⟩) hHeld.out ?_
      simp only [Act.put, List.setIfInBounds_toArray, Nat.reduceAdd, List.getElem_toArray, List.getElem_cons_succ, List.getElem_cons_zero, List.set_cons_succ, List.set_cons_zero]
      refine wpAnyZ_take (i := 20) rfl (by kernel_rfl) (fun _ _ _ h => hQ _ _ _ _ _ h) (Or.inl ⟨by rfl, by intro w hSw; obtain ⟨s0, s1, s2, s3, s4, s5⟩ := hSw; go_simp; try with_reducible rfl⟩) hHeld.out ?_
      simp only [Act.put, List.setIfInBounds_toArray, Nat.reduceAdd, List.getElem_toArray, List.getElem_cons_succ, List.getElem_cons_zero, List.set_cons_succ, List.set_cons_zero]
      refine wpAnyZ_take (i := 21) rfl (by kernel_rfl) (fun _ _ _ h => hQ _ _ _ _ _ h) (Or.inl ⟨by rfl, by intro w hSw; obtain ⟨s0, s1, s2, s3, s4, s5⟩ := hSw; go_simp; try with_reducible rfl⟩) hHeld.out ?_
      simp only [Act.put, List.setIfInBounds_toArray, Nat.reduceAdd, List.getElem_toArray, List.getElem_cons_succ, List.getElem_cons_zero, List.set_cons_succ, List.set_cons_zero]
      refine wpAnyZ_take (i := 22) rfl (by kernel_rfl) (fun _ _ _ h => hQ _ _ _ _ _ h) (Or.inl ⟨by rfl, by intro w hSw; obtain ⟨s0, s1, s2, s3, s4, s5⟩ := hSw; go_simp; try with_reducible rfl⟩) hHeld.out ?_
      simp only [Act.put, List.setIfInBounds_toArray, Nat.reduceAdd, List.getElem_toArray, List.getElem_cons_succ, List.getElem_cons_zero, List.set_cons_succ, List.set_cons_zero]
      refine wpAnyZ_take (i := 23) rfl (by kernel_rfl) (fun _ _ _ h => hQ _ _ _ _ _ h) (Or.inl ⟨by rfl, by intro w hSw; obtain ⟨s0, s1, s2, s3, s4, s5⟩ := hSw; go_simp; try with_reducible rfl⟩) hHeld.out ?_
      simp only [Act.put, List.setIfInBounds_toArray, Nat.reduceAdd, List.getElem_toArray, List.getElem_cons_succ, List.getElem_cons_zero, List.set_cons_succ, List.set_cons_zero]
      refine wpAnyZ_take (i := 24) rfl (by kernel_rfl) (fun _ _ _ h => hQ _ _ _ _ _ h) (Or.inl ⟨by rfl, by intro w hSw; obtain ⟨s0, s1, s2, s3, s4, s5⟩ := hSw; go_simp; try with_reducible rfl⟩) hHeld.out ?_
      simp only [Act.put, List.setIfInBounds_toArray, Nat.reduceAdd, List.getElem_toArray, List.getElem_cons_succ, List.getElem_cons_zero, List.set_cons_succ, List.set_cons_zero]
      refine wpAnyZ_take (i := 25) rfl (by kernel_rfl) (fun _ _ _ h => hQ _ _ _ _ _ h) (Or.inl ⟨by rfl, by intro w hSw; obtain ⟨s0, s1, s2, s3, s4, s5⟩ := hSw; go_simp; try with_reducible rfl⟩) hHeld.out ?_
      simp only [Act.put, List.setIfInBounds_toArray, Nat.reduceAdd, List.getElem_toArray, List.getElem_cons_succ, List.getElem_cons_zero, List.set_cons_succ, List.set_cons_zero]
      refine wpAnyZ_take (i := 26) rfl (by kernel_rfl) (fun _ _ _ h => hQ _ _ _ _ _ h) (Or.inl ⟨by rfl, by intro w hSw; obtain ⟨s0, s1, s2, s3, s4, s5⟩ := hSw; go_simp; try with_reducible rfl⟩) hHeld.out ?_
      simp only [Act.put, List.setIfInBounds_toArray, Nat.reduceAdd, List.getElem_toArray, List.getElem_cons_succ, List.getElem_cons_zero, List.set_cons_succ, List.set_cons_zero]
      refine wpAnyZ_take (i := 27) rfl (by kernel_rfl) (fun _ _ _ h => hQ _ _ _ _ _ h) (Or.inl ⟨by rfl, by intro w hSw; obtain ⟨s0, s1, s2, s3, s4, s5⟩ := hSw; go_simp; try with_reducible rfl⟩) hHeld.out ?_
      simp only [Act.put, List.setIfInBounds_toArray, Nat.reduceAdd, List.getElem_toArray, List.getElem_cons_succ, List.getElem_cons_zero, List.set_cons_succ, List.set_cons_zero]
      refine wpAnyZ_take (i := 28) rfl (by kernel_rfl) (fun _ _ _ h => hQ _ _ _ _ _ h) (Or.inl ⟨by rfl, by intro w hSw; obtain ⟨s0, s1, s2, s3, s4, s5⟩ := hSw; go_simp; try with_reducible rfl⟩) hHeld.out ?_
      simp only [Act.put, List.setIfInBounds_toArray, Nat.reduceAdd, List.getElem_toArray, List.getElem_cons_succ, List.getElem_cons_zero, List.set_cons_succ, List.set_cons_zero]
      refine wpAnyZ_take (i := 29) rfl (by kernel_rfl) (fun _ _ _ h => hQ _ _ _ _ _ h) (Or.inl ⟨by rfl, by intro w hSw; obtain ⟨s0, s1, s2, s3, s4, s5⟩ := hSw; go_simp; try with_reducible rfl⟩) hHeld.out ?_
      simp only [Act.put, List.setIfInBounds_toArray, Nat.reduceAdd, List.getElem_toArray, List.getElem_cons_succ, List.getElem_cons_zero, List.set_cons_succ, List.set_cons_zero]
      refine wpAnyZ_one (i := 1) (by kernel_rfl) rfl (fun K hK => ?_)
      go_simp
      refine (box_any i hil _).mono ?_
      rintro e w6' ⟨rfl, hw6⟩
      obtain ⟨w6, hw66⟩ : ∃ w6, w6 = w6' := ⟨_, rfl⟩
      rw [← hw66] at hw6 ⊢
      obtain ⟨gb, hgb⟩ : ∃ gb, gb = w5.heap.size := ⟨_, rfl⟩
      have hB6 : Blk w6 gb 3 (ints (Pure.desBox i)).toArray := by rw [hw6, hgb]; exact Blk.new w5.drew _ _
      have hk6 : Keeps nobody w5 w6 := by rw [hw6]; exact (Keeps.refl _ w5).drew.alloc _
      have hS6 : w6.cell? ⟨bs, 0, none⟩ = some (.int .i64 (x0 : Int)) ∧ w6.cell? ⟨bs, 1, none⟩ = some (.int .i64 (x1 : Int)) ∧ w6.cell? ⟨bs, 2, none⟩ = some (.int .i64 (x2 : Int)) ∧ w6.cell? ⟨bs, 3, none⟩ = some (.int .i64 (x3 : Int)) ∧ w6.cell? ⟨bs, 4, none⟩ = some (.int .i64 (x4 : Int)) ∧ w6.cell? ⟨bs, 5, none⟩ = some (.int .i64 (x5 : Int)) := by
        rw [hw6]
        exact ⟨cell_alloc (w := w5) hHeld.out.1, cell_alloc (w := w5) hHeld.out.2.1, cell_alloc (w := w5) hHeld.out.2.2.1, cell_alloc (w := w5) hHeld.out.2.2.2.1, cell_alloc (w := w5) hHeld.out.2.2.2.2.1, cell_alloc (w := w5) hHeld.out.2.2.2.2.2⟩
      have hgs : (Value.slice (some ⟨w5.drew.heap.size, 0, none⟩) 64 64) = .slice (some ⟨gb, 0, none⟩) 64 64 := by rw [hgb]; rfl
      rw [hgs]
      have hsb : Pure.desNum r k i < 16 := Pure.desNum_lt r k i
      have hcs : w6.cell? ⟨gb, m10, none⟩ = some (.int .i64 ((Pure.desNum r k i : Nat) : Int)) := by
        rw [hB6.cell]
        unfold Pure.desNum
        rw [HAt.out, ← ints_at (Pure.desBox i) m10 (by rw [Pure.desBox_length]; omega)]
        simp
      obtain ⟨s, hs⟩ : ∃ s, s = Pure.desNum r k i := ⟨_, rfl⟩
      rw [← hs] at hcs hsb
      have HSs := Lib.hid hs
      have hkl6 : Keeps nobody wr w6 := by
        have hk5' : Keeps (only bs) wr w5 := HK5.out
        have : Keeps (only bs) wr w6 := hk5'.trans' hk6 (fun _ h _ => h.elim)
        exact ⟨this.os, this.tape, this.output, this.size, fun k hk _ => this.block k hk (fun e => by have e : k = bs := e; have := HBs.out; omega)⟩
      have HK6 := Lib.hid hkl6
      have hz5 := HK5.out.size
      have HO6 := Lib.hid (own_quiet HX.out hkl6)
      have hz6 := hkl6.size
      refine hK.out _ _ (fun _ => hS6) ?_
      clear hK K hHeld hw6 hw66 hB6 hk6 hgs hs hkl6 hgb
      refine wpAnyZ_one (i := 30) (by kernel_rfl) rfl (fun K hK => ?_)
      rw [if_pos (by rfl)]
      go_simp
      refine hK.out _ _ (fun _ => hS6) ?_
      clear hK K
      refine wpAnyZ_one (i := 31) (by kernel_rfl) rfl (fun K hK => ?_)
      rw [if_pos (by rfl)]
      go_simp
      refine hK.out _ _ (fun _ => hS6) ?_
      clear hK K
      refine wpAnyZ_one (i := 32) (by kernel_rfl) rfl (fun K hK => ?_)
      rw [if_pos (by rfl)]
      go_simp
      refine hK.out _ _ (fun h => absurd rfl h) ?_
      clear hK K hcs hS6
      refine wpAnyZ_done (by kernel_rfl) ?_ _
      have hs0 : (0 : Int) ≤ (s : Int) := by omega
      have hs15 : (s : Int) < 16 := by omega
      obtain ⟨B3, hB3⟩ : ∃ B, B = Pure.bb1 (s.testBit 3) := ⟨_, rfl⟩
      have hn3 : bits .and .i64 ((s : Int) / 8) 1 = (B3.toNat : Int) := by
        have h := and1_bb s 3 (by omega)
        rw [hB3, ← h]
        congr 1 <;> omega
      have hl3 : (B3.toNat : Int) % 256 = (B3.toNat : Int) := Int.emod_eq_of_lt (by omega) (by have := B3.toNat_lt; omega)
      obtain ⟨B2, hB2⟩ : ∃ B, B = Pure.bb1 (s.testBit 2) := ⟨_, rfl⟩
      have hn2 : bits .and .i64 ((s : Int) / 4) 1 = (B2.toNat : Int) := by
        have h := and1_bb s 2 (by omega)
        rw [hB2, ← h]
        congr 1 <;> omega
      have hl2 : (B2.toNat : Int) % 256 = (B2.toNat : Int) := Int.emod_eq_of_lt (by omega) (by have := B2.toNat_lt; omega)
      obtain ⟨B1, hB1⟩ : ∃ B, B = Pure.bb1 (s.testBit 1) := ⟨_, rfl⟩
      have hn1 : bits .and .i64 ((s : Int) / 2) 1 = (B1.toNat : Int) := by
        have h := and1_bb s 1 (by omega)
        rw [hB1, ← h]
        congr 1 <;> omega
      have hl1 : (B1.toNat : Int) % 256 = (B1.toNat : Int) := Int.emod_eq_of_lt (by omega) (by have := B1.toNat_lt; omega)
      obtain ⟨B0, hB0⟩ : ∃ B, B = Pure.bb1 (s.testBit 0) := ⟨_, rfl⟩
      have hn0 : bits .and .i64 ((s : Int)) 1 = (B0.toNat : Int) := by
        have h := and1_bb s 0 (by omega)
        rw [hB0, ← h]
        congr 1 <;> omega
      have hl0 : (B0.toNat : Int) % 256 = (B0.toNat : Int) := Int.emod_eq_of_lt (by omega) (by have := B0.toNat_lt; omega)
      have hnew : Pure.bb (Pure.desOuts r k (i + 1)) = Pure.bb (Pure.desOuts r k i) ++ [B3, B2, B1, B0] := by
        rw [Pure.desOuts_succ, Pure.bb_append, hB3, hB2, hB1, hB0, HSs.out]
        rfl
      have hol : (Pure.bb (Pure.desOuts r k i)).length = 4 * i := by rw [Pure.bb_length, Pure.desOuts_length]
      have HN := Lib.hid hnew
      have HOl := Lib.hid hol
      clear hB0 hB1 hB2 hB3 hnew hol
      go_wp2_with (at_builtin; refine stopHere ?_)
      unfold Hid
      have hbase : w0.heap.size ≤ wr.heap.size := HK.out.size
      refine wp_append_u8 rfl (.tmp 165) (.tmp 181) rfl w0.heap.size (.slice A2 (4 * i) c2) (4 * i) (Pure.bb (Pure.desOuts r k i)) HOl.out rfl (own_grown HO6.out (World.grownBy_alloc w6 _ none) (by simp)) _ _ [B3, B2, B1, B0] rfl (row_new w6 [B3, B2, B1, B0] _ 4 rfl rfl (by simp)) (by simp; omega) (by simp; omega) ?_
      intro v3 w7 hown3 hg3 hat3
      have HB3 := Lib.hid (show Below w0.heap.size w0 w7 from (((Below.quiet HK.out HK6.out hbase).alloc (by omega) _).grown hg3 (by simp; omega) (fun k hk => ownsRow_ge HO6.out k hk)))
      have hown4 : w7.ownsRow w0.heap.size 5 1 v3 (4 * (i + 1)) (u8s (Pure.bb (Pure.desOuts r k (i + 1)))) := by
        rw [← HN.out] at hown3
        have e2 : (Pure.bb (Pure.desOuts r k (i + 1))).length = 4 * (i + 1) := by rw [Pure.bb_length, Pure.desOuts_length]
        rw [e2] at hown3
        exact hown3
      have HO3 := Lib.hid hown4
      clear hown3 hown4 hg3 hat3
      go_wp2_with fail
      go_roundw
      case rel => exact ⟨i + 1, by omega, by go_num, HO3.out, HB3.out⟩
      case measure => simp [intOf]; omega
    · have hii : i = 8 := by omega
      subst hii
      clear hi hil
      have hX2 := HX.out
      have hK2 := HK.out
      go_wp2_with fail
      exact hexit _ _ _ _ _ _ _ _ _ _ _ _ _ _ _ _ _ _ _ _ _ _ _ _ _ _ _ _ _ _ _ _ _ _ _ _ _ _ _ _ _ _ _ _ _ _ _ _ _ _ _ _ _ _ _ _ _ _ _ _ _ _ _ _ _ _ _ _ _ _ _ _ _ _ _ _ _ _ _ _ _ _ _ _ wr hX2 hK2
end Go.Proofs.Ytmelphlgpnmopaa
