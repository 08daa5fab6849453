/- The document's Md4: the sums behind a block. -/
import Derived.Test.YtkllaghfiofnjaaDoorDigR1
namespace Go.Proofs.YtkllaghfiofnjaaDoor
open Go.RowKit
set_option maxRecDepth 1000000 in
set_option maxHeartbeats 8000000 in
theorem docSums_loop (c0 c1 c2 c4 c5 c6 c7 c8 c9 c11 c12 c13 c14 c16 c17 c18 c19 c20 c21 c22 c23 c24 c25 c26 c27 c28 c29 c30 c31 c32 c33 c34 c35 c36 c37 c38 c39 c40 c41 c42 c43 c44 c45 c46 c47 c48 c49 c50 c51 c52 c53 c54 c55 c56 c57 c58 c59 c60 c61 c62 c63 c64 c65 c66 c67 c68 c69 c70 c71 c72 c73 c74 c75 c76 c77 c78 c79 c80 c81 c82 c83 c84 c85 c86 c87 c88 c89 c90 c91 c92 c93 c94 c95 c96 c97 c98 c99 c100 c101 c102 c103 c104 c105 c106 c107 c108 c109 c110 c111 c112 c113 c114 c115 c116 c117 c118 c119 c120 c121 c122 c123 c124 c125 c126 c127 c128 c129 c130 c131 c132 c133 c134 c135 c136 c137 c138 c139 c140 c141 c142 c143 c144 c145 c146 c147 c148 c149 c150 c151 c152 c153 c154 c155 c156 c157 c158 c159 c160 c161 c162 c179 c180 c181 c182 c183 c184 c185 c186 c187 c188 c189 c190 c191 c192 c193 c194 c195 c196 c197 : Value) (u163 u164 u165 u166 u167 u168 u169 u170 u171 u172 u173 u174 u175 u176 u177 u178 : Value) (h v : Pure.W4) (bh bv : Nat) (hne : bv ≠ bh) (w0 : World) (hH : Blk w0 bh 38 (u32s h.list).toArray) (hV : Blk w0 bv 38 (u32s v.list).toArray) (Q0 : Exit → Act → World → Prop)
    (hQ : ∀ (c : List PanicEntry) (a : Act) (d : Option Nat) (v : Value) (w : World), Q0 (.panic c) (a.put d v) w → Q0 (.panic c) a w)
    (hexit : ∀ (v163 v164 v165 v166 v167 v168 v169 v170 v171 v172 v173 v174 v175 v176 v177 v178 : Value) (wr : World), Blk wr bh 38 (u32s (Pure.W4.list ⟨h.a + v.a, h.b + v.b, h.c + v.c, h.d + v.d⟩)).toArray → Keeps (only bh) w0 wr → Q0 (.exit 6) { tmps := (c0 :: c1 :: c2 :: .slice (some ⟨bh, 0, none⟩) 4 4 :: c4 :: c5 :: c6 :: c7 :: c8 :: c9 :: .slice (some ⟨bv, 0, none⟩) 4 4 :: c11 :: c12 :: c13 :: c14 :: .int .i64 ((4 : Nat) : Int) :: c16 :: c17 :: c18 :: c19 :: c20 :: c21 :: c22 :: c23 :: c24 :: c25 :: c26 :: c27 :: c28 :: c29 :: c30 :: c31 :: c32 :: c33 :: c34 :: c35 :: c36 :: c37 :: c38 :: c39 :: c40 :: c41 :: c42 :: c43 :: c44 :: c45 :: c46 :: c47 :: c48 :: c49 :: c50 :: c51 :: c52 :: c53 :: c54 :: c55 :: c56 :: c57 :: c58 :: c59 :: c60 :: c61 :: c62 :: c63 :: c64 :: c65 :: c66 :: c67 :: c68 :: c69 :: c70 :: c71 :: c72 :: c73 :: c74 :: c75 :: c76 :: c77 :: c78 :: c79 :: c80 :: c81 :: c82 :: c83 :: c84 :: c85 :: c86 :: c87 :: c88 :: c89 :: c90 :: c91 :: c92 :: c93 :: c94 :: c95 :: c96 :: c97 :: c98 :: c99 :: c100 :: c101 :: c102 :: c103 :: c104 :: c105 :: c106 :: c107 :: c108 :: c109 :: c110 :: c111 :: c112 :: c113 :: c114 :: c115 :: c116 :: c117 :: c118 :: c119 :: c120 :: c121 :: c122 :: c123 :: c124 :: c125 :: c126 :: c127 :: c128 :: c129 :: c130 :: c131 :: c132 :: c133 :: c134 :: c135 :: c136 :: c137 :: c138 :: c139 :: c140 :: c141 :: c142 :: c143 :: c144 :: c145 :: c146 :: c147 :: c148 :: c149 :: c150 :: c151 :: c152 :: c153 :: c154 :: c155 :: c156 :: c157 :: c158 :: c159 :: c160 :: c161 :: c162 :: v163 :: v164 :: v165 :: v166 :: v167 :: v168 :: v169 :: v170 :: v171 :: v172 :: v173 :: v174 :: v175 :: v176 :: v177 :: v178 :: c179 :: c180 :: c181 :: c182 :: c183 :: c184 :: c185 :: c186 :: c187 :: c188 :: c189 :: c190 :: c191 :: c192 :: c193 :: c194 :: c195 :: c196 :: c197 :: []).toArray, defers := [] } wr) :
    Code.wp Tryd.prog (Code.loop docBody4) Q0 { tmps := (c0 :: c1 :: c2 :: .slice (some ⟨bh, 0, none⟩) 4 4 :: c4 :: c5 :: c6 :: c7 :: c8 :: c9 :: .slice (some ⟨bv, 0, none⟩) 4 4 :: c11 :: c12 :: c13 :: c14 :: .int .i64 0 :: c16 :: c17 :: c18 :: c19 :: c20 :: c21 :: c22 :: c23 :: c24 :: c25 :: c26 :: c27 :: c28 :: c29 :: c30 :: c31 :: c32 :: c33 :: c34 :: c35 :: c36 :: c37 :: c38 :: c39 :: c40 :: c41 :: c42 :: c43 :: c44 :: c45 :: c46 :: c47 :: c48 :: c49 :: c50 :: c51 :: c52 :: c53 :: c54 :: c55 :: c56 :: c57 :: c58 :: c59 :: c60 :: c61 :: c62 :: c63 :: c64 :: c65 :: c66 :: c67 :: c68 :: c69 :: c70 :: c71 :: c72 :: c73 :: c74 :: c75 :: c76 :: c77 :: c78 :: c79 :: c80 :: c81 :: c82 :: c83 :: c84 :: c85 :: c86 :: c87 :: c88 :: c89 :: c90 :: c91 :: c92 :: c93 :: c94 :: c95 :: c96 :: c97 :: c98 :: c99 :: c100 :: c101 :: c102 :: c103 :: c104 :: c105 :: c106 :: c107 :: c108 :: c109 :: c110 :: c111 :: c112 :: c113 :: c114 :: c115 :: c116 :: c117 :: c118 :: c119 :: c120 :: c121 :: c122 :: c123 :: c124 :: c125 :: c126 :: c127 :: c128 :: c129 :: c130 :: c131 :: c132 :: c133 :: c134 :: c135 :: c136 :: c137 :: c138 :: c139 :: c140 :: c141 :: c142 :: c143 :: c144 :: c145 :: c146 :: c147 :: c148 :: c149 :: c150 :: c151 :: c152 :: c153 :: c154 :: c155 :: c156 :: c157 :: c158 :: c159 :: c160 :: c161 :: c162 :: u163 :: u164 :: u165 :: u166 :: u167 :: u168 :: u169 :: u170 :: u171 :: u172 :: u173 :: u174 :: u175 :: u176 :: u177 :: u178 :: c179 :: c180 :: c181 :: c182 :: c183 :: c184 :: c185 :: c186 :: c187 :: c188 :: c189 :: c190 :: c191 :: c192 :: c193 :: c194 :: c195 :: c196 :: c197 :: []).toArray, defers := [] } w0 := by
  conv => arg 2; arg 1; whnf
  have HH0 := Lib.hid hH
  have HV := Lib.hid hV
  have HNE := Lib.hid hne
  clear hH hV hne
  go_loopw [15] (fun i wr => ∃ q : Nat, q ≤ 4 ∧ i = .int .i64 (q : Int) ∧ Blk wr bh 38 (u32s (Pure.sumTo h v q)).toArray ∧ Keeps (only bh) w0 wr) (fun i _ => 4 - (intOf i).toNat)
  case atStart => exact ⟨0, by omega, rfl, by rw [Pure.sumTo_zero]; exact HH0.out, Keeps.refl _ _⟩
  case round =>
    clear HH0
    obtain ⟨q, hq, rfl, hS, hK⟩ := hrel
    by_cases hql : q < 4
    · clear hexit
      have hi0 : (0 : Int) ≤ (q : Int) := by omega
      have hi1 : (q : Int) < 4 := by omega
      have hV := HV.out.keeps hK (fun e => HNE.out e)
      have hnext := Pure.sumTo_succ h v q hql
      obtain ⟨S, hSS⟩ : ∃ S, S = Pure.sumTo h v q := ⟨_, rfl⟩
      have hS4 : S.length = 4 := by rw [hSS]; rfl
      rw [← hSS] at hS hnext
      obtain ⟨L, hL⟩ : ∃ L, L = v.list := ⟨_, rfl⟩
      have hL4 : L.length = 4 := by rw [hL]; rfl
      rw [← hL] at hV hnext
      obtain ⟨y, hy⟩ : ∃ y, y = S.getD q 0 := ⟨_, rfl⟩
      obtain ⟨z, hz⟩ : ∃ z, z = L.getD q 0 := ⟨_, rfl⟩
      have k0 : wr.cell? ⟨bh, q, none⟩ = some (.int .u32 y.toNat) := by rw [hS.cell, hy, ← u32s_at S q (by omega)]; simp
      have k1 : wr.cell? ⟨bv, q, none⟩ = some (.int .u32 z.toNat) := by rw [hV.cell, hz, ← u32s_at L q (by omega)]; simp
      have f0 : wr.frozen? ⟨bh, q, none⟩ = false := hS.frozen q
      obtain ⟨s, hs⟩ : ∃ s, s = y + z := ⟨_, rfl⟩
      have a1 := add_u32 y z
      rw [← hs] at a1
      rw [← hy, ← hz, ← hs] at hnext
      have HS := Lib.hid hS
      have HN := Lib.hid hnext
      have HK := Lib.hid hK
      clear hV hK hSS hS4 hL hL4 hy hz hs hS hnext
      go_upto_region 30 with fail
      refine wp_region_Z (fun w' => w'.cell? ⟨bh, q, none⟩ = some (.int .u32 y.toNat) ∧ w'.cell? ⟨bv, q, none⟩ = some (.int .u32 z.toNat)) 12 13 rfl (by kernel_rfl) ⟨k0, k1⟩ (fun hHeld => ?_)
      iterate 12
        refine wpAnyZ_next rfl (by kernel_rfl) (fun _ _ _ h => hQ _ _ _ _ _ h) (Or.inl ⟨by rfl, by intro w hSw; obtain ⟨s0, s1⟩ := hSw; go_simp; try with_reducible rfl⟩) hHeld.out ?_
        simp only [Act.put, List.setIfInBounds_toArray, Nat.reduceAdd, List.getElem_toArray, List.getElem_cons_succ, List.getElem_cons_zero, List.set_cons_succ, List.set_cons_zero]
      refine wpAnyZ_step (by kernel_rfl) rfl (fun K hK => ?_)
      clear hHeld
      go_simp
      refine hK.out _ _ (fun h => absurd rfl h) ?_
      clear hK K
      refine wpAnyZ_done (by kernel_rfl) ?_ _
      go_wp2_with fail
      go_roundw
      case rel =>
        refine ⟨q + 1, by omega, by go_num, ?_, ?_⟩
        · rw [HN.out, ← u32s_set, a1]
          exact (HS.out.set q _).drew
        · exact (HK.out.store bh q (fun _ => only_self bh) _).drew
      case measure => simp [intOf]; omega
    · have hqq : q = 4 := by omega
      subst hqq
      clear hq hql
      go_wp2_with fail
      exact hexit _ _ _ _ _ _ _ _ _ _ _ _ _ _ _ _ wr (by rw [← Pure.sumTo_four]; exact hS) hK
end Go.Proofs.YtkllaghfiofnjaaDoor
