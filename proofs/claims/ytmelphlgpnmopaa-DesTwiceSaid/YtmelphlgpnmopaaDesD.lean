/- The document's Des: the halves, exclusive-ored. -/
import Derived.Test.YtmelphlgpnmopaaDesC
namespace Go.Proofs.Ytmelphlgpnmopaa
open Go.RowKit
set_option maxRecDepth 1000000 in
set_option maxHeartbeats 8000000 in
theorem desXor_loop (c0 c1 c2 c3 c4 c5 c6 c7 c8 c9 c10 c11 c13 c14 c15 c16 c17 c18 c19 c20 c21 c22 c23 c27 c28 c29 c30 c31 c32 c33 c34 c35 c36 c37 c38 c39 c40 c41 c42 c43 c44 c45 c46 c47 c48 c49 c50 c51 c52 c53 c54 c55 c56 c57 c58 c59 c60 c61 c62 c63 c64 c65 c66 c67 c68 c69 c70 c71 c72 c73 c74 c75 c76 c77 c78 c79 c80 c81 c82 c83 c84 c85 c86 c87 c88 c89 c90 c91 c92 c93 c94 c95 c96 c97 c98 c99 c100 c101 c102 c103 c104 c105 c106 c107 c108 c109 c110 c111 c112 c113 c114 c115 c116 c117 c118 c119 c120 c121 c122 c123 c124 c125 c126 c127 c128 c129 c130 c131 c132 c133 c134 c135 c136 c137 c138 c139 c140 c141 c142 c143 c144 c145 c146 c147 c148 c149 c150 c151 c152 c153 c154 c155 c156 c157 c158 c159 c160 c161 c162 c163 c164 c165 c166 c167 c168 c169 c170 c171 c172 c173 c174 c175 c176 c177 c178 c179 c180 c181 c182 c183 c184 c185 c186 c203 c204 c205 c206 c207 c208 c209 c210 c211 c212 c213 c214 c215 c216 c217 c218 c219 c220 c221 c222 c223 c224 c225 c226 c227 c228 c229 c230 c231 : Value) (u187 u188 u189 u190 u191 u192 u193 u194 u195 u196 u197 u198 u199 u200 u201 u202 : Value) (Al Af : Option Addr) (cl cf : Nat) (l f : List Bool) (hrl : l.length = 32) (hkl : f.length = 32) (bn : Nat) (G G2 : Nat → Prop) (hG : ¬ G bn) (hG2 : ¬ G2 bn) (w0 : World) (hR : Row w0 G 1 (.slice Al 32 cl) 32 (u8s (Pure.bb l))) (hKk : Row w0 G2 1 (.slice Af 32 cf) 32 (u8s (Pure.bb f))) (hX : Blk w0 bn 5 (u8s (Pure.bb (Pure.desXorTo l f 0))).toArray)
    (Q0 : Exit → Act → World → Prop) (hQ : ∀ (c : List PanicEntry) (a : Act) (d : Option Nat) (v : Value) (w : World), Q0 (.panic c) (a.put d v) w → Q0 (.panic c) a w)
    (hexit : ∀ (v187 v188 v189 v190 v191 v192 v193 v194 v195 v196 v197 v198 v199 v200 v201 v202 : Value) (wr : World), Blk wr bn 5 (u8s (Pure.bb (Pure.desXorTo l f 32))).toArray → Keeps (only bn) w0 wr → Q0 (.exit 8) { tmps := (c0 :: c1 :: c2 :: c3 :: c4 :: c5 :: c6 :: c7 :: c8 :: c9 :: c10 :: c11 :: .slice Al 32 cl :: c13 :: c14 :: c15 :: c16 :: c17 :: c18 :: c19 :: c20 :: c21 :: c22 :: c23 :: .slice Af 32 cf :: .slice (some ⟨bn, 0, none⟩) 32 32 :: .int .i64 ((32 : Nat) : Int) :: c27 :: c28 :: c29 :: c30 :: c31 :: c32 :: c33 :: c34 :: c35 :: c36 :: c37 :: c38 :: c39 :: c40 :: c41 :: c42 :: c43 :: c44 :: c45 :: c46 :: c47 :: c48 :: c49 :: c50 :: c51 :: c52 :: c53 :: c54 :: c55 :: c56 :: c57 :: c58 :: c59 :: c60 :: c61 :: c62 :: c63 :: c64 :: c65 :: c66 :: c67 :: c68 :: c69 :: c70 :: c71 :: c72 :: c73 :: c74 :: c75 :: c76 :: c77 :: c78 :: c79 :: c80 :: c81 :: c82 :: c83 :: c84 :: c85 :: c86 :: c87 :: c88 :: c89 :: c90 :: c91 :: c92 :: c93 :: c94 :: c95 :: c96 :: c97 :: c98 :: c99 :: c100 :: c101 :: c102 :: c103 :: c104 :: c105 :: c106 :: c107 :: c108 :: c109 :: c110 :: c111 :: c112 :: c113 :: c114 :: c115 :: c116 :: c117 :: c118 :: c119 :: c120 :: c121 :: c122 :: c123 :: c124 :: c125 :: c126 :: c127 :: c128 :: c129 :: c130 :: c131 :: c132 :: c133 :: c134 :: c135 :: c136 :: c137 :: c138 :: c139 :: c140 :: c141 :: c142 :: c143 :: c144 :: c145 :: c146 :: c147 :: c148 :: c149 :: c150 :: c151 :: c152 :: c153 :: c154 :: c155 :: c156 :: c157 :: c158 :: c159 :: c160 :: c161 :: c162 :: c163 :: c164 :: c165 :: c166 :: c167 :: c168 :: c169 :: c170 :: c171 :: c172 :: c173 :: c174 :: c175 :: c176 :: c177 :: c178 :: c179 :: c180 :: c181 :: c182 :: c183 :: c184 :: c185 :: c186 :: v187 :: v188 :: v189 :: v190 :: v191 :: v192 :: v193 :: v194 :: v195 :: v196 :: v197 :: v198 :: v199 :: v200 :: v201 :: v202 :: c203 :: c204 :: c205 :: c206 :: c207 :: c208 :: c209 :: c210 :: c211 :: c212 :: c213 :: c214 :: c215 :: c216 :: c217 :: c218 :: c219 :: c220 :: c221 :: c222 :: c223 :: c224 :: c225 :: c226 :: c227 :: c228 :: c229 :: c230 :: c231 :: []).toArray, defers := [] } wr) :
    Code.wp Try.prog (Code.loop desB5) Q0 { tmps := (c0 :: c1 :: c2 :: c3 :: c4 :: c5 :: c6 :: c7 :: c8 :: c9 :: c10 :: c11 :: .slice Al 32 cl :: c13 :: c14 :: c15 :: c16 :: c17 :: c18 :: c19 :: c20 :: c21 :: c22 :: c23 :: .slice Af 32 cf :: .slice (some ⟨bn, 0, none⟩) 32 32 :: .int .i64 0 :: c27 :: c28 :: c29 :: c30 :: c31 :: c32 :: c33 :: c34 :: c35 :: c36 :: c37 :: c38 :: c39 :: c40 :: c41 :: c42 :: c43 :: c44 :: c45 :: c46 :: c47 :: c48 :: c49 :: c50 :: c51 :: c52 :: c53 :: c54 :: c55 :: c56 :: c57 :: c58 :: c59 :: c60 :: c61 :: c62 :: c63 :: c64 :: c65 :: c66 :: c67 :: c68 :: c69 :: c70 :: c71 :: c72 :: c73 :: c74 :: c75 :: c76 :: c77 :: c78 :: c79 :: c80 :: c81 :: c82 :: c83 :: c84 :: c85 :: c86 :: c87 :: c88 :: c89 :: c90 :: c91 :: c92 :: c93 :: c94 :: c95 :: c96 :: c97 :: c98 :: c99 :: c100 :: c101 :: c102 :: c103 :: c104 :: c105 :: c106 :: c107 :: c108 :: c109 :: c110 :: c111 :: c112 :: c113 :: c114 :: c115 :: c116 :: c117 :: c118 :: c119 :: c120 :: c121 :: c122 :: c123 :: c124 :: c125 :: c126 :: c127 :: c128 :: c129 :: c130 :: c131 :: c132 :: c133 :: c134 :: c135 :: c136 :: c137 :: c138 :: c139 :: c140 :: c141 :: c142 :: c143 :: c144 :: c145 :: c146 :: c147 :: c148 :: c149 :: c150 :: c151 :: c152 :: c153 :: c154 :: c155 :: c156 :: c157 :: c158 :: c159 :: c160 :: c161 :: c162 :: c163 :: c164 :: c165 :: c166 :: c167 :: c168 :: c169 :: c170 :: c171 :: c172 :: c173 :: c174 :: c175 :: c176 :: c177 :: c178 :: c179 :: c180 :: c181 :: c182 :: c183 :: c184 :: c185 :: c186 :: u187 :: u188 :: u189 :: u190 :: u191 :: u192 :: u193 :: u194 :: u195 :: u196 :: u197 :: u198 :: u199 :: u200 :: u201 :: u202 :: c203 :: c204 :: c205 :: c206 :: c207 :: c208 :: c209 :: c210 :: c211 :: c212 :: c213 :: c214 :: c215 :: c216 :: c217 :: c218 :: c219 :: c220 :: c221 :: c222 :: c223 :: c224 :: c225 :: c226 :: c227 :: c228 :: c229 :: c230 :: c231 :: []).toArray, defers := [] } w0 := by
  conv => arg 2; arg 1; whnf
  have HR := Lib.hid hR
  have HKk := Lib.hid hKk
  have HX0 := Lib.hid hX
  have HG := Lib.hid hG
  have HG2 := Lib.hid hG2
  have HRl := Lib.hid hrl
  have HKl := Lib.hid hkl
  clear hR hKk hX hG hG2 hrl hkl
  go_loopw [26] (fun v wr => ∃ j : Nat, j ≤ 32 ∧ v = .int .i64 (j : Int) ∧ Blk wr bn 5 (u8s (Pure.bb (Pure.desXorTo l f j))).toArray ∧ Keeps (only bn) w0 wr) (fun v _ => 32 - (intOf v).toNat)
  case atStart => exact ⟨0, by omega, rfl, HX0.out, Keeps.refl _ _⟩
  case round =>
    clear HX0
    obtain ⟨j, hj, rfl, hX, hK⟩ := hrel
    by_cases hjl : j < 32
    · clear hexit
      obtain ⟨br, orr, rfl, _, hcr⟩ := (HR.out.keeps hK (fun x hx h => HG.out (h ▸ hx))).cellAt (by omega)
      obtain ⟨bk, ok, rfl, _, hck⟩ := (HKk.out.keeps hK (fun x hx h => HG2.out (h ▸ hx))).cellAt (by omega)
      have c1 := hcr j _ (u8s_at (Pure.bb l) j (by rw [Pure.bb_length, HRl.out]; omega))
      rw [Pure.bb_getD _ _ (by rw [HRl.out]; omega)] at c1
      have c2 := hck j _ (u8s_at (Pure.bb f) j (by rw [Pure.bb_length, HKl.out]; omega))
      rw [Pure.bb_getD _ _ (by rw [HKl.out]; omega)] at c2
      obtain ⟨X, hX1⟩ : ∃ X, X = Pure.bb1 (l.getD j false) := ⟨_, rfl⟩
      obtain ⟨Y, hY1⟩ : ∃ Y, Y = Pure.bb1 (f.getD j false) := ⟨_, rfl⟩
      rw [← hX1] at c1
      rw [← hY1] at c2
      obtain ⟨Z, hZ⟩ : ∃ Z, Z = X ^^^ Y := ⟨_, rfl⟩
      have hxor := xor_u8 X Y
      rw [← hZ] at hxor
      have hZ2 : Z = Pure.bb1 (l.getD j false ^^ f.getD j false) := by
        rw [hZ, hX1, hY1, Pure.bb1_xor]
      have hnext : Pure.bb (Pure.desXorTo l f (j + 1)) = (Pure.bb (Pure.desXorTo l f j)).set j Z := by rw [← Pure.desXorTo_succ l f j hjl, hZ2, Pure.bb_set]
      have k0 : wr.cell? ⟨bn, j, none⟩ = some (.int .u8 ((Pure.bb (Pure.desXorTo l f j)).getD j 0).toNat) := by rw [hX.cell, ← u8s_at _ j (by rw [Pure.bb_length, Pure.desXorTo_length _ _ _ hj]; exact hjl)]; simp
      obtain ⟨old, hold⟩ : ∃ old, old = (Pure.bb (Pure.desXorTo l f j)).getD j 0 := ⟨_, rfl⟩
      rw [← hold] at k0
      have f0 : wr.frozen? ⟨bn, j, none⟩ = false := hX.frozen j
      have hi0 : (0 : Int) ≤ (j : Int) := by omega
      have hi1 : (j : Int) < 32 := by omega
      have HN := Lib.hid hnext
      have HX := Lib.hid hX
      have HK := Lib.hid hK
      clear hcr hck hX1 hY1 hZ hZ2 hnext hX hK hold HR HKk HG HG2 HRl HKl
      go_upto_region 40 with fail
      refine wp_region_Z (fun w' => w'.cell? ⟨br, orr + j, none⟩ = some (.int .u8 X.toNat) ∧ w'.cell? ⟨bk, ok + j, none⟩ = some (.int .u8 Y.toNat)) 12 13 rfl (by kernel_rfl) ⟨c1, c2⟩ (fun hHeld => ?_)
      iterate 12
        refine wpAnyZ_next rfl (by kernel_rfl) (fun _ _ _ h => hQ _ _ _ _ _ h) (Or.inl ⟨by rfl, by intro w hSw; obtain ⟨s0, s1⟩ := hSw; go_simp; try with_reducible rfl⟩) hHeld.out ?_
        simp only [Act.put, List.setIfInBounds_toArray, Nat.reduceAdd, List.getElem_toArray, List.getElem_cons_succ, List.getElem_cons_zero, List.set_cons_succ, List.set_cons_zero]
      refine wpAnyZ_step (by kernel_rfl) rfl (fun K hK => ?_)
      clear hHeld
      go_simp
      refine hK.out _ _ (fun h => absurd rfl h) ?_
      clear hK K
      refine wpAnyZ_done (by kernel_rfl) ?_ _
      go_wp2_with fail
      go_roundw
      case rel =>
        refine ⟨j + 1, by omega, by go_num, ?_, ?_⟩
        · rw [HN.out, ← u8s_set']
          exact (HX.out.set j _).drew
        · exact (HK.out.store bn j (fun _ => only_self bn) _).drew
      case measure => simp [intOf]; omega
    · have hjj : j = 32 := by omega
      subst hjj
      clear hj hjl
      go_wp2_with fail
      exact hexit _ _ _ _ _ _ _ _ _ _ _ _ _ _ _ _ wr hX hK
end Go.Proofs.Ytmelphlgpnmopaa
