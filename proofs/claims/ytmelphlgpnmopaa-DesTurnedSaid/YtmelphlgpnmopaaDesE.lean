/- The document's Des: IP, back. -/
import Derived.Test.YtmelphlgpnmopaaDesC
namespace Go.Proofs.Ytmelphlgpnmopaa
open Go.RowKit
theorem Pure.ip_pos (j : Nat) (h : j < 64) : 1 ≤ Pure.desIp.getD j 0 := by
  have : ∀ j < 64, 1 ≤ Pure.desIp.getD j 0 := by decide
  exact this j h
set_option maxRecDepth 1000000 in
set_option maxHeartbeats 8000000 in
theorem desPut_loop (c0 c1 c2 c3 c4 c5 c6 c7 c9 c10 c11 c12 c13 c14 c15 c16 c17 c18 c19 c20 c21 c22 c23 c24 c25 c26 c30 c31 c32 c33 c34 c35 c36 c37 c38 c39 c40 c41 c42 c43 c44 c45 c46 c47 c48 c49 c50 c51 c52 c53 c54 c55 c56 c57 c58 c59 c60 c61 c62 c63 c64 c65 c66 c67 c68 c69 c70 c71 c72 c73 c74 c75 c76 c77 c78 c79 c80 c81 c82 c83 c84 c85 c86 c87 c88 c89 c90 c91 c92 c93 c94 c95 c96 c97 c98 c99 c100 c101 c102 c103 c104 c105 c106 c107 c108 c109 c110 c111 c112 c113 c114 c115 c116 c117 c118 c119 c120 c121 c122 c123 c124 c125 c126 c127 c128 c129 c130 c131 c132 c133 c134 c135 c136 c137 c138 c139 c140 c141 c142 c143 c144 c145 c146 c147 c148 c149 c150 c151 c152 c153 c154 c155 c156 c157 c158 c159 c160 c161 c162 c163 c164 c165 c166 c167 c168 c169 c170 c171 c172 c173 c174 c175 c176 c177 c178 c179 c180 c181 c182 c183 c184 c185 c186 c187 c188 c189 c190 c191 c192 c193 c194 c195 c196 c197 c198 c199 c200 c201 c202 c203 c204 c205 c206 c207 c208 c209 c210 c211 c230 c231 : Value) (u212 u213 u214 u215 u216 u217 u218 u219 u220 u221 u222 u223 u224 u225 u226 u227 u228 u229 : Value) (Ai Ay : Option Addr) (ci cy : Nat) (y : List Bool) (hyl : y.length = 64) (bz bn : Nat) (hne : bz ≠ bn) (G G2 : Nat → Prop) (hG : ¬ G bn) (hG2 : ¬ G2 bn) (w0 : World) (hR : Row w0 G 1 (.slice Ai 64 ci) 64 (ints Pure.desIp)) (hKk : Row w0 G2 1 (.slice Ay 64 cy) 64 (u8s (Pure.bb y))) (hZz : Blk w0 bz 56 #[.slice (some ⟨bn, 0, none⟩) 64 64, .int .i64 ((0 : Nat) : Int), .bool true]) (hX : Blk w0 bn 5 (u8s (Pure.bb (Pure.desPut y 0))).toArray)
    (Q0 : Exit → Act → World → Prop) (hQ : ∀ (c : List PanicEntry) (a : Act) (d : Option Nat) (v : Value) (w : World), Q0 (.panic c) (a.put d v) w → Q0 (.panic c) a w)
    (hexit : ∀ (v212 v213 v214 v215 v216 v217 v218 v219 v220 v221 v222 v223 v224 v225 v226 v227 v228 v229 : Value) (wr : World), Blk wr bn 5 (u8s (Pure.bb (Pure.desPut y 64))).toArray → Keeps (only bn) w0 wr → Q0 (.exit 10) { tmps := (c0 :: c1 :: c2 :: c3 :: c4 :: c5 :: c6 :: c7 :: .slice Ai 64 ci :: c9 :: c10 :: c11 :: c12 :: c13 :: c14 :: c15 :: c16 :: c17 :: c18 :: c19 :: c20 :: c21 :: c22 :: c23 :: c24 :: c25 :: c26 :: .slice Ay 64 cy :: .pointer (some ⟨bz, 0, none⟩) :: .int .i64 ((64 : Nat) : Int) :: c30 :: c31 :: c32 :: c33 :: c34 :: c35 :: c36 :: c37 :: c38 :: c39 :: c40 :: c41 :: c42 :: c43 :: c44 :: c45 :: c46 :: c47 :: c48 :: c49 :: c50 :: c51 :: c52 :: c53 :: c54 :: c55 :: c56 :: c57 :: c58 :: c59 :: c60 :: c61 :: c62 :: c63 :: c64 :: c65 :: c66 :: c67 :: c68 :: c69 :: c70 :: c71 :: c72 :: c73 :: c74 :: c75 :: c76 :: c77 :: c78 :: c79 :: c80 :: c81 :: c82 :: c83 :: c84 :: c85 :: c86 :: c87 :: c88 :: c89 :: c90 :: c91 :: c92 :: c93 :: c94 :: c95 :: c96 :: c97 :: c98 :: c99 :: c100 :: c101 :: c102 :: c103 :: c104 :: c105 :: c106 :: c107 :: c108 :: c109 :: c110 :: c111 :: c112 :: c113 :: c114 :: c115 :: c116 :: c117 :: c118 :: c119 :: c120 :: c121 :: c122 :: c123 :: c124 :: c125 :: c126 :: c127 :: c128 :: c129 :: c130 :: c131 :: c132 :: c133 :: c134 :: c135 :: c136 :: c137 :: c138 :: c139 :: c140 :: c141 :: c142 :: c143 :: c144 :: c145 :: c146 :: c147 :: c148 :: c149 :: c150 :: c151 :: c152 :: c153 :: c154 :: c155 :: c156 :: c157 :: c158 :: c159 :: c160 :: c161 :: c162 :: c163 :: c164 :: c165 :: c166 :: c167 :: c168 :: c169 :: c170 :: c171 :: c172 :: c173 :: c174 :: c175 :: c176 :: c177 :: c178 :: c179 :: c180 :: c181 :: c182 :: c183 :: c184 :: c185 :: c186 :: c187 :: c188 :: c189 :: c190 :: c191 :: c192 :: c193 :: c194 :: c195 :: c196 :: c197 :: c198 :: c199 :: c200 :: c201 :: c202 :: c203 :: c204 :: c205 :: c206 :: c207 :: c208 :: c209 :: c210 :: c211 :: v212 :: v213 :: v214 :: v215 :: v216 :: v217 :: v218 :: v219 :: v220 :: v221 :: v222 :: v223 :: v224 :: v225 :: v226 :: v227 :: v228 :: v229 :: c230 :: c231 :: []).toArray, defers := [] } wr) :
    Code.wp Try.prog (Code.loop desB6) Q0 { tmps := (c0 :: c1 :: c2 :: c3 :: c4 :: c5 :: c6 :: c7 :: .slice Ai 64 ci :: c9 :: c10 :: c11 :: c12 :: c13 :: c14 :: c15 :: c16 :: c17 :: c18 :: c19 :: c20 :: c21 :: c22 :: c23 :: c24 :: c25 :: c26 :: .slice Ay 64 cy :: .pointer (some ⟨bz, 0, none⟩) :: .int .i64 0 :: c30 :: c31 :: c32 :: c33 :: c34 :: c35 :: c36 :: c37 :: c38 :: c39 :: c40 :: c41 :: c42 :: c43 :: c44 :: c45 :: c46 :: c47 :: c48 :: c49 :: c50 :: c51 :: c52 :: c53 :: c54 :: c55 :: c56 :: c57 :: c58 :: c59 :: c60 :: c61 :: c62 :: c63 :: c64 :: c65 :: c66 :: c67 :: c68 :: c69 :: c70 :: c71 :: c72 :: c73 :: c74 :: c75 :: c76 :: c77 :: c78 :: c79 :: c80 :: c81 :: c82 :: c83 :: c84 :: c85 :: c86 :: c87 :: c88 :: c89 :: c90 :: c91 :: c92 :: c93 :: c94 :: c95 :: c96 :: c97 :: c98 :: c99 :: c100 :: c101 :: c102 :: c103 :: c104 :: c105 :: c106 :: c107 :: c108 :: c109 :: c110 :: c111 :: c112 :: c113 :: c114 :: c115 :: c116 :: c117 :: c118 :: c119 :: c120 :: c121 :: c122 :: c123 :: c124 :: c125 :: c126 :: c127 :: c128 :: c129 :: c130 :: c131 :: c132 :: c133 :: c134 :: c135 :: c136 :: c137 :: c138 :: c139 :: c140 :: c141 :: c142 :: c143 :: c144 :: c145 :: c146 :: c147 :: c148 :: c149 :: c150 :: c151 :: c152 :: c153 :: c154 :: c155 :: c156 :: c157 :: c158 :: c159 :: c160 :: c161 :: c162 :: c163 :: c164 :: c165 :: c166 :: c167 :: c168 :: c169 :: c170 :: c171 :: c172 :: c173 :: c174 :: c175 :: c176 :: c177 :: c178 :: c179 :: c180 :: c181 :: c182 :: c183 :: c184 :: c185 :: c186 :: c187 :: c188 :: c189 :: c190 :: c191 :: c192 :: c193 :: c194 :: c195 :: c196 :: c197 :: c198 :: c199 :: c200 :: c201 :: c202 :: c203 :: c204 :: c205 :: c206 :: c207 :: c208 :: c209 :: c210 :: c211 :: u212 :: u213 :: u214 :: u215 :: u216 :: u217 :: u218 :: u219 :: u220 :: u221 :: u222 :: u223 :: u224 :: u225 :: u226 :: u227 :: u228 :: u229 :: c230 :: c231 :: []).toArray, defers := [] } w0 := by
  conv => arg 2; arg 1; whnf
  have HR := Lib.hid hR
  have HKk := Lib.hid hKk
  have HX0 := Lib.hid hX
  have HG := Lib.hid hG
  have HG2 := Lib.hid hG2
  have HZz := Lib.hid hZz
  have HKl := Lib.hid hyl
  clear hR hKk hX hG hG2 hyl hZz
  go_loopw [29] (fun v wr => ∃ j : Nat, j ≤ 64 ∧ v = .int .i64 (j : Int) ∧ Blk wr bn 5 (u8s (Pure.bb (Pure.desPut y j))).toArray ∧ Keeps (only bn) w0 wr) (fun v _ => 64 - (intOf v).toNat)
  case atStart => exact ⟨0, by omega, rfl, HX0.out, Keeps.refl _ _⟩
  case round =>
    clear HX0
    obtain ⟨j, hj, rfl, hX, hK⟩ := hrel
    by_cases hjl : j < 64
    · clear hexit
      obtain ⟨br, orr, rfl, _, hcr⟩ := (HR.out.keeps hK (fun x hx h => HG.out (h ▸ hx))).cellAt (by omega)
      obtain ⟨bk, ok, rfl, _, hck⟩ := (HKk.out.keeps hK (fun x hx h => HG2.out (h ▸ hx))).cellAt (by omega)
      have c0 : wr.cell? ⟨bz, 0, none⟩ = some (.slice (some ⟨bn, 0, none⟩) 64 64) := by rw [(HZz.out.keeps hK (fun e => hne e)).cell]; rfl
      have c1 := hcr j _ (ints_at Pure.desIp j (by rw [Pure.ip_length]; omega))
      have c2 := hck j _ (u8s_at (Pure.bb y) j (by rw [Pure.bb_length, HKl.out]; omega))
      rw [Pure.bb_getD _ _ (by rw [HKl.out]; omega)] at c2
      have hp1 : 1 ≤ Pure.desIp.getD j 0 := Pure.ip_pos j hjl
      have hp2 := Pure.ip_at j hjl
      obtain ⟨p, hp⟩ : ∃ p, p = Pure.desIp.getD j 0 := ⟨_, rfl⟩
      rw [← hp] at c1 hp1 hp2
      obtain ⟨q, hq⟩ : ∃ q, q = p - 1 := ⟨_, rfl⟩
      rw [← hq] at hp2
      have hqI : (p : Int) - 1 = (q : Int) := by omega
      have hq0 : (0 : Int) ≤ (q : Int) := by omega
      have hq1 : (q : Int) < 64 := by omega
      have hwq : IntKind.i64.wrap (q : Int) = (q : Int) := IntWalk.i64_in _ (by omega)
      obtain ⟨Y, hY1⟩ : ∃ Y, Y = Pure.bb1 (y.getD j false) := ⟨_, rfl⟩
      rw [← hY1] at c2
      have hnext : Pure.bb (Pure.desPut y (j + 1)) = (Pure.bb (Pure.desPut y j)).set q Y := by rw [hY1, Pure.bb_set, hq, hp]; rfl
      have k0 : wr.cell? ⟨bn, q, none⟩ = some (.int .u8 ((Pure.bb (Pure.desPut y j)).getD q 0).toNat) := by rw [hX.cell, ← u8s_at _ q (by rw [Pure.bb_length, Pure.desPut_length]; omega)]; simp
      obtain ⟨old, hold⟩ : ∃ old, old = (Pure.bb (Pure.desPut y j)).getD q 0 := ⟨_, rfl⟩
      rw [← hold] at k0
      have f0 : wr.frozen? ⟨bn, q, none⟩ = false := hX.frozen q
      have hi0 : (0 : Int) ≤ (j : Int) := by omega
      have hi1 : (j : Int) < 64 := by omega
      have HN := Lib.hid hnext
      have HX := Lib.hid hX
      have HK := Lib.hid hK
      clear hcr hck hY1 hnext hX hK hold HR HKk HG HG2 HZz HKl hp hq
      go_upto_region 47 with fail
      refine wp_region_Z (fun w' => w'.cell? ⟨bz, 0, none⟩ = some (.slice (some ⟨bn, 0, none⟩) 64 64) ∧ w'.cell? ⟨br, orr + j, none⟩ = some (.int .i64 (p : Int)) ∧ w'.cell? ⟨bk, ok + j, none⟩ = some (.int .u8 Y.toNat)) 14 15 rfl (by kernel_rfl) ⟨c0, c1, c2⟩ (fun hHeld => ?_)
      iterate 14
        refine wpAnyZ_next rfl (by kernel_rfl) (fun _ _ _ h => hQ _ _ _ _ _ h) (Or.inl ⟨by rfl, by intro w hSw; obtain ⟨s0, s1, s2⟩ := hSw; go_simp; try with_reducible rfl⟩) hHeld.out ?_
        simp only [Act.put, List.setIfInBounds_toArray, Nat.reduceAdd, List.getElem_toArray, List.getElem_cons_succ, List.getElem_cons_zero, List.set_cons_succ, List.set_cons_zero]
      refine wpAnyZ_step (by kernel_rfl) rfl (fun K hK => ?_)
      clear hHeld
      go_simp
      refine hK.out _ _ (fun h => absurd rfl h) ?_
      clear hK K
      refine wpAnyZ_done (by kernel_rfl) ?_ _
      go_wp2_with fail
      go_roundw
      case rel =>
        refine ⟨j + 1, by omega, by go_num, ?_, ?_⟩
        · rw [HN.out, ← u8s_set']
          exact (HX.out.set q _).drew
        · exact (HK.out.store bn q (fun _ => only_self bn) _).drew
      case measure => simp [intOf]; omega
    · have hjj : j = 64 := by omega
      subst hjj
      clear hj hjl
      go_wp2_with fail
      exact hexit _ _ _ _ _ _ _ _ _ _ _ _ _ _ _ _ _ _ wr hX hK
end Go.Proofs.Ytmelphlgpnmopaa
