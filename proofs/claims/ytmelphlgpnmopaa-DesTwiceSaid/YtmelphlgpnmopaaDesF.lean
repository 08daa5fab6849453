/- The document's Des: IP. -/
import Derived.Test.YtmelphlgpnmopaaDesC
namespace Go.Proofs.Ytmelphlgpnmopaa
open Go.RowKit
set_option maxRecDepth 1000000 in
set_option maxHeartbeats 8000000 in
theorem desIp_loop (c0 c1 c2 c3 c4 c5 c6 c7 c11 c12 c13 c14 c15 c16 c17 c18 c19 c20 c21 c22 c23 c24 c25 c26 c27 c28 c29 c30 c31 c32 c33 c34 c35 c36 c37 c38 c39 c40 c41 c42 c43 c44 c45 c46 c63 c64 c65 c66 c67 c68 c69 c70 c71 c72 c73 c74 c75 c76 c77 c78 c79 c80 c81 c82 c83 c84 c85 c86 c87 c88 c89 c90 c91 c92 c93 c94 c95 c96 c97 c98 c99 c100 c101 c102 c103 c104 c105 c106 c107 c108 c109 c110 c111 c112 c113 c114 c115 c116 c117 c118 c119 c120 c121 c122 c123 c124 c125 c126 c127 c128 c129 c130 c131 c132 c133 c134 c135 c136 c137 c138 c139 c140 c141 c142 c143 c144 c145 c146 c147 c148 c149 c150 c151 c152 c153 c154 c155 c156 c157 c158 c159 c160 c161 c162 c163 c164 c165 c166 c167 c168 c169 c170 c171 c172 c173 c174 c175 c176 c177 c178 c179 c180 c181 c182 c183 c184 c185 c186 c187 c188 c189 c190 c191 c192 c193 c194 c195 c196 c197 c198 c199 c200 c201 c202 c203 c204 c205 c206 c207 c208 c209 c210 c211 c212 c213 c214 c215 c216 c217 c218 c219 c220 c221 c222 c223 c224 c225 c226 c227 c228 c229 c230 c231 : Value) (u47 u48 u49 u50 u51 u52 u53 u54 u55 u56 u57 u58 u59 u60 u61 u62 : Value) (b9 : Nat) (w0 : World) (hR : Blk w0 b9 3 (ints Pure.desStarts).toArray)
    (Q0 : Exit → Act → World → Prop) (hQ : ∀ (c : List PanicEntry) (a : Act) (d : Option Nat) (v : Value) (w : World), Q0 (.panic c) (a.put d v) w → Q0 (.panic c) a w)
    (hexit : ∀ (v47 v48 v49 v50 v51 v52 v53 v54 v55 v56 v57 v58 v59 v60 v61 v62 : Value) (vip : Value) (wr : World), wr.ownsRow w0.heap.size 3 1 vip 64 (ints Pure.desIp) → Below w0.heap.size w0 wr → Q0 (.exit 0) { tmps := (c0 :: c1 :: c2 :: c3 :: c4 :: c5 :: c6 :: c7 :: vip :: .slice (some ⟨b9, 0, none⟩) 8 8 :: .int .i64 ((64 : Nat) : Int) :: c11 :: c12 :: c13 :: c14 :: c15 :: c16 :: c17 :: c18 :: c19 :: c20 :: c21 :: c22 :: c23 :: c24 :: c25 :: c26 :: c27 :: c28 :: c29 :: c30 :: c31 :: c32 :: c33 :: c34 :: c35 :: c36 :: c37 :: c38 :: c39 :: c40 :: c41 :: c42 :: c43 :: c44 :: c45 :: c46 :: v47 :: v48 :: v49 :: v50 :: v51 :: v52 :: v53 :: v54 :: v55 :: v56 :: v57 :: v58 :: v59 :: v60 :: v61 :: v62 :: c63 :: c64 :: c65 :: c66 :: c67 :: c68 :: c69 :: c70 :: c71 :: c72 :: c73 :: c74 :: c75 :: c76 :: c77 :: c78 :: c79 :: c80 :: c81 :: c82 :: c83 :: c84 :: c85 :: c86 :: c87 :: c88 :: c89 :: c90 :: c91 :: c92 :: c93 :: c94 :: c95 :: c96 :: c97 :: c98 :: c99 :: c100 :: c101 :: c102 :: c103 :: c104 :: c105 :: c106 :: c107 :: c108 :: c109 :: c110 :: c111 :: c112 :: c113 :: c114 :: c115 :: c116 :: c117 :: c118 :: c119 :: c120 :: c121 :: c122 :: c123 :: c124 :: c125 :: c126 :: c127 :: c128 :: c129 :: c130 :: c131 :: c132 :: c133 :: c134 :: c135 :: c136 :: c137 :: c138 :: c139 :: c140 :: c141 :: c142 :: c143 :: c144 :: c145 :: c146 :: c147 :: c148 :: c149 :: c150 :: c151 :: c152 :: c153 :: c154 :: c155 :: c156 :: c157 :: c158 :: c159 :: c160 :: c161 :: c162 :: c163 :: c164 :: c165 :: c166 :: c167 :: c168 :: c169 :: c170 :: c171 :: c172 :: c173 :: c174 :: c175 :: c176 :: c177 :: c178 :: c179 :: c180 :: c181 :: c182 :: c183 :: c184 :: c185 :: c186 :: c187 :: c188 :: c189 :: c190 :: c191 :: c192 :: c193 :: c194 :: c195 :: c196 :: c197 :: c198 :: c199 :: c200 :: c201 :: c202 :: c203 :: c204 :: c205 :: c206 :: c207 :: c208 :: c209 :: c210 :: c211 :: c212 :: c213 :: c214 :: c215 :: c216 :: c217 :: c218 :: c219 :: c220 :: c221 :: c222 :: c223 :: c224 :: c225 :: c226 :: c227 :: c228 :: c229 :: c230 :: c231 :: []).toArray, defers := [] } wr) :
    Code.wp Try.prog (Code.loop desB1) Q0 { tmps := (c0 :: c1 :: c2 :: c3 :: c4 :: c5 :: c6 :: c7 :: .slice none 0 0 :: .slice (some ⟨b9, 0, none⟩) 8 8 :: .int .i64 0 :: c11 :: c12 :: c13 :: c14 :: c15 :: c16 :: c17 :: c18 :: c19 :: c20 :: c21 :: c22 :: c23 :: c24 :: c25 :: c26 :: c27 :: c28 :: c29 :: c30 :: c31 :: c32 :: c33 :: c34 :: c35 :: c36 :: c37 :: c38 :: c39 :: c40 :: c41 :: c42 :: c43 :: c44 :: c45 :: c46 :: u47 :: u48 :: u49 :: u50 :: u51 :: u52 :: u53 :: u54 :: u55 :: u56 :: u57 :: u58 :: u59 :: u60 :: u61 :: u62 :: c63 :: c64 :: c65 :: c66 :: c67 :: c68 :: c69 :: c70 :: c71 :: c72 :: c73 :: c74 :: c75 :: c76 :: c77 :: c78 :: c79 :: c80 :: c81 :: c82 :: c83 :: c84 :: c85 :: c86 :: c87 :: c88 :: c89 :: c90 :: c91 :: c92 :: c93 :: c94 :: c95 :: c96 :: c97 :: c98 :: c99 :: c100 :: c101 :: c102 :: c103 :: c104 :: c105 :: c106 :: c107 :: c108 :: c109 :: c110 :: c111 :: c112 :: c113 :: c114 :: c115 :: c116 :: c117 :: c118 :: c119 :: c120 :: c121 :: c122 :: c123 :: c124 :: c125 :: c126 :: c127 :: c128 :: c129 :: c130 :: c131 :: c132 :: c133 :: c134 :: c135 :: c136 :: c137 :: c138 :: c139 :: c140 :: c141 :: c142 :: c143 :: c144 :: c145 :: c146 :: c147 :: c148 :: c149 :: c150 :: c151 :: c152 :: c153 :: c154 :: c155 :: c156 :: c157 :: c158 :: c159 :: c160 :: c161 :: c162 :: c163 :: c164 :: c165 :: c166 :: c167 :: c168 :: c169 :: c170 :: c171 :: c172 :: c173 :: c174 :: c175 :: c176 :: c177 :: c178 :: c179 :: c180 :: c181 :: c182 :: c183 :: c184 :: c185 :: c186 :: c187 :: c188 :: c189 :: c190 :: c191 :: c192 :: c193 :: c194 :: c195 :: c196 :: c197 :: c198 :: c199 :: c200 :: c201 :: c202 :: c203 :: c204 :: c205 :: c206 :: c207 :: c208 :: c209 :: c210 :: c211 :: c212 :: c213 :: c214 :: c215 :: c216 :: c217 :: c218 :: c219 :: c220 :: c221 :: c222 :: c223 :: c224 :: c225 :: c226 :: c227 :: c228 :: c229 :: c230 :: c231 :: []).toArray, defers := [] } w0 := by
  conv => arg 2; arg 1; whnf
  have HR := Lib.hid hR
  have HZ := Lib.hid hR.lt
  clear hR
  go_loopw [8, 10] (fun u v wr => ∃ j : Nat, j ≤ 64 ∧ v = .int .i64 (j : Int) ∧ wr.ownsRow w0.heap.size 3 1 u j (ints (Pure.desIp.take j)) ∧ Below w0.heap.size w0 wr) (fun _ v _ => 64 - (intOf v).toNat)
  case atStart => exact ⟨0, by omega, rfl, World.ownsRow_nil _ _ _ _, Below.refl _ _⟩
  case round =>
    obtain ⟨j, hj, rfl, hX, hK⟩ := hrel
    have HX := Lib.hid hX
    have HK := Lib.hid hK
    by_cases hjl : j < 64
    · clear hexit
      obtain ⟨A2, c2, rfl⟩ := own_form hX
      obtain ⟨a1, ha1⟩ : ∃ a1, a1 = j / 8 := ⟨_, rfl⟩
      obtain ⟨a2, ha2⟩ : ∃ a2, a2 = j % 8 := ⟨_, rfl⟩
      obtain ⟨s, hs⟩ : ∃ s, s = Pure.desStarts.getD a1 0 := ⟨_, rfl⟩
      have hs57 : 57 ≤ s ∧ s ≤ 64 := by
        rw [hs]
        have : ∀ a < 8, 57 ≤ Pure.desStarts.getD a 0 ∧ Pure.desStarts.getD a 0 ≤ 64 := by decide
        exact this a1 (by omega)
      have hBr := HR.out.below hK HZ.out
      have c0 : wr.cell? ⟨b9, a1, none⟩ = some (.int .i64 (s : Int)) := by
        rw [hBr.cell, hs, ← ints_at Pure.desStarts a1 (by show a1 < 8; omega)]
        simp
      obtain ⟨a3, ha3⟩ : ∃ a3, a3 = 8 * a2 := ⟨_, rfl⟩
      obtain ⟨p, hp⟩ : ∃ p, p = s - a3 := ⟨_, rfl⟩
      have v1 : (j : Int) / 8 = (a1 : Int) := by omega
      have v2 : (j : Int) % 8 = (a2 : Int) := by omega
      have v3 : IntKind.i64.wrap (8 * (a2 : Int)) = (a3 : Int) := by rw [IntWalk.i64_in _ (by omega)]; omega
      have v3' : 8 * (a2 : Int) = (a3 : Int) := by omega
      have v4 : (s : Int) - (a3 : Int) = (p : Int) := by omega
      have hwp : IntKind.i64.wrap (p : Int) = (p : Int) := IntWalk.i64_in _ (by omega)
      have hwa : IntKind.i64.wrap (a1 : Int) = (a1 : Int) := IntWalk.i64_in _ (by omega)
      have hwb : IntKind.i64.wrap (a2 : Int) = (a2 : Int) := IntWalk.i64_in _ (by omega)
      have hwc : IntKind.i64.wrap (a3 : Int) = (a3 : Int) := IntWalk.i64_in _ (by omega)
      have hi0 : (0 : Int) ≤ (j : Int) := by omega
      have hi1 : (j : Int) < 64 := by omega
      have g0 : (0 : Int) ≤ (a1 : Int) := by omega
      have g1 : (a1 : Int) < 8 := by omega
      have hnext : Pure.desIp.getD j 0 = p := by
        rw [hp, ha3, hs, ha2, ha1]
        unfold Pure.desIp
        rw [List.getD_eq_getElem?_getD, List.getElem?_map, List.getElem?_range hjl]
        rfl
      have HN := Lib.hid hnext
      have hsz := HK.out.size
      have hl1 : (Pure.desIp.take j).length = j := by rw [List.length_take, Pure.ip_length]; omega
      have HL1 := Lib.hid hl1
      clear hX hK ha1 ha2 ha3 hs hp hBr hnext hl1 hs57
      go_wp2_with (at_builtin; refine stopHere ?_)
      unfold Hid
      refine wp_append_int rfl (.tmp 51) (.tmp 61) rfl w0.heap.size (.slice A2 j c2) j (Pure.desIp.take j) HL1.out rfl (own_grown HX.out (World.grownBy_alloc wr _ none) (by simp)) _ _ [p] rfl (irow_new wr [p] _ 1 rfl rfl (by simp)) (by simp; omega) (by simp; omega) ?_
      intro v3 w3 hown3 hg3 hat3
      have HB3 := Lib.hid (show Below w0.heap.size w0 w3 from ((HK.out.alloc hsz _).grown hg3 (by simp; omega) (fun k hk => ownsRow_ge HX.out k hk)))
      have hown4 : w3.ownsRow w0.heap.size 3 1 v3 (j + 1) (ints (Pure.desIp.take (j + 1))) := by
        have e1 : Pure.desIp.take j ++ [p] = Pure.desIp.take (j + 1) := by rw [take_snoc _ 0 j (by rw [Pure.ip_length]; exact hjl), HN.out]
        rw [e1] at hown3
        have e2 : (Pure.desIp.take (j + 1)).length = j + 1 := by rw [← e1, List.length_append, HL1.out]; rfl
        rw [e2] at hown3
        exact hown3
      have HO3 := Lib.hid hown4
      clear hown3 hown4 hg3 hat3
      go_wp2_with fail
      go_roundw
      case rel => exact ⟨j + 1, by omega, by go_num, HO3.out, HB3.out⟩
      case measure => simp [intOf]; omega
    · have hjj : j = 64 := by omega
      subst hjj
      clear hj hjl
      have hX2 := hX
      rw [List.take_of_length_le (by rw [Pure.ip_length]; omega)] at hX2
      clear hX
      go_wp2_with fail
      exact hexit _ _ _ _ _ _ _ _ _ _ _ _ _ _ _ _ _ wr hX2 hK
end Go.Proofs.Ytmelphlgpnmopaa
