/- The document's Md4: the digest's bytes. -/
import Derived.Test.YtkllaghfiofnjaaDoorDigR1
namespace Go.Proofs.YtkllaghfiofnjaaDoor
open Go.RowKit
set_option maxRecDepth 1000000 in
set_option maxHeartbeats 8000000 in
theorem docOut_loop (c0 c1 c2 c4 c5 c6 c7 c8 c9 c10 c11 c12 c13 c14 c15 c18 c19 c20 c21 c22 c23 c24 c25 c26 c27 c28 c29 c30 c31 c32 c33 c34 c35 c36 c37 c38 c39 c40 c41 c42 c43 c44 c45 c46 c47 c48 c49 c50 c51 c52 c53 c54 c55 c56 c57 c58 c59 c60 c61 c62 c63 c64 c65 c66 c67 c68 c69 c70 c71 c72 c73 c74 c75 c76 c77 c78 c79 c80 c81 c82 c83 c84 c85 c86 c87 c88 c89 c90 c91 c92 c93 c94 c95 c96 c97 c98 c99 c100 c101 c102 c103 c104 c105 c106 c107 c108 c109 c110 c111 c112 c113 c114 c115 c116 c117 c118 c119 c120 c121 c122 c123 c124 c125 c126 c127 c128 c129 c130 c131 c132 c133 c134 c135 c136 c137 c138 c139 c140 c141 c142 c143 c144 c145 c146 c147 c148 c149 c150 c151 c152 c153 c154 c155 c156 c157 c158 c159 c160 c161 c162 c163 c164 c165 c166 c167 c168 c169 c170 c171 c172 c173 c174 c175 c176 c177 c178 c197 : Value) (u179 u180 u181 u182 u183 u184 u185 u186 u187 u188 u189 u190 u191 u192 u193 u194 u195 u196 : Value) (h : Pure.W4) (bh n0 : Nat) (hbh : bh < n0 ∨ True) (w0 : World) (hH : Blk w0 bh 38 (u32s h.list).toArray) (hB0 : n0 ≤ w0.heap.size) (Q0 : Exit → Act → World → Prop)
    (hQ : ∀ (c : List PanicEntry) (a : Act) (d : Option Nat) (v : Value) (w : World), Q0 (.panic c) (a.put d v) w → Q0 (.panic c) a w)
    (hexit : ∀ (v179 v180 v181 v182 v183 v184 v185 v186 v187 v188 v189 v190 v191 v192 v193 v194 v195 v196 : Value) (u : Value) (wr : World), wr.ownsRow n0 5 1 u 16 (u8s ((List.range 16).map (Pure.outLow h.list))) → Below n0 w0 wr → Q0 (.exit 8) { tmps := (c0 :: c1 :: c2 :: .slice (some ⟨bh, 0, none⟩) 4 4 :: c4 :: c5 :: c6 :: c7 :: c8 :: c9 :: c10 :: c11 :: c12 :: c13 :: c14 :: c15 :: u :: .int .i64 ((16 : Nat) : Int) :: c18 :: c19 :: c20 :: c21 :: c22 :: c23 :: c24 :: c25 :: c26 :: c27 :: c28 :: c29 :: c30 :: c31 :: c32 :: c33 :: c34 :: c35 :: c36 :: c37 :: c38 :: c39 :: c40 :: c41 :: c42 :: c43 :: c44 :: c45 :: c46 :: c47 :: c48 :: c49 :: c50 :: c51 :: c52 :: c53 :: c54 :: c55 :: c56 :: c57 :: c58 :: c59 :: c60 :: c61 :: c62 :: c63 :: c64 :: c65 :: c66 :: c67 :: c68 :: c69 :: c70 :: c71 :: c72 :: c73 :: c74 :: c75 :: c76 :: c77 :: c78 :: c79 :: c80 :: c81 :: c82 :: c83 :: c84 :: c85 :: c86 :: c87 :: c88 :: c89 :: c90 :: c91 :: c92 :: c93 :: c94 :: c95 :: c96 :: c97 :: c98 :: c99 :: c100 :: c101 :: c102 :: c103 :: c104 :: c105 :: c106 :: c107 :: c108 :: c109 :: c110 :: c111 :: c112 :: c113 :: c114 :: c115 :: c116 :: c117 :: c118 :: c119 :: c120 :: c121 :: c122 :: c123 :: c124 :: c125 :: c126 :: c127 :: c128 :: c129 :: c130 :: c131 :: c132 :: c133 :: c134 :: c135 :: c136 :: c137 :: c138 :: c139 :: c140 :: c141 :: c142 :: c143 :: c144 :: c145 :: c146 :: c147 :: c148 :: c149 :: c150 :: c151 :: c152 :: c153 :: c154 :: c155 :: c156 :: c157 :: c158 :: c159 :: c160 :: c161 :: c162 :: c163 :: c164 :: c165 :: c166 :: c167 :: c168 :: c169 :: c170 :: c171 :: c172 :: c173 :: c174 :: c175 :: c176 :: c177 :: c178 :: v179 :: v180 :: v181 :: v182 :: v183 :: v184 :: v185 :: v186 :: v187 :: v188 :: v189 :: v190 :: v191 :: v192 :: v193 :: v194 :: v195 :: v196 :: c197 :: []).toArray, defers := [] } wr) :
    Code.wp Tryd.prog (Code.loop docBody5) Q0 { tmps := (c0 :: c1 :: c2 :: .slice (some ⟨bh, 0, none⟩) 4 4 :: c4 :: c5 :: c6 :: c7 :: c8 :: c9 :: c10 :: c11 :: c12 :: c13 :: c14 :: c15 :: .slice none 0 0 :: .int .i64 0 :: c18 :: c19 :: c20 :: c21 :: c22 :: c23 :: c24 :: c25 :: c26 :: c27 :: c28 :: c29 :: c30 :: c31 :: c32 :: c33 :: c34 :: c35 :: c36 :: c37 :: c38 :: c39 :: c40 :: c41 :: c42 :: c43 :: c44 :: c45 :: c46 :: c47 :: c48 :: c49 :: c50 :: c51 :: c52 :: c53 :: c54 :: c55 :: c56 :: c57 :: c58 :: c59 :: c60 :: c61 :: c62 :: c63 :: c64 :: c65 :: c66 :: c67 :: c68 :: c69 :: c70 :: c71 :: c72 :: c73 :: c74 :: c75 :: c76 :: c77 :: c78 :: c79 :: c80 :: c81 :: c82 :: c83 :: c84 :: c85 :: c86 :: c87 :: c88 :: c89 :: c90 :: c91 :: c92 :: c93 :: c94 :: c95 :: c96 :: c97 :: c98 :: c99 :: c100 :: c101 :: c102 :: c103 :: c104 :: c105 :: c106 :: c107 :: c108 :: c109 :: c110 :: c111 :: c112 :: c113 :: c114 :: c115 :: c116 :: c117 :: c118 :: c119 :: c120 :: c121 :: c122 :: c123 :: c124 :: c125 :: c126 :: c127 :: c128 :: c129 :: c130 :: c131 :: c132 :: c133 :: c134 :: c135 :: c136 :: c137 :: c138 :: c139 :: c140 :: c141 :: c142 :: c143 :: c144 :: c145 :: c146 :: c147 :: c148 :: c149 :: c150 :: c151 :: c152 :: c153 :: c154 :: c155 :: c156 :: c157 :: c158 :: c159 :: c160 :: c161 :: c162 :: c163 :: c164 :: c165 :: c166 :: c167 :: c168 :: c169 :: c170 :: c171 :: c172 :: c173 :: c174 :: c175 :: c176 :: c177 :: c178 :: u179 :: u180 :: u181 :: u182 :: u183 :: u184 :: u185 :: u186 :: u187 :: u188 :: u189 :: u190 :: u191 :: u192 :: u193 :: u194 :: u195 :: u196 :: c197 :: []).toArray, defers := [] } w0 := by
  conv => arg 2; arg 1; whnf
  have HH := Lib.hid hH
  have HBh := Lib.hid hbh
  have HB0 := Lib.hid hB0
  clear hH hbh hB0
  go_loopw [16, 17] (fun v i wr => ∃ q : Nat, q ≤ 16 ∧ i = .int .i64 (q : Int) ∧ wr.ownsRow n0 5 1 v q (u8s ((List.range q).map (Pure.outLow h.list))) ∧ Below n0 w0 wr ∧ Blk wr bh 38 (u32s h.list).toArray ∧ n0 ≤ wr.heap.size) (fun _ i _ => 16 - (intOf i).toNat)
  case atStart => exact ⟨0, by omega, rfl, World.ownsRow_nil _ _ _ _, Below.refl _ _, HH.out, HB0.out⟩
  case round =>
    clear HH
    obtain ⟨q, hq, rfl, hW, hK, hS, hn⟩ := hrel
    obtain ⟨A2, c2, rfl⟩ := own_form hW
    by_cases hql : q < 16
    · clear hexit
      obtain ⟨t, ht⟩ : ∃ t, t = q / 4 := ⟨_, rfl⟩
      obtain ⟨r, hr⟩ : ∃ r, r = q % 4 := ⟨_, rfl⟩
      have htI : (q : Int) / 4 = (t : Int) := by omega
      have hrI : (q : Int) % 4 = (r : Int) := by omega
      have ht1 : (0 : Int) ≤ (t : Int) := by omega
      have ht2 : (t : Int) < 4 := by omega
      have hr4 : r < 4 := by omega
      have hwt : IntKind.i64.wrap (t : Int) = (t : Int) := IntWalk.i64_in _ (by omega)
      have hwr : IntKind.i64.wrap (r : Int) = (r : Int) := IntWalk.i64_in _ (by omega)
      have k0 : wr.cell? ⟨bh, t, none⟩ = some (.int .u32 (h.list.getD t 0).toNat) := by rw [hS.cell, ← u32s_at h.list t (by rw [Pure.W4.list_length]; omega)]; simp
      obtain ⟨V, hV⟩ : ∃ V, V = h.list.getD t 0 := ⟨_, rfl⟩
      rw [← hV] at k0
      have hsh := shr_u32 V (8 * r) (by omega)
      obtain ⟨Y, hY⟩ : ∃ Y : UInt8, Y = Pure.outLow h.list q := ⟨_, rfl⟩
      have hmin : min (8 * (q % 4)) 32 = 8 * r := by omega
      have hYv : (V.toNat : Int) / 2 ^ (8 * r) % 256 = (Y.toNat : Int) := by rw [hsh, low_u32, hY]; unfold Pure.outLow; rw [← ht, ← hr, ← hV]
      have hnext : (List.range (q + 1)).map (Pure.outLow h.list) = (List.range q).map (Pure.outLow h.list) ++ [Y] := by rw [List.range_succ, List.map_append, hY]; rfl
      have HN := Lib.hid hnext
      have HMin := Lib.hid hmin
      have HYV := Lib.hid hYv
      have HW := Lib.hid hW
      have HK := Lib.hid hK
      have HS := Lib.hid hS
      have Hn := Lib.hid hn
      clear ht hr hV hsh hY hmin hnext hW hK hS hn hYv
      go_wp2_with (at_builtin; refine stopHere ?_)
      unfold Hid
      rw [HYV.out]
      have hn := Hn.out
      refine wp_append_u8 rfl (.tmp 183) (.tmp 195) rfl n0 (.slice A2 q c2) q ((List.range q).map (Pure.outLow h.list)) (by simp) rfl (own_grown HW.out (World.grownBy_alloc wr _ none) (by simp)) _ _ [Y] rfl (new1 wr Y) (by simp; omega) (by simp; omega) ?_
      intro v3 w3 hown3 hg3 hat3
      have HO3 := Lib.hid hown3
      have HB3 := Lib.hid (show Below n0 w0 w3 from ((HK.out.alloc hn _).grown hg3 (by simp; omega) (fun k hk => ownsRow_ge HW.out k hk)))
      have HS3 := Lib.hid (show Blk w3 bh 38 (u32s h.list).toArray from (HS.out.alloc _).grown hg3 (fun e => ownsRow_ne HW.out HS.out (by decide) e.symm))
      have Hn3 := Lib.hid (show n0 ≤ w3.heap.size by have := hg3.size; simp at this; omega)
      clear hown3 hg3 hat3 hn
      go_wp2_with fail
      go_roundw
      case rel =>
        refine ⟨q + 1, by omega, by go_num, ?_, HB3.out, HS3.out, Hn3.out⟩
        rw [HN.out]
        have h3 := HO3.out
        simpa using h3
      case measure => simp [intOf]; omega
    · have hqq : q = 16 := by omega
      subst hqq
      clear hq hql
      go_wp2_with fail
      exact hexit _ _ _ _ _ _ _ _ _ _ _ _ _ _ _ _ _ _ _ wr hW hK
end Go.Proofs.YtkllaghfiofnjaaDoor
