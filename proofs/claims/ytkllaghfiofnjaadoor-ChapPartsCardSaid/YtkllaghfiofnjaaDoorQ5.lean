/- The document's Md4: the digest's bytes. -/
import Derived.Test.YtkllaghfiofnjaaDoorQ4
import Derived.Test.YtkllaghfiofnjaaDoorQ3
namespace Go.Proofs.YtkllaghfiofnjaaDoor
open Go.RowKit
set_option maxRecDepth 1000000 in
set_option maxHeartbeats 8000000 in
theorem docOut_loop (c0 c1 c2 c4 c5 c6 c7 c8 c9 c10 c11 c12 c13 c14 c15 c18 c19 c20 c21 c22 c23 c24 c25 c26 c27 c28 c29 c30 c31 c32 c33 c34 c35 c36 c37 c38 c39 c40 c41 c42 c43 c44 c45 c46 c47 c48 c49 c50 c51 c52 c53 c54 c55 c56 c57 c58 c59 c60 c61 c62 c63 c64 c65 c66 c67 c68 c69 c70 c71 c72 c73 c74 c75 c76 c77 c78 c79 c80 c81 c82 c83 c84 c85 c86 c87 c88 c89 c90 c91 c92 c93 c94 c95 c96 c97 c98 c99 c100 c101 c102 c103 c104 c105 c106 c107 c108 c109 c110 c111 c112 c113 c114 c115 c116 c117 c118 c119 c120 c121 c122 c123 c124 c125 c126 c127 c128 c129 c130 c131 c132 c133 c134 c135 c136 c137 c138 c139 c140 c141 c142 c143 c144 c145 c146 c147 c148 c149 c150 c151 c152 c153 c154 c155 c156 c157 c158 c159 c160 c161 c162 c163 c164 c165 c166 c167 c168 c169 c170 c171 c172 c173 c174 c175 c176 c177 c178 c197 : Value) (u179 u180 u181 u182 u183 u184 u185 u186 u187 u188 u189 u190 u191 u192 u193 u194 u195 u196 : Value) (h : Pure.W4) (bh n0 : Nat) (hbh : bh < n0 ∨ True) (w0 : World) (hH : Blk w0 bh 38 (u32s h.list).toArray) (hB0 : n0 ≤ w0.heap.size) (Q0 : Exit → Act → World → Prop)
    (hQ : ∀ (c : List PanicEntry) (a : Act) (d : Option Nat) (v : Value) (w : World), Q0 (.panic c) (a.put d v) w → Q0 (.panic c) a w)
    (hexit : ∀ (v179 v180 v181 v182 v183 v184 v185 v186 v187 v188 v189 v190 v191 v192 v193 v194 v195 v196 : Value) (u : Value) (wr : World), wr.ownsRow n0 5 1 u 16 (u8s ((List.range 16).map (Pure.outLow h.list))) → Below n0 w0 wr → Q0 (.exit 8) { tmps := (c0 :: c1 :: c2 :: .slice (some ⟨bh, 0, none⟩) 4 4 :: c4 :: c5 :: c6 :: c7 :: c8 :: c9 :: c10 :: c11 :: c12 :: c13 :: c14 :: c15 :: u :: .int .i64 ((16 : Nat) : Int) :: c18 :: c19 :: c20 :: c21 :: c22 :: c23 :: c24 :: c25 :: c26 :: c27 :: c28 :: c29 :: c30 :: c31 :: c32 :: c33 :: c34 :: c35 :: c36 :: c37 :: c38 :: c39 :: c40 :: c41 :: c42 :: c43 :: c44 :: c45 :: c46 :: c47 :: c48 :: c49 :: c50 :: c51 :: c52 :: c53 :: c54 :: c55 :: c56 :: c57 :: c58 :: c59 :: c60 :: c61 :: c62 :: c63 :: c64 :: c65 :: c66 :: c67 :: c68 :: c69 :: c70 :: c71 :: c72 :: c73 :: c74 :: c75 :: c76 :: c77 :: c78 :: c79 :: c80 :: c81 :: c82 :: c83 :: c84 :: c85 :: c86 :: c87 :: c88 :: c89 :: c90 :: c91 :: c92 :: c93 :: c94 :: c95 :: c96 :: c97 :: c98 :: c99 :: c100 :: c101 :: c102 :: c103 :: c104 :: c105 :: c106 :: c107 :: c108 :: c109 :: c110 :: c111 :: c112 :: c113 :: c114 :: c115 :: c116 :: c117 :: c118 :: c119 :: c120 :: c121 :: c122 :: c123 :: c124 :: c125 :: c126 :: c127 :: c128 :: c129 :: c130 :: c131 :: c132 :: c133 :: c134 :: c135 :: c136 :: c137 :: c138 :: c139 :: c140 :: c141 :: c142 :: c143 :: c144 :: c145 :: c146 :: c147 :: c148 :: c149 :: c150 :: c151 :: c152 :: c153 :: c154 :: c155 :: c156 :: c157 :: c158 :: c159 :: c160 :: c161 :: c162 :: c163 :: c164 :: c165 :: c166 :: c167 :: c168 :: c169 :: c170 :: c171 :: c172 :: c173 :: c174 :: c175 :: c176 :: c177 :: c178 :: v179 :: v180 :: v181 :: v182 :: v183 :: v184 :: v185 :: v186 :: v187 :: v188 :: v189 :: v190 :: v191 :: v192 :: v193 :: v194 :: v195 :: v196 :: c197 :: []).toArray, defers := [] } wr) :
    Code.wp Tryd.prog (Code.loop docBody5) Q0 { tmps := (c0 :: c1 :: c2 :: .slice (some ⟨bh, 0, none⟩) 4 4 :: c4 :: c5 :: c6 :: c7 :: c8 :: c9 :: c10 :: c11 :: c12 :: c13 :: c14 :: c15 :: .slice none 0 0 :: .int .i64 0 :: c18 :: c19 :: c20 :: c21 :: c22 :: c23 :: c24 :: c25 :: c26 :: c27 :: c28 :: c29 :: c30 :: c31 :: c32 :: c33 :: c34 :: c35 :: c36 :: c37 :: c38 :: c39 :: c40 :: c41 :: c42 :: c43 :: c44 :: c45 :: c46 :: c47 :: c48 :: c49 :: c50 :: c51 :: c52 :: c53 :: c54 :: c55 :: c56 :: c57 :: c58 :: c59 :: c60 :: c61 :: c62 :: c63 :: c64 :: c65 :: c66 :: c67 :: c68 :: c69 :: c70 :: c71 :: c72 :: c73 :: c74 :: c75 :: c76 :: c77 :: c78 :: c79 :: c80 :: c81 :: c82 :: c83 :: c84 :: c85 :: c86 :: c87 :: c88 :: c89 :: c90 :: c91 :: c92 :: c93 :: c94 :: c95 :: c96 :: c97 :: c98 :: c99 :: c100 :: c101 :: c102 :: c103 :: c104 :: c105 :: c106 :: c107 :: c108 :: c109 :: c110 :: c111 :: c112 :: c113 :: c114 :: c115 :: c116 :: c117 :: c118 :: c119 :: c120 :: c121 :: c122 :: c123 :: c124 :: c125 :: c126 :: c127 :: c128 :: c129 :: c130 :: c131 :: c132 :: c133 :: c134 :: c135 :: c136 :: c137 :: c138 :: c139 :: c140 :: c141 :: c142 :: c143 :: c144 :: c145 :: c146 :: c147 :: c148 :: c149 :: c150 :: c151 :: c152 :: c153 :: c154 :: c155 :: c156 :: c157 :: c158 :: c159 :: c160 :: c161 :: c162 :: c163 :: c164 :: c165 :: c166 :: c167 :: c168 :: c169 :: c170 :: c171 :: c172 :: c173 :: c174 :: c175 :: c176 :: c177 :: c178 :: u179 :: u180 :: u181 :: u182 :: u183 :: u184 :: u185 :: u186 :: u187 :: u188 :: u189 :: u190 :: u191 :: u192 :: u193 :: u194 :: u195 :: u196 :: c197 :: []).toArray, defers := [] } w0 := by
  conv => arg 2; arg 1; whnf
  have HH := Lib.hid hH
  have HBh := Lib.hid hbh
  have HB0 := Lib.hid hB0
  clear hH hbh hB0
  go_loopw [16, 17] (fun v i wr => ∃ q : Nat, q ≤ 16 ∧ i = .int .i64 (q : Int) ∧ wr.ownsRow n0 5 1 v q (u8s ((List.range q).map (Pure.outLow h.list))) ∧ Below n0 w0 wr ∧ Blk wr bh 38 (u32s h.list).toArray ∧ n0 ≤ wr.heap.size) (fun _ i _ => 16 - (intOf i).toNat)
  case atStart => exact ⟨0, by omega, rfl, World.ownsRow_nil _ _ _ _, Below.refl _ _, HH.out, HB0.out⟩
  case round =>
    clear HH
    obtain ⟨q, hq, rfl, hW, hK, hS, hn⟩ := hrel
    obtain ⟨A2, c2, rfl⟩ := own_form hW
    by_cases hql : q < 16
    · clear hexit
      obtain ⟨t, ht⟩ : ∃ t, t = q / 4 := ⟨_, rfl⟩
      obtain ⟨r, hr⟩ : ∃ r, r = q % 4 := ⟨_, rfl⟩
      have htI : (q : Int) / 4 = (t : Int) := by omega
      have hrI : (q : Int) % 4 = (r : Int) := by omega
      have ht1 : (0 : Int) ≤ (t : Int) := by omega
      have ht2 : (t : Int) < 4 := by omega
      have hr4 : r < 4 := by omega
      have hwt : IntKind.i64.wrap (t : Int) = (t : Int) := IntWalk.i64_in _ (by omega)
      have hwr : IntKind.i64.wrap (r : Int) = (r : Int) := IntWalk.i64_in _ (by omega)
      have k0 : wr.cell? ⟨bh, t, none⟩ = some (.int .u32 (h.list.getD t 0).toNat) := by rw [hS.cell, ← u32s_at h.list t (by rw [Pure.W4.list_length]; omega)]; simp
      obtain ⟨V, hV⟩ : ∃ V, V = h.list.getD t 0 := ⟨_, rfl⟩
      rw [← hV] at k0
      have hsh := shr_u32 V (8 * r) (by omega)
      obtain ⟨Y, hY⟩ : ∃ Y : UInt8, Y = Pure.outLow h.list q := ⟨_, rfl⟩
      have hmin : min (8 * (q % 4)) 32 = 8 * r := by omega
      have hYv : (V.toNat : Int) / 2 ^ (8 * r) % 256 = (Y.toNat : Int) := by rw [hsh, low_u32, hY]; unfold Pure.outLow; rw [← ht, ← hr, ← hV]
      have hnext : (List.range (q + 1)).map (Pure.outLow h.list) = (List.range q).map (Pure.outLow h.list) ++ [Y] := by rw [List.range_succ, List.map_append, hY]; rfl
      have HN := Lib.hid hnext
      have HMin := Lib.hid hmin
      have HYV := Lib.hid hYv
      have HW := Lib.hid hW
      have HK := Lib.hid hK
      have HS := Lib.hid hS
      have Hn := Lib.hid hn
      clear ht hr hV hsh hY hmin hnext hW hK hS hn hYv
      go_wp2_with (at_builtin; refine stopHere ?_)
      unfold Hid
      rw [HYV.out]
      have hn := Hn.out
      refine wp_append_u8 rfl (.tmp 183) (.tmp 195) rfl n0 (.slice A2 q c2) q ((List.range q).map (Pure.outLow h.list)) (by simp) rfl (own_grown HW.out (World.grownBy_alloc wr _ none) (by simp)) _ _ [Y] rfl (new1 wr Y) (by simp; omega) (by simp; omega) ?_
      intro v3 w3 hown3 hg3 hat3
      have HO3 := Lib.hid hown3
      have HB3 := Lib.hid (show Below n0 w0 w3 from ((HK.out.alloc hn _).grown hg3 (by simp; omega) (fun k hk => ownsRow_ge HW.out k hk)))
      have HS3 := Lib.hid (show Blk w3 bh 38 (u32s h.list).toArray from (HS.out.alloc _).grown hg3 (fun e => ownsRow_ne HW.out HS.out (by decide) e.symm))
      have Hn3 := Lib.hid (show n0 ≤ w3.heap.size by have := hg3.size; simp at this; omega)
      clear hown3 hg3 hat3 hn
      go_wp2_with fail
      go_roundw
      case rel =>
        refine ⟨q + 1, by omega, by go_num, ?_, HB3.out, HS3.out, Hn3.out⟩
        rw [HN.out]
        have h3 := HO3.out
        simpa using h3
      case measure => simp [intOf]; omega
    · have hqq : q = 16 := by omega
      subst hqq
      clear hq hql
      go_wp2_with fail
      exact hexit _ _ _ _ _ _ _ _ _ _ _ _ _ _ _ _ _ _ _ wr hW hK
end Go.Proofs.YtkllaghfiofnjaaDoor
/- The document's Md4. -/
namespace Go.Proofs.YtkllaghfiofnjaaDoor
open Go.RowKit
set_option maxRecDepth 100000 in
set_option maxHeartbeats 4000000 in
theorem docmd4_any (F : Nat → Prop) (x : Value) (bs : List UInt8) (w : World) (hF : ∀ b, F b → b < w.heap.size) (hbig : bs.length ≤ 10000000) (hr : Row w F 1 x bs.length (u8s bs)) :
    Calls Tryd.prog 31 #[x] w
      fun e w' => ∃ u, e = .returned u ∧ w'.ownsRow w.heap.size 5 1 u 16 (u8s (Pure.md4 bs)) ∧ Below w.heap.size w w' := by
  have HP := Lib.hid (pad_any true F x bs)
  have HR := Lib.hid hr
  have HF := Lib.hid hF
  have hwant : Pure.md4 bs = (List.range 16).map (Pure.outLow (Pure.md4Blocks (Pure.pad true bs) ((Pure.pad true bs).length / 64)).list) := rfl
  obtain ⟨m, hm⟩ : ∃ m, m = Pure.pad true bs := ⟨_, rfl⟩
  obtain ⟨K, hK⟩ : ∃ K, K = m.length / 64 := ⟨_, rfl⟩
  have hmK : m.length = 64 * K := by have := Pure.pad_blocks true bs; rw [← hm] at this; omega
  have hK2 : K ≤ 1000000 := by have := Pure.pad_le true bs; rw [← hm] at this; omega
  rw [← hm, ← hK] at hwant
  rw [← hm, hmK] at HP
  have HW := Lib.hid hwant
  have HM := Lib.hid hmK
  clear hr hF hwant hm hK hmK
  go_enter Tryd.func31, Tryd.ntmps31
  go_upto_region 2 with fail
  obtain ⟨bh, hbh⟩ : ∃ bh, bh = w.heap.size := ⟨_, rfl⟩
  obtain ⟨w1, hw1⟩ : ∃ w1, w1 = w.alloc (.cells (u32s Pure.md4Start.list).toArray 38) := ⟨_, rfl⟩
  have e1 : w.alloc (.cells #[.int .u32 1732584193, .int .u32 4023233417, .int .u32 2562383102, .int .u32 271733878] 38) = w1 := hw1.symm
  rw [e1, ← hbh]
  have h1 : Blk w1 bh 38 (u32s (Pure.md4Blocks m 0).list).toArray := by rw [hw1, hbh]; exact Blk.new w _ _
  have hk1 : Below w.heap.size w w1 := by rw [hw1]; exact Keeps.to_below ((Keeps.refl _ w).alloc _)
  have hs1 : w1.heap.size = bh + 1 := by rw [hw1, hbh]; simp
  have hP := HP.out w1 (HR.out.keeps (Keeps.new hk1) (fun _ _ h => h)) (fun b hb => Nat.lt_of_lt_of_le (HF.out b hb) hk1.size) (by omega)
  have HP' := Lib.hid hP
  have H1 := Lib.hid h1
  have HK1 := Lib.hid hk1
  have HBh := Lib.hid hbh
  clear hP HP hw1 e1 h1 hk1 hbh HR HF
  go_wp2_with fail
  refine HP'.out.mono ?_
  rintro e w2 ⟨u4, rfl, hu4, hb2⟩
  have hs2 : bh + 1 ≤ w2.heap.size := by have := hb2.size; omega
  obtain ⟨A, c, rfl⟩ := own_form hu4
  have HU4 := Lib.hid (Row.of_own hu4)
  have HO := Lib.hid (fun b (hb : (Value.slice A (64 * K) c).ownBlock = some b) => And.intro (ownsRow_ge hu4 b hb) (ownsRow_lt hu4 b hb))
  have H2 := Lib.hid (H1.out.below hb2 H1.out.lt)
  have HK2 := Lib.hid (HK1.out.trans (hb2.mono HK1.out.size))
  have HS1 := Lib.hid hs1
  clear HP' H1 HK1 hu4 hb2 hs1
  go_upto_region 5 with fail
  obtain ⟨bo, hbo⟩ : ∃ bo, bo = w2.heap.size := ⟨_, rfl⟩
  obtain ⟨w3, hw3⟩ : ∃ w3, w3 = (w2.alloc (.cells (ints Pure.md4Order).toArray 3)).alloc (.cells (ints Pure.md4Turns).toArray 3) := ⟨_, rfl⟩
  have hO3 : Blk w3 bo 3 (ints Pure.md4Order).toArray := by rw [hw3, hbo]; exact (Blk.new w2 _ _).alloc _
  have hT3 : Blk w3 (bo + 1) 3 (ints Pure.md4Turns).toArray := by
    rw [hw3, hbo]
    have := Blk.new (w2.alloc (.cells (ints Pure.md4Order).toArray 3)) 3 (ints Pure.md4Turns).toArray
    rw [World.size_alloc] at this
    exact this
  have hs3 : w3.heap.size = bo + 1 + 1 := by rw [hw3, hbo]; simp
  have hk3 : Keeps nobody w2 w3 := by rw [hw3]; exact ((Keeps.refl _ w2).alloc _).alloc _
  have H3 := Lib.hid (H2.out.keeps hk3 (fun h => h))
  have HU3 := Lib.hid ((HU4.out.strong.keeps hk3 (fun _ _ h => h)).mono (G := fun b => w1.heap.size ≤ b ∧ b < bo) (fun b hb => by rw [hbo]; exact HO.out b hb.1))
  have HK3 := Lib.hid (Below.quiet HK2.out hk3 HK2.out.size)
  have HO3 := Lib.hid hO3
  have HT3 := Lib.hid hT3
  have HS3 := Lib.hid hs3
  have HBo := Lib.hid (show bh < bo by omega)
  have HB1 := Lib.hid (show bh < w1.heap.size by have := HS1.out; omega)
  have HNw := Lib.hid (show w.heap.size ≤ bo by have := HBh.out; omega)
  have e3 : (w2.alloc (.cells #[.int .i64 0, .int .i64 1, .int .i64 2, .int .i64 3, .int .i64 4, .int .i64 5, .int .i64 6, .int .i64 7, .int .i64 8, .int .i64 9, .int .i64 10, .int .i64 11, .int .i64 12, .int .i64 13, .int .i64 14, .int .i64 15, .int .i64 0, .int .i64 4, .int .i64 8, .int .i64 12, .int .i64 1, .int .i64 5, .int .i64 9, .int .i64 13, .int .i64 2, .int .i64 6, .int .i64 10, .int .i64 14, .int .i64 3, .int .i64 7, .int .i64 11, .int .i64 15, .int .i64 0, .int .i64 8, .int .i64 4, .int .i64 12, .int .i64 2, .int .i64 10, .int .i64 6, .int .i64 14, .int .i64 1, .int .i64 9, .int .i64 5, .int .i64 13, .int .i64 3, .int .i64 11, .int .i64 7, .int .i64 15] 3)).alloc (.cells #[.int .i64 3, .int .i64 7, .int .i64 11, .int .i64 19, .int .i64 3, .int .i64 5, .int .i64 9, .int .i64 13, .int .i64 3, .int .i64 9, .int .i64 11, .int .i64 15] 3) = w3 := hw3.symm
  rw [e3, ← hbo]
  clear hbo hw3 e3 hO3 hT3 hs3 hk3 H2 HU4 HK2 HO hs2
  go_wp2_with fail
  go_loopw [7] (fun i wr => ∃ k : Nat, k ≤ K ∧ i = .int .i64 ((64 * k : Nat) : Int) ∧ Blk wr bh 38 (u32s (Pure.md4Blocks m k).list).toArray ∧ Keeps (only bh) w3 wr) (fun i _ => 64 * K - (intOf i).toNat)
  case atStart => exact ⟨0, by omega, rfl, H3.out, Keeps.refl _ _⟩
  case round =>
    clear H3
    obtain ⟨k, hk, rfl, hH, hK⟩ := hrel
    have HH := Lib.hid hH
    have HK := Lib.hid hK
    have HR := Lib.hid (HU3.out.keeps hK (fun b hb h => by have h : b = bh := h; have := HB1.out; omega))
    obtain ⟨p, hp⟩ : ∃ p, p = 64 * k := ⟨_, rfl⟩
    rw [← hp]
    have hp0 : (0 : Int) ≤ (p : Int) := by omega
    have hp1 : (p : Int) ≤ 64 * (K : Int) := by omega
    by_cases hkl : k < K
    · have hp2 : (p : Int) < 64 * (K : Int) := by omega
      have HP0 := Lib.hid hp
      clear hH hK hp hp1
      go_wp2_with (at_make; refine stopHere ?_)
      unfold Hid
      refine wpList_make_words rfl _ _ rfl 16 .i64 .i64 rfl rfl (by omega) ?_
      intro w4 hX4 hk4 hs4
      obtain ⟨bx, hbx⟩ : ∃ bx, bx = wr.heap.size := ⟨_, rfl⟩
      rw [← hbx] at hX4 hs4 ⊢
      have hw3r := HK.out.size
      have HX4 := Lib.hid hX4
      have HK4 := Lib.hid hk4
      have HS4 := Lib.hid hs4
      have HBx := Lib.hid hbx
      have HBx2 := Lib.hid (show bo + 1 < bx by have := HS3.out; omega)
      clear hX4 hk4 hs4 hbx hw3r
      go_wp2_with fail
      refine docWords_loop _ _ _ _ _ _ _ _ _ _ _ _ _ _ _ _ _ _ _ _ _ _ _ _ _ _ _ _ _ _ _ _ _ _ _ _ _ _ _ _ _ _ _ _ _ _ _ _ _ _ _ _ _ _ _ _ _ _ _ _ _ _ _ _ _ _ _ _ _ _ _ _ _ _ _ _ _ _ _ _ _ _ _ _ _ _ _ _ _ _ _ _ _ _ _ _ _ _ _ _ _ _ _ _ _ _ _ _ _ _ _ _ _ _ _ _ _ _ _ _ _ _ _ _ _ _ _ _ _ _ _ _ _ _ _ _ _ _ _ _ _ _ _ _ _ _ _ _ _ _ _ _ _ _ _ _ _ _ _ _ _ _ _ _ _ _ _ _ _ _ _ _ _ _ _ _ _ _ _ _ _ _ _ _ _ _ _ _ _ _ _ _ _ _ A c m K p bx (by have := HP0.out; omega) HM.out (by omega) (fun b => w1.heap.size ≤ b ∧ b < bo) (fun hb => by have := HBx2.out; omega) w4 (HR.out.keeps HK4.out (fun _ _ h => h)) HX4.out _ (fun _ _ d _ _ h => by cases d <;> exact h) ?_
      intros
      rename_i w5 hX5 hk5
      have HX5 := Lib.hid hX5
      have HK5 := Lib.hid ((HK4.out.mono (T := only bx) (fun _ h => h.elim)).trans hk5)
      have hH5 := HH.out.keeps HK5.out (fun e => by have e : bh = bx := e; have := HBx2.out; have := HBo.out; omega)
      have HH5 := Lib.hid hH5
      have s0 : w5.cell? ⟨bh, 0, none⟩ = some (.int .u32 (Pure.md4Blocks m k).a.toNat) := by rw [hH5.cell]; rfl
      have s1 : w5.cell? ⟨bh, 1, none⟩ = some (.int .u32 (Pure.md4Blocks m k).b.toNat) := by rw [hH5.cell]; rfl
      have s2 : w5.cell? ⟨bh, 2, none⟩ = some (.int .u32 (Pure.md4Blocks m k).c.toNat) := by rw [hH5.cell]; rfl
      have s3 : w5.cell? ⟨bh, 3, none⟩ = some (.int .u32 (Pure.md4Blocks m k).d.toNat) := by rw [hH5.cell]; rfl
      obtain ⟨st, hst⟩ : ∃ st, st = Pure.md4Blocks m k := ⟨_, rfl⟩
      rw [← hst] at s0 s1 s2 s3 HH5
      have HST := Lib.hid hst
      have hw5 : w5.heap.size = bx + 1 ∨ True := .inr trivial
      clear hst hX5 hk5 hH5 HH HR HX4 hw5
      go_upto_region 13 with fail
      refine wp_region_Z (fun w' => w'.cell? ⟨bh, 0, none⟩ = some (.int .u32 st.a.toNat) ∧ w'.cell? ⟨bh, 1, none⟩ = some (.int .u32 st.b.toNat) ∧ w'.cell? ⟨bh, 2, none⟩ = some (.int .u32 st.c.toNat) ∧ w'.cell? ⟨bh, 3, none⟩ = some (.int .u32 st.d.toNat)) 12 14 rfl (by kernel_rfl) ⟨s0, s1, s2, s3⟩ (fun hHeld => ?_)
      iterate 12
        refine wpAnyZ_next rfl (by kernel_rfl) (fun _ _ _ h => h) (Or.inl ⟨by rfl, by intro w hSw; obtain ⟨s0, s1, s2, s3⟩ := hSw; go_simp; try with_reducible rfl⟩) hHeld.out ?_
        simp only [Act.put, List.setIfInBounds_toArray, Nat.reduceAdd, List.getElem_toArray, List.getElem_cons_succ, List.getElem_cons_zero, List.set_cons_succ, List.set_cons_zero]
      refine wpAnyZ_step (by kernel_rfl) rfl (fun KK hKK => ?_)
      clear hHeld
      go_simp
      refine hKK.out _ _ (fun h => absurd rfl h) ?_
      clear hKK KK
      refine wpAnyZ_step (by kernel_rfl) rfl (fun KK hKK => ?_)
      go_simp
      refine hKK.out _ _ (fun _ => ⟨cell_alloc_old s0, cell_alloc_old s1, cell_alloc_old s2, cell_alloc_old s3⟩) ?_
      clear hKK KK
      refine wpAnyZ_done (by kernel_rfl) ?_ _
      go_wp2_with fail
      obtain ⟨bv, hbv⟩ : ∃ bv, bv = w5.heap.size := ⟨_, rfl⟩
      obtain ⟨w6, hw6⟩ : ∃ w6, w6 = (w5.alloc (.cells (u32s st.list).toArray 38)).drew := ⟨_, rfl⟩
      have e6 : (w5.alloc (.cells #[.int .u32 st.a.toNat, .int .u32 st.b.toNat, .int .u32 st.c.toNat, .int .u32 st.d.toNat] 38)).drew = w6 := hw6.symm
      rw [e6, ← hbv]
      have hV6 : Blk w6 bv 38 (u32s st.list).toArray := by rw [hw6, hbv]; exact (Blk.new w5 _ _).drew
      have hk6 : Keeps nobody w5 w6 := by rw [hw6]; exact ((Keeps.refl _ w5).alloc _).drew
      have hs6 : w6.heap.size = bv + 1 := by rw [hw6, hbv]; exact World.size_alloc _ _
      have hk6' := hk6.mono (T := only bx) (fun _ h => h.elim)
      have HK6 := Lib.hid (HK5.out.trans hk6')
      have HV6 := Lib.hid hV6
      have HX6 := Lib.hid (HX5.out.keeps hk6 (fun h => h))
      have HH6 := Lib.hid (HH5.out.keeps hk6 (fun h => h))
      have HS6 := Lib.hid hs6
      have HBv := Lib.hid (show bh < bv by have := HK5.out.size; have := HBx.out; have := HBx2.out; have := HBo.out; omega)
      have HBv2 := Lib.hid (show bx ≤ bv by have := HK5.out.size; have := HBx.out; omega)
      clear hbv hw6 e6 hV6 hk6 hs6 hk6' s0 s1 s2 s3 HX5 HH5 HK5 HK4 HS4
      have hO6 := (HO3.out.keeps HK.out (fun e => by have e : bo = bh := e; have := HBo.out; omega)).keeps HK6.out (fun e => by have e : bo = bx := e; have := HBx2.out; omega)
      have hT6 := (HT3.out.keeps HK.out (fun e => by have e : bo + 1 = bh := e; have := HBo.out; omega)).keeps HK6.out (fun e => by have e : bo + 1 = bx := e; have := HBx2.out; omega)
      refine docSteps_loop _ _ _ _ _ _ _ _ _ _ _ _ _ _ _ _ _ _ _ _ _ _ _ _ _ _ _ _ _ _ _ _ _ _ _ _ _ _ _ _ _ _ _ _ _ _ _ _ _ _ _ _ _ _ _ _ _ _ _ _ _ _ _ _ _ _ _ _ _ _ _ _ _ _ _ _ _ _ _ _ _ _ _ _ _ _ _ _ _ _ _ _ _ _ _ _ _ _ _ _ _ _ _ _ _ _ _ _ _ _ _ _ _ _ _ _ _ _ _ _ _ _ _ _ _ _ _ _ _ _ _ _ _ _ _ _ _ _ _ _ _ _ _ _ _ _ _ _ _ _ _ _ _ _ _ _ _ _ _ _ _ _ _ _ _ _ _ _ _ _ _ _ _ _ _ _ _ _ _ _ _ _ _ _ _ _ _ _ _ _ _ _ _ (Pure.wordsLow m p 64) (Pure.wordsLow_length _ _ _) st bo (bo + 1) bx bv w6 hO6 hT6 HX6.out HV6.out _ (fun _ _ d _ _ h => by cases d <;> exact h) ?_
      clear hO6 hT6
      intros
      rename_i bv2 w7 hV7 hb7 hq7
      have hne7 : bv2 ≠ bh := by have := HBv.out; have := HS6.out; omega
      have hlt6 := HH6.out.lt
      have hH7 := HH6.out.below hb7 HH6.out.lt
      have hp7 : Keeps (only bh) w3 w7 := by
        have k6 : Keeps (only bh) w3 w6 := HK.out.trans' HK6.out (fun i hi hlt => by have hi : i = bx := hi; have := HBx.out; have := HK.out.size; omega)
        exact k6.trans' (T := nobody) (Keeps.new hb7) (fun _ h => h.elim)
      have HK7 := Lib.hid hp7
      have HN7 := Lib.hid hne7
      have HV7 := Lib.hid hV7
      have HH7 := Lib.hid hH7
      clear hne7 hlt6 hH7 hp7 hV7 hb7 hq7 HH6 HV6 HX6 HK6 HS6 HBv HBv2
      go_wp2_with fail
      refine docSums_loop _ _ _ _ _ _ _ _ _ _ _ _ _ _ _ _ _ _ _ _ _ _ _ _ _ _ _ _ _ _ _ _ _ _ _ _ _ _ _ _ _ _ _ _ _ _ _ _ _ _ _ _ _ _ _ _ _ _ _ _ _ _ _ _ _ _ _ _ _ _ _ _ _ _ _ _ _ _ _ _ _ _ _ _ _ _ _ _ _ _ _ _ _ _ _ _ _ _ _ _ _ _ _ _ _ _ _ _ _ _ _ _ _ _ _ _ _ _ _ _ _ _ _ _ _ _ _ _ _ _ _ _ _ _ _ _ _ _ _ _ _ _ _ _ _ _ _ _ _ _ _ _ _ _ _ _ _ _ _ _ _ _ _ _ _ _ _ _ _ _ _ _ _ _ _ _ _ _ _ _ _ _ _ _ _ _ _ _ _ _ _ _ _ _ _ st (Pure.md4Steps (Pure.wordsLow m p 64) st 48) bh bv2 HN7.out w7 HH7.out HV7.out _ (fun _ _ d _ _ h => by cases d <;> exact h) ?_
      intros
      rename_i w8 hH8 hk8
      have hH8' : Blk w8 bh 38 (u32s (Pure.md4Blocks m (k + 1)).list).toArray := by
        have e : (⟨st.a + (Pure.md4Steps (Pure.wordsLow m p 64) st 48).a, st.b + (Pure.md4Steps (Pure.wordsLow m p 64) st 48).b, st.c + (Pure.md4Steps (Pure.wordsLow m p 64) st 48).c, st.d + (Pure.md4Steps (Pure.wordsLow m p 64) st 48).d⟩ : Pure.W4) = Pure.md4Blocks m (k + 1) := by
          rw [Pure.md4Blocks, ← HST.out, ← HP0.out]
        rw [← e]
        exact hH8
      have HH8 := Lib.hid hH8'
      have HK8 := Lib.hid (HK7.out.trans hk8)
      clear hH8 hH8' hk8 HH7 HV7 HN7 HK7
      go_wp2_with fail
      go_roundw
      case rel =>
        refine ⟨k + 1, by omega, ?_, HH8.out, HK8.out⟩
        have := HP0.out
        go_num
      case measure => simp [intOf]; omega
    · obtain rfl : k = K := by omega
      clear hkl hk
      go_wp2_with fail
      have hn0 : w.heap.size ≤ wr.heap.size := by have := hK.size; have := HS3.out; have := HNw.out; omega
      refine docOut_loop _ _ _ _ _ _ _ _ _ _ _ _ _ _ _ _ _ _ _ _ _ _ _ _ _ _ _ _ _ _ _ _ _ _ _ _ _ _ _ _ _ _ _ _ _ _ _ _ _ _ _ _ _ _ _ _ _ _ _ _ _ _ _ _ _ _ _ _ _ _ _ _ _ _ _ _ _ _ _ _ _ _ _ _ _ _ _ _ _ _ _ _ _ _ _ _ _ _ _ _ _ _ _ _ _ _ _ _ _ _ _ _ _ _ _ _ _ _ _ _ _ _ _ _ _ _ _ _ _ _ _ _ _ _ _ _ _ _ _ _ _ _ _ _ _ _ _ _ _ _ _ _ _ _ _ _ _ _ _ _ _ _ _ _ _ _ _ _ _ _ _ _ _ _ _ _ _ _ _ _ _ _ _ _ _ _ _ _ _ _ _ _ _ _ _ (Pure.md4Blocks m k) bh w.heap.size (.inr trivial) wr hH hn0 _ ?_ ?_
      · exact fun _ _ d _ _ h => by cases d <;> exact h
      · intros
        rename_i u8 w9 ho9 hb9
        have HO9 := Lib.hid ho9
        have HB9 := Lib.hid ((Below.keeps HK3.out hK HK3.out.size (fun i hi => by have hi : i = bh := hi; have := HBh.out; omega)).trans hb9)
        clear ho9 hb9 hH hK
        go_wp2
        go_ret
        refine ⟨_, rfl, ?_, HB9.out⟩
        rw [HW.out]
        exact HO9.out
end Go.Proofs.YtkllaghfiofnjaaDoor
/- The document's Hash of a secret. -/
namespace Go.Proofs.YtkllaghfiofnjaaDoor
open Go.RowKit
namespace Pure
/-- What is wrong with a secret, or nothing, and its hash. -/
def hash (l : List UInt8) : Nat × List UInt8 := if (secret l).1 = 0 then (0, md4 (secret l).2) else ((secret l).1, [])
theorem hash_ok {l : List UInt8} (h : (secret l).1 = 0) : hash l = (0, md4 (secret l).2) := if_pos h
theorem hash_bad {l : List UInt8} (h : (secret l).1 ≠ 0) : hash l = ((secret l).1, []) := if_neg h
theorem secret_length (l : List UInt8) : (secret l).2.length ≤ 512 := by
  unfold secret
  split
  · simp
  · split <;> simp; omega
theorem secret_lt (l : List UInt8) : (secret l).1 ≤ 4 := by
  unfold secret
  split
  · simp
  · split <;> simp
end Pure
theorem dochash_any (s : ByteArray) (l : List UInt8) (hl : s.data.toList = l) (hsz : l.length ≤ 1000000) (w : World) :
    Calls Tryd.prog 29 #[.string s] w fun e w' => ∃ v, e = .returned (.tuple #[v, .int .i64 (((Pure.hash l).1 : Nat) : Int)]) ∧ w'.ownsRow w.heap.size 5 1 v (Pure.hash l).2.length (u8s (Pure.hash l).2) ∧ Below w.heap.size w w' := by
  have HU := Lib.hid (units_any s l hl hsz)
  have hlen := Pure.secret_length l
  have hcode := Pure.secret_lt l
  obtain ⟨E, hE⟩ : ∃ E, E = (Pure.secret l).1 := ⟨_, rfl⟩
  obtain ⟨U, hUU⟩ : ∃ U, U = (Pure.secret l).2 := ⟨_, rfl⟩
  have hok := fun h => Pure.hash_ok (l := l) h
  have hbad := fun h => Pure.hash_bad (l := l) h
  rw [← hE] at HU hcode hok hbad
  rw [← hUU] at HU hlen hok
  have HOK := Lib.hid hok
  have HBAD := Lib.hid hbad
  clear hok hbad hE hUU hl
  go_enter Tryd.func29, Tryd.ntmps29
  go_wp2_with fail
  refine (HU.out w).mono ?_
  rintro e w1 ⟨v, rfl, hu, hb1⟩
  obtain ⟨A1, c1, rfl⟩ := own_form hu
  have HW := Lib.hid hu
  have HB := Lib.hid hb1
  clear hu hb1 HU
  by_cases h0 : E = 0
  · subst h0
    have HM := Lib.hid (docmd4_any (fun b => (Value.slice A1 U.length c1).ownBlock = some b) _ U w1 (fun b hb => ownsRow_lt HW.out b hb) (by omega) (Row.of_own HW.out))
    have HH := Lib.hid (HOK.out rfl)
    clear HOK HBAD
    go_wp2_with fail
    refine HM.out.mono ?_
    rintro e w2 ⟨u, rfl, hu2, hb2⟩
    obtain ⟨A2, c2, rfl⟩ := own_form hu2
    have HW2 := Lib.hid hu2
    have HB2 := Lib.hid hb2
    clear hu2 hb2 HM
    go_wp2
    go_ret2
    refine ⟨_, by rw [HH.out]; rfl, ?_, HB.out.trans (HB2.out.mono HB.out.size)⟩
    rw [HH.out]
    have h := ownsRow_base HW2.out HB.out.size
    have e16 : (Pure.md4 U).length = 16 := by have := h.1; simpa using this
    rw [show ((0, Pure.md4 U) : Nat × List UInt8).2 = Pure.md4 U from rfl, e16]
    exact h
  · have HH := Lib.hid (HBAD.out h0)
    have d0 : ((E : Int) != 0) = true := by rw [bne_iff_ne]; omega
    clear HOK HBAD
    go_wp2
    go_ret2
    exact ⟨_, by rw [HH.out]; rfl, by rw [HH.out]; exact World.ownsRow_nil _ _ _ _, HB.out⟩
end Go.Proofs.YtkllaghfiofnjaaDoor
