/- The document's Md4: its loops' bodies; the words of a block. -/
import Derived.Test.YtkllaghfiofnjaaDoorDigB
import Derived.Test.YtkllaghfiofnjaaDoorDigA
import Derived.Test.YtkllaghfiofnjaaDoorDigM
import Derived.Test.YtkllaghfiofnjaaDoorRowSet
import Derived.Test.YtkllaghfiofnjaaDoorMake
import Derived.Test.YtkllaghfiofnjaaDoorIdx
import Derived.Test.YtkllaghfiofnjaaDoorAppend
import Derived.Test.YtkllaghfiofnjaaDoorLast
import Derived.BigRegion
import Derived.Test.YtkllaghfiofnjaaDoorLoops
namespace Go.Proofs.YtkllaghfiofnjaaDoor
open Go.RowKit
noncomputable def docOuter : Code := (loopsOf ((Tryd.f31).body.getD .skip)).getD 0 .skip
noncomputable def docBody2 : Code := (loopsOf docOuter).getD 0 .skip
noncomputable def docBody3 : Code := (loopsOf docOuter).getD 1 .skip
noncomputable def docBody4 : Code := (loopsOf docOuter).getD 2 .skip
noncomputable def docBody5 : Code := (loopsOf ((Tryd.f31).body.getD .skip)).getD 1 .skip
set_option maxRecDepth 1000000 in
set_option maxHeartbeats 8000000 in
theorem docWords_loop (c0 c1 c2 c3 c5 c6 c10 c11 c12 c13 c14 c15 c16 c17 c18 c19 c20 c21 c22 c23 c24 c25 c26 c27 c28 c29 c56 c57 c58 c59 c60 c61 c62 c63 c64 c65 c66 c67 c68 c69 c70 c71 c72 c73 c74 c75 c76 c77 c78 c79 c80 c81 c82 c83 c84 c85 c86 c87 c88 c89 c90 c91 c92 c93 c94 c95 c96 c97 c98 c99 c100 c101 c102 c103 c104 c105 c106 c107 c108 c109 c110 c111 c112 c113 c114 c115 c116 c117 c118 c119 c120 c121 c122 c123 c124 c125 c126 c127 c128 c129 c130 c131 c132 c133 c134 c135 c136 c137 c138 c139 c140 c141 c142 c143 c144 c145 c146 c147 c148 c149 c150 c151 c152 c153 c154 c155 c156 c157 c158 c159 c160 c161 c162 c163 c164 c165 c166 c167 c168 c169 c170 c171 c172 c173 c174 c175 c176 c177 c178 c179 c180 c181 c182 c183 c184 c185 c186 c187 c188 c189 c190 c191 c192 c193 c194 c195 c196 c197 : Value) (u30 u31 u32 u33 u34 u35 u36 u37 u38 u39 u40 u41 u42 u43 u44 u45 u46 u47 u48 u49 u50 u51 u52 u53 u54 u55 : Value) (A : Option Addr) (cA : Nat) (m : List UInt8) (K p bx : Nat) (hp : p + 64 ≤ 64 * K) (hmK : m.length = 64 * K) (hK2 : K ≤ 1000000) (G : Nat → Prop) (hG : ¬ G bx) (w0 : World) (hM : Row w0 G 1 (.slice A (64 * K) cA) (64 * K) (u8s m)) (hX : Blk w0 bx 38 (u32s (Pure.wordsLow m p 0)).toArray) (Q0 : Exit → Act → World → Prop)
    (hQ : ∀ (c : List PanicEntry) (a : Act) (d : Option Nat) (v : Value) (w : World), Q0 (.panic c) (a.put d v) w → Q0 (.panic c) a w)
    (hexit : ∀ (v30 v31 v32 v33 v34 v35 v36 v37 v38 v39 v40 v41 v42 v43 v44 v45 v46 v47 v48 v49 v50 v51 v52 v53 v54 v55 : Value) (wr : World), Blk wr bx 38 (u32s (Pure.wordsLow m p 64)).toArray → Keeps (only bx) w0 wr → Q0 (.exit 2) { tmps := (c0 :: c1 :: c2 :: c3 :: .slice A (64 * K) cA :: c5 :: c6 :: .int .i64 (p : Int) :: .slice (some ⟨bx, 0, none⟩) 16 16 :: .int .i64 ((64 : Nat) : Int) :: c10 :: c11 :: c12 :: c13 :: c14 :: c15 :: c16 :: c17 :: c18 :: c19 :: c20 :: c21 :: c22 :: c23 :: c24 :: c25 :: c26 :: c27 :: c28 :: c29 :: v30 :: v31 :: v32 :: v33 :: v34 :: v35 :: v36 :: v37 :: v38 :: v39 :: v40 :: v41 :: v42 :: v43 :: v44 :: v45 :: v46 :: v47 :: v48 :: v49 :: v50 :: v51 :: v52 :: v53 :: v54 :: v55 :: c56 :: c57 :: c58 :: c59 :: c60 :: c61 :: c62 :: c63 :: c64 :: c65 :: c66 :: c67 :: c68 :: c69 :: c70 :: c71 :: c72 :: c73 :: c74 :: c75 :: c76 :: c77 :: c78 :: c79 :: c80 :: c81 :: c82 :: c83 :: c84 :: c85 :: c86 :: c87 :: c88 :: c89 :: c90 :: c91 :: c92 :: c93 :: c94 :: c95 :: c96 :: c97 :: c98 :: c99 :: c100 :: c101 :: c102 :: c103 :: c104 :: c105 :: c106 :: c107 :: c108 :: c109 :: c110 :: c111 :: c112 :: c113 :: c114 :: c115 :: c116 :: c117 :: c118 :: c119 :: c120 :: c121 :: c122 :: c123 :: c124 :: c125 :: c126 :: c127 :: c128 :: c129 :: c130 :: c131 :: c132 :: c133 :: c134 :: c135 :: c136 :: c137 :: c138 :: c139 :: c140 :: c141 :: c142 :: c143 :: c144 :: c145 :: c146 :: c147 :: c148 :: c149 :: c150 :: c151 :: c152 :: c153 :: c154 :: c155 :: c156 :: c157 :: c158 :: c159 :: c160 :: c161 :: c162 :: c163 :: c164 :: c165 :: c166 :: c167 :: c168 :: c169 :: c170 :: c171 :: c172 :: c173 :: c174 :: c175 :: c176 :: c177 :: c178 :: c179 :: c180 :: c181 :: c182 :: c183 :: c184 :: c185 :: c186 :: c187 :: c188 :: c189 :: c190 :: c191 :: c192 :: c193 :: c194 :: c195 :: c196 :: c197 :: []).toArray, defers := [] } wr) :
    Code.wp Tryd.prog (Code.loop docBody2) Q0 { tmps := (c0 :: c1 :: c2 :: c3 :: .slice A (64 * K) cA :: c5 :: c6 :: .int .i64 (p : Int) :: .slice (some ⟨bx, 0, none⟩) 16 16 :: .int .i64 0 :: c10 :: c11 :: c12 :: c13 :: c14 :: c15 :: c16 :: c17 :: c18 :: c19 :: c20 :: c21 :: c22 :: c23 :: c24 :: c25 :: c26 :: c27 :: c28 :: c29 :: u30 :: u31 :: u32 :: u33 :: u34 :: u35 :: u36 :: u37 :: u38 :: u39 :: u40 :: u41 :: u42 :: u43 :: u44 :: u45 :: u46 :: u47 :: u48 :: u49 :: u50 :: u51 :: u52 :: u53 :: u54 :: u55 :: c56 :: c57 :: c58 :: c59 :: c60 :: c61 :: c62 :: c63 :: c64 :: c65 :: c66 :: c67 :: c68 :: c69 :: c70 :: c71 :: c72 :: c73 :: c74 :: c75 :: c76 :: c77 :: c78 :: c79 :: c80 :: c81 :: c82 :: c83 :: c84 :: c85 :: c86 :: c87 :: c88 :: c89 :: c90 :: c91 :: c92 :: c93 :: c94 :: c95 :: c96 :: c97 :: c98 :: c99 :: c100 :: c101 :: c102 :: c103 :: c104 :: c105 :: c106 :: c107 :: c108 :: c109 :: c110 :: c111 :: c112 :: c113 :: c114 :: c115 :: c116 :: c117 :: c118 :: c119 :: c120 :: c121 :: c122 :: c123 :: c124 :: c125 :: c126 :: c127 :: c128 :: c129 :: c130 :: c131 :: c132 :: c133 :: c134 :: c135 :: c136 :: c137 :: c138 :: c139 :: c140 :: c141 :: c142 :: c143 :: c144 :: c145 :: c146 :: c147 :: c148 :: c149 :: c150 :: c151 :: c152 :: c153 :: c154 :: c155 :: c156 :: c157 :: c158 :: c159 :: c160 :: c161 :: c162 :: c163 :: c164 :: c165 :: c166 :: c167 :: c168 :: c169 :: c170 :: c171 :: c172 :: c173 :: c174 :: c175 :: c176 :: c177 :: c178 :: c179 :: c180 :: c181 :: c182 :: c183 :: c184 :: c185 :: c186 :: c187 :: c188 :: c189 :: c190 :: c191 :: c192 :: c193 :: c194 :: c195 :: c196 :: c197 :: []).toArray, defers := [] } w0 := by
  conv => arg 2; arg 1; whnf
  have HM := Lib.hid hM
  have HX0 := Lib.hid hX
  have HG := Lib.hid hG
  clear hM hX hG
  go_loopw [9] (fun i wr => ∃ q : Nat, q ≤ 64 ∧ i = .int .i64 (q : Int) ∧ Blk wr bx 38 (u32s (Pure.wordsLow m p q)).toArray ∧ Keeps (only bx) w0 wr) (fun i _ => 64 - (intOf i).toNat)
  case atStart => exact ⟨0, by omega, rfl, HX0.out, Keeps.refl _ _⟩
  case round =>
    clear HX0
    obtain ⟨q, hq, rfl, hX, hK⟩ := hrel
    by_cases hql : q < 64
    · clear hexit
      obtain ⟨b, off, rfl, hbG, hcm⟩ := (HM.out.keeps hK (fun x hx h => HG.out (h ▸ hx))).cellAt (by omega)
      obtain ⟨z, hz⟩ : ∃ z, z = p + q := ⟨_, rfl⟩
      have hzI : (p : Int) + (q : Int) = (z : Int) := by omega
      have hz1 : (0 : Int) ≤ (z : Int) := by omega
      have hz2 : (z : Int) < 64 * (K : Int) := by omega
      have c1 := hcm z _ (u8s_at m z (by omega))
      obtain ⟨B, hB⟩ : ∃ B : UInt8, B = m.getD z 0 := ⟨_, rfl⟩
      rw [← hB] at c1
      obtain ⟨t, ht⟩ : ∃ t, t = q / 4 := ⟨_, rfl⟩
      obtain ⟨r, hr⟩ : ∃ r, r = q % 4 := ⟨_, rfl⟩
      have htI : (q : Int) / 4 = (t : Int) := by omega
      have hrI : (q : Int) % 4 = (r : Int) := by omega
      have ht1 : (0 : Int) ≤ (t : Int) := by omega
      have ht2 : (t : Int) < 16 := by omega
      have hr4 : r < 4 := by omega
      have hwt : IntKind.i64.wrap (t : Int) = (t : Int) := IntWalk.i64_in _ (by omega)
      have hwr : IntKind.i64.wrap (r : Int) = (r : Int) := IntWalk.i64_in _ (by omega)
      have hwz : IntKind.i64.wrap (z : Int) = (z : Int) := IntWalk.i64_in _ (by omega)
      have k0 : wr.cell? ⟨bx, t, none⟩ = some (.int .u32 ((Pure.wordsLow m p q).getD t 0).toNat) := by rw [hX.cell, ← u32s_at _ t (by rw [Pure.wordsLow_length]; omega)]; simp
      obtain ⟨V, hV⟩ : ∃ V, V = (Pure.wordsLow m p q).getD t 0 := ⟨_, rfl⟩
      rw [← hV] at k0
      have f0 : wr.frozen? ⟨bx, t, none⟩ = false := hX.frozen t
      obtain ⟨Y, hY⟩ : ∃ Y : UInt32, Y = B.toUInt32 <<< UInt32.ofNat (8 * r) := ⟨_, rfl⟩
      have hBl := B.toNat_lt
      have hv0 : (B.toNat : Int) % 4294967296 = (B.toNat : Int) := Int.emod_eq_of_lt (by omega) (by omega)
      have hv1 : (B.toNat : Int) * 2 ^ (8 * r) % 4294967296 = (Y.toNat : Int) := by rw [hY, ← shl_u32 _ _ (by omega), wide_u8]
      obtain ⟨Z, hZ⟩ : ∃ Z : UInt32, Z = V ||| Y := ⟨_, rfl⟩
      have hv2 := or_u32 V Y
      rw [← hZ] at hv2
      have hnext : Pure.wordsLow m p (q + 1) = (Pure.wordsLow m p q).set t Z := by simp only [Pure.wordsLow]; rw [hZ, hY, hV, hB, ht, hr, hz]
      have hmin : min (8 * (q % 4)) 32 = 8 * r := by omega
      have HMin := Lib.hid hmin
      have HN := Lib.hid hnext
      have HX := Lib.hid hX
      have HK := Lib.hid hK
      clear hcm hB ht hr hV hY hZ hnext hX hK hz HM HG hmK hmin
      go_upto_region 12 with fail
      refine wp_region_Z (fun w' => w'.cell? ⟨bx, t, none⟩ = some (.int .u32 V.toNat) ∧ w'.cell? ⟨b, off + z, none⟩ = some (.int .u8 B.toNat)) 22 23 rfl (by kernel_rfl) ⟨k0, c1⟩ (fun hHeld => ?_)
      iterate 22
        refine wpAnyZ_next rfl (by kernel_rfl) (fun _ _ _ h => hQ _ _ _ _ _ h) (Or.inl ⟨by rfl, by intro w hSw; obtain ⟨s0, s1⟩ := hSw; go_simp; try with_reducible rfl⟩) hHeld.out ?_
        simp only [Act.put, List.setIfInBounds_toArray, Nat.reduceAdd, List.getElem_toArray, List.getElem_cons_succ, List.getElem_cons_zero, List.set_cons_succ, List.set_cons_zero]
      refine wpAnyZ_step (by kernel_rfl) rfl (fun K hK => ?_)
      clear hHeld
      go_simp
      refine hK.out _ _ (fun h => absurd rfl h) ?_
      clear hK K
      refine wpAnyZ_done (by kernel_rfl) ?_ _
      go_wp2_with fail
      go_roundw
      case rel =>
        refine ⟨q + 1, by omega, by go_num, ?_, ?_⟩
        · rw [HN.out, ← u32s_set, HMin.out, hv1, hv2]
          exact (HX.out.set t _).drew
        · exact (HK.out.store bx t (fun _ => only_self bx) _).drew
      case measure => simp [intOf]; omega
    · have hqq : q = 64 := by omega
      subst hqq
      clear hq hql
      go_wp2_with fail
      exact hexit _ _ _ _ _ _ _ _ _ _ _ _ _ _ _ _ _ _ _ _ _ _ _ _ _ _ wr hX hK
end Go.Proofs.YtkllaghfiofnjaaDoor
