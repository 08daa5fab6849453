/- The document's Des: its loops' bodies; the six bits that go into a box. -/
import Derived.Test.YtmelphlgpnmopaaDesA
import Derived.Test.YtmelphlgpnmopaaNum
import Derived.Test.YtmelphlgpnmopaaLoops
namespace Go.Proofs.Ytmelphlgpnmopaa
open Go.RowKit
namespace Pure
theorem rep_set {α : Type} (l : List α) (n k : Nat) (hk : l.length = k) (hn : k < n) (d V : α) : (l ++ List.replicate (n - k) d).set k V = (l ++ [V]) ++ List.replicate (n - (k + 1)) d := by
  have e : n - k = (n - (k + 1)) + 1 := by omega
  rw [List.set_append_right _ _ (by omega), hk, Nat.sub_self, e, List.replicate_succ, List.set_cons_zero, List.append_assoc]
  rfl
def desSixes (r k : List Bool) (i j : Nat) : List Nat := (List.range j).map (fun j => (desSix r k i j).toNat) ++ List.replicate (6 - j) 0
theorem desSixes_length (r k : List Bool) (i j : Nat) (h : j ≤ 6) : (desSixes r k i j).length = 6 := by simp [desSixes]; omega
theorem desSixes_succ (r k : List Bool) (i j : Nat) (h : j < 6) : (desSixes r k i j).set j (desSix r k i j).toNat = desSixes r k i (j + 1) := by
  unfold desSixes
  rw [rep_set _ 6 j (by simp) h, List.range_succ, List.map_append]
  rfl
def desXorTo (l f : List Bool) (i : Nat) : List Bool := (List.range i).map (fun i => l.getD i false ^^ f.getD i false) ++ List.replicate (32 - i) false
theorem desXorTo_length (l f : List Bool) (i : Nat) (h : i ≤ 32) : (desXorTo l f i).length = 32 := by simp [desXorTo]; omega
theorem desXorTo_all (l f : List Bool) : desXorTo l f 32 = desXor l f := by simp [desXorTo, desXor]
theorem desXorTo_succ (l f : List Bool) (i : Nat) (h : i < 32) : (desXorTo l f i).set i (l.getD i false ^^ f.getD i false) = desXorTo l f (i + 1) := by
  unfold desXorTo
  rw [rep_set _ 32 i (by simp) h, List.range_succ, List.map_append]
  rfl
theorem bb_set (l : List Bool) (i : Nat) (v : Bool) : (bb l).set i (bb1 v) = bb (l.set i v) := by simp [bb, List.map_set]
theorem bb1_lt (b : Bool) : (bb1 b).toNat ≤ 1 := by cases b <;> decide
theorem bb1_nat (b : Bool) : (bb1 b).toNat = b.toNat := by cases b <;> rfl
theorem bb1_xor (a b : Bool) : bb1 a ^^^ bb1 b = bb1 (a ^^ b) := by cases a <;> cases b <;> rfl
end Pure
theorem ints_set (l : List Nat) (j x : Nat) : (ints l).toArray.setIfInBounds j (.int .i64 (x : Int)) = (ints (l.set j x)).toArray := by simp [List.map_set]
theorem u8s_set' (l : List UInt8) (j : Nat) (x : UInt8) : (u8s l).toArray.setIfInBounds j (.int .u8 x.toNat) = (u8s (l.set j x)).toArray := by simp [List.map_set]
noncomputable def desCode : Code := (Try.f9).body.getD .skip
noncomputable def desB1 : Code := (loopsOf desCode).getD 0 .skip
noncomputable def desB2 : Code := (loopsOf desCode).getD 1 .skip
noncomputable def desB6 : Code := (loopsOf desCode).getD 2 .skip
noncomputable def desB3 : Code := (loopsOf desB2).getD 0 .skip
noncomputable def desB5 : Code := (loopsOf desB2).getD 1 .skip
noncomputable def desB4 : Code := (loopsOf desB3).getD 0 .skip
set_option maxRecDepth 1000000 in
set_option maxHeartbeats 8000000 in
theorem desSix_loop (c0 c1 c2 c3 c4 c5 c6 c7 c8 c9 c10 c11 c12 c14 c15 c16 c17 c19 c23 c24 c25 c26 c27 c28 c29 c30 c31 c32 c33 c34 c35 c36 c37 c38 c39 c40 c41 c42 c43 c44 c45 c46 c47 c48 c49 c50 c51 c52 c53 c54 c55 c56 c57 c58 c59 c60 c61 c62 c63 c64 c65 c66 c67 c68 c69 c70 c71 c72 c73 c74 c75 c76 c77 c78 c79 c80 c81 c82 c83 c84 c85 c86 c87 c88 c89 c90 c91 c92 c93 c94 c95 c96 c97 c98 c99 c100 c101 c102 c103 c104 c105 c106 c107 c133 c134 c135 c136 c137 c138 c139 c140 c141 c142 c143 c144 c145 c146 c147 c148 c149 c150 c151 c152 c153 c154 c155 c156 c157 c158 c159 c160 c161 c162 c163 c164 c165 c166 c167 c168 c169 c170 c171 c172 c173 c174 c175 c176 c177 c178 c179 c180 c181 c182 c183 c184 c185 c186 c187 c188 c189 c190 c191 c192 c193 c194 c195 c196 c197 c198 c199 c200 c201 c202 c203 c204 c205 c206 c207 c208 c209 c210 c211 c212 c213 c214 c215 c216 c217 c218 c219 c220 c221 c222 c223 c224 c225 c226 c227 c228 c229 c230 c231 : Value) (u108 u109 u110 u111 u112 u113 u114 u115 u116 u117 u118 u119 u120 u121 u122 u123 u124 u125 u126 u127 u128 u129 u130 u131 u132 : Value) (Ar Ak : Option Addr) (cr ck : Nat) (r k : List Bool) (hrl : r.length = 32) (hkl : k.length = 48) (i : Nat) (hi : i < 8) (bs : Nat) (G G2 : Nat → Prop) (hG : ¬ G bs) (hG2 : ¬ G2 bs) (w0 : World) (hR : Row w0 G 1 (.slice Ar 32 cr) 32 (u8s (Pure.bb r))) (hKk : Row w0 G2 1 (.slice Ak 48 ck) 48 (u8s (Pure.bb k))) (hX : Blk w0 bs 3 (ints (Pure.desSixes r k i 0)).toArray)
    (Q0 : Exit → Act → World → Prop) (hQ : ∀ (c : List PanicEntry) (a : Act) (d : Option Nat) (v : Value) (w : World), Q0 (.panic c) (a.put d v) w → Q0 (.panic c) a w)
    (hexit : ∀ (v108 v109 v110 v111 v112 v113 v114 v115 v116 v117 v118 v119 v120 v121 v122 v123 v124 v125 v126 v127 v128 v129 v130 v131 v132 : Value) (wr : World), Blk wr bs 3 (ints (Pure.desSixes r k i 6)).toArray → Keeps (only bs) w0 wr → Q0 (.exit 6) { tmps := (c0 :: c1 :: c2 :: c3 :: c4 :: c5 :: c6 :: c7 :: c8 :: c9 :: c10 :: c11 :: c12 :: .slice Ar 32 cr :: c14 :: c15 :: c16 :: c17 :: .slice Ak 48 ck :: c19 :: .int .i64 (i : Int) :: .slice (some ⟨bs, 0, none⟩) 6 6 :: .int .i64 ((6 : Nat) : Int) :: c23 :: c24 :: c25 :: c26 :: c27 :: c28 :: c29 :: c30 :: c31 :: c32 :: c33 :: c34 :: c35 :: c36 :: c37 :: c38 :: c39 :: c40 :: c41 :: c42 :: c43 :: c44 :: c45 :: c46 :: c47 :: c48 :: c49 :: c50 :: c51 :: c52 :: c53 :: c54 :: c55 :: c56 :: c57 :: c58 :: c59 :: c60 :: c61 :: c62 :: c63 :: c64 :: c65 :: c66 :: c67 :: c68 :: c69 :: c70 :: c71 :: c72 :: c73 :: c74 :: c75 :: c76 :: c77 :: c78 :: c79 :: c80 :: c81 :: c82 :: c83 :: c84 :: c85 :: c86 :: c87 :: c88 :: c89 :: c90 :: c91 :: c92 :: c93 :: c94 :: c95 :: c96 :: c97 :: c98 :: c99 :: c100 :: c101 :: c102 :: c103 :: c104 :: c105 :: c106 :: c107 :: v108 :: v109 :: v110 :: v111 :: v112 :: v113 :: v114 :: v115 :: v116 :: v117 :: v118 :: v119 :: v120 :: v121 :: v122 :: v123 :: v124 :: v125 :: v126 :: v127 :: v128 :: v129 :: v130 :: v131 :: v132 :: c133 :: c134 :: c135 :: c136 :: c137 :: c138 :: c139 :: c140 :: c141 :: c142 :: c143 :: c144 :: c145 :: c146 :: c147 :: c148 :: c149 :: c150 :: c151 :: c152 :: c153 :: c154 :: c155 :: c156 :: c157 :: c158 :: c159 :: c160 :: c161 :: c162 :: c163 :: c164 :: c165 :: c166 :: c167 :: c168 :: c169 :: c170 :: c171 :: c172 :: c173 :: c174 :: c175 :: c176 :: c177 :: c178 :: c179 :: c180 :: c181 :: c182 :: c183 :: c184 :: c185 :: c186 :: c187 :: c188 :: c189 :: c190 :: c191 :: c192 :: c193 :: c194 :: c195 :: c196 :: c197 :: c198 :: c199 :: c200 :: c201 :: c202 :: c203 :: c204 :: c205 :: c206 :: c207 :: c208 :: c209 :: c210 :: c211 :: c212 :: c213 :: c214 :: c215 :: c216 :: c217 :: c218 :: c219 :: c220 :: c221 :: c222 :: c223 :: c224 :: c225 :: c226 :: c227 :: c228 :: c229 :: c230 :: c231 :: []).toArray, defers := [] } wr) :
    Code.wp Try.prog (Code.loop desB4) Q0 { tmps := (c0 :: c1 :: c2 :: c3 :: c4 :: c5 :: c6 :: c7 :: c8 :: c9 :: c10 :: c11 :: c12 :: .slice Ar 32 cr :: c14 :: c15 :: c16 :: c17 :: .slice Ak 48 ck :: c19 :: .int .i64 (i : Int) :: .slice (some ⟨bs, 0, none⟩) 6 6 :: .int .i64 0 :: c23 :: c24 :: c25 :: c26 :: c27 :: c28 :: c29 :: c30 :: c31 :: c32 :: c33 :: c34 :: c35 :: c36 :: c37 :: c38 :: c39 :: c40 :: c41 :: c42 :: c43 :: c44 :: c45 :: c46 :: c47 :: c48 :: c49 :: c50 :: c51 :: c52 :: c53 :: c54 :: c55 :: c56 :: c57 :: c58 :: c59 :: c60 :: c61 :: c62 :: c63 :: c64 :: c65 :: c66 :: c67 :: c68 :: c69 :: c70 :: c71 :: c72 :: c73 :: c74 :: c75 :: c76 :: c77 :: c78 :: c79 :: c80 :: c81 :: c82 :: c83 :: c84 :: c85 :: c86 :: c87 :: c88 :: c89 :: c90 :: c91 :: c92 :: c93 :: c94 :: c95 :: c96 :: c97 :: c98 :: c99 :: c100 :: c101 :: c102 :: c103 :: c104 :: c105 :: c106 :: c107 :: u108 :: u109 :: u110 :: u111 :: u112 :: u113 :: u114 :: u115 :: u116 :: u117 :: u118 :: u119 :: u120 :: u121 :: u122 :: u123 :: u124 :: u125 :: u126 :: u127 :: u128 :: u129 :: u130 :: u131 :: u132 :: c133 :: c134 :: c135 :: c136 :: c137 :: c138 :: c139 :: c140 :: c141 :: c142 :: c143 :: c144 :: c145 :: c146 :: c147 :: c148 :: c149 :: c150 :: c151 :: c152 :: c153 :: c154 :: c155 :: c156 :: c157 :: c158 :: c159 :: c160 :: c161 :: c162 :: c163 :: c164 :: c165 :: c166 :: c167 :: c168 :: c169 :: c170 :: c171 :: c172 :: c173 :: c174 :: c175 :: c176 :: c177 :: c178 :: c179 :: c180 :: c181 :: c182 :: c183 :: c184 :: c185 :: c186 :: c187 :: c188 :: c189 :: c190 :: c191 :: c192 :: c193 :: c194 :: c195 :: c196 :: c197 :: c198 :: c199 :: c200 :: c201 :: c202 :: c203 :: c204 :: c205 :: c206 :: c207 :: c208 :: c209 :: c210 :: c211 :: c212 :: c213 :: c214 :: c215 :: c216 :: c217 :: c218 :: c219 :: c220 :: c221 :: c222 :: c223 :: c224 :: c225 :: c226 :: c227 :: c228 :: c229 :: c230 :: c231 :: []).toArray, defers := [] } w0 := by
  conv => arg 2; arg 1; whnf
  have HR := Lib.hid hR
  have HKk := Lib.hid hKk
  have HX0 := Lib.hid hX
  have HG := Lib.hid hG
  have HG2 := Lib.hid hG2
  have HRl := Lib.hid hrl
  have HKl := Lib.hid hkl
  clear hR hKk hX hG hG2 hrl hkl
  go_loopw [22] (fun v wr => ∃ j : Nat, j ≤ 6 ∧ v = .int .i64 (j : Int) ∧ Blk wr bs 3 (ints (Pure.desSixes r k i j)).toArray ∧ Keeps (only bs) w0 wr) (fun v _ => 6 - (intOf v).toNat)
  case atStart => exact ⟨0, by omega, rfl, HX0.out, Keeps.refl _ _⟩
  case round =>
    clear HX0
    obtain ⟨j, hj, rfl, hX, hK⟩ := hrel
    by_cases hjl : j < 6
    · clear hexit
      obtain ⟨br, orr, rfl, _, hcr⟩ := (HR.out.keeps hK (fun x hx h => HG.out (h ▸ hx))).cellAt (by omega)
      obtain ⟨bk, ok, rfl, _, hck⟩ := (HKk.out.keeps hK (fun x hx h => HG2.out (h ▸ hx))).cellAt (by omega)
      obtain ⟨a1, ha1⟩ : ∃ a1, a1 = 4 * i := ⟨_, rfl⟩
      obtain ⟨a2, ha2⟩ : ∃ a2, a2 = a1 + j := ⟨_, rfl⟩
      obtain ⟨a3, ha3⟩ : ∃ a3, a3 = a2 + 31 := ⟨_, rfl⟩
      obtain ⟨a4, ha4⟩ : ∃ a4, a4 = a3 % 32 := ⟨_, rfl⟩
      obtain ⟨b1, hb1⟩ : ∃ b1, b1 = 6 * i := ⟨_, rfl⟩
      obtain ⟨b2, hb2⟩ : ∃ b2, b2 = b1 + j := ⟨_, rfl⟩
      have v1 : IntKind.i64.wrap (4 * (i : Int)) = (a1 : Int) := by rw [IntWalk.i64_in _ (by omega)]; omega
      have v2 : IntKind.i64.wrap ((a1 : Int) + (j : Int)) = (a2 : Int) := by rw [IntWalk.i64_in _ (by omega)]; omega
      have v3 : IntKind.i64.wrap ((a2 : Int) + 31) = (a3 : Int) := by rw [IntWalk.i64_in _ (by omega)]; omega
      have v4 : (a3 : Int).tmod 32 = (a4 : Int) := by rw [Int.tmod_eq_emod_of_nonneg (by omega)]; omega
      have v5 : IntKind.i64.wrap (6 * (i : Int)) = (b1 : Int) := by rw [IntWalk.i64_in _ (by omega)]; omega
      have v6 : IntKind.i64.wrap ((b1 : Int) + (j : Int)) = (b2 : Int) := by rw [IntWalk.i64_in _ (by omega)]; omega
      have c1 := hcr a4 _ (u8s_at (Pure.bb r) a4 (by rw [Pure.bb_length, HRl.out]; omega))
      rw [Pure.bb_getD _ _ (by rw [HRl.out]; omega)] at c1
      have c2 := hck b2 _ (u8s_at (Pure.bb k) b2 (by rw [Pure.bb_length, HKl.out]; omega))
      rw [Pure.bb_getD _ _ (by rw [HKl.out]; omega)] at c2
      obtain ⟨X, hX1⟩ : ∃ X, X = Pure.bb1 (r.getD a4 false) := ⟨_, rfl⟩
      obtain ⟨Y, hY1⟩ : ∃ Y, Y = Pure.bb1 (k.getD b2 false) := ⟨_, rfl⟩
      rw [← hX1] at c1
      rw [← hY1] at c2
      obtain ⟨Z, hZ⟩ : ∃ Z, Z = X ^^^ Y := ⟨_, rfl⟩
      have hxor := xor_u8 X Y
      rw [← hZ] at hxor
      have hZ2 : Z = Pure.bb1 (Pure.desSix r k i j) := by
        rw [hZ, hX1, hY1, Pure.bb1_xor, ha4, ha3, ha2, ha1, hb2, hb1]
        rfl
      have hZl : Z.toNat ≤ 1 := by rw [hZ2]; exact Pure.bb1_lt _
      have hwz : IntKind.i64.wrap (Z.toNat : Int) = (Z.toNat : Int) := IntWalk.i64_in _ (by omega)
      have hnext : Pure.desSixes r k i (j + 1) = (Pure.desSixes r k i j).set j Z.toNat := by rw [← Pure.desSixes_succ r k i j hjl, hZ2, Pure.bb1_nat]
      have k0 : wr.cell? ⟨bs, j, none⟩ = some (.int .i64 ((Pure.desSixes r k i j).getD j 0 : Nat)) := by rw [hX.cell, ← ints_at _ j (by rw [Pure.desSixes_length _ _ _ _ hj]; exact hjl)]; simp
      obtain ⟨old, hold⟩ : ∃ old, old = (Pure.desSixes r k i j).getD j 0 := ⟨_, rfl⟩
      rw [← hold] at k0
      have f0 : wr.frozen? ⟨bs, j, none⟩ = false := hX.frozen j
      have hi0 : (0 : Int) ≤ (j : Int) := by omega
      have hi1 : (j : Int) < 6 := by omega
      have g1 : (0 : Int) ≤ (a4 : Int) := by omega
      have g2 : (a4 : Int) < 32 := by omega
      have g3 : (0 : Int) ≤ (b2 : Int) := by omega
      have g4 : (b2 : Int) < 48 := by omega
      have HN := Lib.hid hnext
      have HX := Lib.hid hX
      have HK := Lib.hid hK
      clear hcr hck ha1 ha2 ha3 ha4 hb1 hb2 hX1 hY1 hZ hZ2 hnext hX hK hold HR HKk HG HG2 HRl HKl
      go_upto_region 32 with fail
      refine wp_region_Z (fun w' => w'.cell? ⟨br, orr + a4, none⟩ = some (.int .u8 X.toNat) ∧ w'.cell? ⟨bk, ok + b2, none⟩ = some (.int .u8 Y.toNat)) 21 22 rfl (by kernel_rfl) ⟨c1, c2⟩ (fun hHeld => ?_)
      iterate 21
        refine wpAnyZ_next rfl (by kernel_rfl) (fun _ _ _ h => hQ _ _ _ _ _ h) (Or.inl ⟨by rfl, by intro w hSw; obtain ⟨s0, s1⟩ := hSw; go_simp; try with_reducible rfl⟩) hHeld.out ?_
        simp only [Act.put, List.setIfInBounds_toArray, Nat.reduceAdd, List.getElem_toArray, List.getElem_cons_succ, List.getElem_cons_zero, List.set_cons_succ, List.set_cons_zero]
      refine wpAnyZ_step (by kernel_rfl) rfl (fun K hK => ?_)
      clear hHeld
      go_simp
      refine hK.out _ _ (fun h => absurd rfl h) ?_
      clear hK K
      refine wpAnyZ_done (by kernel_rfl) ?_ _
      go_wp2_with fail
      go_roundw
      case rel =>
        refine ⟨j + 1, by omega, by go_num, ?_, ?_⟩
        · rw [HN.out, ← ints_set]
          exact (HX.out.set j _).drew
        · exact (HK.out.store bs j (fun _ => only_self bs) _).drew
      case measure => simp [intOf]; omega
    · have hjj : j = 6 := by omega
      subst hjj
      clear hj hjl
      go_wp2_with fail
      exact hexit _ _ _ _ _ _ _ _ _ _ _ _ _ _ _ _ _ _ _ _ _ _ _ _ _ wr hX hK
end Go.Proofs.Ytmelphlgpnmopaa
