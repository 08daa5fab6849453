/- Contracts of package slices over bytes: Grow of nil, Concat. -/
import Derived.Test.YtaalbjbocbagcaaDoorBase
import Derived.Lib.AppendZerosOnto
import Derived.Lib.SliceRun
import Derived.Lib.Walk
namespace Go.Proofs.YtaalbjbocbagcaaDoor
open Go.RowKit

theorem zeroCells_u8 (n : Nat) : (Builtin.zeroCells (Value.cells (.int .u8 0)) n).size = n := by
  simp [Builtin.zeroCells, Value.cells]

set_option maxHeartbeats 1000000 in
theorem grow_nil (n : Nat) (w : World) (hn : n ≤ 140737488355328) :
    Calls Tryd.prog 33 #[.slice none 0 0, .int .i64 n] w fun e w' => ∃ u, e = .returned u ∧ w'.ownsRow w.heap.size 5 1 u 0 [] ∧ Below w.heap.size w w' := by
  by_cases h0 : n = 0
  · subst h0
    go_enter Tryd.func33, Tryd.ntmps33
    go_wp2
    go_ret
    exact ⟨_, rfl, ⟨by simp, .inl ⟨rfl, rfl⟩⟩, Below.refl _ _⟩
  · obtain ⟨i0, hi0, hz0, hz1, hz2⟩ := info_parts u8_info
    have hpos : (n : Int) > 0 := by omega
    have hrz : ∀ ty, (Builtin.append_ #[23, 3] ty #[.slice none 0 0, .int .i64 n]).run Tryd.prog w =
        .ok (.slice (some ⟨w.heap.size, 0, none⟩) n (grownCap w n 0 5)) (w.drew.alloc (.cells (([] : List Value).toArray ++ Builtin.zeroCells (Value.cells (.int .u8 0)) n ++ Builtin.zeroCells (Value.cells (.int .u8 0)) (grownCap w n 0 5 - n)) 5)) := fun ty => by
      have h := Lib.run_append_grow_zeros w 23 3 ty 5 i0 (.int .u8 0) .i64 .i64 Tryd.underlying23 Tryd.underlying3 hi0 hz0 none 0 0 []
        (run_firstCells_none w.drew i0.size 0 0 0) n (by omega) (by omega) (by omega) (by omega) (by rw [hz2]; omega) (by
          rw [hz2]
          have : Builtin.nextslicecap (0 + n) 0 = n := by unfold Builtin.nextslicecap; rw [if_pos (by omega)]; omega
          rw [this]; omega)
      simpa only [Nat.zero_add] using h
    have hGn : n ≤ grownCap w n 0 5 := grownCap_ge w _ _ _
    have hGm := grownCap_le_maxLen w n 0 5 (by unfold maxLen; omega)
    obtain ⟨G, hG⟩ : ∃ G, G = grownCap w n 0 5 := ⟨_, rfl⟩
    rw [← hG] at hrz hGn hGm
    obtain ⟨Z, hZ⟩ : ∃ Z, Z = (([] : List Value).toArray ++ Builtin.zeroCells (Value.cells (.int .u8 0)) n ++ Builtin.zeroCells (Value.cells (.int .u8 0)) (G - n)) := ⟨_, rfl⟩
    rw [← hZ] at hrz
    have hZs : Z.size = G := by rw [hZ, Array.size_append, Array.size_append, zeroCells_u8, zeroCells_u8]; simp; omega
    have HZ := Lib.hid hZs
    have HGM := Lib.hid hGm
    have hG63 : G ≤ 9223372036854775807 := by unfold maxLen at hGm; omega
    clear hi0 hz0 hz1 hz2 hG hZ hZs hGm
    go_enter Tryd.func33, Tryd.ntmps33
    go_wp2_with (at_builtin; refine Lib.wpList_append_run _ rfl _ _ _ _ rfl _ _ rfl rfl _ _ (hrz _) ?_)
    go_ret
    refine ⟨_, rfl, ⟨by simp, .inr ⟨w.heap.size, G, Z, rfl, Nat.le_refl _, ?_, by omega, HGM.out, by rw [HZ.out]; simp, by simp⟩⟩, ?_⟩
    · exact Blk.new w.drew 5 Z
    · exact (Below.drewN (Below.refl _ w) 1).alloc (Nat.le_refl _) _

/-- The slices of bytes in block g: each one a row. -/
structure Parts (w : World) (g : Nat) (F : Nat → Prop) (ps : List (Value × List UInt8)) : Prop where
  blk : Blk w g 23 (ps.map Prod.fst).toArray
  rows : ∀ p ∈ ps, Row w F 1 p.1 p.2.length (u8s p.2)
theorem Parts.keeps {S : Nat → Prop} {w w' : World} {g : Nat} {F : Nat → Prop} {ps : List (Value × List UInt8)} (h : Parts w g F ps) (k : Keeps S w w') (hg : ¬ S g) (hs : ∀ b, F b → ¬ S b) : Parts w' g F ps :=
  ⟨h.blk.keeps k hg, fun p hp => (h.rows p hp).keeps k hs⟩
def joined (ps : List (Value × List UInt8)) : List UInt8 := ps.flatMap Prod.snd
theorem joined_snoc (ps : List (Value × List UInt8)) (k : Nat) (p : Value × List UInt8) (h : ps[k]? = some p) : joined (ps.take (k + 1)) = joined (ps.take k) ++ p.2 := by
  unfold joined
  rw [List.take_add_one, h, List.flatMap_append]
  simp
theorem joined_le (ps : List (Value × List UInt8)) (k : Nat) : (joined (ps.take k)).length ≤ (joined ps).length := by
  have : ps = ps.take k ++ ps.drop k := (List.take_append_drop k ps).symm
  unfold joined
  conv => rhs; rw [this]
  rw [List.flatMap_append, List.length_append]
  omega

set_option maxHeartbeats 2000000 in
theorem concat_any (F : Nat → Prop) (g : Nat) (ps : List (Value × List UInt8)) (w : World) (h : Parts w g F ps) (hF : ∀ b, F b → b < w.heap.size) (hp : ps.length ≤ 1000) (hl : (joined ps).length ≤ 140737488355328) :
    Calls Tryd.prog 25 #[.slice (some ⟨g, 0, none⟩) ps.length ps.length] w fun e w' => ∃ u, e = .returned u ∧ w'.ownsRow w.heap.size 5 1 u (joined ps).length (u8s (joined ps)) ∧ Below w.heap.size w w' := by
  have H := Lib.hid h
  have HF := Lib.hid hF
  have hcells : ∀ k p, ps[k]? = some p → w.cell? ⟨g, k, none⟩ = some p.1 := fun k p hk => by
    rw [h.blk.cell]; simp [hk]
  have HC := Lib.hid hcells
  have hgl := h.blk.lt
  clear h hF hcells
  go_enter Tryd.func25, Tryd.ntmps25
  go_wp2_with fail
  go_loop [3, 11] (fun s i => ∃ k : Nat, k ≤ ps.length ∧ i = .int .i64 k ∧ s = .int .i64 (joined (ps.take k)).length) (fun _ i => ps.length - (intOf i).toNat)
  case atStart => exact ⟨0, by omega, rfl, rfl⟩
  case round =>
    obtain ⟨k, hk, rfl, rfl⟩ := hrel
    have hle := joined_le ps k
    by_cases hlt : k < ps.length
    · obtain ⟨p, hpk⟩ : ∃ p, ps[k]? = some p := ⟨_, List.getElem?_eq_getElem hlt⟩
      have c0 := HC.out k p hpk
      obtain ⟨Ap, cp, hv, _⟩ := (H.out.rows p (List.mem_of_getElem? hpk)).form
      rw [hv] at c0
      have hle2 := joined_le ps (k + 1)
      have hj := joined_snoc ps k p hpk
      have hjl := congrArg List.length hj
      rw [List.length_append] at hjl
      have HJ := Lib.hid hjl
      have hi0 : (0 : Int) ≤ (k : Int) := by omega
      have hi1 : (k : Int) < (ps.length : Int) := by omega
      obtain ⟨J, hJ⟩ : ∃ J, J = (joined (ps.take k)).length := ⟨_, rfl⟩
      rw [← hJ] at hle HJ ⊢
      have hJ2 : J + p.2.length ≤ 140737488355328 := by have := HJ.out; omega
      have hneg : ¬ ((J : Int) + p.2.length < 0) := by omega
      clear hv hpk hj hjl hJ hle2
      go_wp2
      go_round
      case rel => exact ⟨k + 1, by omega, by go_num, by rw [HJ.out]; go_num⟩
      case measure => simp [intOf]; omega
    · have hk' : k = ps.length := by omega
      have hj : joined (ps.take k) = joined ps := by rw [hk', List.take_length]
      rw [hj]
      clear hj hk' hle
      go_wp2_with fail
      refine (grow_nil (joined ps).length w hl).mono ?_
      rintro e w1 ⟨u1, rfl, hown1, hb1⟩
      have O1 := Lib.hid hown1
      have B1 := Lib.hid hb1
      clear hown1 hb1
      go_wp2_with fail
      obtain ⟨i0, hi0, hz0, hz1, hz2⟩ := info_parts u8_info
      have I := Lib.hid (And.intro hi0 (And.intro hz0 (And.intro hz1 hz2)))
      clear hi0 hz0 hz1 hz2
      go_loopw [6, 27] (fun u i wr => ∃ k : Nat, k ≤ ps.length ∧ i = .int .i64 k ∧ wr.ownsRow w.heap.size 5 1 u (joined (ps.take k)).length (u8s (joined (ps.take k))) ∧ Below w.heap.size w wr) (fun _ i _ => ps.length - (intOf i).toNat)
      case atStart => exact ⟨0, by omega, rfl, O1.out, B1.out⟩
      case round =>
        obtain ⟨k, hk, rfl, hown, hb⟩ := hrel
        have O := Lib.hid hown
        have B := Lib.hid hb
        have hle := joined_le ps k
        clear hown hb O1 B1
        by_cases hlt : k < ps.length
        · obtain ⟨p, hpk⟩ : ∃ p, ps[k]? = some p := ⟨_, List.getElem?_eq_getElem hlt⟩
          have c0 := (B.out.cell (p := ⟨g, k, none⟩) hgl).trans (HC.out k p hpk)
          have hrow := (H.out.rows p (List.mem_of_getElem? hpk)).keeps (Keeps.new B.out) (fun _ _ h => h)
          obtain ⟨Ap, cp, hv, _⟩ := hrow.form
          rw [hv] at c0 hrow
          have HRow := Lib.hid hrow
          have hle2 := joined_le ps (k + 1)
          have hj := joined_snoc ps k p hpk
          have hi0 : (0 : Int) ≤ (k : Int) := by omega
          have hi1 : (k : Int) < (ps.length : Int) := by omega
          have HJ := Lib.hid hj
          have hJ2 : (joined (ps.take k)).length + p.2.length ≤ 140737488355328 := by have := congrArg List.length hj; rw [List.length_append] at this; omega
          obtain ⟨J, hJ⟩ : ∃ J, J = joined (ps.take k) := ⟨_, rfl⟩
          rw [← hJ] at O HJ hJ2
          have HJJ := Lib.hid hJ
          clear hv hpk hj hle2 hrow hJ hle
          go_wp2_with (at_builtin; refine stopHere ?_)
          unfold Hid
          obtain ⟨hi0', hz0, hz1, hz2⟩ := I.out
          refine wpList_append_row rfl (.tmp 31) (.tmp 32) _ rfl w.heap.size 5 i0 _ 1 1 Tryd.underlying23 hi0' hz0 hz1 hz2 rfl (by omega) u6 J.length (u8s J)
            rfl O.out F _ p.2.length (u8s p.2) rfl HRow.out (u8s_cells p.2) (by simp only [maxLen]; omega) (by omega) (by have := B.out.size; omega) ?_
          intro v3 w3 hown3 hg3 hat3
          have hown3' : w3.ownsRow w.heap.size 5 1 v3 (joined (ps.take (k + 1))).length (u8s (joined (ps.take (k + 1)))) := by
            rw [HJ.out, List.length_append, show u8s (J ++ p.2) = u8s J ++ u8s p.2 by simp]
            exact hown3
          have hb3 := Below.grown B.out hg3 B.out.size (fun q hq => (ownsRow_ge O.out q hq))
          have O3 := Lib.hid hown3'
          have B3 := Lib.hid hb3
          clear hown3 hown3' hg3 hat3 hb3 hi0' hz0 hz1 hz2 c0
          go_wp2
          go_roundw
          case rel => exact ⟨k + 1, by omega, by go_num, O3.out, B3.out⟩
          case measure => simp [intOf]; omega
        · have hk' : k = ps.length := by omega
          have hj : joined (ps.take k) = joined ps := by rw [hk', List.take_length]
          rw [hj] at O
          clear hj hk' hle
          go_wp2
          go_ret
          exact ⟨u6, rfl, O.out, B.out⟩
end Go.Proofs.YtaalbjbocbagcaaDoor
