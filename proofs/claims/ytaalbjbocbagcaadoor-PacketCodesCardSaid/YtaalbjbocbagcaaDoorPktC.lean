/- The document's comparing of packets; the statements' Small. -/
import Derived.Test.YtaalbjbocbagcaaDoorPktA
import Derived.Test.YtaalbjbocbagcaaDoorOptB
namespace Go.Proofs.YtaalbjbocbagcaaDoor
open Go.RowKit
set_option maxRecDepth 100000 in
set_option maxHeartbeats 4000000 in
/-- Of two packets with the same code, id and bytes. -/
theorem samepkt_any (F G : Nat → Prop) (v u : Value) (c i : Int) (l : List UInt8) (w : World) (hx : Row w F 1 v l.length (u8s l)) (hy : Row w G 1 u l.length (u8s l)) :
    Calls Tryd.prog 16 #[.agg #[.int .i64 c, .int .i64 i, v], .agg #[.int .i64 c, .int .i64 i, u]] w fun e w' => e = .returned (.bool true) ∧ Keeps nobody w w' := by
  obtain ⟨A, cA, rfl, hc⟩ := hx.form
  obtain ⟨B, cB, rfl, hd⟩ := hy.form
  have HX := Lib.hid hx
  have HY := Lib.hid hy
  clear hx hy
  obtain ⟨g, hg⟩ : ∃ g, g = w.heap.size := ⟨_, rfl⟩
  go_enter Tryd.func16, Tryd.ntmps16
  go_upto_region 1 with fail
  obtain ⟨w1, hw1⟩ : ∃ w1, w1 = (w.alloc (.cells #[.int .i64 c, .int .i64 i, .slice A l.length cA] 28)).alloc (.cells #[.int .i64 c, .int .i64 i, .slice B l.length cB] 28) := ⟨_, rfl⟩
  rw [← hw1, ← hg]
  have hb1 : Blk w1 g 28 #[.int .i64 c, .int .i64 i, .slice A l.length cA] := by rw [hw1, hg]; exact (Blk.new w _ _).alloc _
  have hb2 : Blk w1 (g + 1) 28 #[.int .i64 c, .int .i64 i, .slice B l.length cB] := by
    rw [hw1, hg]
    have := Blk.new (w.alloc (.cells #[.int .i64 c, .int .i64 i, .slice A l.length cA] 28)) 28 #[.int .i64 c, .int .i64 i, .slice B l.length cB]
    rw [World.size_alloc] at this
    exact this
  have hk : Keeps nobody w w1 := by rw [hw1]; exact ((Keeps.refl _ w).alloc _).alloc _
  have a0 : w1.cell? ⟨g, 0, none⟩ = some (.int .i64 c) := by rw [hb1.cell]; rfl
  have a1 : w1.cell? ⟨g, 1, none⟩ = some (.int .i64 i) := by rw [hb1.cell]; rfl
  have a2 : w1.cell? ⟨g, 2, none⟩ = some (.slice A l.length cA) := by rw [hb1.cell]; rfl
  have b0 : w1.cell? ⟨g + 1, 0, none⟩ = some (.int .i64 c) := by rw [hb2.cell]; rfl
  have b1 : w1.cell? ⟨g + 1, 1, none⟩ = some (.int .i64 i) := by rw [hb2.cell]; rfl
  have b2 : w1.cell? ⟨g + 1, 2, none⟩ = some (.slice B l.length cB) := by rw [hb2.cell]; rfl
  have hsm := same_any F G _ _ l l w1 (HX.out.keeps hk (fun _ _ h => h)) (HY.out.keeps hk (fun _ _ h => h))
  rw [decide_eq_true (rfl : l = l)] at hsm
  have HS := Lib.hid hsm
  have HK := Lib.hid hk
  have d0 : (c == c) = true := beq_self_eq_true c
  have d1 : (i == i) = true := beq_self_eq_true i
  clear hw1 hb1 hb2 hk hg hsm
  go_wp2_with fail
  refine HS.out.mono ?_
  rintro e w2 ⟨rfl, hk2⟩
  have HK2 := Lib.hid (HK.out.trans hk2)
  clear hk2 HS
  go_wp2
  go_ret
  exact ⟨rfl, HK2.out⟩
/-- Are options few and small? -/
def smallOpts (l : List Pure.Opt) : Prop := l.length ≤ 60 ∧ ∀ o ∈ l, o.2.length ≤ 300
instance (l : List Pure.Opt) : Decidable (smallOpts l) := by unfold smallOpts; infer_instance
set_option maxRecDepth 100000 in
set_option maxHeartbeats 2000000 in
theorem small_any (F : Nat → Prop) (x : Value) (ps : List (Value × Pure.Opt)) (w : World) (hx : ORow w F x ps) :
    Calls Tryd.prog 17 #[x] w fun e w' => e = .returned (.bool (decide (smallOpts (optsOf ps)))) ∧ w' = w := by
  obtain ⟨A, cA, rfl, hc⟩ := hx.form
  have hm := hx.out.2.1
  unfold maxLen at hm
  have HX := Lib.hid hx
  have hlen : (optsOf ps).length = ps.length := by simp
  clear hx
  go_enter Tryd.func17, Tryd.ntmps17
  by_cases h60 : 60 < ps.length
  · have HO := Lib.hid (show decide (smallOpts (optsOf ps)) = false from decide_eq_false (fun h => by have := h.1; omega))
    have d0 : decide ((60 : Int) < (ps.length : Int)) = true := decide_eq_true (by omega)
    clear hlen
    go_wp2
    go_ret
    exact ⟨by rw [HO.out]; rfl, rfl⟩
  · have d0 : decide ((60 : Int) < (ps.length : Int)) = false := decide_eq_false (by omega)
    have HLen := Lib.hid hlen
    clear hlen
    go_wp2_with fail
    go_loopw [3] (fun i wr => ∃ k : Nat, k ≤ ps.length ∧ i = .int .i64 (k : Int) ∧ (∀ o ∈ (optsOf ps).take k, o.2.length ≤ 300) ∧ wr = w) (fun i _ => ps.length - (intOf i).toNat)
    case atStart => exact ⟨0, by omega, rfl, by simp, rfl⟩
    case round =>
      obtain ⟨k, hk, rfl, hE, rfl⟩ := hrel
      have HE := Lib.hid hE
      clear hE
      by_cases hkl : k < ps.length
      · have i0 : (0 : Int) ≤ (k : Int) := by omega
        have i1 : (k : Int) < (ps.length : Int) := by omega
        obtain ⟨p, o, A1, c1, s, la, rfl, hFp, x0, x1, hra, hpa⟩ := HX.out.pick k hkl
        have hps : (optsOf ps)[k]? = some (s, la) := by rw [List.getElem?_map, hpa]; rfl
        have HPS := Lib.hid hps
        clear hra hpa hps
        by_cases hla : 300 < la.length
        · have HO := Lib.hid (show decide (smallOpts (optsOf ps)) = false from decide_eq_false (fun h => by have := h.2 _ (List.mem_of_getElem? HPS.out); dsimp only at this; omega))
          have d1 : decide ((300 : Int) < (la.length : Int)) = true := decide_eq_true (by omega)
          clear HPS
          go_wp2
          go_ret
          exact ⟨by rw [HO.out]; rfl, rfl⟩
        · have d1 : decide ((300 : Int) < (la.length : Int)) = false := decide_eq_false (by omega)
          have HE' := Lib.hid (show ∀ q ∈ (optsOf ps).take (k + 1), q.2.length ≤ 300 by
            intro q hq
            have hk2 := (List.getElem?_eq_some_iff.1 HPS.out).1
            rw [List.take_succ_eq_append_getElem hk2] at hq
            rcases List.mem_append.1 hq with h | h
            · exact HE.out q h
            · simp only [List.mem_singleton] at h
              have := HPS.out
              rw [List.getElem?_eq_getElem hk2] at this
              injection this with this
              rw [h, this]; dsimp only; omega)
          clear HPS HE
          go_wp2_with fail
          go_roundw
          case rel => exact ⟨k + 1, by omega, by go_num, HE'.out, trivial⟩
          case measure => simp [intOf]; omega
      · have hkk : k = ps.length := by omega
        have HO := Lib.hid (show decide (smallOpts (optsOf ps)) = true from decide_eq_true ⟨by rw [HLen.out]; omega, by
          have h := HE.out
          rwa [List.take_of_length_le (by rw [HLen.out]; omega)] at h⟩)
        subst hkk
        clear hkl hk HE
        go_wp2
        go_ret
        exact ⟨by rw [HO.out]; rfl, rfl⟩
end Go.Proofs.YtaalbjbocbagcaaDoor
