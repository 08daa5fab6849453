/- The statements' May. -/
import Derived.Test.YteajofcdiankiaaQ19
import Derived.Test.YteajofcdiankiaaQ43
import Derived.Test.YteajofcdiankiaaQ17
import Derived.Test.YteajofcdiankiaaQ5
namespace Go.Proofs.Yteajofcdiankiaa
open Go.RowKit
/-- What the statements ask of rules. -/
structure MayRules (us : List (Value × Pure.Rule)) : Prop where
  len : us.length ≤ 30
  each : ∀ p ∈ us, p.2.May
/-- What May answers. -/
def MayAns (us : List (Value × Pure.Rule)) (w : World) (e : Ending) (w' : World) : Prop := ∃ B : Bool, e = .returned (.bool B) ∧ (B = true → MayRules us) ∧ Keeps nobody w w'
theorem MayRules.few {us : List (Value × Pure.Rule)} (h : MayRules us) : FewRules us := by
  refine ⟨by have := h.len; omega, fun p hp => ⟨fun h1 h2 => ?_, by have := (h.each p hp).want; omega⟩⟩
  obtain ⟨a, b, c⟩ := (h.each p hp).nums h1 h2
  refine ⟨a, b, Int.lt_of_lt_of_le c ?_⟩
  have h3 : p.2.len = 1 ∨ p.2.len = 2 ∨ p.2.len = 3 ∨ p.2.len = 4 := by omega
  rcases h3 with e | e | e | e <;> rw [e] <;> decide
set_option maxRecDepth 100000 in
set_option maxHeartbeats 8000000 in
theorem may_any (F : Nat → Prop) (x : Value) (us : List (Value × Pure.Rule)) (w : World) (hx : RRow w F x us) :
    Calls Try.prog 10 #[x] w fun e w' => MayAns us w e w' := by
  obtain ⟨U, cu, rfl, _⟩ := hx.form
  have hm := hx.out.2.1
  unfold maxLen at hm
  have HU := Lib.hid hx
  clear hx
  go_enter Try.func10, Try.ntmps10
  by_cases hl : 30 < us.length
  · have l1 : decide ((30 : Int) < (us.length : Int)) = true := decide_eq_true (by omega)
    have l2 : decide (30 < us.length) = true := decide_eq_true hl
    go_wp2_with fail
    go_ret
    exact ⟨_, rfl, (fun h => by cases h), Keeps.refl _ _⟩
  have l1 : decide ((30 : Int) < (us.length : Int)) = false := decide_eq_false (by omega)
  have l2 : decide (30 < us.length) = false := decide_eq_false hl
  go_wp2_with fail
  go_loopw [3] (fun i wr => ∃ k : Nat, k ≤ us.length ∧ i = .int .i64 (k : Int) ∧ (∀ p ∈ us.take k, p.2.May) ∧ Keeps nobody w wr) (fun i _ => us.length - (intOf i).toNat)
  case atStart => exact ⟨0, by omega, rfl, by simp, Keeps.refl _ _⟩
  case round =>
    obtain ⟨k, hk, rfl, hall, hkw⟩ := hrel
    have HALL := Lib.hid hall
    have HKW := Lib.hid hkw
    clear hall hkw
    by_cases hkl : k < us.length
    · have i0' : (0 : Int) ≤ (k : Int) := by omega
      have i1 : (k : Int) < (us.length : Int) := by omega
      have e1 : decide ((k : Int) < (us.length : Int)) = true := decide_eq_true (by omega)
      have e2 : decide (k < us.length) = true := decide_eq_true hkl
      obtain ⟨bu, ou, pA, pc, pr, rfl, hFb, hcell, hwant, hpa⟩ := (HU.out.keeps HKW.out (fun _ _ h => h)).pick k hkl
      have HPA := Lib.hid hpa
      have x0 : wr.cell? ⟨bu, ou + k * 7, none⟩ = some (.int .i64 pr.type) := hcell 0 _ rfl
      have x1 := hcell 1 _ rfl
      have x2 := hcell 2 _ rfl
      have x3 := hcell 3 _ rfl
      have x4 := hcell 4 _ rfl
      have x5 := hcell 5 _ rfl
      have x6 := hcell 6 _ rfl
      have hwl : pr.want.length ≤ maxLen := hwant.2.1
      unfold maxLen at hwl
      clear hcell hwant hpa
      go_upto_region 7 with fail
      obtain ⟨gq, hgq⟩ : ∃ g, g = wr.heap.size := ⟨_, rfl⟩
      rw [← hgq]
      obtain ⟨w2, hw2⟩ : ∃ w2, w2 = wr.alloc (.cells (ruleCells (.slice pA pr.want.length pc, pr)).toArray 53) := ⟨_, rfl⟩
      rw [show wr.alloc (.cells #[.int .i64 pr.type, .int .i64 pr.len, .int .i64 pr.how, .int .i64 pr.lo, .int .i64 pr.hi, .slice pA pr.want.length pc, .bool pr.need] 53) = w2 from hw2.symm]
      have hb2 : Blk w2 gq 53 (ruleCells (.slice pA pr.want.length pc, pr)).toArray := by rw [hw2, hgq]; exact Blk.new wr _ _
      have HC2 := Lib.hid (fun j u (h : (ruleCells (.slice pA pr.want.length pc, pr))[j]? = some u) => show w2.cell? ⟨gq, j, none⟩ = some u by rw [hb2.cell, List.getElem?_toArray]; exact h)
      have HK2 := Lib.hid (show Keeps nobody w w2 by rw [hw2]; exact HKW.out.alloc _)
      clear hw2 hgq hb2 x0 x1 x2 x3 x4 x5 x6
      go_cut [31] (fun s wx => (∃ B : Bool, s = .bool B ∧ (B = false → pr.want.length ≤ 253 ∧ 0 ≤ pr.type ∧ pr.type ≤ 255)) ∧ Keeps nobody w2 wx)
      case first =>
        have c0 := HC2.out 0 _ rfl
        have c5 := HC2.out 5 _ rfl
        by_cases a1 : 253 < pr.want.length
        · have b1 : decide ((253 : Int) < (pr.want.length : Int)) = true := decide_eq_true (by omega)
          have b2 : decide (253 < pr.want.length) = true := decide_eq_true a1
          go_wp2_with fail
          go_meet
          exact ⟨⟨_, rfl, fun h => by cases h⟩, Keeps.refl _ _⟩
        · have b1 : decide ((253 : Int) < (pr.want.length : Int)) = false := decide_eq_false (by omega)
          have b2 : decide (253 < pr.want.length) = false := decide_eq_false a1
          by_cases a2 : pr.type < 0
          · have b3 : decide (pr.type < 0) = true := decide_eq_true a2
            go_wp2_with fail
            go_meet
            exact ⟨⟨_, rfl, fun h => by cases h⟩, Keeps.refl _ _⟩
          · have b3 : decide (pr.type < 0) = false := decide_eq_false a2
            obtain ⟨B, hB⟩ : ∃ B, B = decide (255 < pr.type) := ⟨_, rfl⟩
            have HB := Lib.hid hB
            have b4 : decide (255 < pr.type) = B := hB.symm
            clear hB
            go_wp2_with fail
            go_meet
            exact ⟨⟨_, rfl, fun h => ⟨by omega, by omega, by have h2 := HB.out; rw [h] at h2; have := of_decide_eq_false h2.symm; omega⟩⟩, Keeps.refl _ _⟩
      case rest =>
        obtain ⟨⟨B, hs, hB⟩, hkc⟩ := hcut
        obtain ⟨wx, hwx, hkc⟩ : ∃ wx, wx = _ ∧ Keeps nobody w2 wx := ⟨_, rfl, hkc⟩
        subst hwx hs
        have HB := Lib.hid hB
        have HKX := Lib.hid (HK2.out.trans hkc)
        have HC := Lib.hid (fun j u (h : (ruleCells (.slice pA pr.want.length pc, pr))[j]? = some u) => opt_quiet (HC2.out j u h) hkc)
        clear hB hkc HC2 HK2
        cases B
        · have HB := Lib.hid (HB.out rfl)
          go_upto_region 9 with fail
          go_cut [61] (fun s wy => (∃ B : Bool, s = .bool B ∧ (B = false → 1 ≤ pr.len → pr.len ≤ 4 → 0 ≤ pr.lo ∧ pr.lo ≤ pr.hi ∧ pr.hi < (256 : Int) ^ pr.len.toNat)) ∧ Keeps nobody wx wy)
          case first =>
            have c1 : wx.cell? ⟨gq, 1, none⟩ = some (.int .i64 pr.len) := HC.out 1 _ rfl
            have c3 : wx.cell? ⟨gq, 3, none⟩ = some (.int .i64 pr.lo) := HC.out 3 _ rfl
            have c4 : wx.cell? ⟨gq, 4, none⟩ = some (.int .i64 pr.hi) := HC.out 4 _ rfl
            obtain ⟨L, hL⟩ : ∃ L, L = pr.len := ⟨_, rfl⟩
            obtain ⟨lo, hlo⟩ : ∃ L, L = pr.lo := ⟨_, rfl⟩
            obtain ⟨hi, hhi⟩ : ∃ L, L = pr.hi := ⟨_, rfl⟩
            rw [← hL] at c1
            rw [← hlo] at c3
            rw [← hhi] at c4
            have HL := Lib.hid (And.intro hL (And.intro hlo hhi))
            clear hL hlo hhi HC HB
            by_cases a1 : 1 ≤ L
            · have b1 : decide (1 ≤ L) = true := decide_eq_true a1
              by_cases a2 : L ≤ 4
              · have b2 : decide (L ≤ 4) = true := decide_eq_true a2
                by_cases a3 : lo < 0
                · have b3 : decide (lo < 0) = true := decide_eq_true a3
                  go_wp2_with fail
                  go_meet
                  rw [← HL.out.1, ← HL.out.2.1, ← HL.out.2.2]
                  exact ⟨⟨_, rfl, fun h => by cases h⟩, Keeps.refl _ _⟩
                · have b3 : decide (lo < 0) = false := decide_eq_false a3
                  by_cases a4 : hi < lo
                  · have b4 : decide (hi < lo) = true := decide_eq_true a4
                    go_wp2_with fail
                    go_meet
                    rw [← HL.out.1, ← HL.out.2.1, ← HL.out.2.2]
                    exact ⟨⟨_, rfl, fun h => by cases h⟩, Keeps.refl _ _⟩
                  · have b4 : decide (hi < lo) = false := decide_eq_false a4
                    have h3 : L = 1 ∨ L = 2 ∨ L = 3 ∨ L = 4 := by omega
                    rcases h3 with rfl | rfl | rfl | rfl
                    · obtain ⟨B, hB⟩ : ∃ B, B = decide (256 ≤ hi) := ⟨_, rfl⟩
                      have HB := Lib.hid hB
                      have b5 : decide (256 ≤ hi) = B := hB.symm
                      clear hB
                      go_wp2_with fail
                      go_meet
                      rw [← HL.out.1, ← HL.out.2.1, ← HL.out.2.2]
                      exact ⟨⟨_, rfl, fun h _ _ => ⟨by omega, by omega, Int.lt_of_not_ge (of_decide_eq_false (b5.trans h))⟩⟩, Keeps.refl _ _⟩
                    · obtain ⟨B, hB⟩ : ∃ B, B = decide (65536 ≤ hi) := ⟨_, rfl⟩
                      have HB := Lib.hid hB
                      have b5 : decide (65536 ≤ hi) = B := hB.symm
                      clear hB
                      go_wp2_with fail
                      go_meet
                      rw [← HL.out.1, ← HL.out.2.1, ← HL.out.2.2]
                      exact ⟨⟨_, rfl, fun h _ _ => ⟨by omega, by omega, Int.lt_of_not_ge (of_decide_eq_false (b5.trans h))⟩⟩, Keeps.refl _ _⟩
                    · obtain ⟨B, hB⟩ : ∃ B, B = decide (16777216 ≤ hi) := ⟨_, rfl⟩
                      have HB := Lib.hid hB
                      have b5 : decide (16777216 ≤ hi) = B := hB.symm
                      clear hB
                      go_wp2_with fail
                      go_meet
                      rw [← HL.out.1, ← HL.out.2.1, ← HL.out.2.2]
                      exact ⟨⟨_, rfl, fun h _ _ => ⟨by omega, by omega, Int.lt_of_not_ge (of_decide_eq_false (b5.trans h))⟩⟩, Keeps.refl _ _⟩
                    · obtain ⟨B, hB⟩ : ∃ B, B = decide (4294967296 ≤ hi) := ⟨_, rfl⟩
                      have HB := Lib.hid hB
                      have b5 : decide (4294967296 ≤ hi) = B := hB.symm
                      clear hB
                      go_wp2_with fail
                      go_meet
                      rw [← HL.out.1, ← HL.out.2.1, ← HL.out.2.2]
                      exact ⟨⟨_, rfl, fun h _ _ => ⟨by omega, by omega, Int.lt_of_not_ge (of_decide_eq_false (b5.trans h))⟩⟩, Keeps.refl _ _⟩
              · have b2 : decide (L ≤ 4) = false := decide_eq_false a2
                go_wp2_with fail
                go_meet
                rw [← HL.out.1, ← HL.out.2.1, ← HL.out.2.2]
                exact ⟨⟨_, rfl, fun _ _ h => by omega⟩, Keeps.refl _ _⟩
            · have b1 : decide (1 ≤ L) = false := decide_eq_false a1
              go_wp2_with fail
              go_meet
              rw [← HL.out.1, ← HL.out.2.1, ← HL.out.2.2]
              exact ⟨⟨_, rfl, fun _ h => by omega⟩, Keeps.refl _ _⟩
          case rest =>
            obtain ⟨⟨B, hs, hB⟩, hkc⟩ := hcut
            subst hs
            have HB2 := Lib.hid hB
            have HKY := Lib.hid (HKX.out.trans hkc)
            clear hB hkc HC
            cases B
            · have HM := Lib.hid (show ∀ p ∈ us.take (k + 1), p.2.May from by
                intro p hp
                rw [List.take_add_one, HPA.out] at hp
                rcases List.mem_append.1 hp with hp | hp
                · exact HALL.out p hp
                · simp at hp
                  subst hp
                  exact ⟨HB.out.2.1, HB.out.2.2, HB.out.1, HB2.out rfl⟩)
              clear HB HB2
              go_wp2_with fail
              go_roundw
              case rel => exact ⟨k + 1, by omega, by go_num, HM.out, HKY.out⟩
              case measure => simp [intOf] <;> omega
            · go_wp2_with fail
              go_ret
              exact ⟨_, rfl, (fun h => by cases h), HKY.out⟩
        · go_wp2_with fail
          go_ret
          exact ⟨_, rfl, (fun h => by cases h), HKX.out⟩
    · have hkk : k = us.length := by omega
      subst hkk
      have e1 : decide ((us.length : Int) < (us.length : Int)) = false := decide_eq_false (by omega)
      have e2 : decide (us.length < us.length) = false := decide_eq_false (by omega)
      go_wp2_with fail
      go_ret
      exact ⟨_, rfl, fun _ => ⟨by omega, by have h := HALL.out; rwa [List.take_length] at h⟩, HKW.out⟩
end Go.Proofs.Yteajofcdiankiaa
/- The document's comparing of packets; the statements' Small. -/
namespace Go.Proofs.Yteajofcdiankiaa
open Go.RowKit
/-- Are options few and small? -/
def smallOpts (l : List Pure.Opt) : Prop := l.length ≤ 60 ∧ ∀ o ∈ l, o.2.length ≤ 300
instance (l : List Pure.Opt) : Decidable (smallOpts l) := by unfold smallOpts; infer_instance
set_option maxRecDepth 100000 in
set_option maxHeartbeats 2000000 in
theorem small_any (F : Nat → Prop) (x : Value) (ps : List (Value × Pure.Opt)) (w : World) (hx : ORow w F x ps) :
    Calls Try.prog 11 #[x] w fun e w' => e = .returned (.bool (decide (smallOpts (optsOf ps)))) ∧ w' = w := by
  obtain ⟨A, cA, rfl, hc⟩ := hx.form
  have hm := hx.out.2.1
  unfold maxLen at hm
  have HX := Lib.hid hx
  have hlen : (optsOf ps).length = ps.length := by simp
  clear hx
  go_enter Try.func11, Try.ntmps11
  by_cases h60 : 60 < ps.length
  · have HO := Lib.hid (show decide (smallOpts (optsOf ps)) = false from decide_eq_false (fun h => by have := h.1; omega))
    have d0 : decide ((60 : Int) < (ps.length : Int)) = true := decide_eq_true (by omega)
    clear hlen
    go_wp2
    go_ret
    exact ⟨by rw [HO.out]; rfl, rfl⟩
  · have d0 : decide ((60 : Int) < (ps.length : Int)) = false := decide_eq_false (by omega)
    have HLen := Lib.hid hlen
    clear hlen
    go_wp2_with fail
    go_loopw [3] (fun i wr => ∃ k : Nat, k ≤ ps.length ∧ i = .int .i64 (k : Int) ∧ (∀ o ∈ (optsOf ps).take k, o.2.length ≤ 300) ∧ wr = w) (fun i _ => ps.length - (intOf i).toNat)
    case atStart => exact ⟨0, by omega, rfl, by simp, rfl⟩
    case round =>
      obtain ⟨k, hk, rfl, hE, rfl⟩ := hrel
      have HE := Lib.hid hE
      clear hE
      by_cases hkl : k < ps.length
      · have i0 : (0 : Int) ≤ (k : Int) := by omega
        have i1 : (k : Int) < (ps.length : Int) := by omega
        obtain ⟨p, o, A1, c1, s, la, rfl, hFp, x0, x1, hra, hpa⟩ := HX.out.pick k hkl
        have hps : (optsOf ps)[k]? = some (s, la) := by rw [List.getElem?_map, hpa]; rfl
        have HPS := Lib.hid hps
        clear hra hpa hps
        by_cases hla : 300 < la.length
        · have HO := Lib.hid (show decide (smallOpts (optsOf ps)) = false from decide_eq_false (fun h => by have := h.2 _ (List.mem_of_getElem? HPS.out); dsimp only at this; omega))
          have d1 : decide ((300 : Int) < (la.length : Int)) = true := decide_eq_true (by omega)
          clear HPS
          go_wp2
          go_ret
          exact ⟨by rw [HO.out]; rfl, rfl⟩
        · have d1 : decide ((300 : Int) < (la.length : Int)) = false := decide_eq_false (by omega)
          have HE' := Lib.hid (show ∀ q ∈ (optsOf ps).take (k + 1), q.2.length ≤ 300 by
            intro q hq
            have hk2 := (List.getElem?_eq_some_iff.1 HPS.out).1
            rw [List.take_succ_eq_append_getElem hk2] at hq
            rcases List.mem_append.1 hq with h | h
            · exact HE.out q h
            · simp only [List.mem_singleton] at h
              have := HPS.out
              rw [List.getElem?_eq_getElem hk2] at this
              injection this with this
              rw [h, this]; dsimp only; omega)
          clear HPS HE
          go_wp2_with fail
          go_roundw
          case rel => exact ⟨k + 1, by omega, by go_num, HE'.out, trivial⟩
          case measure => simp [intOf]; omega
      · have hkk : k = ps.length := by omega
        have HO := Lib.hid (show decide (smallOpts (optsOf ps)) = true from decide_eq_true ⟨by rw [HLen.out]; omega, by
          have h := HE.out
          rwa [List.take_of_length_le (by rw [HLen.out]; omega)] at h⟩)
        subst hkk
        clear hkl hk HE
        go_wp2
        go_ret
        exact ⟨by rw [HO.out]; rfl, rfl⟩
end Go.Proofs.Yteajofcdiankiaa
