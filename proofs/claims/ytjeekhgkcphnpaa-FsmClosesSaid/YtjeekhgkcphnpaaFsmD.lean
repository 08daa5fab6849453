/- The document's machine of the automaton. -/
import Derived.Test.YtjeekhgkcphnpaaFsmC
namespace Go.Proofs.Ytjeekhgkcphnpaa
open Go.RowKit
def machCells (m : Pure.Mach) : Array Value := #[.int .i64 (m.state : Nat), .int .i64 (m.count : Nat), .int .i64 (m.left : Nat), .int .i64 (m.tries : Nat), .int .i64 (m.timeout : Nat)]
/-- The document's machine in block g. -/
def DMach (w : World) (g : Nat) (m : Pure.Mach) : Prop := Blk w g 39 (machCells m)
theorem DMach.keeps {S : Nat → Prop} {w w' : World} {g : Nat} {m : Pure.Mach} (h : DMach w g m) (k : Keeps S w w') (hs : ¬ S g) : DMach w' g m := Blk.keeps h k hs
theorem act_other (m : Pure.Mach) (a : Nat) (h4 : a ≠ 4) (h5 : a ≠ 5) (h6 : a ≠ 6) (h9 : a ≠ 9) : m.act a = m := by
  unfold Pure.Mach.act
  rw [if_neg h4, if_neg h5, if_neg (by omega)]
theorem Row.ints_at {w : World} {F : Nat → Prop} {A : Option Addr} {c : Nat} {l : List Nat} (h : Row w F 1 (.slice A l.length c) l.length (ints l)) (k : Nat) (hk : k < l.length) :
    ∃ b off, A = some ⟨b, off, none⟩ ∧ F b ∧ w.cell? ⟨b, off + k, none⟩ = some (.int .i64 ((l.getD k 0 : Nat) : Int)) := by
  obtain ⟨b, off, e, hF, hc⟩ := h.cellAt (by omega)
  exact ⟨b, off, e, hF, hc k _ (Go.Proofs.Ytjeekhgkcphnpaa.ints_at l k hk)⟩
set_option maxRecDepth 100000 in
set_option maxHeartbeats 4000000 in
theorem docmstep_any (g e : Nat) (m : Pure.Mach) (w : World) (hm : DMach w g m) (hs : m.state < 10) (he : e < 16) (hc : m.count ≤ m.tries) (ht : m.tries ≤ 1000) :
    Calls Try.prog 37 #[.pointer (some ⟨g, 0, none⟩), .int .i64 e] w fun r w' => ∃ u, r = .returned u ∧ w'.ownsRow w.heap.size 3 1 u (m.step e).1.length (ints (m.step e).1) ∧ DMach w' g (m.step e).2 ∧ Keeps (only g) w w' := by
  have hgl : g < w.heap.size := hm.lt
  have HS := Lib.hid (docstep_in m.state e w hs he)
  obtain ⟨l, hl⟩ : ∃ l, l = (Pure.fsmAt m.state e).1 := ⟨_, rfl⟩
  obtain ⟨n, hn⟩ : ∃ n, n = (Pure.fsmAt m.state e).2 := ⟨_, rfl⟩
  have HST := Lib.hid (show m.step e = (l, ((l.foldl Pure.Mach.act { m with state := n }).rest)) by rw [hl, hn]; rfl)
  rw [← hl, ← hn] at HS
  have hn9 : n ≤ 9 := by rw [hn]; exact (Pure.fsmAt_le m.state hs e he).1
  have HM := Lib.hid hm
  have c0 : w.cell? ⟨g, 0, none⟩ = some (.int .i64 (m.state : Nat)) := by rw [Blk.cell hm]; rfl
  clear hl hn hm hs he
  go_enter Try.func37, Try.ntmps37
  go_wp2_with fail
  refine HS.out.mono ?_
  rintro r w2 ⟨u, rfl, hu, hb⟩
  obtain ⟨A, c, rfl⟩ := own_form hu
  have hk2 := Keeps.new hb
  have hm2 := HM.out.keeps hk2 (fun h => h)
  have f0 := Blk.frozen hm2 0
  have d0 : w2.cell? ⟨g, 0, none⟩ = some (.int .i64 (m.state : Nat)) := by rw [Blk.cell hm2]; rfl
  have HU := Lib.hid hu
  have HK2 := Lib.hid hk2
  have HM2 := Lib.hid (show DMach (w2.setCell ⟨g, 0, none⟩ (.int .i64 (n : Nat))) g { m with state := n } from Blk.set hm2 0 _)
  clear hu hb hk2 hm2 HS HM c0
  go_upto_region 4 with fail
  generalize hw3 : w2.setCell _ _ = w3 at HM2 ⊢
  have hk3 : Keeps (only g) w2 w3 := by rw [← hw3]; exact (Keeps.refl (only g) w2).store g 0 (fun _ => rfl) _
  have hug : ∀ b, (Value.slice A l.length c).ownBlock = some b → ¬ only g b := fun b hb h => by have h1 := ownsRow_ge HU.out b hb; have h2 : b = g := h; omega
  have HU3 := Lib.hid (ownsRow_keeps HU.out hk3 (fun b hb => hug b hb))
  have HK3 := Lib.hid ((HK2.out.mono (T := only g) (fun i h => h.elim)).trans hk3)
  have HUG := Lib.hid hug
  clear hw3 hk3 HU HK2 f0 d0 hug
  obtain ⟨M0, hM0⟩ : ∃ M0 : Pure.Mach, M0 = { m with state := n } := ⟨_, rfl⟩
  rw [← hM0] at HM2 HST
  have HM0 := Lib.hid (show M0.state = n ∧ M0.count ≤ M0.tries ∧ M0.tries ≤ 1000 by rw [hM0]; exact ⟨rfl, hc, ht⟩)
  clear hc ht
  clear hM0
  go_loopw [7] (fun i wr => ∃ k : Nat, k ≤ l.length ∧ i = .int .i64 (k : Int) ∧ DMach wr g ((l.take k).foldl Pure.Mach.act M0) ∧ Keeps (only g) w3 wr) (fun i _ => l.length - (intOf i).toNat)
  case atStart => exact ⟨0, by omega, rfl, HM2.out, Keeps.refl _ _⟩
  case round =>
    obtain ⟨k, hk, rfl, hM, hK⟩ := hrel
    obtain ⟨M, hMd⟩ : ∃ M, M = (l.take k).foldl Pure.Mach.act M0 := ⟨_, rfl⟩
    rw [← hMd] at hM
    have HMd := Lib.hid hMd
    have HMW := Lib.hid hM
    have HKW := Lib.hid hK
    have hml : l.length ≤ maxLen := (Row.of_own HU3.out).2.1
    unfold maxLen at hml
    by_cases hkl : k < l.length
    · have d0 : decide ((k : Int) < (l.length : Int)) = true := decide_eq_true (by omega)
      have d1 : decide (k < l.length) = true := decide_eq_true hkl
      have k0 : (0 : Int) ≤ (k : Int) := by omega
      have k1 : (k : Int) < (l.length : Int) := by omega
      obtain ⟨b, off, rfl, hFb, hcell⟩ := (Row.of_own (ownsRow_keeps HU3.out hK (fun b hb => HUG.out b hb))).ints_at k hkl
      obtain ⟨a, ha⟩ : ∃ a, a = l.getD k 0 := ⟨_, rfl⟩
      rw [← ha] at hcell
      have HTk := Lib.hid (show (l.take (k + 1)).foldl Pure.Mach.act M0 = M.act a by rw [take_snoc l 0 k hkl, List.foldl_append, ← hMd, ← ha]; rfl)
      have hg1 : wr.cell? ⟨g, 1, none⟩ = some (.int .i64 (M.count : Nat)) := by rw [Blk.cell hM]; rfl
      have hg2 : wr.cell? ⟨g, 2, none⟩ = some (.int .i64 (M.left : Nat)) := by rw [Blk.cell hM]; rfl
      have hg3 : wr.cell? ⟨g, 3, none⟩ = some (.int .i64 (M.tries : Nat)) := by rw [Blk.cell hM]; rfl
      have hg4 : wr.cell? ⟨g, 4, none⟩ = some (.int .i64 (M.timeout : Nat)) := by rw [Blk.cell hM]; rfl
      have y1 := Blk.frozen hM 1
      have y2 := Blk.frozen hM 2
      clear hM hK hMd ha
      by_cases h4 : a = 4
      · subst h4
        have HM' := Lib.hid (show DMach (wr.setCell ⟨g, 1, none⟩ (.int .i64 (M.tries : Nat))) g (M.act 4) from Blk.set HMW.out 1 _)
        have HK' := Lib.hid (HKW.out.store g 1 (fun _ => rfl) (.int .i64 (M.tries : Nat)))
        go_wp2_with fail
        go_roundw
        case rel => exact ⟨k + 1, by omega, by go_num, by rw [HTk.out]; exact HM'.out, HK'.out⟩
        case measure => simp [intOf]; omega
      · have a4 : ((a : Int) == 4) = false := by rw [beq_eq_false_iff_ne]; omega
        by_cases h5 : a = 5
        · subst h5
          have hB1 := Blk.set HMW.out 1 (.int .i64 0)
          have HM' := Lib.hid (show DMach ((wr.setCell ⟨g, 1, none⟩ (.int .i64 0)).setCell ⟨g, 2, none⟩ (.int .i64 (M.timeout : Nat))) g (M.act 5) from Blk.set hB1 2 _)
          have HK' := Lib.hid ((HKW.out.store g 1 (fun _ => rfl) (.int .i64 0)).store g 2 (fun _ => rfl) (.int .i64 (M.timeout : Nat)))
          clear hB1 a4
          go_wp2_with fail
          go_roundw
          case rel => exact ⟨k + 1, by omega, by go_num, by rw [HTk.out]; exact HM'.out, HK'.out⟩
          case measure => simp [intOf]; omega
        · have a5 : ((a : Int) == 5) = false := by rw [beq_eq_false_iff_ne]; omega
          by_cases h6 : a = 6 ∨ a = 9
          · have HACT := Lib.hid (show M.act a = { M with count := M.count - 1, left := M.timeout } by rcases h6 with rfl | rfl <;> rfl)
            have hB1 := Blk.set HMW.out 1 (.int .i64 ((M.count - 1 : Nat) : Int))
            have HM' := Lib.hid (show DMach ((wr.setCell ⟨g, 1, none⟩ (.int .i64 ((M.count - 1 : Nat) : Int))).setCell ⟨g, 2, none⟩ (.int .i64 (M.timeout : Nat))) g (M.act a) by rw [HACT.out]; exact Blk.set hB1 2 _)
            have HK' := Lib.hid ((HKW.out.store g 1 (fun _ => rfl) (.int .i64 ((M.count - 1 : Nat) : Int))).store g 2 (fun _ => rfl) (.int .i64 (M.timeout : Nat)))
            have HCN := Lib.hid (show M.count ≤ 1000 by
              obtain ⟨_, k2, _, k4, _⟩ := Pure.act_keeps (l.take k) M0
              have h1 := k4 HM0.out.2.1
              rw [← HMd.out] at h1
              have := HM0.out.2.2
              omega)
            by_cases hc0 : M.count = 0
            · rw [hc0] at hg1 HM' HK'
              have hg1 : wr.cell? ⟨g, 1, none⟩ = some (.int .i64 0) := hg1
              clear hB1 hc0
              rcases h6 with rfl | rfl
              · go_wp2_with fail
                go_roundw
                case rel => exact ⟨k + 1, by omega, by go_num, by rw [HTk.out]; exact HM'.out, HK'.out⟩
                case measure => simp [intOf]; omega
              · go_wp2_with fail
                go_roundw
                case rel => exact ⟨k + 1, by omega, by go_num, by rw [HTk.out]; exact HM'.out, HK'.out⟩
                case measure => simp [intOf]; omega
            · obtain ⟨z, hz⟩ : ∃ z, M.count = z + 1 := ⟨M.count - 1, by omega⟩
              have hz1 : M.count - 1 = z := by omega
              rw [hz1] at HM' HK'
              rw [hz] at hg1
              have zl : z < 1000 := by have := HCN.out; omega
              have hzz : ((z + 1 : Nat) : Int) - 1 = (z : Int) := by omega
              have zw : wrap64 (z : Int) = (z : Int) := IntWalk.wrap64_in _ (by omega)
              have zn : ¬ ((z : Int) < 0) := by omega
              clear hB1 hc0 hz hz1
              rcases h6 with rfl | rfl
              · go_wp2_with fail
                go_roundw
                case rel => exact ⟨k + 1, by omega, by go_num, by rw [HTk.out]; exact HM'.out, HK'.out⟩
                case measure => simp [intOf]; omega
              · go_wp2_with fail
                go_roundw
                case rel => exact ⟨k + 1, by omega, by go_num, by rw [HTk.out]; exact HM'.out, HK'.out⟩
                case measure => simp [intOf]; omega
          · have HACT := Lib.hid (act_other M a h4 h5 (fun h => h6 (.inl h)) (fun h => h6 (.inr h)))
            have a6 : ((a : Int) == 6) = false := by rw [beq_eq_false_iff_ne]; omega
            have a9 : ((a : Int) == 9) = false := by rw [beq_eq_false_iff_ne]; omega
            go_wp2_with fail
            go_roundw
            case rel => exact ⟨k + 1, by omega, by go_num, by rw [HTk.out, HACT.out]; exact HMW.out, HKW.out⟩
            case measure => simp [intOf]; omega
    · have hkk : k = l.length := by omega
      subst hkk
      have d0 : decide ((l.length : Int) < (l.length : Int)) = false := decide_eq_false (by omega)
      have d1 : decide (l.length < l.length) = false := decide_eq_false (by omega)
      rw [List.take_length] at hMd
      have hst : M.state = n := by rw [hMd, (Pure.act_keeps l M0).1]; exact HM0.out.1
      have HST' := Lib.hid (show m.step e = (l, M.rest) by rw [HST.out, hMd])
      have hg0 : wr.cell? ⟨g, 0, none⟩ = some (.int .i64 (n : Nat)) := by rw [Blk.cell hM, ← hst]; rfl
      have hg2 : wr.cell? ⟨g, 2, none⟩ = some (.int .i64 (M.left : Nat)) := by rw [Blk.cell hM]; rfl
      have y2 := Blk.frozen hM 2
      have HU4 := Lib.hid (ownsRow_keeps HU3.out hK (fun b hb => HUG.out b hb))
      have HKE := Lib.hid (HK3.out.trans hK)
      have HSn := Lib.hid hst
      clear hM hK hMd hst HU3 HUG hkl hk HM2 HM0 HST
      by_cases hr : n < 4 ∨ n = 9
      · have HR := Lib.hid (show M.rest = { M with left := 0 } by unfold Pure.Mach.rest; rw [HSn.out, if_pos hr])
        have HM' := Lib.hid (show DMach (wr.setCell ⟨g, 2, none⟩ (.int .i64 0)) g M.rest by rw [HR.out]; exact Blk.set HMW.out 2 _)
        have HK' := Lib.hid (HKE.out.store g 2 (fun _ => rfl) (.int .i64 0))
        have HO' := Lib.hid (fun (W : World) (h : Keeps (only g) wr W) => ownsRow_keeps HU4.out h (fun b hb hs => by have h1 := ownsRow_ge HU4.out b hb; have h2 : b = g := hs; omega))
        have HKs := Lib.hid ((Keeps.refl (only g) wr).store g 2 (fun _ => rfl) (.int .i64 0))
        by_cases hn4 : n < 4
        · have q0 : decide ((n : Int) < 4) = true := decide_eq_true (by omega)
          clear hr
          go_wp2
          go_ret
          exact ⟨_, rfl, by rw [HST'.out]; exact HO'.out _ HKs.out, by rw [HST'.out]; exact HM'.out, HK'.out⟩
        · have q0 : decide ((n : Int) < 4) = false := decide_eq_false (by omega)
          have q1 : ((n : Int) == 9) = true := by rw [beq_iff_eq]; omega
          clear hr
          go_wp2
          go_ret
          exact ⟨_, rfl, by rw [HST'.out]; exact HO'.out _ HKs.out, by rw [HST'.out]; exact HM'.out, HK'.out⟩
      · have HR := Lib.hid (show M.rest = M by unfold Pure.Mach.rest; rw [HSn.out, if_neg hr])
        have q0 : decide ((n : Int) < 4) = false := decide_eq_false (by omega)
        have q1 : ((n : Int) == 9) = false := by rw [beq_eq_false_iff_ne]; omega
        clear hr
        go_wp2
        go_ret
        exact ⟨_, rfl, by rw [HST'.out]; exact HU4.out, by rw [HST'.out, HR.out]; exact HMW.out, HKE.out⟩
end Go.Proofs.Ytjeekhgkcphnpaa
