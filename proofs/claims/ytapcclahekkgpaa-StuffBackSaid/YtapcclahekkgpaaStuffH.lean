/- Contract of the statements' Frames: are two lists of frames the same? -/
import Derived.Test.YtapcclahekkgpaaStuffD
namespace Go.Proofs.Ytapcclahekkgpaa
open Go.RowKit

/-- A slice of slices of bytes. -/
structure FRow (w : World) (F : Nat → Prop) (x : Value) (ps : List (Value × List UInt8)) : Prop where
  out : Row w F 1 x ps.length (ps.map Prod.fst)
  rows : ∀ p ∈ ps, Row w F 1 p.1 p.2.length (u8s p.2)
theorem FRow.keeps {S F : Nat → Prop} {w w' : World} {x : Value} {ps : List (Value × List UInt8)} (h : FRow w F x ps) (k : Keeps S w w') (hs : ∀ b, F b → ¬ S b) : FRow w' F x ps :=
  ⟨h.out.keeps k hs, fun p hp => (h.rows p hp).keeps k hs⟩
theorem Told.frow {w : World} {base : Nat} {o : Value} {ps : List (Value × List UInt8)} (h : Told w base o ps) : FRow w (fun b => o.ownBlock = some b ∨ ∃ p ∈ ps, p.1.ownBlock = some b) o ps :=
  ⟨(Row.of_own h.own).mono (fun _ h => .inl h), fun p hp => (Row.of_own (h.rows p hp)).mono (fun _ h => .inr ⟨p, hp, h⟩)⟩

set_option maxHeartbeats 1000000 in
theorem frames_q (F G : Nat → Prop) (x y : Value) (ps qs : List (Value × List UInt8)) (w : World) (hx : FRow w F x ps) (hy : FRow w G y qs) :
    Calls Try.prog 18 #[x, y] w fun e w' => e = .returned (.bool (decide (ps.map Prod.snd = qs.map Prod.snd))) ∧ ∃ n, w' = w.drewN n := by
  have HX := Lib.hid hx
  have HY := Lib.hid hy
  obtain ⟨A, c, rfl, hc⟩ := hx.out.form
  obtain ⟨B, d, rfl, hd⟩ := hy.out.form
  have ha := hx.out.2.1
  have hb := hy.out.2.1
  unfold maxLen at ha hb
  clear hx hy
  by_cases hl : ps.length = qs.length
  · have e1 : ((ps.length : Int) != (qs.length : Int)) = false := by rw [hl]; simp
    have HL := Lib.hid hl
    obtain ⟨N, hN⟩ : ∃ N, N = ps.length := ⟨_, rfl⟩
    have HN := Lib.hid hN
    have HM := Lib.hid (hN.trans hl)
    have hxr := HX.out.out
    have hyr := HY.out.out
    rw [← hN] at hxr ha hc e1 ⊢
    rw [← HM.out] at hyr hb hd e1 ⊢
    have XR := Lib.hid hxr
    have YR := Lib.hid hyr
    clear hl hN hxr hyr
    go_enter Try.func18, Try.ntmps18
    go_wp2
    clear e1
    go_loopw [5] (fun i wr => ∃ k : Nat, k ≤ N ∧ i = .int .i64 k ∧ (ps.map Prod.snd).take k = (qs.map Prod.snd).take k ∧ ∃ n, wr = w.drewN n) (fun i _ => N - (intOf i).toNat)
    case atStart => exact ⟨0, by omega, rfl, by simp, 0, rfl⟩
    case round =>
      obtain ⟨k, hk, rfl, htake, q, hq⟩ := hrel
      have HT := Lib.hid htake
      have HQ := Lib.hid hq
      have K := Lib.hid (Keeps.of_drewN hq)
      clear htake hq
      by_cases hlt : k < N
      · have hkp : k < ps.length := by have := HN.out; omega
        have hkq : k < qs.length := by have := HM.out; omega
        obtain ⟨p, o, rfl, _, hcx⟩ := (XR.out.keeps K.out (fun _ _ h => h)).cellAt (by omega)
        obtain ⟨p2, o2, rfl, _, hcy⟩ := (YR.out.keeps K.out (fun _ _ h => h)).cellAt (by omega)
        have c1 := hcx k ps[k].1 (by simp [hkp])
        have c2 := hcy k qs[k].1 (by simp [hkq])
        have hp := (HX.out.keeps K.out (fun _ _ h => h)).rows ps[k] (List.getElem_mem hkp)
        have hq := (HY.out.keeps K.out (fun _ _ h => h)).rows qs[k] (List.getElem_mem hkq)
        obtain ⟨A1, n1, hA1, _⟩ := hp.form
        obtain ⟨A2, n2, hA2, _⟩ := hq.form
        obtain ⟨f, hf⟩ : ∃ f, f = ps[k].2 := ⟨_, rfl⟩
        obtain ⟨f2, hf2⟩ : ∃ f2, f2 = qs[k].2 := ⟨_, rfl⟩
        rw [← hf] at hA1 hp
        rw [← hf2] at hA2 hq
        rw [hA1] at c1 hp
        rw [hA2] at c2 hq
        have P1 := Lib.hid hp
        have P2 := Lib.hid hq
        have F1 := Lib.hid hf
        have F2 := Lib.hid hf2
        have hi0 : (0 : Int) ≤ (k : Int) := by omega
        have hi1 : (k : Int) < (N : Int) := by omega
        clear hcx hcy hp hq hA1 hA2 hf hf2
        have HS := fun n => same_q F G _ _ f f2 (wr.drewN n) (P1.out.keeps (Keeps.of_drewN rfl) (fun _ _ h => h)) (P2.out.keeps (Keeps.of_drewN rfl) (fun _ _ h => h))
        obtain ⟨r, hr⟩ : ∃ r, r = decide (f = f2) := ⟨_, rfl⟩
        rw [← hr] at HS
        have SQ := Lib.hid HS
        cases r
        · have hff : ¬ f = f2 := by simpa using hr.symm
          have hno : decide (ps.map Prod.snd = qs.map Prod.snd) = false := by
            rw [decide_eq_false_iff_not]
            intro he
            apply hff
            rw [F1.out, F2.out]
            have h1 : (ps.map Prod.snd)[k]? = (qs.map Prod.snd)[k]? := by rw [he]
            simpa [hkp, hkq] using h1
          have HNO := Lib.hid hno
          clear hff hno HS hr
          go_wp2_with fail
          go_quiet ((go_at_call 15; refine Calls.quiet_of (SQ.out _)))
          go_wp2
          go_ret
          exact ⟨by rw [HNO.out]; rfl, _, by rw [HQ.out, World.drewN_drewN]⟩
        · have hff : f = f2 := by simpa using hr.symm
          have HFF := Lib.hid hff
          clear hff HS hr
          go_wp2_with fail
          go_quiet ((go_at_call 15; refine Calls.quiet_of (SQ.out _)))
          go_wp2
          go_roundw
          case rel =>
            refine ⟨k + 1, by omega, by go_num, ?_, _, by rw [HQ.out, World.drewN_drewN]⟩
            rw [List.take_succ_eq_append_getElem (by simpa using hkp), List.take_succ_eq_append_getElem (by simpa using hkq), HT.out, List.getElem_map, List.getElem_map, ← F1.out, ← F2.out, HFF.out]
          case measure => simp [intOf]; omega
      · have hk' : k = N := by omega
        have hyes : decide (ps.map Prod.snd = qs.map Prod.snd) = true := by
          rw [decide_eq_true_eq]
          have := HT.out
          rw [List.take_of_length_le (by have := HN.out; simp; omega), List.take_of_length_le (by have := HM.out; simp; omega)] at this
          exact this
        have HYES := Lib.hid hyes
        clear hyes hk'
        go_wp2
        go_ret
        exact ⟨by rw [HYES.out]; rfl, _, HQ.out⟩
  · have e1 : ((ps.length : Int) != (qs.length : Int)) = true := by rw [bne_iff_ne]; omega
    have hno : decide (ps.map Prod.snd = qs.map Prod.snd) = false := by
      rw [decide_eq_false_iff_not]
      intro he
      exact hl (by simpa using congrArg List.length he)
    have HNO := Lib.hid hno
    clear hno hl
    go_enter Try.func18, Try.ntmps18
    go_wp2
    go_ret
    exact ⟨by rw [HNO.out]; rfl, 0, rfl⟩
end Go.Proofs.Ytapcclahekkgpaa
