/- Contract of the document's Decode. -/
import Derived.Test.YtkllaghfiofnjaaDoorFrameF
import Derived.Test.YtkllaghfiofnjaaDoorCopy
namespace Go.Proofs.YtkllaghfiofnjaaDoor
open Go.RowKit

/-- Does it begin with FF 03? -/
theorem Pure.whole_ways (bs : List UInt8) : ((bs.take 2 == [255, 3]) = false ∧ bs.length < 2) ∨
    (∃ x y r, bs = x :: y :: r ∧ (((bs.take 2 == [255, 3]) = true ∧ x.toNat = 255 ∧ y.toNat = 3) ∨ ((bs.take 2 == [255, 3]) = false ∧ x.toNat = 255 ∧ y.toNat ≠ 3) ∨ ((bs.take 2 == [255, 3]) = false ∧ x.toNat ≠ 255))) := by
  match bs with
  | [] => exact .inl ⟨rfl, by simp⟩
  | [x] => exact .inl ⟨by simp, by simp⟩
  | x :: y :: r =>
    refine .inr ⟨x, y, r, rfl, ?_⟩
    by_cases h : x.toNat = 255
    · have hx : x = 255 := by apply UInt8.toNat_inj.1; exact h
      by_cases h2 : y.toNat = 3
      · have hy : y = 3 := by apply UInt8.toNat_inj.1; exact h2
        subst hx hy
        exact .inl ⟨by simp, rfl, rfl⟩
      · refine .inr (.inl ⟨?_, h, h2⟩)
        rw [beq_eq_false_iff_ne]
        intro e
        simp at e
        exact h2 (by rw [e.2]; rfl)
    · refine .inr (.inr ⟨?_, h⟩)
      rw [beq_eq_false_iff_ne]
      intro e
      simp at e
      exact h (by rw [e.1]; rfl)

set_option maxRecDepth 100000 in
set_option maxHeartbeats 1000000 in
theorem rdecode_any (F : Nat → Prop) (x : Value) (bs : List UInt8) (a q : Bool) (w : World) (hr : Row w F 1 x bs.length (u8s bs)) (hF : ∀ b, F b → b < w.heap.size) (hl : bs.length ≤ 100000000000000) :
    Calls Tryd.prog 18 #[x, .agg #[.bool a, .bool q]] w (Decodes (Pure.dec bs a q) w) := by
  obtain ⟨A, c, rfl, hc⟩ := hr.form
  have hmax := hr.2.1
  unfold maxLen at hmax
  have hblk : Blk (w.alloc (.cells #[.bool a, .bool q] 24)) w.heap.size 24 #[.bool a, .bool q] := Blk.new w _ _
  have b0 : Below w.heap.size w (w.alloc (.cells #[.bool a, .bool q] 24)) := (Below.refl w.heap.size w).alloc (Nat.le_refl _) _
  have HR := Lib.hid (hr.keeps (Keeps.new b0) (fun _ _ h => h))
  have HF := Lib.hid hF
  have HB := Lib.hid hblk
  have B0 := Lib.hid b0
  have DC := Lib.hid (Pure.dec_cut bs a q)
  have WW := Lib.hid (Pure.whole_ways bs)
  obtain ⟨D, hD⟩ : ∃ D, D = Pure.dec bs a q := ⟨_, rfl⟩
  rw [← hD] at DC ⊢
  obtain ⟨r, hr2⟩ : ∃ r, r = (bs.take 2 == [255, 3]) := ⟨_, rfl⟩
  rw [← hr2] at DC WW
  have HRR := Lib.hid hr2
  clear hr hF hblk b0 hD hr2
  go_enter Tryd.func18, Tryd.ntmps18
  go_upto_region 1 with fail
  go_cut [23] (fun s wx => s = .bool r ∧ wx = (w.alloc (.cells #[.bool a, .bool q] 24)))
  case first =>
    rcases WW.out with ⟨h1, h2⟩ | ⟨x, y, s, h1, h2⟩
    · subst h1
      have h3 : ¬ (bs.length : Int) ≥ 2 := by omega
      clear HRR
      go_wp2_with fail
      go_meet
      exact ⟨rfl, rfl⟩
    · obtain ⟨p, o, rfl, _, hcell⟩ := HR.out.cellAt (by rw [h1]; simp)
      have c0 := hcell 0 (.int .u8 x.toNat) (by rw [h1]; rfl)
      have c1 := hcell 1 (.int .u8 y.toNat) (by rw [h1]; rfl)
      rw [Nat.add_zero] at c0
      have h3 : (bs.length : Int) ≥ 2 := by rw [h1]; simp; omega
      have hx2 : x.toNat < 256 := x.toNat_lt
      have hy2 : y.toNat < 256 := y.toNat_lt
      clear hcell h1 HRR
      obtain ⟨X, hX⟩ : ∃ X : Nat, X = x.toNat := ⟨_, rfl⟩
      obtain ⟨Y, hY⟩ : ∃ Y : Nat, Y = y.toNat := ⟨_, rfl⟩
      rw [← hX] at c0 hx2 h2
      rw [← hY] at c1 hy2 h2
      clear hX hY
      rcases h2 with ⟨rfl, h4, h5⟩ | ⟨rfl, h4, h5⟩ | ⟨rfl, h4⟩
      · have h6 : ((X : Int) == 255) = true := by rw [beq_iff_eq]; omega
        have h7 : ((Y : Int) == 3) = true := by rw [beq_iff_eq]; omega
        clear h4 h5
        go_wp2_with fail
        go_meet
        exact ⟨rfl, rfl⟩
      · have h6 : ((X : Int) == 255) = true := by rw [beq_iff_eq]; omega
        have h7 : ((Y : Int) == 3) = false := by rw [beq_eq_false_iff_ne]; omega
        clear h4 h5
        go_wp2_with fail
        go_meet
        exact ⟨rfl, rfl⟩
      · have h6 : ((X : Int) == 255) = false := by rw [beq_eq_false_iff_ne]; omega
        clear h4
        go_wp2_with fail
        go_meet
        exact ⟨rfl, rfl⟩
  case rest =>
    obtain ⟨rfl, rfl⟩ := hcut
    have W0 := Lib.hid (⟨HB.out, B0.out, B0.out.size⟩ : Blk (w.alloc (.cells #[.bool a, .bool q] 24)) w.heap.size 24 #[.bool a, .bool q] ∧ Below w.heap.size w (w.alloc (.cells #[.bool a, .bool q] 24)) ∧ w.heap.size ≤ (w.alloc (.cells #[.bool a, .bool q] 24)).heap.size)
    obtain ⟨wA, hwA⟩ : ∃ wA, wA = (w.alloc (.cells #[.bool a, .bool q] 24)) := ⟨_, rfl⟩
    rw [← hwA] at W0 HR ⊢
    clear hwA HB B0 WW
    have c0 : wA.cell? ⟨w.heap.size, 0, none⟩ = some (.bool a) := by rw [W0.out.1.cell]; rfl
    have c1 : wA.cell? ⟨w.heap.size, 1, none⟩ = some (.bool q) := by rw [W0.out.1.cell]; rfl
    obtain ⟨R, hR⟩ : ∃ R, R = Pure.cutHead bs [255, 3] := ⟨_, rfl⟩
    have hRd : R = if r then bs.drop 2 else bs := by rw [hR, HRR.out]; rfl
    have hRl : R.length ≤ bs.length := by rw [hRd]; split <;> simp
    rw [← hR] at DC
    have HRD := Lib.hid hRd
    clear hR hRd
    go_upto_if 23 with fail
    go_cut [0] (fun s wx => wx = wA ∧ (r || a) = true ∧ ∃ A' c', s = .slice A' R.length c' ∧ R.length ≤ c' ∧ Row wA F 1 s R.length (u8s R))
    case first =>
      cases r
      · have hRd := HRD.out
        rw [if_neg (by simp)] at hRd
        subst hRd
        cases a
        · have hDD := DC.out
          rw [if_neg (by simp)] at hDD
          subst hDD
          clear HRR
          go_wp2_with fail
          go_ret3
          exact ⟨W0.out.2.1, _, rfl, ⟨rfl, .inl ⟨rfl, rfl⟩⟩⟩
        · clear HRR
          go_wp2_with fail
          go_meet
          exact ⟨rfl, rfl, _, _, rfl, hc, HR.out⟩
      · have hRd := HRD.out
        rw [if_pos rfl] at hRd
        have hle : 2 ≤ bs.length := by
          have := congrArg List.length (eq_of_beq HRR.out.symm)
          simp at this
          omega
        have hV := Row.cutV HR.out 2 (bs.length - 2) (by omega)
        have e1 : (bs.drop 2).take (bs.length - 2) = bs.drop 2 := List.take_of_length_le (by simp)
        rw [e1, ← hRd] at hV
        have hlen : R.length = bs.length - 2 := by rw [hRd]; simp
        have HV := Lib.hid hV
        have HL := Lib.hid hlen
        obtain ⟨p, o, rfl, _, _⟩ := HR.out.cellAt (by omega)
        clear hRd e1 hV hlen HRR hRl HRD
        rcases Nat.decEq c 2 with hz | hz
        · go_wp2_with fail
          go_meet
          have h := HV.out
          unfold cutV at h
          rw [if_neg hz, Option.map_some, addr_add] at h
          rw [HL.out]
          exact ⟨rfl, rfl, _, _, rfl, by omega, h⟩
        · subst hz
          go_wp2_with fail
          go_meet
          have h := HV.out
          unfold cutV at h
          rw [if_pos rfl] at h
          have h0 : bs.length - 2 = 0 := by omega
          rw [h0] at h
          rw [HL.out, h0]
          exact ⟨rfl, rfl, _, _, rfl, by omega, h⟩
    case rest =>
      obtain ⟨rfl, hra, A', c', rfl, hc', hrow⟩ := hcut
      have hDD := DC.out
      rw [if_pos hra, Pure.said_pb] at hDD
      have LE := Lib.hid (Pure.pb_le R q)
      have HR1 := Lib.hid hrow
      have hmaxR := hrow.2.1
      unfold maxLen at hmaxR
      clear hra DC hrow HRD HRR HR c0
      match R with
      | [] =>
        subst hDD
        clear HR1 LE
        go_wp2_with fail
        go_ret3
        exact ⟨W0.out.2.1, _, rfl, ⟨rfl, .inl ⟨rfl, rfl⟩⟩⟩
      | b0 :: r0 =>
        have W := Lib.hid (Pure.pb_way b0 r0 q)
        obtain ⟨N, hN⟩ : ∃ N, N = (Pure.pb (b0 :: r0) q).1 := ⟨_, rfl⟩
        obtain ⟨K, hK⟩ : ∃ K, K = (Pure.pb (b0 :: r0) q).2 := ⟨_, rfl⟩
        rw [← hN, ← hK] at W LE hDD
        clear hN hK
        obtain ⟨n, hn⟩ : ∃ n, n = (b0 :: r0).length := ⟨_, rfl⟩
        obtain ⟨p, o, rfl, _, hcell⟩ := HR1.out.cellAt (by simp)
        have c0 := hcell 0 (.int .u8 b0.toNat) rfl
        rw [Nat.add_zero] at c0
        have hb0 : b0.toNat < 256 := b0.toNat_lt
        have hn0 : (0 : Int) < (n : Int) := by rw [hn]; simp
        have hn1 : ((n : Int) == 0) = false := by rw [beq_eq_false_iff_ne]; omega
        have HN := Lib.hid hn
        rw [← hn] at hmaxR hc' HR1 ⊢
        have HCELL := Lib.hid hcell
        have HDD := Lib.hid hDD
        obtain ⟨X, hX⟩ : ∃ X : Nat, X = b0.toNat := ⟨_, rfl⟩
        have HX := Lib.hid hX
        rw [← hX] at c0 hb0
        have ha0 : bits .and .u8 (X : Int) 1 = ((X % 2 : Nat) : Int) := by
          have := u8_and_nat X 1 hb0 (by omega)
          rwa [nat_mask1] at this
        clear hn hcell hDD hX
        go_upto_if 40 with fail
        go_cut [7, 8] (fun s7 s8 wx => wx = wc ∧ K = 0 ∧ s7 = .int .i64 (Pure.number ((b0 :: r0).take N)) ∧ s8 = .int .i64 N)
        case first =>
          clear ha0
          cases W.out with
          | noPfc h hq =>
            subst hq
            have hod : ((X : Int) % 2 == 1) = true := by rw [beq_iff_eq]; have := HX.out; omega
            have hDD := HDD.out
            rw [if_neg (by simp)] at hDD
            subst hDD
            clear h W LE
            go_wp2_with fail
            go_ret3
            exact ⟨W0.out.2.1, _, rfl, ⟨rfl, .inl ⟨rfl, rfl⟩⟩⟩
          | one h hq =>
            subst hq
            have hod : ((X : Int) % 2 == 1) = true := by rw [beq_iff_eq]; have := HX.out; omega
            clear h W LE
            go_wp2_with fail
            go_meet
            exact ⟨rfl, trivial, by rw [HX.out]; simp [Pure.number], rfl⟩
          | cut h hr =>
            subst hr
            have hod : ((X : Int) % 2 == 1) = false := by rw [beq_eq_false_iff_ne]; have := HX.out; omega
            have hn2 : (n : Int) < 2 := by rw [HN.out]; simp
            have hDD := HDD.out
            rw [if_neg (by simp)] at hDD
            subst hDD
            clear h W LE
            go_wp2_with fail
            go_ret3
            exact ⟨W0.out.2.1, _, rfl, ⟨rfl, .inl ⟨rfl, rfl⟩⟩⟩
          | two h y s hr hy =>
            subst hr
            have hod : ((X : Int) % 2 == 1) = false := by rw [beq_eq_false_iff_ne]; have := HX.out; omega
            have hn2 : ¬ (n : Int) < 2 := by rw [HN.out]; simp; omega
            have hn3 : (1 : Int) < (n : Int) := by omega
            have c1' := HCELL.out 1 (.int .u8 y.toNat) rfl
            obtain ⟨Y, hY⟩ : ∃ Y : Nat, Y = y.toNat := ⟨_, rfl⟩
            have hY2 : Y < 256 := by rw [hY]; exact y.toNat_lt
            rw [← hY] at c1' hy
            have ha1 : bits .and .u8 (Y : Int) 1 = ((Y % 2 : Nat) : Int) := by
              have := u8_and_nat Y 1 hY2 (by omega)
              rwa [nat_mask1] at this
            rw [hy] at ha1
            have ho : bits .or .i64 ((X : Int) * 256) (Y : Int) = ((X * 256 + Y : Nat) : Int) := by
              have := i64_or_nat (X * 256) Y (by omega) (by omega)
              rw [Pure.shift_or X Y hY2] at this
              rw [← this]
              simp
            have HY := Lib.hid hY
            clear h W LE hy hY
            go_wp2_with fail
            go_meet
            exact ⟨rfl, trivial, by rw [HX.out, HY.out]; simp [Pure.number], rfl⟩
          | bad h y s hr hy =>
            subst hr
            have hod : ((X : Int) % 2 == 1) = false := by rw [beq_eq_false_iff_ne]; have := HX.out; omega
            have hn2 : ¬ (n : Int) < 2 := by rw [HN.out]; simp; omega
            have hn3 : (1 : Int) < (n : Int) := by omega
            have c1' := HCELL.out 1 (.int .u8 y.toNat) rfl
            obtain ⟨Y, hY⟩ : ∃ Y : Nat, Y = y.toNat := ⟨_, rfl⟩
            have hY2 : Y < 256 := by rw [hY]; exact y.toNat_lt
            rw [← hY] at c1' hy
            have ha1 : bits .and .u8 (Y : Int) 1 = ((Y % 2 : Nat) : Int) := by
              have := u8_and_nat Y 1 hY2 (by omega)
              rwa [nat_mask1] at this
            rw [show Y % 2 = 0 by omega] at ha1
            have hDD := HDD.out
            rw [if_neg (by simp)] at hDD
            subst hDD
            clear h W LE hy hY
            go_wp2_with fail
            go_ret3
            exact ⟨W0.out.2.1, _, rfl, ⟨rfl, .inl ⟨rfl, rfl⟩⟩⟩
        case rest =>
          obtain ⟨rfl, rfl, rfl, rfl⟩ := hcut
          have hDD := HDD.out
          rw [if_pos rfl] at hDD
          obtain ⟨hN1, hN2, hN3⟩ := LE.out rfl
          rw [← HN.out] at hN3
          obtain ⟨P, hP⟩ : ∃ P, P = Pure.number ((b0 :: r0).take N) := ⟨_, rfl⟩
          obtain ⟨I, hI⟩ : ∃ I, I = (b0 :: r0).drop N := ⟨_, rfl⟩
          have hIl : I.length = n - N := by rw [hI, List.length_drop, HN.out]
          rw [← hP, ← hI] at hDD
          rw [← hP]
          have hfz : D = if 1516 < I.length then (0, [], 3) else (P, I, 0) := hDD
          have hV := Row.cutV HR1.out N (n - N) (by omega)
          rw [← hI, List.take_of_length_le (by omega)] at hV
          have HV := Lib.hid hV
          have HL := Lib.hid hIl
          have hw : IntKind.i64.wrap ((n : Int) - N) = (n : Int) - N := IntWalk.i64_in _ (by omega)
          have BN := Lib.hid (show n ≤ 100000000000000 by have := HN.out; omega)
          clear hDD HDD hP hI hIl hV LE W HCELL HR1 c0 c1 ha0
          by_cases hbig : 1516 < I.length
          · rw [if_pos hbig] at hfz
            subst hfz
            have hb1 : (n : Int) - N > 1516 := by have := HL.out; omega
            clear hbig
            go_wp2_with fail
            go_ret3
            exact ⟨W0.out.2.1, _, rfl, ⟨rfl, .inl ⟨rfl, rfl⟩⟩⟩
          · rw [if_neg hbig] at hfz
            subst hfz
            have hb1 : ¬ (n : Int) - N > 1516 := by have := HL.out; omega
            have hIle : I.length ≤ 1516 := by omega
            clear hbig
            rcases Nat.decEq c' N with hz | hz
            · have hrow : Row wc F 1 (.slice (some ⟨p, o + N, none⟩) (n - N) (c' - N)) I.length (u8s I) := by
                have h := HV.out
                unfold cutV at h
                rw [if_neg hz, Option.map_some, addr_add] at h
                rw [HL.out]
                exact h
              have CA := Lib.hid (copy_any F _ I wc hrow (fun b hb => Nat.lt_of_lt_of_le (HF.out b hb) W0.out.2.1.size) (by omega))
              clear hrow
              go_wp2_with fail
              refine CA.out.mono ?_
              rintro e w3 ⟨u, rfl, hown, hb3⟩
              have B3 := Lib.hid (W0.out.2.1.trans (hb3.mono W0.out.2.1.size))
              have O3 := Lib.hid (ownsRow_base (base' := w.heap.size) hown W0.out.2.1.size)
              clear hown hb3
              go_wp2
              go_ret3
              exact ⟨B3.out, u, rfl, O3.out⟩
            · subst hz
              have h0 : n - c' = 0 := by omega
              have hrow : Row wc F 1 (.slice (some ⟨p, o, none⟩) 0 0) I.length (u8s I) := by
                have h := HV.out
                unfold cutV at h
                rw [if_pos rfl, h0] at h
                rw [HL.out, h0]
                exact h
              have CA := Lib.hid (copy_any F _ I wc hrow (fun b hb => Nat.lt_of_lt_of_le (HF.out b hb) W0.out.2.1.size) (by omega))
              clear hrow
              go_wp2_with fail
              refine CA.out.mono ?_
              rintro e w3 ⟨u, rfl, hown, hb3⟩
              have B3 := Lib.hid (W0.out.2.1.trans (hb3.mono W0.out.2.1.size))
              have O3 := Lib.hid (ownsRow_base (base' := w.heap.size) hown W0.out.2.1.size)
              clear hown hb3
              go_wp2
              go_ret3
              exact ⟨B3.out, u, rfl, O3.out⟩
end Go.Proofs.YtkllaghfiofnjaaDoor
