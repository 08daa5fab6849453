/- The law FsmLayers. -/
import Derived.Test.YtjeekhgkcphnpaaLaw12E
namespace Go.Proofs.Ytjeekhgkcphnpaa
open Go.RowKit
theorem Pure.fsm_len : ∀ s < 10, ∀ e < 16, (Pure.fsmAt s e).1.length ≤ 4 := by decide +kernel
theorem Pure.call_len {m : Pure.Mach} (h : m.Good) (x : Int) : (m.call x).1.length ≤ 4 := by
  have hs := h.state
  unfold Pure.Mach.call
  split
  · unfold Pure.Mach.tick
    split
    · simp
    · split
      · simp
      · split
        · exact Pure.fsm_len m.state (by omega) 4 (by omega)
        · exact Pure.fsm_len m.state (by omega) 5 (by omega)
  · unfold Pure.Mach.act2
    split
    · rename_i hd
      unfold Pure.does at hd
      exact Pure.fsm_len m.state (by omega) x.toNat (by omega)
    · simp
theorem Pure.many_snoc (f : Nat → Bool) (l : List Nat) (a : Nat) : Pure.many f (l ++ [a]) = Pure.many f l + (if f a = true then 1 else 0) := by
  unfold Pure.many
  rw [List.filter_append, List.length_append]
  congr 1
  by_cases h : f a = true
  · rw [if_pos h]; simp [h]
  · rw [if_neg h]; simp [h]
theorem Pure.many_le (f : Nat → Bool) (l : List Nat) : Pure.many f l ≤ l.length := List.length_filter_le _ _
section
variable {Obj : World → (Nat → Prop) → Value → Pure.Mach → Prop}
set_option maxRecDepth 100000 in
set_option maxHeartbeats 8000000 in
theorem fsmLayers_walk' (H : FsmOk Obj) (x : Value) (l : List Int) (w : World) (hx : Row w (fun b => b < w.heap.size) 1 x l.length (zints l)) :
    Calls Try.prog 9 #[x] w fun e w' => e = .returned (.bool true) ∧ Below w.heap.size w w' := by
  have HA := Lib.hid (awake_any H w)
  obtain ⟨A, c, rfl, _⟩ := hx.form
  have hml := hx.2.1
  unfold maxLen at hml
  have HX0 := Lib.hid hx
  clear hx
  go_enter Try.func9, Try.ntmps9
  go_wp2_with fail
  refine HA.out.mono ?_
  rintro e w1 ⟨rfl, hb1⟩
  have B1 := Lib.hid hb1
  clear hb1 HA
  by_cases hl : 300 < l.length
  · have d0 : decide ((300 : Int) < (l.length : Int)) = true := decide_eq_true (by omega)
    go_wp2
    go_ret
    exact ⟨rfl, B1.out⟩
  have d0 : decide ((300 : Int) < (l.length : Int)) = false := decide_eq_false (by omega)
  have hmb : mayBe ((3 : Nat) : Int) ((2 : Nat) : Int) := by decide
  have HN := Lib.hid (H.make B1.out 3 2 hmb)
  go_wp2_with fail
  refine HN.out.mono ?_
  rintro e w2 ⟨S, a, rfl, h2, _, k2⟩
  have O2 := Lib.hid h2
  clear h2 k2 HN B1
  go_wp2_with fail
  go_loopw [5] (fun i wr => ∃ (k : Nat) (m : Pure.Mach), k ≤ l.length ∧ i = .int .i64 (k : Int) ∧ Has Obj w wr S (.pointer (some a)) m) (fun i _ => l.length - (intOf i).toNat)
  case atStart => exact ⟨0, _, by omega, rfl, O2.out⟩
  case round =>
    obtain ⟨k, m, hk, rfl, hO⟩ := hrel
    have HO := Lib.hid hO
    clear hO
    by_cases hkl : k < l.length
    · have d1 : decide ((k : Int) < (l.length : Int)) = true := decide_eq_true (by omega)
      have d2 : decide (k < l.length) = true := decide_eq_true hkl
      have k0 : (0 : Int) ≤ (k : Int) := by omega
      have k1 : (k : Int) < (l.length : Int) := by omega
      have hXr := HX0.out.keeps (Keeps.new HO.out.below) (fun _ _ h => h)
      obtain ⟨b, off, rfl, hFb, hcell⟩ := hXr.zat k hkl
      obtain ⟨y, hy⟩ : ∃ y, y = l.getD k 0 := ⟨_, rfl⟩
      rw [← hy] at hcell
      clear hXr hy
      by_cases hy2 : y = -2
      · subst hy2
        have HLY0 := Pure.layers_call HO.out.good (-2)
        rw [show m.call (-2) = m.tick from if_pos rfl] at HLY0
        have hlen := Pure.call_len HO.out.good (-2)
        rw [show m.call (-2) = m.tick from if_pos rfl] at hlen
        have HT := HO.out.tick H
        generalize m.tick = R at HT HLY0 hlen
        obtain ⟨L, M2⟩ := R
        dsimp only at HT HLY0 hlen
        have HT := Lib.hid HT
        have QW := H.state S _ _ _ HO.out.obj
        obtain ⟨sw, hsw⟩ : ∃ n, n = m.state := ⟨_, rfl⟩
        rw [← hsw] at QW HLY0
        have HLY := Lib.hid HLY0
        have QW := Lib.hid QW
        have HSW := Lib.hid hsw
        clear HLY0 hsw
        go_wp2_with fail
        refine QW.out.mono ?_
        rintro r w3 ⟨rfl, rfl⟩
        go_wp2_with fail
        refine HT.out.mono ?_
        rintro r w4 ⟨A4, c4, rfl, r4, h4, _⟩
        clear HO QW
        have HL := Lib.hid (show Pure.many (· == 0) L = (if M2.state = 9 ∧ sw ≠ 9 then 1 else 0) ∧ Pure.many (· == 1) L = (if sw = 9 ∧ M2.state ≠ 9 then 1 else 0) from HLY.out)
        have O5 := Lib.hid h4
        have R5 := Lib.hid r4
        clear h4 r4 HT
        go_wp2_with fail
        go_loopw [8, 9, 10] (fun u d i wx => ∃ k2 : Nat, k2 ≤ L.length ∧ i = .int .i64 (k2 : Int) ∧ u = .int .i64 ((Pure.many (· == 0) (L.take k2) : Nat) : Int) ∧ d = .int .i64 ((Pure.many (· == 1) (L.take k2) : Nat) : Int) ∧ wx = w4) (fun _ _ i _ => L.length - (intOf i).toNat)
        case atStart => exact ⟨0, by omega, rfl, rfl, rfl, rfl⟩
        case round =>
          obtain ⟨k2, hk2, rfl, rfl, rfl, hwx⟩ := hrel
          subst hwx
          have hu0 : Pure.many (· == 0) (L.take k2) ≤ k2 := Nat.le_trans (Pure.many_le _ _) (by rw [List.length_take]; omega)
          have hd0 : Pure.many (· == 1) (L.take k2) ≤ k2 := Nat.le_trans (Pure.many_le _ _) (by rw [List.length_take]; omega)
          by_cases hkl2 : k2 < L.length
          · have d1 : decide ((k2 : Int) < (L.length : Int)) = true := decide_eq_true (by omega)
            have d2 : decide (k2 < L.length) = true := decide_eq_true hkl2
            have k0 : (0 : Int) ≤ (k2 : Int) := by omega
            have k1 : (k2 : Int) < (L.length : Int) := by omega
            obtain ⟨b2, off2, rfl, _, hcell2⟩ := R5.out.ints_at k2 hkl2
            obtain ⟨z, hz⟩ : ∃ z, z = L.getD k2 0 := ⟨_, rfl⟩
            rw [← hz] at hcell2
            have hA0 : Pure.many (· == 0) (L.take (k2 + 1)) = Pure.many (· == 0) (L.take k2) + (if (z == 0) = true then 1 else 0) := by rw [take_snoc L 0 k2 hkl2, ← hz, Pure.many_snoc]
            have hA1 : Pure.many (· == 1) (L.take (k2 + 1)) = Pure.many (· == 1) (L.take k2) + (if (z == 1) = true then 1 else 0) := by rw [take_snoc L 0 k2 hkl2, ← hz, Pure.many_snoc]
            obtain ⟨U, hU⟩ : ∃ U, U = Pure.many (· == 0) (L.take k2) := ⟨_, rfl⟩
            obtain ⟨D, hD⟩ : ∃ D, D = Pure.many (· == 1) (L.take k2) := ⟨_, rfl⟩
            rw [← hU] at hA0 hu0 ⊢
            rw [← hD] at hA1 hd0 ⊢
            have hu4 : U ≤ 4 := by omega
            have hd4 : D ≤ 4 := by omega
            clear hz hU hD hu0 hd0
            by_cases hz0 : z = 0
            · subst hz0
              have HU1 := Lib.hid (show Pure.many (· == 0) (L.take (k2 + 1)) = U + 1 by rw [hA0, if_pos (by decide)])
              have HD1 := Lib.hid (show Pure.many (· == 1) (L.take (k2 + 1)) = D by rw [hA1, if_neg (by decide)]; omega)
              have hcell2 : wr.cell? ⟨b2, off2 + k2, none⟩ = some (.int .i64 0) := hcell2
              clear hA0 hA1
              go_wp2_with fail
              go_roundw
              case rel => exact ⟨k2 + 1, by omega, by go_num, by rw [HU1.out]; go_num, by rw [HD1.out], trivial⟩
              case measure => simp [intOf]; omega
            · by_cases hz1 : z = 1
              · subst hz1
                have HU1 := Lib.hid (show Pure.many (· == 0) (L.take (k2 + 1)) = U by rw [hA0, if_neg (by decide)]; omega)
                have HD1 := Lib.hid (show Pure.many (· == 1) (L.take (k2 + 1)) = D + 1 by rw [hA1, if_pos (by decide)])
                have hcell2 : wr.cell? ⟨b2, off2 + k2, none⟩ = some (.int .i64 1) := hcell2
                clear hA0 hA1
                go_wp2_with fail
                go_roundw
                case rel => exact ⟨k2 + 1, by omega, by go_num, by rw [HU1.out], by rw [HD1.out]; go_num, trivial⟩
                case measure => simp [intOf]; omega
              · have HU1 := Lib.hid (show Pure.many (· == 0) (L.take (k2 + 1)) = U by rw [hA0, if_neg (by simpa using hz0)]; omega)
                have HD1 := Lib.hid (show Pure.many (· == 1) (L.take (k2 + 1)) = D by rw [hA1, if_neg (by simpa using hz1)]; omega)
                have y0 : ((z : Int) == 0) = false := by rw [beq_eq_false_iff_ne]; omega
                have y1 : ((z : Int) == 1) = false := by rw [beq_eq_false_iff_ne]; omega
                clear hA0 hA1
                go_wp2_with fail
                go_roundw
                case rel => exact ⟨k2 + 1, by omega, by go_num, by rw [HU1.out], by rw [HD1.out], trivial⟩
                case measure => simp [intOf]; omega
          · have hkk2 : k2 = L.length := by omega
            subst hkk2
            have d1 : decide ((L.length : Int) < (L.length : Int)) = false := decide_eq_false (by omega)
            have d2 : decide (L.length < L.length) = false := decide_eq_false (by omega)
            rw [List.take_length] at hu0 hd0 ⊢
            obtain ⟨U, hU⟩ : ∃ U, U = Pure.many (· == 0) L := ⟨_, rfl⟩
            obtain ⟨D, hD⟩ : ∃ D, D = Pure.many (· == 1) L := ⟨_, rfl⟩
            rw [← hU] at HL hu0 ⊢
            rw [← hD] at HL hd0 ⊢
            obtain ⟨nw, hnw⟩ : ∃ n, n = M2.state := ⟨_, rfl⟩
            have QS := H.state S _ _ _ O5.out.obj
            rw [← hnw] at QS HL
            have QS := Lib.hid QS
            clear hU hD hnw hkl2 hk2
            obtain ⟨hL0, hL1⟩ := HL.out
            clear HL
            by_cases hn9 : nw = 9
            · have n0 : ((nw : Int) == 9) = true := by rw [beq_iff_eq]; omega
              have n1 : ((nw : Int) != 9) = false := by rw [bne_eq_false_iff_eq]; omega
              by_cases hs9 : sw = 9
              · have s0 : ((sw : Int) == 9) = true := by rw [beq_iff_eq]; omega
                have s1 : ((sw : Int) != 9) = false := by rw [bne_eq_false_iff_eq]; omega
                rw [if_neg (fun h => h.2 hs9)] at hL0
                rw [if_neg (fun h => h.2 hn9)] at hL1
                subst hL0 hL1
                clear hn9 hs9
                go_wp2_with fail
                refine QS.out.mono ?_
                rintro r w7 ⟨rfl, rfl⟩
                go_wp2_with fail
                go_roundw
                case rel => exact ⟨k + 1, M2, by omega, by go_num, O5.out⟩
                case measure => simp [intOf]; omega
              · have s0 : ((sw : Int) == 9) = false := by rw [beq_eq_false_iff_ne]; omega
                have s1 : ((sw : Int) != 9) = true := by rw [bne_iff_ne]; omega
                rw [if_pos ⟨hn9, hs9⟩] at hL0
                rw [if_neg (fun h => hs9 h.1)] at hL1
                subst hL0 hL1
                clear hn9 hs9
                go_wp2_with fail
                refine QS.out.mono ?_
                rintro r w7 ⟨rfl, rfl⟩
                go_wp2_with fail
                go_roundw
                case rel => exact ⟨k + 1, M2, by omega, by go_num, O5.out⟩
                case measure => simp [intOf]; omega
            · have n0 : ((nw : Int) == 9) = false := by rw [beq_eq_false_iff_ne]; omega
              have n1 : ((nw : Int) != 9) = true := by rw [bne_iff_ne]; omega
              by_cases hs9 : sw = 9
              · have s0 : ((sw : Int) == 9) = true := by rw [beq_iff_eq]; omega
                have s1 : ((sw : Int) != 9) = false := by rw [bne_eq_false_iff_eq]; omega
                rw [if_neg (fun h => hn9 h.1)] at hL0
                rw [if_pos ⟨hs9, hn9⟩] at hL1
                subst hL0 hL1
                clear hn9 hs9
                go_wp2_with fail
                refine QS.out.mono ?_
                rintro r w7 ⟨rfl, rfl⟩
                go_wp2_with fail
                go_roundw
                case rel => exact ⟨k + 1, M2, by omega, by go_num, O5.out⟩
                case measure => simp [intOf]; omega
              · have s0 : ((sw : Int) == 9) = false := by rw [beq_eq_false_iff_ne]; omega
                have s1 : ((sw : Int) != 9) = true := by rw [bne_iff_ne]; omega
                rw [if_neg (fun h => hn9 h.1)] at hL0
                rw [if_neg (fun h => hs9 h.1)] at hL1
                subst hL0 hL1
                clear hn9 hs9
                go_wp2_with fail
                refine QS.out.mono ?_
                rintro r w7 ⟨rfl, rfl⟩
                go_wp2_with fail
                go_roundw
                case rel => exact ⟨k + 1, M2, by omega, by go_num, O5.out⟩
                case measure => simp [intOf]; omega
      · have hyb : (y == -2) = false := by rw [beq_eq_false_iff_ne]; exact hy2
        have HLY0 := Pure.layers_call HO.out.good y
        rw [show m.call y = m.act2 y from if_neg hy2] at HLY0
        have hlen := Pure.call_len HO.out.good y
        rw [show m.call y = m.act2 y from if_neg hy2] at hlen
        have HT := HO.out.act H y
        generalize m.act2 y = R at HT HLY0 hlen
        obtain ⟨L, M2⟩ := R
        dsimp only at HT HLY0 hlen
        have HT := Lib.hid HT
        have QW := H.state S _ _ _ HO.out.obj
        obtain ⟨sw, hsw⟩ : ∃ n, n = m.state := ⟨_, rfl⟩
        rw [← hsw] at QW HLY0
        have HLY := Lib.hid HLY0
        have QW := Lib.hid QW
        have HSW := Lib.hid hsw
        clear HLY0 hsw
        go_wp2_with fail
        refine QW.out.mono ?_
        rintro r w3 ⟨rfl, rfl⟩
        go_wp2_with fail
        refine HT.out.mono ?_
        rintro r w4 ⟨A4, c4, rfl, r4, h4, _⟩
        clear HO QW
        have HL := Lib.hid (show Pure.many (· == 0) L = (if M2.state = 9 ∧ sw ≠ 9 then 1 else 0) ∧ Pure.many (· == 1) L = (if sw = 9 ∧ M2.state ≠ 9 then 1 else 0) from HLY.out)
        have O5 := Lib.hid h4
        have R5 := Lib.hid r4
        clear h4 r4 HT
        go_wp2_with fail
        go_loopw [8, 9, 10] (fun u d i wx => ∃ k2 : Nat, k2 ≤ L.length ∧ i = .int .i64 (k2 : Int) ∧ u = .int .i64 ((Pure.many (· == 0) (L.take k2) : Nat) : Int) ∧ d = .int .i64 ((Pure.many (· == 1) (L.take k2) : Nat) : Int) ∧ wx = w4) (fun _ _ i _ => L.length - (intOf i).toNat)
        case atStart => exact ⟨0, by omega, rfl, rfl, rfl, rfl⟩
        case round =>
          obtain ⟨k2, hk2, rfl, rfl, rfl, hwx⟩ := hrel
          subst hwx
          have hu0 : Pure.many (· == 0) (L.take k2) ≤ k2 := Nat.le_trans (Pure.many_le _ _) (by rw [List.length_take]; omega)
          have hd0 : Pure.many (· == 1) (L.take k2) ≤ k2 := Nat.le_trans (Pure.many_le _ _) (by rw [List.length_take]; omega)
          by_cases hkl2 : k2 < L.length
          · have d1 : decide ((k2 : Int) < (L.length : Int)) = true := decide_eq_true (by omega)
            have d2 : decide (k2 < L.length) = true := decide_eq_true hkl2
            have k0 : (0 : Int) ≤ (k2 : Int) := by omega
            have k1 : (k2 : Int) < (L.length : Int) := by omega
            obtain ⟨b2, off2, rfl, _, hcell2⟩ := R5.out.ints_at k2 hkl2
            obtain ⟨z, hz⟩ : ∃ z, z = L.getD k2 0 := ⟨_, rfl⟩
            rw [← hz] at hcell2
            have hA0 : Pure.many (· == 0) (L.take (k2 + 1)) = Pure.many (· == 0) (L.take k2) + (if (z == 0) = true then 1 else 0) := by rw [take_snoc L 0 k2 hkl2, ← hz, Pure.many_snoc]
            have hA1 : Pure.many (· == 1) (L.take (k2 + 1)) = Pure.many (· == 1) (L.take k2) + (if (z == 1) = true then 1 else 0) := by rw [take_snoc L 0 k2 hkl2, ← hz, Pure.many_snoc]
            obtain ⟨U, hU⟩ : ∃ U, U = Pure.many (· == 0) (L.take k2) := ⟨_, rfl⟩
            obtain ⟨D, hD⟩ : ∃ D, D = Pure.many (· == 1) (L.take k2) := ⟨_, rfl⟩
            rw [← hU] at hA0 hu0 ⊢
            rw [← hD] at hA1 hd0 ⊢
            have hu4 : U ≤ 4 := by omega
            have hd4 : D ≤ 4 := by omega
            clear hz hU hD hu0 hd0
            by_cases hz0 : z = 0
            · subst hz0
              have HU1 := Lib.hid (show Pure.many (· == 0) (L.take (k2 + 1)) = U + 1 by rw [hA0, if_pos (by decide)])
              have HD1 := Lib.hid (show Pure.many (· == 1) (L.take (k2 + 1)) = D by rw [hA1, if_neg (by decide)]; omega)
              have hcell2 : wr.cell? ⟨b2, off2 + k2, none⟩ = some (.int .i64 0) := hcell2
              clear hA0 hA1
              go_wp2_with fail
              go_roundw
              case rel => exact ⟨k2 + 1, by omega, by go_num, by rw [HU1.out]; go_num, by rw [HD1.out], trivial⟩
              case measure => simp [intOf]; omega
            · by_cases hz1 : z = 1
              · subst hz1
                have HU1 := Lib.hid (show Pure.many (· == 0) (L.take (k2 + 1)) = U by rw [hA0, if_neg (by decide)]; omega)
                have HD1 := Lib.hid (show Pure.many (· == 1) (L.take (k2 + 1)) = D + 1 by rw [hA1, if_pos (by decide)])
                have hcell2 : wr.cell? ⟨b2, off2 + k2, none⟩ = some (.int .i64 1) := hcell2
                clear hA0 hA1
                go_wp2_with fail
                go_roundw
                case rel => exact ⟨k2 + 1, by omega, by go_num, by rw [HU1.out], by rw [HD1.out]; go_num, trivial⟩
                case measure => simp [intOf]; omega
              · have HU1 := Lib.hid (show Pure.many (· == 0) (L.take (k2 + 1)) = U by rw [hA0, if_neg (by simpa using hz0)]; omega)
                have HD1 := Lib.hid (show Pure.many (· == 1) (L.take (k2 + 1)) = D by rw [hA1, if_neg (by simpa using hz1)]; omega)
                have y0 : ((z : Int) == 0) = false := by rw [beq_eq_false_iff_ne]; omega
                have y1 : ((z : Int) == 1) = false := by rw [beq_eq_false_iff_ne]; omega
                clear hA0 hA1
                go_wp2_with fail
                go_roundw
                case rel => exact ⟨k2 + 1, by omega, by go_num, by rw [HU1.out], by rw [HD1.out], trivial⟩
                case measure => simp [intOf]; omega
          · have hkk2 : k2 = L.length := by omega
            subst hkk2
            have d1 : decide ((L.length : Int) < (L.length : Int)) = false := decide_eq_false (by omega)
            have d2 : decide (L.length < L.length) = false := decide_eq_false (by omega)
            rw [List.take_length] at hu0 hd0 ⊢
            obtain ⟨U, hU⟩ : ∃ U, U = Pure.many (· == 0) L := ⟨_, rfl⟩
            obtain ⟨D, hD⟩ : ∃ D, D = Pure.many (· == 1) L := ⟨_, rfl⟩
            rw [← hU] at HL hu0 ⊢
            rw [← hD] at HL hd0 ⊢
            obtain ⟨nw, hnw⟩ : ∃ n, n = M2.state := ⟨_, rfl⟩
            have QS := H.state S _ _ _ O5.out.obj
            rw [← hnw] at QS HL
            have QS := Lib.hid QS
            clear hU hD hnw hkl2 hk2
            obtain ⟨hL0, hL1⟩ := HL.out
            clear HL
            by_cases hn9 : nw = 9
            · have n0 : ((nw : Int) == 9) = true := by rw [beq_iff_eq]; omega
              have n1 : ((nw : Int) != 9) = false := by rw [bne_eq_false_iff_eq]; omega
              by_cases hs9 : sw = 9
              · have s0 : ((sw : Int) == 9) = true := by rw [beq_iff_eq]; omega
                have s1 : ((sw : Int) != 9) = false := by rw [bne_eq_false_iff_eq]; omega
                rw [if_neg (fun h => h.2 hs9)] at hL0
                rw [if_neg (fun h => h.2 hn9)] at hL1
                subst hL0 hL1
                clear hn9 hs9
                go_wp2_with fail
                refine QS.out.mono ?_
                rintro r w7 ⟨rfl, rfl⟩
                go_wp2_with fail
                go_roundw
                case rel => exact ⟨k + 1, M2, by omega, by go_num, O5.out⟩
                case measure => simp [intOf]; omega
              · have s0 : ((sw : Int) == 9) = false := by rw [beq_eq_false_iff_ne]; omega
                have s1 : ((sw : Int) != 9) = true := by rw [bne_iff_ne]; omega
                rw [if_pos ⟨hn9, hs9⟩] at hL0
                rw [if_neg (fun h => hs9 h.1)] at hL1
                subst hL0 hL1
                clear hn9 hs9
                go_wp2_with fail
                refine QS.out.mono ?_
                rintro r w7 ⟨rfl, rfl⟩
                go_wp2_with fail
                go_roundw
                case rel => exact ⟨k + 1, M2, by omega, by go_num, O5.out⟩
                case measure => simp [intOf]; omega
            · have n0 : ((nw : Int) == 9) = false := by rw [beq_eq_false_iff_ne]; omega
              have n1 : ((nw : Int) != 9) = true := by rw [bne_iff_ne]; omega
              by_cases hs9 : sw = 9
              · have s0 : ((sw : Int) == 9) = true := by rw [beq_iff_eq]; omega
                have s1 : ((sw : Int) != 9) = false := by rw [bne_eq_false_iff_eq]; omega
                rw [if_neg (fun h => hn9 h.1)] at hL0
                rw [if_pos ⟨hs9, hn9⟩] at hL1
                subst hL0 hL1
                clear hn9 hs9
                go_wp2_with fail
                refine QS.out.mono ?_
                rintro r w7 ⟨rfl, rfl⟩
                go_wp2_with fail
                go_roundw
                case rel => exact ⟨k + 1, M2, by omega, by go_num, O5.out⟩
                case measure => simp [intOf]; omega
              · have s0 : ((sw : Int) == 9) = false := by rw [beq_eq_false_iff_ne]; omega
                have s1 : ((sw : Int) != 9) = true := by rw [bne_iff_ne]; omega
                rw [if_neg (fun h => hn9 h.1)] at hL0
                rw [if_neg (fun h => hs9 h.1)] at hL1
                subst hL0 hL1
                clear hn9 hs9
                go_wp2_with fail
                refine QS.out.mono ?_
                rintro r w7 ⟨rfl, rfl⟩
                go_wp2_with fail
                go_roundw
                case rel => exact ⟨k + 1, M2, by omega, by go_num, O5.out⟩
                case measure => simp [intOf]; omega
    · have hkk : k = l.length := by omega
      subst hkk
      have d1 : decide ((l.length : Int) < (l.length : Int)) = false := decide_eq_false (by omega)
      have d2 : decide (l.length < l.length) = false := decide_eq_false (by omega)
      go_wp2
      go_ret
      exact ⟨rfl, HO.out.below⟩
end
end Go.Proofs.Ytjeekhgkcphnpaa
