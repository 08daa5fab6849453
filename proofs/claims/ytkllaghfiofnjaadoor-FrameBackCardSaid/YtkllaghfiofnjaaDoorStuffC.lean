/- Contract of package stuff's Stuff. -/
import Derived.Test.YtkllaghfiofnjaaDoorStuffB
namespace Go.Proofs.YtkllaghfiofnjaaDoor
open Go.RowKit

theorem Pure.body_take (m : Nat) (b : List UInt8) (k : Nat) (h : k < b.length) : Pure.body m (b.take (k + 1)) = Pure.body m (b.take k) ++ Pure.escOf m (b.getD k 0) := by
  rw [List.take_succ_eq_append_getElem h, Pure.body_append, List.getD_eq_getElem?_getD, List.getElem?_eq_getElem h]
  simp [Pure.body]

set_option maxHeartbeats 2000000 in
theorem stuff_any (F : Nat → Prop) (x : Value) (bs : List UInt8) (m : Nat) (w : World) (hr : Row w F 1 x bs.length (u8s bs)) (hl : bs.length ≤ 10000000000) (hm : m < 4294967296) :
    Calls Tryd.prog 39 #[x, .int .u32 m] w fun e w' => ∃ u, e = .returned u ∧ w'.ownsRow w.heap.size 5 1 u (Pure.stuff m bs).length (u8s (Pure.stuff m bs)) ∧ Below w.heap.size w w' := by
  obtain ⟨A, c, rfl, hc⟩ := hr.form
  have HR := Lib.hid hr
  obtain ⟨i0, hi0, hz0, hz1, hz2⟩ := info_parts u8_info
  have I := Lib.hid (And.intro hi0 (And.intro hz0 (And.intro hz1 hz2)))
  clear hr hi0 hz0 hz1 hz2
  go_enter Tryd.func39, Tryd.ntmps39
  go_wp2_with (at_make; refine stopHere ?_)
  unfold Hid
  obtain ⟨hi0, hz0, hz1, hz2⟩ := I.out
  refine wpList_make_own _ rfl _ _ 25 rfl w.heap.size 5 i0 _ 1 Tryd.underlying25 hi0 hz0 hz1 .i64 .i64 _ (bs.length + 2) rfl rfl (by omega) (by rw [hz2]; omega) (by unfold maxLen; omega) (Nat.le_refl _) ?_
  intro w0 hown0 hg0
  have hb0 : Below w.heap.size w w0 := Below.grown (Below.refl _ w) hg0 (Nat.le_refl _) (by simp)
  have O0 := Lib.hid hown0
  have B0 := Lib.hid hb0
  clear hown0 hg0 hb0 hi0 hz0 hz1 hz2 I
  go_wp2_with (at_builtin; refine stopHere ?_)
  unfold Hid
  have hsz := B0.out.size
  refine wp_append_u8 rfl (.tmp 12) (.tmp 13) rfl w.heap.size _ 0 [] rfl rfl (O0.out.alloc _) _ _ [126] rfl (row_new w0 [126] _ 1 rfl rfl (by simp)) (by simp) (by simp; omega) ?_
  intro v1 w1 hown1 hg1 hat1
  have hb1 : Below w.heap.size w w1 := Below.grown (B0.out.alloc hsz _) hg1 (by simp; omega) (fun q hq => ownsRow_ge O0.out q hq)
  have O1 := Lib.hid hown1
  have B1 := Lib.hid hb1
  clear hown1 hg1 hb1 hat1 hsz O0 B0
  go_wp2_with fail
  go_loopw [5, 17] (fun u i wr => ∃ k : Nat, k ≤ bs.length ∧ i = .int .i64 k ∧ wr.ownsRow w.heap.size 5 1 u (126 :: Pure.body m (bs.take k)).length (u8s (126 :: Pure.body m (bs.take k))) ∧ Below w.heap.size w wr) (fun _ i _ => bs.length - (intOf i).toNat)
  case atStart => exact ⟨0, by omega, rfl, by simpa [Pure.body] using O1.out, B1.out⟩
  case round =>
    obtain ⟨k, hk, rfl, hown, hb⟩ := hrel
    have O := Lib.hid hown
    have B := Lib.hid hb
    have hsz := hb.size
    clear hown hb O1 B1
    have hbl : (Pure.body m (bs.take k)).length ≤ 2 * bs.length := by have := Pure.body_le m (bs.take k); rw [List.length_take] at this; omega
    by_cases hlt : k < bs.length
    · obtain ⟨b, off, rfl, hbF, hcell⟩ := (HR.out.keeps (Keeps.new B.out) (fun _ _ h => h)).cellAt (by omega)
      have cb := hcell k _ (u8s_at bs k hlt)
      obtain ⟨x, hx⟩ : ∃ x, x = bs.getD k 0 := ⟨_, rfl⟩
      have hE := Pure.body_take m bs k hlt
      rw [← hx] at cb hE
      have HE := Lib.hid hE
      have hM := mapped_any x m
      have HM := Lib.hid hM
      have hX32 := xor_u8_32 x
      have hi0 : (0 : Int) ≤ (k : Int) := by omega
      have hi1 : (k : Int) < (bs.length : Int) := by omega
      clear hcell hx hE hM
      go_upto_region 6 with fail
      go_cut [31] (fun s wx => s = .bool (Pure.escd m x) ∧ wr = wx)
      case first =>
        by_cases h1 : x.toNat = 126
        · have h1' : (x.toNat : Int) = 126 := by omega
          go_wp2
          go_meet
          exact ⟨by simp [Pure.escd, h1], rfl⟩
        · have h1' : ¬ (x.toNat : Int) = 126 := by omega
          by_cases h2 : x.toNat = 125
          · have h2' : (x.toNat : Int) = 125 := by omega
            go_wp2
            go_meet
            exact ⟨by simp [Pure.escd, h2], rfl⟩
          · have h2' : ¬ (x.toNat : Int) = 125 := by omega
            go_wp2_with (go_at_call 47; refine (HM.out _ hm).mono ?_; rintro e w' ⟨rfl, rfl⟩)
            go_meet
            exact ⟨by rw [show Pure.escd m x = Pure.mapd m x by simp [Pure.escd, h1, h2]]; simp [h1', h2'], rfl⟩
      case rest =>
        obtain ⟨rfl, rfl⟩ := hcut
        cases hesc : Pure.escd m x
        · have e1 : Pure.escOf m x = [x] := by simp [Pure.escOf, hesc]
          rw [e1] at HE
          have HRow := Lib.hid (row_new wr [x] #[.int .u8 x.toNat] 1 rfl rfl (by simp))
          clear hesc e1 cb hX32
          go_wp2_with (at_builtin; refine stopHere ?_)
          unfold Hid
          refine wp_append_u8 rfl (.tmp 37) (.tmp 39) rfl w.heap.size _ _ (126 :: Pure.body m (bs.take k)) rfl rfl (O.out.alloc _) _ _ [x] rfl HRow.out (by simp; omega) (by simp; omega) ?_
          intro v3 w3 hown3 hg3 hat3
          rw [List.cons_append, ← HE.out] at hown3
          have O3 := Lib.hid hown3
          have B3 := Lib.hid (Below.grown (B.out.alloc hsz (.cells #[.int .u8 x.toNat] 5)) hg3 (by simp; omega) (fun q hq => (ownsRow_ge O.out q hq)))
          clear hown3 hg3 hat3 HRow
          go_wp2
          go_roundw
          case rel => exact ⟨k + 1, by omega, by go_num, O3.out, B3.out⟩
          case measure => simp [intOf]; omega
        · have e1 : Pure.escOf m x = [125] ++ [x ^^^ 32] := by simp [Pure.escOf, hesc]
          rw [e1] at HE
          have HRow := Lib.hid (row_new wr [125] #[.int .u8 125] 1 rfl rfl (by simp))
          clear hesc e1 cb
          go_wp2_with (at_builtin; refine stopHere ?_)
          unfold Hid
          refine wp_append_u8 rfl (.tmp 32) (.tmp 33) rfl w.heap.size _ _ (126 :: Pure.body m (bs.take k)) rfl rfl (O.out.alloc _) _ _ [125] rfl HRow.out (by simp; omega) (by simp; omega) ?_
          intro v2 w2 hown2 hg2 hat2
          rw [List.cons_append] at hown2
          have O2 := Lib.hid hown2
          have B2 := Lib.hid (Below.grown (B.out.alloc hsz (.cells #[.int .u8 125] 5)) hg2 (by simp; omega) (fun q hq => (ownsRow_ge O.out q hq)))
          have hsz2 := B2.out.size
          have HRow2 := Lib.hid (row_new w2 [x ^^^ 32] #[.int .u8 (x ^^^ 32).toNat] 1 rfl rfl (by simp))
          clear hown2 hg2 hat2 HRow
          go_wp2_with (at_builtin; refine stopHere ?_)
          unfold Hid
          refine wp_append_u8 rfl (.tmp 37) (.tmp 39) rfl w.heap.size _ _ (126 :: (Pure.body m (bs.take k) ++ [125])) rfl rfl (O2.out.alloc _) _ _ [x ^^^ 32] rfl HRow2.out (by simp; omega) (by simp; omega) ?_
          intro v3 w3 hown3 hg3 hat3
          rw [List.cons_append, List.append_assoc, ← HE.out] at hown3
          have O3 := Lib.hid hown3
          have B3 := Lib.hid (Below.grown (B2.out.alloc hsz2 (.cells #[.int .u8 (x ^^^ 32).toNat] 5)) hg3 (by simp; omega) (fun q hq => (ownsRow_ge O2.out q hq)))
          clear hown3 hg3 hat3 HRow2 hX32
          go_wp2
          go_roundw
          case rel => exact ⟨k + 1, by omega, by go_num, O3.out, B3.out⟩
          case measure => simp [intOf]; omega
    · have hk' : k = bs.length := by omega
      have e : bs.take k = bs := by rw [hk', List.take_length]
      rw [e] at O
      clear hbl e
      have hbl := Pure.body_le m bs
      have HRow := Lib.hid (row_new wr [126] #[.int .u8 126] 1 rfl rfl (by simp))
      go_wp2_with (at_builtin; refine stopHere ?_)
      unfold Hid
      refine wp_append_u8 rfl (.tmp 42) (.tmp 43) rfl w.heap.size _ _ (126 :: Pure.body m bs) rfl rfl (O.out.alloc _) _ _ [126] rfl HRow.out (by simp; omega) (by simp; omega) ?_
      intro v3 w3 hown3 hg3 hat3
      rw [List.cons_append] at hown3
      have O3 := Lib.hid hown3
      have B3 := Lib.hid (Below.grown (B.out.alloc hsz (.cells #[.int .u8 126] 5)) hg3 (by simp; omega) (fun q hq => (ownsRow_ge O.out q hq)))
      clear hown3 hg3 hat3 HRow
      go_wp2
      go_ret
      exact ⟨_, rfl, O3.out, B3.out⟩
theorem esc_ways (m : Nat) (x : UInt8) (X : Nat) (hX : X = x.toNat) (hm : m < 4294967296) :
    (Pure.escd m x = true ∧ (X : Int) = 125) ∨ (Pure.escd m x = true ∧ ¬ (X : Int) = 125 ∧ (X : Int) = 126) ∨
    (Pure.escd m x = true ∧ ¬ (X : Int) = 125 ∧ ¬ (X : Int) = 126 ∧ (X : Int) < 32 ∧ bits .and .u32 ((m : Int) / 2 ^ X) 1 = 1) ∨
    (Pure.escd m x = false ∧ ¬ (X : Int) = 125 ∧ ¬ (X : Int) = 126 ∧ (X : Int) < 32 ∧ bits .and .u32 ((m : Int) / 2 ^ X) 1 = 0) ∨
    (Pure.escd m x = false ∧ ¬ (X : Int) = 125 ∧ ¬ (X : Int) = 126 ∧ ¬ (X : Int) < 32) := by
  have ha := and1_u32 m X hm
  unfold Pure.escd Pure.mapd
  rw [← hX]
  by_cases h1 : X = 125
  · exact .inl ⟨by simp [h1], by omega⟩
  · by_cases h2 : X = 126
    · exact .inr (.inl ⟨by simp [h2], by omega, by omega⟩)
    · by_cases h3 : X < 32
      · cases hb : m.testBit X
        · rw [hb] at ha
          exact .inr (.inr (.inr (.inl ⟨by simp [h1, h2], by omega, by omega, by omega, ha⟩)))
        · rw [hb] at ha
          exact .inr (.inr (.inl ⟨by simp [h3], by omega, by omega, by omega, ha⟩))
      · exact .inr (.inr (.inr (.inr ⟨by simp [h1, h2, h3], by omega, by omega, by omega⟩)))
end Go.Proofs.YtkllaghfiofnjaaDoor
