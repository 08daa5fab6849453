/- Contract of the document's Stuff. -/
import Derived.Test.YtkllaghfiofnjaaDoorStuffC
namespace Go.Proofs.YtkllaghfiofnjaaDoor
open Go.RowKit

theorem own_new (w : World) (l : List UInt8) (cs : Array Value) (n : Nat) (hc : cs = (u8s l).toArray) (hn : n = l.length) (hl : l.length ≤ 100000) :
    (w.alloc (.cells cs 5)).ownsRow w.heap.size 5 1 (.slice (some ⟨w.heap.size, 0, none⟩) n n) l.length (u8s l) := by
  subst hc hn
  refine ⟨by simp, .inr ⟨w.heap.size, l.length, (u8s l).toArray, rfl, Nat.le_refl _, Blk.new w 5 (u8s l).toArray, Nat.le_refl _, by unfold maxLen; omega, by simp, by simp [List.take_of_length_le]⟩⟩

set_option maxRecDepth 100000 in
set_option maxHeartbeats 2000000 in
theorem rstuff_any (F : Nat → Prop) (x : Value) (bs : List UInt8) (m : Nat) (w : World) (hr : Row w F 1 x bs.length (u8s bs)) (hl : bs.length ≤ 10000000000) (hm : m < 4294967296) :
    Calls Tryd.prog 41 #[x, .int .u32 m] w fun e w' => ∃ u, e = .returned u ∧ w'.ownsRow w.heap.size 5 1 u (Pure.stuff m bs).length (u8s (Pure.stuff m bs)) ∧ Below w.heap.size w w' := by
  obtain ⟨A, c, rfl, hc⟩ := hr.form
  have HR := Lib.hid hr
  have hmax := hr.2.1
  unfold maxLen at hmax
  have O1 := Lib.hid (own_new w [126] #[.int .u8 126] 1 rfl rfl (by simp))
  have B1 := Lib.hid ((Below.refl w.heap.size w).alloc (Nat.le_refl _) (.cells #[.int .u8 126] 5))
  clear hr
  go_enter Tryd.func41, Tryd.ntmps41
  go_wp2_with fail
  go_loopw [5, 6] (fun u i wr => ∃ k : Nat, k ≤ bs.length ∧ i = .int .i64 k ∧ wr.ownsRow w.heap.size 5 1 u (126 :: Pure.body m (bs.take k)).length (u8s (126 :: Pure.body m (bs.take k))) ∧ Below w.heap.size w wr) (fun _ i _ => bs.length - (intOf i).toNat)
  case atStart => exact ⟨0, by omega, rfl, by simpa [Pure.body] using O1.out, B1.out⟩
  case round =>
    obtain ⟨k, hk, rfl, hown, hb⟩ := hrel
    have O := Lib.hid hown
    have B := Lib.hid hb
    have hsz := hb.size
    clear hown hb O1 B1
    have hbl : (Pure.body m (bs.take k)).length ≤ 2 * bs.length := by have := Pure.body_le m (bs.take k); rw [List.length_take] at this; omega
    by_cases hlt : k < bs.length
    · obtain ⟨b, off, rfl, hbF, hcell⟩ := (HR.out.keeps (Keeps.new B.out) (fun _ _ h => h)).cellAt (by omega)
      have cb := hcell k _ (u8s_at bs k hlt)
      obtain ⟨x, hx⟩ : ∃ x, x = bs.getD k 0 := ⟨_, rfl⟩
      have hE := Pure.body_take m bs k hlt
      rw [← hx] at cb hE
      obtain ⟨X, hX⟩ : ∃ X, X = x.toNat := ⟨_, rfl⟩
      have hX2 : X < 256 := by rw [hX]; exact x.toNat_lt
      have hways := esc_ways m x X hX hm
      have hX32 := xor_u8_32 x
      obtain ⟨Y, hY⟩ : ∃ Y, Y = (x ^^^ 32).toNat := ⟨_, rfl⟩
      rw [← hX] at cb
      rw [← hX, ← hY] at hX32
      have hw : IntKind.u64.wrap (X : Int) = (X : Int) := by simp [IntKind.wrap, IntKind.bits, IntKind.signed]; omega
      have hi0 : (0 : Int) ≤ (k : Int) := by omega
      have hi1 : (k : Int) < (bs.length : Int) := by omega
      have hcase : (Pure.body m (bs.take (k + 1)) = Pure.body m (bs.take k) ++ [125, x ^^^ 32] ∧ ((X : Int) = 125 ∨ (¬ (X : Int) = 125 ∧ (X : Int) = 126) ∨ (¬ (X : Int) = 125 ∧ ¬ (X : Int) = 126 ∧ (X : Int) < 32 ∧ bits .and .u32 ((m : Int) / 2 ^ X) 1 = 1))) ∨
          (Pure.body m (bs.take (k + 1)) = Pure.body m (bs.take k) ++ [x] ∧ ((¬ (X : Int) = 125 ∧ ¬ (X : Int) = 126 ∧ (X : Int) < 32 ∧ bits .and .u32 ((m : Int) / 2 ^ X) 1 = 0) ∨ (¬ (X : Int) = 125 ∧ ¬ (X : Int) = 126 ∧ ¬ (X : Int) < 32))) := by
        unfold Pure.escOf at hE
        rcases hways with ⟨he, h⟩ | ⟨he, h⟩ | ⟨he, h⟩ | ⟨he, h⟩ | ⟨he, h⟩
        · rw [he] at hE; exact .inl ⟨hE, .inl h⟩
        · rw [he] at hE; exact .inl ⟨hE, .inr (.inl h)⟩
        · rw [he] at hE; exact .inl ⟨hE, .inr (.inr h)⟩
        · rw [he] at hE; exact .inr ⟨hE, .inl h⟩
        · rw [he] at hE; exact .inr ⟨hE, .inr h⟩
      have HY := Lib.hid hY
      have HX := Lib.hid hX
      clear hcell hx hE hways hX hY
      rcases hcase with ⟨hE, hw1⟩ | ⟨hE, hw1⟩
      · have HE := Lib.hid hE
        have HRow := Lib.hid (row_new wr [125, x ^^^ 32] #[.int .u8 125, .int .u8 Y] 2 (by rw [HY.out]; rfl) rfl (by simp))
        clear hE
        have hw2 : ((X : Int) == 125) = true ∨ (((X : Int) == 125) = false ∧ ((X : Int) == 126) = true) ∨ (((X : Int) == 125) = false ∧ ((X : Int) == 126) = false ∧ (X : Int) < 32 ∧ bits .and .u32 ((m : Int) / 2 ^ X) 1 = 1) := by
          simpa only [beq_iff_eq, beq_eq_false_iff_ne, ne_eq] using hw1
        clear hw1
        rcases hw2 with h1 | ⟨h1, h2⟩ | ⟨h1, h2, h3, h4⟩
        all_goals
          go_wp2_with (at_builtin; refine stopHere ?_)
          unfold Hid
          refine wp_append_u8 rfl (.tmp 37) (.tmp 40) rfl w.heap.size _ _ (126 :: Pure.body m (bs.take k)) rfl rfl (O.out.alloc _) _ _ [125, x ^^^ 32] rfl HRow.out (by simp; omega) (by simp; omega) ?_
          intro v3 w3 hown3 hg3 hat3
          rw [List.cons_append, ← HE.out] at hown3
          have O3 := Lib.hid hown3
          have B3 := Lib.hid (Below.grown (B.out.alloc hsz (.cells #[.int .u8 125, .int .u8 Y] 5)) hg3 (by simp; omega) (fun q hq => (ownsRow_ge O.out q hq)))
          clear hown3 hg3 hat3
          go_wp2
          go_roundw
          case rel => exact ⟨k + 1, by omega, by go_num, O3.out, B3.out⟩
          case measure => simp [intOf]; omega
      · have HE := Lib.hid hE
        have HRow := Lib.hid (row_new wr [x] #[.int .u8 X] 1 (by rw [HX.out]; rfl) rfl (by simp))
        clear hE
        rcases hw1 with ⟨h1, h2, h3, h4⟩ | ⟨h1, h2, h3⟩
        all_goals
          have g1 : ((X : Int) == 125) = false := by rw [beq_eq_false_iff_ne]; exact h1
          have g2 : ((X : Int) == 126) = false := by rw [beq_eq_false_iff_ne]; exact h2
          go_wp2_with (at_builtin; refine stopHere ?_)
          unfold Hid
          refine wp_append_u8 rfl (.tmp 42) (.tmp 44) rfl w.heap.size _ _ (126 :: Pure.body m (bs.take k)) rfl rfl (O.out.alloc _) _ _ [x] rfl HRow.out (by simp; omega) (by simp; omega) ?_
          intro v3 w3 hown3 hg3 hat3
          rw [List.cons_append, ← HE.out] at hown3
          have O3 := Lib.hid hown3
          have B3 := Lib.hid (Below.grown (B.out.alloc hsz (.cells #[.int .u8 X] 5)) hg3 (by simp; omega) (fun q hq => (ownsRow_ge O.out q hq)))
          clear hown3 hg3 hat3
          go_wp2
          go_roundw
          case rel => exact ⟨k + 1, by omega, by go_num, O3.out, B3.out⟩
          case measure => simp [intOf]; omega
    · have hk' : k = bs.length := by omega
      have e : bs.take k = bs := by rw [hk', List.take_length]
      rw [e] at O
      clear hbl e
      have hbl := Pure.body_le m bs
      have HRow := Lib.hid (row_new wr [126] #[.int .u8 126] 1 rfl rfl (by simp))
      go_wp2_with (at_builtin; refine stopHere ?_)
      unfold Hid
      refine wp_append_u8 rfl (.tmp 46) (.tmp 47) rfl w.heap.size _ _ (126 :: Pure.body m bs) rfl rfl (O.out.alloc _) _ _ [126] rfl HRow.out (by simp; omega) (by simp; omega) ?_
      intro v3 w3 hown3 hg3 hat3
      rw [List.cons_append] at hown3
      have O3 := Lib.hid hown3
      have B3 := Lib.hid (Below.grown (B.out.alloc hsz (.cells #[.int .u8 126] 5)) hg3 (by simp; omega) (fun q hq => (ownsRow_ge O.out q hq)))
      clear hown3 hg3 hat3 HRow
      go_wp2
      go_ret
      exact ⟨_, rfl, O3.out, B3.out⟩
end Go.Proofs.YtkllaghfiofnjaaDoor
