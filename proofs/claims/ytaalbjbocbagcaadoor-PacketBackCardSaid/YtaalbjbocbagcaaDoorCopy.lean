/- The document's Copy. -/
import Derived.Test.YtaalbjbocbagcaaDoorBase
namespace Go.Proofs.YtaalbjbocbagcaaDoor
open Go.RowKit

set_option maxHeartbeats 1000000 in
theorem copy_any (F : Nat → Prop) (x : Value) (bs : List UInt8) (w : World) (hr : Row w F 1 x bs.length (u8s bs)) (hF : ∀ b, F b → b < w.heap.size) (hl : bs.length ≤ 100000000000000) :
    Calls Tryd.prog 23 #[x] w fun e w' => ∃ u, e = .returned u ∧ w'.ownsRow w.heap.size 5 1 u bs.length (u8s bs) ∧ Below w.heap.size w w' := by
  obtain ⟨A, c, rfl, hc⟩ := hr.form
  have hm := hr.2.1
  unfold maxLen at hm
  have HR := Lib.hid hr
  have HF := Lib.hid hF
  clear hr hF
  obtain ⟨i0, hi0, hz0, hz1, hz2⟩ := info_parts u8_info
  have I := Lib.hid (And.intro hi0 (And.intro hz0 (And.intro hz1 hz2)))
  clear hi0 hz0 hz1 hz2
  go_enter Tryd.func23, Tryd.ntmps23
  go_wp2_with fail
  go_loopw [3, 4] (fun u i wr => ∃ k : Nat, k ≤ bs.length ∧ i = .int .i64 k ∧ wr.ownsRow w.heap.size 5 1 u k (u8s (bs.take k)) ∧ Below w.heap.size w wr) (fun _ i _ => bs.length - (intOf i).toNat)
  case atStart => exact ⟨0, by omega, rfl, ⟨by simp, .inl ⟨rfl, rfl⟩⟩, Below.refl _ _⟩
  case round =>
    obtain ⟨k, hk, rfl, hown, hb⟩ := hrel
    have O := Lib.hid hown
    have B := Lib.hid hb
    clear hown hb
    by_cases hlt : k < bs.length
    · obtain ⟨b, off, rfl, hbF, hcell⟩ := (HR.out.keeps (Keeps.new B.out) (fun _ _ h => h)).cellAt (by omega)
      have cb := hcell k _ (u8s_at bs k hlt)
      obtain ⟨X, hX⟩ : ∃ X : Nat, X = (bs.getD k 0).toNat := ⟨_, rfl⟩
      have hX2 : X < 256 := by rw [hX]; exact (bs.getD k 0).toNat_lt
      rw [← hX] at cb
      have HXX := Lib.hid hX
      have hi0 : (0 : Int) ≤ (k : Int) := by omega
      have hi1 : (k : Int) < (bs.length : Int) := by omega
      have hrow1 : Row (wr.alloc (.cells #[.int .u8 X] 5)) (fun _ => True) 1 (.slice (some ⟨wr.heap.size, 0, none⟩) 1 1) 1 [.int .u8 X] :=
        Row.block (Blk.new wr 5 #[.int .u8 X]) trivial rfl (by simp [maxLen]) (Nat.le_refl _)
      have HRow := Lib.hid hrow1
      have hsz := B.out.size
      clear hX hcell hrow1
      go_wp2_with (at_builtin; refine stopHere ?_)
      unfold Hid
      obtain ⟨hi0', hz0, hz1, hz2⟩ := I.out
      refine wpList_append_row rfl (.tmp 11) (.tmp 16) _ rfl w.heap.size 5 i0 _ 1 1 Tryd.underlying23 hi0' hz0 hz1 hz2 rfl (by omega) u3 k (u8s (bs.take k))
        rfl (O.out.alloc _) _ _ 1 [.int .u8 X] rfl HRow.out (by simp [Value.oneCell']) (by simp only [maxLen]; omega) (by omega) (by simp; omega) ?_
      intro v3 w3 hown3 hg3 hat3
      have hown3' : w3.ownsRow w.heap.size 5 1 v3 (k + 1) (u8s (bs.take (k + 1))) := by
        have e1 : u8s (bs.take k) ++ [.int .u8 X] = u8s (bs.take (k + 1)) := by
          rw [List.take_succ_eq_append_getElem hlt]
          have := HXX.out
          rw [List.getD_eq_getElem?_getD, List.getElem?_eq_getElem hlt] at this
          rw [this]
          simp only [List.map_append, List.map_cons, List.map_nil, Option.getD_some]
        rw [← e1]
        exact hown3
      have hb3 := Below.grown (B.out.alloc hsz (.cells #[.int .u8 X] 5)) hg3 (by simp; omega) (fun q hq => (ownsRow_ge O.out q hq))
      have O3 := Lib.hid hown3'
      have B3 := Lib.hid hb3
      clear hown3 hown3' hg3 hat3 hb3 hi0' hz0 hz1 hz2 cb
      go_wp2
      go_roundw
      case rel => exact ⟨k + 1, by omega, by go_num, O3.out, B3.out⟩
      case measure => simp [intOf]; omega
    · have hk' : k = bs.length := by omega
      have e : bs.take k = bs := by rw [hk', List.take_length]
      rw [e, hk'] at O
      clear e hk'
      go_wp2
      go_ret
      exact ⟨_, rfl, O.out, B.out⟩

end Go.Proofs.YtaalbjbocbagcaaDoor
