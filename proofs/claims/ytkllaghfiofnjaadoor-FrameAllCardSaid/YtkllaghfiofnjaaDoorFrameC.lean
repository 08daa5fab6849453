/- Contracts of package frame: head, Encode. -/
import Derived.Test.YtkllaghfiofnjaaDoorFrameB
import Derived.Test.YtkllaghfiofnjaaDoorAppend
import Derived.Test.YtkllaghfiofnjaaDoorSlices
namespace Go.Proofs.YtkllaghfiofnjaaDoor
open Go.RowKit

/-- A form's block. -/
def FormAt (w : World) (g : Nat) (a q : Bool) : Prop := w.cell? ⟨g, 0, none⟩ = some (.bool a) ∧ w.cell? ⟨g, 1, none⟩ = some (.bool q)
set_option maxRecDepth 100000 in
set_option maxHeartbeats 2000000 in
theorem head_any (p : Nat) (a q : Bool) (w : World) (hp : p ≤ 65535) :
    Calls Tryd.prog 35 #[.int .i64 p, .agg #[.bool a, .bool q]] w fun e w' => ∃ u, e = .returned u ∧ w'.ownsRow w.heap.size 5 1 u (Pure.head p a q).length (u8s (Pure.head p a q)) ∧ Below w.heap.size w w' := by
  have LW := Lib.hid (Pure.lead_ways p a)
  have TW := Lib.hid (Pure.top_ways p q)
  have HH := Lib.hid (show Pure.head p a q = Pure.lead p a ++ (Pure.top p q ++ [UInt8.ofNat p]) from rfl)
  have LL := Lib.hid (show (Pure.lead p a).length ≤ 2 by rw [Pure.lead_length]; split <;> omega)
  have TL := Lib.hid (show (Pure.top p q).length ≤ 1 by rw [Pure.top_length]; split <;> omega)
  obtain ⟨L, hL⟩ : ∃ L, L = Pure.lead p a := ⟨_, rfl⟩
  obtain ⟨T, hT⟩ : ∃ T, T = Pure.top p q := ⟨_, rfl⟩
  obtain ⟨H, hH⟩ : ∃ H, H = Pure.head p a q := ⟨_, rfl⟩
  rw [← hL] at LW HH LL
  rw [← hT] at TW HH TL
  rw [← hH] at HH ⊢
  clear hL hT hH
  have N1 := Lib.hid (fun W : World => row_new W [255, 3] #[.int .u8 255, .int .u8 3] 2 rfl rfl (by simp))
  have N2 := Lib.hid (fun W : World => row_new W [UInt8.ofNat (p / 256)] #[.int .u8 ((p : Int) / 256)] 1 (by simp [UInt8.toNat_ofNat']; omega) rfl (by simp))
  have N3 := Lib.hid (fun W : World => row_new W [UInt8.ofNat p] #[.int .u8 ((p : Int) % 256)] 1 (by simp [UInt8.toNat_ofNat']) rfl (by simp))
  have B0 := Lib.hid ((Below.refl w.heap.size w).alloc (Nat.le_refl _) (.cells #[.bool a, .bool q] 24))
  have hblk : Blk (w.alloc (.cells #[.bool a, .bool q] 24)) w.heap.size 24 #[.bool a, .bool q] := Blk.new w _ _
  have HB := Lib.hid hblk
  clear hblk
  go_enter Tryd.func35, Tryd.ntmps35
  go_upto_region 2 with fail
  go_cut [13] (fun s wx => ((s = .bool true ∧ L = [255, 3]) ∨ (s = .bool false ∧ L = [])) ∧ wx = (w.alloc (.cells #[.bool a, .bool q] 24)))
  case first =>
    rcases LW.out with ⟨hL, rfl, h1⟩ | ⟨hL, rfl | ⟨rfl, h1⟩⟩
    all_goals
      have HL := Lib.hid hL
      clear hL
      go_wp2
      go_meet
      first | exact ⟨.inl ⟨rfl, HL.out⟩, rfl⟩ | exact ⟨.inr ⟨rfl, HL.out⟩, rfl⟩
  case rest =>
    obtain ⟨hcut, rfl⟩ := hcut
    have W0 := Lib.hid (⟨HB.out, B0.out, B0.out.size⟩ : Blk (w.alloc (.cells #[.bool a, .bool q] 24)) w.heap.size 24 #[.bool a, .bool q] ∧ Below w.heap.size w (w.alloc (.cells #[.bool a, .bool q] 24)) ∧ w.heap.size ≤ (w.alloc (.cells #[.bool a, .bool q] 24)).heap.size)
    obtain ⟨wA, hwA⟩ : ∃ wA, wA = (w.alloc (.cells #[.bool a, .bool q] 24)) := ⟨_, rfl⟩
    rw [← hwA] at W0 ⊢
    clear hwA HB B0
    have hnil : wA.ownsRow w.heap.size 5 1 (.slice none 0 0) 0 (u8s []) := ⟨by simp, .inl ⟨rfl, rfl⟩⟩
    have ON := Lib.hid hnil
    clear hnil
    have HCUT := Lib.hid hcut
    clear hcut LW
    go_upto_if 13 with fail
    go_cut [5] (fun s wx => wx.ownsRow w.heap.size 5 1 s L.length (u8s L) ∧ Blk wx w.heap.size 24 #[.bool a, .bool q] ∧ Below w.heap.size w wx)
    case first =>
      rcases HCUT.out with ⟨rfl, hL⟩ | ⟨rfl, hL⟩
      · have HL := Lib.hid hL
        clear hL
        go_wp2_with (at_builtin; refine stopHere ?_)
        unfold Hid
        refine wp_append_u8 rfl (.tmp 14) (.tmp 15) rfl w.heap.size (.slice none 0 0) _ [] rfl rfl (ON.out.alloc _) _ _ [255, 3] rfl (N1.out wA) (by simp) (by have := W0.out.2.2; simp; omega) ?_
        intro v3 w3 hown3 hg3 hat3
        have O3 := Lib.hid hown3
        have K3 := Lib.hid ((W0.out.1.alloc (.cells #[.int .u8 255, .int .u8 3] 5)).grown hg3 (by simp [Value.ownBlock]))
        have B3 := Lib.hid (Below.grown (W0.out.2.1.alloc W0.out.2.2 (.cells #[.int .u8 255, .int .u8 3] 5)) hg3 (by have := W0.out.2.2; simp; omega) (by simp [Value.ownBlock]))
        clear hown3 hg3 hat3
        go_wp2
        go_meet
        exact ⟨by rw [HL.out]; exact O3.out, K3.out, B3.out⟩
      · have HL := Lib.hid hL
        clear hL
        go_wp2
        go_meet
        exact ⟨by rw [HL.out]; exact ON.out, W0.out.1, W0.out.2.1⟩
    case rest =>
      obtain ⟨hO, hK, hB⟩ := hcut
      have OB := Lib.hid hO
      have KB := Lib.hid hK
      have BB := Lib.hid hB
      clear hO hK hB W0 ON HCUT N1
      have c1 : wc.cell? ⟨w.heap.size, 1, none⟩ = some (.bool q) := by rw [KB.out.cell]; rfl
      go_upto_region 5 with fail
      go_cut [20] (fun s wx => ((s = .bool true ∧ T = [UInt8.ofNat (p / 256)]) ∨ (s = .bool false ∧ T = [])) ∧ wx = wc)
      case first =>
        rcases TW.out with ⟨hT, rfl, h1⟩ | ⟨hT, h1 | ⟨h1, rfl⟩⟩
        all_goals
          have HT := Lib.hid hT
          clear hT
          go_wp2
          go_meet
          first | exact ⟨.inl ⟨rfl, HT.out⟩, rfl⟩ | exact ⟨.inr ⟨rfl, HT.out⟩, rfl⟩
      case rest =>
        obtain ⟨hcut, rfl⟩ := hcut
        have HCUT := Lib.hid hcut
        clear hcut TW c1
        rcases HCUT.out with ⟨rfl, hT⟩ | ⟨rfl, hT⟩
        · have HT := Lib.hid hT
          clear hT
          go_wp2_with (at_builtin; refine stopHere ?_)
          unfold Hid
          refine wp_append_u8 rfl (.tmp 28) (.tmp 30) rfl w.heap.size u5 _ L rfl rfl (OB.out.alloc _) _ _ [UInt8.ofNat (p / 256)] rfl (N2.out wc) (by have := LL.out; simp; omega) (by have := BB.out.size; simp; omega) ?_
          intro v4 w4 hown4 hg4 hat4
          have OC := Lib.hid (by rw [← HT.out] at hown4; exact hown4 : w4.ownsRow w.heap.size 5 1 v4 (L ++ T).length (u8s (L ++ T)))
          have BC := Lib.hid (Below.grown (BB.out.alloc BB.out.size (.cells #[.int .u8 ((p : Int) / 256)] 5)) hg4 (by have := BB.out.size; simp; omega) (fun k hk => ownsRow_ge OB.out k hk))
          clear hown4 hg4 hat4
          go_wp2_with (at_builtin; refine stopHere ?_)
          unfold Hid
          refine wp_append_u8 rfl (.tmp 32) (.tmp 35) rfl w.heap.size v4 _ (L ++ T) rfl rfl (OC.out.alloc _) _ _ [UInt8.ofNat p] rfl (N3.out _) (by have := LL.out; have := TL.out; simp; omega) (by have := BC.out.size; simp; omega) ?_
          intro v3 w3 hown3 hg3 hat3
          rw [List.append_assoc, ← HH.out] at hown3
          have O3 := Lib.hid hown3
          have B3 := Lib.hid (Below.grown (BC.out.alloc BC.out.size (.cells #[.int .u8 ((p : Int) % 256)] 5)) hg3 (by have := BC.out.size; simp; omega) (fun k hk => ownsRow_ge OC.out k hk))
          clear hown3 hg3 hat3
          go_wp2
          go_ret
          exact ⟨_, rfl, O3.out, B3.out⟩
        · have HT := Lib.hid hT
          clear hT
          have OC := Lib.hid (by rw [HT.out, List.append_nil]; exact OB.out : wc.ownsRow w.heap.size 5 1 u5 (L ++ T).length (u8s (L ++ T)))
          have BC := BB
          go_wp2_with (at_builtin; refine stopHere ?_)
          unfold Hid
          refine wp_append_u8 rfl (.tmp 32) (.tmp 35) rfl w.heap.size u5 _ (L ++ T) rfl rfl (OC.out.alloc _) _ _ [UInt8.ofNat p] rfl (N3.out _) (by have := LL.out; have := TL.out; simp; omega) (by have := BC.out.size; simp; omega) ?_
          intro v3 w3 hown3 hg3 hat3
          rw [List.append_assoc, ← HH.out] at hown3
          have O3 := Lib.hid hown3
          have B3 := Lib.hid (Below.grown (BC.out.alloc BC.out.size (.cells #[.int .u8 ((p : Int) % 256)] 5)) hg3 (by have := BC.out.size; simp; omega) (fun k hk => ownsRow_ge OC.out k hk))
          clear hown3 hg3 hat3
          go_wp2
          go_ret
          exact ⟨_, rfl, O3.out, B3.out⟩
end Go.Proofs.YtkllaghfiofnjaaDoor
