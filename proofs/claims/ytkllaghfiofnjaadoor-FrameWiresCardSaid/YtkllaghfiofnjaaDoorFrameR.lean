/- Contract of the document's Encode. -/
import Derived.Test.YtkllaghfiofnjaaDoorFrameG
namespace Go.Proofs.YtkllaghfiofnjaaDoor
open Go.RowKit

namespace Pure
/-- The form of a protocol: of LCP nothing is left out. -/
def keepA (p : Nat) (a : Bool) : Bool := a && decide (p ≠ 49185)
theorem lead_keep (p : Nat) (a : Bool) : lead p a = if keepA p a then [] else [255, 3] := rfl
theorem top_keep (p : Nat) (q : Bool) : (top p q = [] ∧ keepA p q = true ∧ decide (255 < (p : Int)) = false) ∨ (top p q = [UInt8.ofNat (p / 256)] ∧ (keepA p q = false ∨ (keepA p q = true ∧ (p : Int) > 255))) := by
  unfold top keepA
  by_cases h : p < 256
  · have hp : p ≠ 49185 := by omega
    cases q
    · exact .inr ⟨by simp, .inl (by simp)⟩
    · exact .inl ⟨by simp [h], by simp [hp], by simp; omega⟩
  · have h2 : (p : Int) > 255 := by omega
    by_cases hp : p = 49185
    · exact .inr ⟨by simp [h], .inl (by simp [hp])⟩
    · cases q
      · exact .inr ⟨by simp, .inl (by simp)⟩
      · exact .inr ⟨by simp [h], .inr ⟨by simp [hp], h2⟩⟩
end Pure

set_option maxRecDepth 100000 in
set_option maxHeartbeats 1000000 in
theorem rencode_in (F : Nat → Prop) (p : Nat) (x : Value) (bs : List UInt8) (a q : Bool) (w : World) (hr : Row w F 1 x bs.length (u8s bs)) (hF : ∀ b, F b → b < w.heap.size) (hp : p ≤ 65535) (hm : Pure.may p = true) (hl : bs.length ≤ 1516) :
    Calls Tryd.prog 17 #[.int .i64 p, x, .agg #[.bool a, .bool q]] w fun e w' => Below w.heap.size w w' ∧ ∃ u, e = .returned (.tuple #[u, .int .i64 0]) ∧ w'.ownsRow w.heap.size 5 1 u (Pure.enc p bs a q).length (u8s (Pure.enc p bs a q)) := by
  have HR := Lib.hid hr
  have HF := Lib.hid hF
  obtain ⟨A, c, rfl, hc⟩ := hr.form
  have TW := Lib.hid (Pure.top_keep p q)
  have LK := Lib.hid (Pure.lead_keep p a)
  have HH := Lib.hid (show Pure.enc p bs a q = Pure.lead p a ++ (Pure.top p q ++ [UInt8.ofNat p]) ++ bs from rfl)
  have LL := Lib.hid (show (Pure.lead p a).length ≤ 2 by rw [Pure.lead_length]; split <;> omega)
  have TL := Lib.hid (show (Pure.top p q).length ≤ 1 by rw [Pure.top_length]; split <;> omega)
  have MA := Lib.hid (rmay_any p)
  have KA := Lib.hid (show Pure.keepA p a = (a && decide (p ≠ 49185)) from rfl)
  have KQ := Lib.hid (show Pure.keepA p q = (q && decide (p ≠ 49185)) from rfl)
  rw [hm] at MA
  obtain ⟨L, hL⟩ : ∃ L, L = Pure.lead p a := ⟨_, rfl⟩
  obtain ⟨T, hT⟩ : ∃ T, T = Pure.top p q := ⟨_, rfl⟩
  obtain ⟨E, hE⟩ : ∃ E, E = Pure.enc p bs a q := ⟨_, rfl⟩
  obtain ⟨ka, hka⟩ : ∃ ka, ka = Pure.keepA p a := ⟨_, rfl⟩
  obtain ⟨kq, hkq⟩ : ∃ kq, kq = Pure.keepA p q := ⟨_, rfl⟩
  rw [← hL] at HH LL LK
  rw [← hT] at TW HH TL
  rw [← hE] at HH ⊢
  rw [← hka] at LK KA
  rw [← hkq] at TW KQ
  have N1 := Lib.hid (fun W : World => row_new W [255, 3] #[.int .u8 255, .int .u8 3] 2 rfl rfl (by simp))
  have N2 := Lib.hid (fun W : World => row_new W [UInt8.ofNat (p / 256)] #[.int .u8 ((p : Int) / 256)] 1 (by simp [UInt8.toNat_ofNat']; omega) rfl (by simp))
  have N3 := Lib.hid (fun W : World => row_new W [UInt8.ofNat p] #[.int .u8 ((p : Int) % 256)] 1 (by simp [UInt8.toNat_ofNat']) rfl (by simp))
  have B0 := Lib.hid ((Below.refl w.heap.size w).alloc (Nat.le_refl _) (.cells #[.bool a, .bool q] 24))
  have hblk : Blk (w.alloc (.cells #[.bool a, .bool q] 24)) w.heap.size 24 #[.bool a, .bool q] := Blk.new w _ _
  have HB := Lib.hid hblk
  have hl2 : ¬ (bs.length : Int) > 1516 := by omega
  clear hblk hr hF hm hL hT hE hka hkq
  go_enter Tryd.func17, Tryd.ntmps17
  go_wp2_with fail
  refine (MA.out _).mono ?_
  rintro e w1 ⟨rfl, rfl⟩
  go_upto_if 16 with fail
  go_cut [17] (fun s wx => Blk wx w.heap.size 24 #[.bool ka, .bool kq] ∧ Below w.heap.size w wx)
  case first =>
    by_cases hp2 : p = 49185
    · have h1 : ((p : Int) == 49185) = true := by rw [beq_iff_eq]; omega
      have h2 : ka = false := by rw [KA.out, hp2]; simp
      have h3 : kq = false := by rw [KQ.out, hp2]; simp
      have H2 := Lib.hid h2
      have H3 := Lib.hid h3
      clear hp2 h2 h3
      go_wp2
      go_meet
      exact ⟨by rw [H2.out, H3.out]; exact Blk.new w _ _, (Below.refl _ _).alloc (Nat.le_refl _) _⟩
    · have h1 : ((p : Int) == 49185) = false := by rw [beq_eq_false_iff_ne]; omega
      have h2 : ka = a := by rw [KA.out]; simp [hp2]
      have h3 : kq = q := by rw [KQ.out]; simp [hp2]
      have H2 := Lib.hid h2
      have H3 := Lib.hid h3
      clear hp2 h2 h3
      go_wp2
      go_meet
      exact ⟨by rw [H2.out, H3.out]; exact HB.out, B0.out⟩
  case rest =>
    obtain ⟨hK, hB⟩ := hcut
    have KB := Lib.hid hK
    have BB := Lib.hid hB
    have c0 : wc.cell? ⟨w.heap.size, 0, none⟩ = some (.bool ka) := by rw [hK.cell]; rfl
    have c1 : wc.cell? ⟨w.heap.size, 1, none⟩ = some (.bool kq) := by rw [hK.cell]; rfl
    have hnil : wc.ownsRow w.heap.size 5 1 (.slice none 0 0) 0 (u8s []) := ⟨by simp, .inl ⟨rfl, rfl⟩⟩
    have ON := Lib.hid hnil
    clear hnil hK hB HB B0 MA
    go_upto_if 20 with fail
    go_cut [8] (fun s wx => wx.ownsRow w.heap.size 5 1 s L.length (u8s L) ∧ Blk wx w.heap.size 24 #[.bool ka, .bool kq] ∧ Below w.heap.size w wx)
    case first =>
      cases ka
      · have hL := LK.out
        rw [if_neg (by simp)] at hL
        have HL := Lib.hid hL
        clear hL LK KA
        go_wp2_with (at_builtin; refine stopHere ?_)
        unfold Hid
        refine wp_append_u8 rfl (.tmp 21) (.tmp 22) rfl w.heap.size (.slice none 0 0) _ [] rfl rfl (ON.out.alloc _) _ _ [255, 3] rfl (N1.out wc) (by simp) (by have := BB.out.size; simp; omega) ?_
        intro v3 w3 hown3 hg3 hat3
        have O3 := Lib.hid hown3
        have K3 := Lib.hid ((KB.out.alloc (.cells #[.int .u8 255, .int .u8 3] 5)).grown hg3 (by simp [Value.ownBlock]))
        have B3 := Lib.hid (Below.grown (BB.out.alloc BB.out.size (.cells #[.int .u8 255, .int .u8 3] 5)) hg3 (by have := BB.out.size; simp; omega) (by simp [Value.ownBlock]))
        clear hown3 hg3 hat3
        go_wp2
        go_meet
        exact ⟨by rw [HL.out]; exact O3.out, K3.out, B3.out⟩
      · have hL := LK.out
        rw [if_pos rfl] at hL
        have HL := Lib.hid hL
        clear hL LK KA
        go_wp2
        go_meet
        exact ⟨by rw [HL.out]; exact ON.out, KB.out, BB.out⟩
    case rest =>
      obtain ⟨hO, hK, hB⟩ := hcut
      have OB := Lib.hid hO
      have KB2 := Lib.hid hK
      have BB2 := Lib.hid hB
      have c1 : wc.cell? ⟨w.heap.size, 1, none⟩ = some (.bool kq) := by rw [hK.cell]; rfl
      clear hO hK hB ON N1 LK KA KB BB
      go_upto_region 10 with fail
      go_cut [30] (fun s wx => ((s = .bool true ∧ T = [UInt8.ofNat (p / 256)]) ∨ (s = .bool false ∧ T = [])) ∧ wx = wc)
      case first =>
        rcases TW.out with ⟨hT, rfl, h1⟩ | ⟨hT, rfl | ⟨rfl, h1⟩⟩
        all_goals
          have HT := Lib.hid hT
          clear hT
          go_wp2
          go_meet
          first | exact ⟨.inl ⟨rfl, HT.out⟩, rfl⟩ | exact ⟨.inr ⟨rfl, HT.out⟩, rfl⟩
      case rest =>
        obtain ⟨hcut, rfl⟩ := hcut
        have HCUT := Lib.hid hcut
        clear hcut TW c1 KQ KB2
        go_upto_if 30 with fail
        go_cut [8] (fun s wx => wx.ownsRow w.heap.size 5 1 s (L ++ T).length (u8s (L ++ T)) ∧ Below w.heap.size w wx)
        case first =>
          rcases HCUT.out with ⟨rfl, hT⟩ | ⟨rfl, hT⟩
          · have HT := Lib.hid hT
            clear hT
            go_wp2_with (at_builtin; refine stopHere ?_)
            unfold Hid
            refine wp_append_u8 rfl (.tmp 31) (.tmp 35) rfl w.heap.size u8 _ L rfl rfl (OB.out.alloc _) _ _ [UInt8.ofNat (p / 256)] rfl (N2.out wc) (by have := LL.out; simp; omega) (by have := BB2.out.size; simp; omega) ?_
            intro v3 w3 hown3 hg3 hat3
            have O3 := Lib.hid hown3
            have B3 := Lib.hid (Below.grown (BB2.out.alloc BB2.out.size (.cells #[.int .u8 ((p : Int) / 256)] 5)) hg3 (by have := BB2.out.size; simp; omega) (fun k hk => ownsRow_ge OB.out k hk))
            clear hown3 hg3 hat3
            go_wp2
            go_meet
            exact ⟨by rw [HT.out]; exact O3.out, B3.out⟩
          · have HT := Lib.hid hT
            clear hT
            go_wp2
            go_meet
            exact ⟨by rw [HT.out, List.append_nil]; exact OB.out, BB2.out⟩
        case rest =>
          obtain ⟨hO, hB⟩ := hcut
          have OC := Lib.hid hO
          have BC := Lib.hid hB
          have hlen : (L ++ T).length ≤ 3 := by have := LL.out; have := TL.out; simp; omega
          obtain ⟨M, hM⟩ : ∃ M, M = L ++ T := ⟨_, rfl⟩
          have HM := Lib.hid hM
          rw [← hM] at OC hlen
          clear hO hB HCUT OB BB2 hM
          have hHH : E = M ++ [UInt8.ofNat p] ++ bs := by rw [HH.out, HM.out]; simp
          have HHH := Lib.hid hHH
          clear hHH HH HM
          go_wp2_with (at_builtin; refine stopHere ?_)
          unfold Hid
          refine wp_append_u8 rfl (.tmp 37) (.tmp 40) rfl w.heap.size _ _ M rfl rfl (OC.out.alloc _) _ _ [UInt8.ofNat p] rfl (N3.out _) (by simp; omega) (by have := BC.out.size; simp; omega) ?_
          intro v3 w3 hown3 hg3 hat3
          have O3 := Lib.hid hown3
          have B3 := Lib.hid (Below.grown (BC.out.alloc BC.out.size (.cells #[.int .u8 ((p : Int) % 256)] 5)) hg3 (by have := BC.out.size; simp; omega) (fun k hk => ownsRow_ge OC.out k hk))
          clear hown3 hg3 hat3
          go_wp2_with (at_builtin; refine stopHere ?_)
          unfold Hid
          refine wp_append_u8 rfl (.tmp 41) (.tmp 42) rfl w.heap.size _ _ (M ++ [UInt8.ofNat p]) rfl rfl O3.out _ _ bs rfl (HR.out.keeps (Keeps.new B3.out) (fun _ _ h => h)) (by simp; omega) B3.out.size ?_
          intro v4 w4 hown4 hg4 hat4
          rw [← HHH.out] at hown4
          have O4 := Lib.hid hown4
          have B4 := Lib.hid (Below.grown B3.out hg4 B3.out.size (fun k hk => ownsRow_ge O3.out k hk))
          clear hown4 hg4 hat4
          go_wp2
          go_ret2
          exact ⟨B4.out, _, rfl, O4.out⟩

theorem rencode_any (F : Nat → Prop) (p : Int) (x : Value) (bs : List UInt8) (a q : Bool) (w : World) (hr : Row w F 1 x bs.length (u8s bs)) (hF : ∀ b, F b → b < w.heap.size) :
    Calls Tryd.prog 17 #[.int .i64 p, x, .agg #[.bool a, .bool q]] w (Encodes w p bs a q) := by
  cases hm : Pure.may p
  · have hk : Pure.sendErr p bs.length = 1 := Pure.sendErr_false p _ hm
    have HK := Lib.hid hk
    obtain ⟨A, c, rfl, hc⟩ := hr.form
    have MA := Lib.hid (rmay_any p)
    rw [hm] at MA
    have B0 := Lib.hid ((Below.refl w.heap.size w).alloc (Nat.le_refl _) (.cells #[.bool a, .bool q] 24))
    clear hm hk hr hF
    go_enter Tryd.func17, Tryd.ntmps17
    go_wp2_with fail
    refine (MA.out _).mono ?_
    rintro e w1 ⟨rfl, rfl⟩
    go_wp2
    go_ret2
    exact ⟨B0.out, .inl ⟨by rw [HK.out]; simp, by rw [HK.out]; rfl⟩⟩
  · by_cases hl : bs.length ≤ 1516
    · obtain ⟨n, rfl, hn, _⟩ := Pure.may_nat p hm
      have hk : Pure.sendErr n bs.length = 0 := by rw [Pure.sendErr_true _ _ hm, if_neg (by omega)]
      refine (rencode_in F n x bs a q w hr hF hn hm hl).mono ?_
      rintro e w' ⟨hb, u, rfl, ho⟩
      exact ⟨hb, .inr ⟨hk, u, rfl, by rw [Int.toNat_natCast]; exact ho⟩⟩
    · have hk : Pure.sendErr p bs.length = 3 := by rw [Pure.sendErr_true _ _ hm, if_pos (by omega)]
      have HK := Lib.hid hk
      obtain ⟨A, c, rfl, hc⟩ := hr.form
      have MA := Lib.hid (rmay_any p)
      rw [hm] at MA
      have B0 := Lib.hid ((Below.refl w.heap.size w).alloc (Nat.le_refl _) (.cells #[.bool a, .bool q] 24))
      have hl2 : (bs.length : Int) > 1516 := by omega
      clear hm hk hr hF hl
      go_enter Tryd.func17, Tryd.ntmps17
      go_wp2_with fail
      refine (MA.out _).mono ?_
      rintro e w1 ⟨rfl, rfl⟩
      go_wp2
      go_ret2
      exact ⟨B0.out, .inl ⟨by rw [HK.out]; simp, by rw [HK.out]; rfl⟩⟩
end Go.Proofs.YtkllaghfiofnjaaDoor
