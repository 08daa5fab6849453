/- The walk of the law FrameAll. -/
import Derived.Test.YtkllaghfiofnjaaDoorLaw4B
namespace Go.Proofs.YtkllaghfiofnjaaDoor
open Go.RowKit

/-- The four forms' cells. -/
def formCells : Array Value := #[.bool false, .bool false, .bool true, .bool false, .bool false, .bool true, .bool true, .bool true]
theorem formCells_at (k : Nat) (h : k < 4) : formCells[k * 2]? = some (.bool (decide (k % 2 = 1))) ∧ formCells[k * 2 + 1]? = some (.bool (decide (2 ≤ k))) := by
  rcases (by omega : k = 0 ∨ k = 1 ∨ k = 2 ∨ k = 3) with rfl | rfl | rfl | rfl <;> exact ⟨rfl, rfl⟩

set_option maxRecDepth 100000 in
set_option maxHeartbeats 1000000 in
theorem frameAll_walk (a0 : Int) (a1 : Option Addr) (len1 cap1 : Nat) (z1 : List Int) (w : World) (hg : Handle w) (w0 : (Lit.int .u16 a0).wf = true) (w1 : IsRow .u8 w a1 len1 cap1 z1) :
    Calls Tryd.prog 8 #[.int .u16 a0, .slice a1 len1 cap1] w fun e w' => e = .returned (.bool true) ∧ Below w.heap.size w w' := by
  obtain ⟨bs, hbl, hr⟩ := w1.bytes
  rw [← hbl] at hr ⊢
  have hmax := hr.2.1
  unfold maxLen at hmax
  obtain ⟨ha0, ha1⟩ := u16_of_wf w0
  have HR := Lib.hid hr
  have HG := Lib.hid hg
  have HAW := Lib.hid (awake4_any _ hg)
  clear w0 w1 hr hbl hg
  go_enter Tryd.func8, Tryd.ntmps8
  go_wp2_with fail
  (with_reducible refine HAW.out.mono ?_)
  rintro e w1 ⟨rfl, hb⟩
  have B1 := Lib.hid hb
  have hbl : Blk (w1.alloc (.cells formCells 24)) w1.heap.size 24 formCells := Blk.new w1 _ _
  have b2 := hb.alloc hb.size (.cells formCells 24)
  have HB := Lib.hid hbl
  have B2 := Lib.hid b2
  clear hb HAW hbl b2
  by_cases hbig : (bs.length : Int) > 50
  · go_wp2_with fail
    go_ret
    exact ⟨rfl, B1.out⟩
  · obtain ⟨g, hgg⟩ : ∃ g, g = w1.heap.size := ⟨_, rfl⟩
    rw [← hgg] at HB
    have HGG := Lib.hid hgg
    clear hgg
    go_wp2_with fail
    rw [← HGG.out]
    have hg2 : g < (w1.alloc (.cells formCells 24)).heap.size := by rw [HGG.out]; simp
    have hgw : w.heap.size ≤ g := by rw [HGG.out]; exact B1.out.size
    clear hg2
    go_loopw [6] (fun i wr => ∃ k : Nat, k ≤ 300 ∧ i = .int .i64 k ∧ Below w.heap.size w wr ∧ Blk wr g 24 formCells) (fun i _ => 300 - (intOf i).toNat)
    case atStart => exact ⟨0, by omega, rfl, B2.out, HB.out⟩
    case round =>
      obtain ⟨k, hk, rfl, hb, hblk⟩ := hrel
      have B := Lib.hid hb
      have BK := Lib.hid hblk
      clear hb hblk
      by_cases hlt : k < 300
      · go_upto_region 9 with fail
        go_cut [7] (fun s wx => ∃ P : Int, s = .int .i64 P ∧ wx = wr)
        case first =>
          go_wp2
          go_meet
          exact ⟨_, rfl, rfl⟩
        case rest =>
          obtain ⟨P, rfl, rfl⟩ := hcut
          have HM := Lib.hid (may_any P wc)
          have HRM := Lib.hid (rmay_any P)
          have SB := Lib.hid (Pure.sendErr_false P bs.length)
          have SG := Lib.hid (fun h => (Pure.sendErr_true P bs.length h).trans (if_neg (by omega)))
          have MN := Lib.hid (Pure.may_nat P)
          obtain ⟨mm, hm⟩ : ∃ mm, mm = Pure.may P := ⟨_, rfl⟩
          rw [← hm] at HM HRM SB SG MN
          clear hm
          go_wp2_with fail
          (with_reducible refine HM.out.mono ?_)
          rintro e wA ⟨rfl, hkA⟩
          have BA := Lib.hid (Below.quiet B.out hkA B.out.size)
          have BKA := Lib.hid (BK.out.keeps hkA (fun h => h))
          clear hkA
          go_wp2_with fail
          (with_reducible refine (HRM.out _).mono ?_)
          rintro e wA' ⟨rfl, rfl⟩
          go_wp2_with fail
          go_loopw [8] (fun j wr => ∃ k : Nat, k ≤ 4 ∧ j = .int .i64 k ∧ Below w.heap.size w wr ∧ Blk wr g 24 formCells) (fun j _ => 4 - (intOf j).toNat)
          case atStart => exact ⟨0, by omega, rfl, BA.out, BKA.out⟩
          case round =>
            obtain ⟨j, hj, rfl, hb, hblk⟩ := hrel
            have BJ := Lib.hid hb
            have BKJ := Lib.hid hblk
            clear hb hblk BA BKA
            by_cases hjl : j < 4
            · have c0 : wr.cell? ⟨g, j * 2, none⟩ = some (.bool (decide (j % 2 = 1))) := by rw [BKJ.out.cell]; exact (formCells_at j hjl).1
              have c1 : wr.cell? ⟨g, j * 2 + 1, none⟩ = some (.bool (decide (2 ≤ j))) := by rw [BKJ.out.cell]; exact (formCells_at j hjl).2
              obtain ⟨a, ha⟩ : ∃ a, a = decide (j % 2 = 1) := ⟨_, rfl⟩
              obtain ⟨q, hq⟩ : ∃ q, q = decide (2 ≤ j) := ⟨_, rfl⟩
              rw [← ha] at c0
              rw [← hq] at c1
              have HAQ := Lib.hid (And.intro ha hq)
              clear ha hq
              have hi0 : (0 : Int) ≤ (j : Int) := by omega
              have hi1 : (j : Int) < 4 := by omega
              have hgl : g < wr.heap.size := BKJ.out.lt
              cases mm
              · have HE := Lib.hid (Encode_any _ P _ bs a q wr (HG.out.below BJ.out) (HR.out.keeps (Keeps.new BJ.out) (fun _ _ h => h)) (fun b hb => Nat.lt_of_lt_of_le hb BJ.out.size))
                go_wp2_with fail
                (with_reducible refine HE.out.mono ?_)
                rintro e wE ⟨hbE, hE⟩
                rw [SB.out (by first | rfl | trivial)] at hE
                have BE := Lib.hid (BJ.out.trans (hbE.mono BJ.out.size))
                have BKE := Lib.hid (BKJ.out.below hbE hgl)
                rcases hE with ⟨_, rfl⟩ | ⟨h, _⟩
                · clear hbE c0 c1 HE
                  go_wp2_with fail
                  (with_reducible refine (HRM.out _).mono ?_)
                  rintro e wE' ⟨rfl, rfl⟩
                  go_wp2_with fail
                  go_roundw
                  case rel => exact ⟨j + 1, by omega, by go_num, BE.out, BKE.out⟩
                  case measure => simp [intOf]; omega
                · cases h
              · obtain ⟨n, rfl, hn1, hn2, hn3, hn4⟩ := MN.out (by first | rfl | trivial)
                have hmay : Pure.may n = true := by
                  by_cases h : Pure.may n = true
                  · exact h
                  · have := SB.out
                    exfalso
                    have h2 := SG.out (by first | rfl | trivial)
                    rw [Pure.sendErr_false _ _ (by simpa using h)] at h2
                    cases h2
                obtain ⟨L, hL⟩ : ∃ L, L = Pure.enc n bs a q := ⟨_, rfl⟩
                have hLl : L.length ≤ 54 := by
                  rw [hL]
                  have := Pure.head_le n a q
                  unfold Pure.enc
                  rw [List.length_append]; omega
                have HE := Lib.hid (Encode_good _ n n rfl _ bs a q L wr (HG.out.below BJ.out) (HR.out.keeps (Keeps.new BJ.out) (fun _ _ h => h)) (fun b hb => Nat.lt_of_lt_of_le hb BJ.out.size) hmay (by omega) hL.symm)
                have HDL := Lib.hid (by rw [hL]; exact Pure.dec_enc n bs a q a q hn1 hn2 hn3 hn4 (by omega) (fun _ h => h) (fun _ h => h) : Pure.dec L a q = (n, bs, 0))
                clear hL hmay
                go_wp2_with fail
                (with_reducible refine HE.out.mono ?_)
                rintro e wE ⟨uE, rfl, hoE, hbE⟩
                have bE := BJ.out.trans (hbE.mono BJ.out.size)
                have BE := Lib.hid bE
                have BKE := Lib.hid (BKJ.out.below hbE hgl)
                have HD := Lib.hid (Decode_is _ _ L a q (n, bs, 0) wE (HG.out.below bE) (Row.of_own hoE) (fun b hb => ownsRow_lt hoE b hb) (by omega) HDL.out)
                obtain ⟨AE, cE, rfl⟩ := own_form hoE
                have hglE : g < wE.heap.size := BKE.out.lt
                clear c0 c1 hbE hoE HE bE
                have c0 : wE.cell? ⟨g, j * 2, none⟩ = some (.bool a) := by rw [BKE.out.cell, HAQ.out.1]; exact (formCells_at j hjl).1
                have c1 : wE.cell? ⟨g, j * 2 + 1, none⟩ = some (.bool q) := by rw [BKE.out.cell, HAQ.out.2]; exact (formCells_at j hjl).2
                go_wp2_with fail
                (with_reducible refine (HRM.out _).mono ?_)
                rintro e wE' ⟨rfl, rfl⟩
                go_wp2_with fail
                (with_reducible refine HD.out.mono ?_)
                rintro e wD ⟨hbD, uD, rfl, hoD⟩
                obtain ⟨AD, cD, rfl⟩ := own_form hoD
                have bD := BE.out.trans (hbD.mono BE.out.size)
                have BKD := Lib.hid (BKE.out.below hbD hglE)
                have HS := Lib.hid (same_any _ _ _ _ bs bs wD (Row.of_own hoD) (HR.out.keeps (Keeps.new bD) (fun _ _ h => h)))
                rw [decide_eq_true rfl] at HS
                have BD := Lib.hid bD
                clear hbD hoD bD HD c0 c1
                go_wp2_with fail
                (with_reducible refine HS.out.mono ?_)
                rintro e wS ⟨rfl, hkS⟩
                have BS := Lib.hid (Below.quiet BD.out hkS BD.out.size)
                have BKS := Lib.hid (BKD.out.keeps hkS (fun h => h))
                clear hkS HS
                go_wp2_with fail
                go_roundw
                case rel => exact ⟨j + 1, by omega, by go_num, BS.out, BKS.out⟩
                case measure => simp [intOf]; omega
            · obtain rfl : j = 4 := by omega
              go_wp2_with fail
              go_roundw
              case rel => exact ⟨k + 1, by omega, by go_num, BJ.out, BKJ.out⟩
              case measure => simp [intOf]; omega
      · go_wp2_with fail
        go_ret
        exact ⟨rfl, B.out⟩
end Go.Proofs.YtkllaghfiofnjaaDoor
