/- Package packet: isByte, Encode. -/
import Derived.Test.YtaalbjbocbagcaaDoorPktE
import Derived.Test.YtaalbjbocbagcaaDoorSlices
namespace Go.Proofs.YtaalbjbocbagcaaDoor
open Go.RowKit
theorem isByte_any (n : Int) (w : World) : Calls Tryd.prog 24 #[.int .i64 n] w fun e w' => e = .returned (.bool (decide (0 ≤ n ∧ n ≤ 255))) ∧ w = w' := by
  by_cases h : 0 ≤ n
  · have d0 : decide (0 ≤ n) = true := decide_eq_true h
    have hd : decide (0 ≤ n ∧ n ≤ 255) = decide (n ≤ 255) := by simp [h]
    rw [hd]
    clear h hd
    go_enter Tryd.func24, Tryd.ntmps24
    go_wp2
    go_ret
    exact ⟨rfl, rfl⟩
  · have d0 : decide (0 ≤ n) = false := decide_eq_false h
    have hd : decide (0 ≤ n ∧ n ≤ 255) = false := by simp [h]
    rw [hd]
    clear h hd
    go_enter Tryd.func24, Tryd.ntmps24
    go_wp2
    go_ret
    exact ⟨rfl, rfl⟩
set_option maxRecDepth 100000 in
set_option maxHeartbeats 4000000 in
theorem encode_any (F : Nat → Prop) (v : Value) (p : Pure.Pkt) (w : World) (hF : ∀ b, F b → b < w.heap.size) (hr : Row w F 1 v p.data.length (u8s p.data)) :
    Calls Tryd.prog 10 #[pktV p v] w fun e w' => ∃ u, e = .returned (.tuple #[u, .int .i64 (((Pure.encode p).1 : Nat) : Int)]) ∧ w'.ownsRow w.heap.size 5 1 u (Pure.encode p).2.length (u8s (Pure.encode p).2) ∧ Below w.heap.size w w' := by
  obtain ⟨A, cA, rfl, hc⟩ := hr.form
  have hml := hr.2.1
  unfold maxLen at hml
  have HR := Lib.hid hr
  have HF := Lib.hid hF
  clear hr hF
  obtain ⟨c, i, l⟩ := p
  dsimp only at *
  have HBc := Lib.hid (fun w => isByte_any c w)
  have HBi := Lib.hid (fun w => isByte_any i w)
  obtain ⟨g, hg⟩ : ∃ g, g = w.heap.size := ⟨_, rfl⟩
  go_enter Tryd.func10, Tryd.ntmps10
  go_upto_region 1 with fail
  rw [← hg]
  generalize hw1 : w.alloc _ = w1
  have HB := Lib.hid (show Blk w1 g 28 #[.int .i64 c, .int .i64 i, .slice A l.length cA] by rw [← hw1, hg]; exact Blk.new w _ _)
  have HK := Lib.hid (show Keeps nobody w w1 by rw [← hw1]; exact (Keeps.refl _ w).alloc _)
  have HZ := Lib.hid (show w1.heap.size = g + 1 by rw [← hw1, hg]; simp)
  have HG := Lib.hid hg
  clear hw1 hg
  have c0 : w1.cell? ⟨g, 0, none⟩ = some (.int .i64 c) := by rw [HB.out.cell]; rfl
  have c1 : w1.cell? ⟨g, 1, none⟩ = some (.int .i64 i) := by rw [HB.out.cell]; rfl
  have c2 : w1.cell? ⟨g, 2, none⟩ = some (.slice A l.length cA) := by rw [HB.out.cell]; rfl
  obtain ⟨od, hod⟩ : ∃ b, b = decide (Pure.Pkt.odd ⟨c, i, l⟩) := ⟨_, rfl⟩
  obtain ⟨bc, hbc⟩ : ∃ b, b = decide (0 ≤ c ∧ c ≤ 255) := ⟨_, rfl⟩
  obtain ⟨bi, hbi⟩ : ∃ b, b = decide (0 ≤ i ∧ i ≤ 255) := ⟨_, rfl⟩
  have hob : od = (!bc || !bi) := by
    have ho : Pure.Pkt.odd ⟨c, i, l⟩ ↔ (c < 0 ∨ 255 < c ∨ i < 0 ∨ 255 < i) := Iff.rfl
    rw [hod, hbc, hbi, Bool.eq_iff_iff]
    simp only [ho, decide_eq_true_eq, Bool.or_eq_true, Bool.not_eq_true', decide_eq_false_iff_not]
    omega
  rw [← hbc] at HBc
  rw [← hbi] at HBi
  have HOD := Lib.hid hod
  clear hod hbc hbi
  go_cut [6] (fun v wx => v = .bool od ∧ w1 = wx)
  case first =>
    have HOB := Lib.hid hob
    clear hob
    cases bc
    · go_wp2_with fail
      refine (HBc.out _).mono ?_
      rintro e w2 ⟨rfl, rfl⟩
      go_wp2
      go_meet
      exact ⟨by rw [HOB.out]; rfl, rfl⟩
    · go_wp2_with fail
      refine (HBc.out _).mono ?_
      rintro e w2 ⟨rfl, rfl⟩
      go_wp2_with fail
      refine (HBi.out _).mono ?_
      rintro e w2 ⟨rfl, rfl⟩
      go_wp2
      go_meet
      exact ⟨by rw [HOB.out]; rfl, rfl⟩
  case rest =>
    obtain ⟨rfl, rfl⟩ := hcut
    clear hob HBc HBi
    cases od
    · have ho : ¬ Pure.Pkt.odd ⟨c, i, l⟩ := of_decide_eq_false HOD.out.symm
      have hci : 0 ≤ c ∧ c ≤ 255 ∧ 0 ≤ i ∧ i ≤ 255 := by unfold Pure.Pkt.odd at ho; dsimp only at ho; omega
      by_cases hl : 1496 < l.length
      · have he := Pure.encode_long ho hl
        have HE := Lib.hid he
        have d0 : decide ((1496 : Int) < (l.length : Int)) = true := decide_eq_true (by omega)
        clear he ho
        go_wp2
        go_ret2
        exact ⟨_, by rw [HE.out]; rfl, by rw [HE.out]; exact World.ownsRow_nil _ _ _ _, HK.out.to_below⟩
      · have he := Pure.encode_ok ho hl
        have d0 : decide ((1496 : Int) < (l.length : Int)) = false := decide_eq_false (by omega)
        obtain ⟨n, hn⟩ : ∃ n, n = l.length + 4 := ⟨_, rfl⟩
        have en : (4 : Int) + (l.length : Int) = (n : Int) := by omega
        obtain ⟨x1, hx1⟩ : ∃ x, x = UInt8.ofNat c.toNat := ⟨_, rfl⟩
        obtain ⟨x2, hx2⟩ : ∃ x, x = UInt8.ofNat i.toNat := ⟨_, rfl⟩
        obtain ⟨x3, hx3⟩ : ∃ x, x = UInt8.ofNat (n / 256) := ⟨_, rfl⟩
        obtain ⟨x4, hx4⟩ : ∃ x, x = UInt8.ofNat (n % 256) := ⟨_, rfl⟩
        have hby : Pure.Pkt.bytes ⟨c, i, l⟩ = [x1, x2, x3, x4] ++ l := by rw [hx1, hx2, hx3, hx4, hn]; rfl
        rw [hby] at he
        have f1 : c = (x1.toNat : Int) := by rw [hx1, UInt8.toNat_ofNat']; omega
        have f2 : i = (x2.toNat : Int) := by rw [hx2, UInt8.toNat_ofNat']; omega
        have f3 : (n : Int) / 256 = (x3.toNat : Int) := by rw [hx3, UInt8.toNat_ofNat']; omega
        have f4 : (n : Int) % 256 = (x4.toNat : Int) := by rw [hx4, UInt8.toNat_ofNat']; omega
        have hn2 : n ≤ 1500 := by omega
        subst f1 f2
        have HE := Lib.hid he
        have hx1l := x1.toNat_lt
        have hx2l := x2.toNat_lt
        have HLL := Lib.hid (show ([x1, x2, x3, x4] ++ l).length ≤ 1500 by simp; omega)
        clear he ho hby hx1 hx2 hx3 hx4 hn hci
        go_upto_region 7 with fail
        obtain ⟨q, hq⟩ : ∃ q, q = w1.heap.size := ⟨_, rfl⟩
        rw [← hq]
        generalize hw2 : w1.alloc _ = w2
        have hbw : w2.heap.size = q + 1 := by rw [← hw2, hq]; simp
        have hk2 : Keeps nobody w1 w2 := by rw [← hw2]; exact (Keeps.refl _ w1).alloc _
        have hrh : Row w2 (fun b => b < w2.heap.size) 1 (.slice (some ⟨q, 0, none⟩) 4 4) ([x1, x2, x3, x4] : List UInt8).length (u8s [x1, x2, x3, x4]) := by
          have h := row_new w1 [x1, x2, x3, x4] #[.int .u8 x1.toNat, .int .u8 x2.toNat, .int .u8 x3.toNat, .int .u8 x4.toNat] 4 rfl rfl (by simp)
          rw [hw2, ← hq] at h
          exact h.mono (fun b hb => by omega)
        have hrl : Row w2 (fun b => b < w2.heap.size) 1 (.slice A l.length cA) l.length (u8s l) := ((HR.out.keeps HK.out (fun _ _ h => h)).keeps hk2 (fun _ _ h => h)).mono (fun b hb => by have := HF.out b hb; have := HK.out.size; have := hk2.size; omega)
        have hk3 := (Keeps.refl nobody w2).alloc (.cells #[.slice (some ⟨q, 0, none⟩) 4 4, .slice A l.length cA] 23)
        have hparts : Parts (w2.alloc (.cells #[.slice (some ⟨q, 0, none⟩) 4 4, .slice A l.length cA] 23)) w2.heap.size (fun b => b < w2.heap.size) [(.slice (some ⟨q, 0, none⟩) 4 4, [x1, x2, x3, x4]), (.slice A l.length cA, l)] := by
          refine ⟨Blk.new w2 _ _, fun p hp => ?_⟩
          simp only [List.mem_cons, List.not_mem_nil, or_false] at hp
          rcases hp with rfl | rfl
          · exact hrh.keeps hk3 (fun _ _ h => h)
          · exact hrl.keeps hk3 (fun _ _ h => h)
        have c2' := cell_quiet c2 hk2
        have HP := Lib.hid hparts
        have HJ := Lib.hid (show joined [((.slice (some ⟨q, 0, none⟩) 4 4 : Value), [x1, x2, x3, x4]), (.slice A l.length cA, l)] = [x1, x2, x3, x4] ++ l by simp [joined])
        have HK3 := Lib.hid ((HK.out.trans hk2).trans hk3)
        have HW2 := Lib.hid (HK.out.trans hk2).size
        clear hw2 hk2 hrh hrl hparts hk3 c0 c1 c2 hq hbw f3 f4 en hn2
        go_wp2_with fail
        refine (concat_any (fun b => b < w2.heap.size) w2.heap.size [(.slice (some ⟨q, 0, none⟩) 4 4, [x1, x2, x3, x4]), (.slice A l.length cA, l)] _ HP.out (fun b hb => by simp; omega) (by simp) (by rw [HJ.out]; have := HLL.out; omega)).mono ?_
        rintro e w4 ⟨u2, rfl, hown, hb4⟩
        rw [HJ.out] at hown
        have HO := Lib.hid (ownsRow_base (base' := w.heap.size) hown (by have := HW2.out; simp; omega))
        have HB4 := Lib.hid (Below.quiet HK3.out.to_below (Keeps.new hb4) HK3.out.size)
        clear hown hb4
        go_wp2
        go_ret2
        exact ⟨u2, by rw [HE.out]; rfl, by rw [HE.out]; exact HO.out, HB4.out⟩
    · have ho : Pure.Pkt.odd ⟨c, i, l⟩ := of_decide_eq_true HOD.out.symm
      have HE := Lib.hid (Pure.encode_odd ho)
      clear ho
      go_wp2
      go_ret2
      exact ⟨_, by rw [HE.out]; rfl, by rw [HE.out]; exact World.ownsRow_nil _ _ _ _, HK.out.to_below⟩
end Go.Proofs.YtaalbjbocbagcaaDoor
