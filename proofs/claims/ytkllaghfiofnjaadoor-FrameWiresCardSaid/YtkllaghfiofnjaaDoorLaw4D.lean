/- The walk of the law FrameWires. -/
import Derived.Test.YtkllaghfiofnjaaDoorLaw4C
namespace Go.Proofs.YtkllaghfiofnjaaDoor
open Go.RowKit

set_option maxRecDepth 100000 in
set_option maxHeartbeats 1000000 in
theorem frameWires_walk (a0 : Int) (a1 : Option Addr) (len1 cap1 : Nat) (z1 : List Int) (a2 b2 : Bool) (m2 : Int) (w : World) (hg : Handle w) (w0 : (Lit.int .i64 a0).wf = true) (w1 : IsRow .u8 w a1 len1 cap1 z1) (w2 : (Lit.int .u32 m2).wf = true) :
    Calls Tryd.prog 5 #[.int .i64 a0, .slice a1 len1 cap1, .agg #[.bool a2, .bool b2, .int .u32 m2]] w fun e w' => e = .returned (.bool true) ∧ Below w.heap.size w w' := by
  obtain ⟨bs, hbl, hr⟩ := w1.bytes
  obtain ⟨m, rfl⟩ : ∃ m : Nat, m2 = m := ⟨m2.toNat, by have := u32_of_wf w2; omega⟩
  have hmm : m < 4294967296 := by have := u32_of_wf w2; omega
  rw [← hbl] at hr ⊢
  have hmax := hr.2.1
  unfold maxLen at hmax
  have HR := Lib.hid hr
  have hb0 := (Below.refl w.heap.size w).alloc (Nat.le_refl _) (.cells #[.bool a2, .bool b2, .int .u32 m] 40)
  have HB := Lib.hid (Blk.new w 40 #[.bool a2, .bool b2, .int .u32 m])
  have HG := Lib.hid hg
  have B0 := Lib.hid hb0
  have HAW := Lib.hid (awake4_any _ (hg.below hb0))
  clear w0 w1 w2 hr hbl hb0 hg
  go_enter Tryd.func5, Tryd.ntmps5
  go_wp2_with fail
  (with_reducible refine HAW.out.mono ?_)
  rintro e w1 ⟨rfl, hb⟩
  have hblk := HB.out.below hb (by simp)
  have b1 := B0.out.trans (hb.mono B0.out.size)
  have B1 := Lib.hid b1
  have HB1 := Lib.hid hblk
  clear hb hblk b1 HAW
  by_cases hbig : (bs.length : Int) > 2000
  · go_wp2_with fail
    go_ret
    exact ⟨rfl, B1.out⟩
  · have c0 : w1.cell? ⟨w.heap.size, 0, none⟩ = some (.bool a2) := by rw [HB1.out.cell]; rfl
    have c1 : w1.cell? ⟨w.heap.size, 1, none⟩ = some (.bool b2) := by rw [HB1.out.cell]; rfl
    have cm : w1.cell? ⟨w.heap.size, 2, none⟩ = some (.int .u32 m) := by rw [HB1.out.cell]; rfl
    have hF : ∀ b, b < w.heap.size → b < w.heap.size := fun _ h => h
    have HE := Lib.hid ((Wire_any _ a0 _ bs a2 b2 m w1 (HG.out.below B1.out) (HR.out.keeps (Keeps.new B1.out) (fun _ _ h => h)) (fun b hb => Nat.lt_of_lt_of_le hb B1.out.size) hmm).mono fun _ _ h => h.row)
    obtain ⟨L, hL⟩ : ∃ L, L = Pure.lineR a0 bs a2 b2 m := ⟨_, rfl⟩
    obtain ⟨K, hK⟩ : ∃ K, K = Pure.sendErr a0 bs.length := ⟨_, rfl⟩
    have HLK := Lib.hid (And.intro hL hK)
    rw [← hL, ← hK] at HE
    clear hF hL hK
    go_wp2_with fail
    (with_reducible refine HE.out.mono ?_)
    rintro e w2 ⟨hb2, u2, rfl, ho2⟩
    obtain ⟨A2, c2, rfl⟩ := own_form ho2
    have hblk2 := HB1.out.below hb2 HB1.out.lt
    have b2' := B1.out.trans (hb2.mono B1.out.size)
    have O2 := Lib.hid (ownsRow_base (base' := 0) ho2 (Nat.zero_le _))
    have HE2 := Lib.hid ((rwire_any _ a0 _ bs a2 b2 m w2 (HR.out.keeps (Keeps.new b2') (fun _ _ h => h)) (fun b hb => Nat.lt_of_lt_of_le hb b2'.size) hmm).mono fun _ _ h => h.row)
    rw [← HLK.out.1, ← HLK.out.2] at HE2
    have c0 : w2.cell? ⟨w.heap.size, 0, none⟩ = some (.bool a2) := by rw [hblk2.cell]; rfl
    have c1 : w2.cell? ⟨w.heap.size, 1, none⟩ = some (.bool b2) := by rw [hblk2.cell]; rfl
    have cm : w2.cell? ⟨w.heap.size, 2, none⟩ = some (.int .u32 m) := by rw [hblk2.cell]; rfl
    have B2 := Lib.hid b2'
    have HB2 := Lib.hid hblk2
    clear hb2 ho2 hblk2 b2' HE HB1 B1
    go_wp2_with fail
    (with_reducible refine HE2.out.mono ?_)
    rintro e w3 ⟨hb3, u3, rfl, ho3⟩
    obtain ⟨A3, c3, rfl⟩ := own_form ho3
    have hblk3 := HB2.out.below hb3 HB2.out.lt
    have b3 := B2.out.trans (hb3.mono B2.out.size)
    have O23 := Lib.hid (own_below O2.out hb3)
    have O3 := Lib.hid (ownsRow_base (base' := 0) ho3 (Nat.zero_le _))
    have HD := Lib.hid (Read_any _ _ bs a2 b2 w3 (HG.out.below b3) (HR.out.keeps (Keeps.new b3) (fun _ _ h => h)) (fun b hb => Nat.lt_of_lt_of_le hb b3.size) (by omega))
    obtain ⟨S, hS⟩ : ∃ S, S = Pure.read bs a2 b2 := ⟨_, rfl⟩
    rw [← hS] at HD
    have HS := Lib.hid hS
    clear c0 c1 cm
    have c0 : w3.cell? ⟨w.heap.size, 0, none⟩ = some (.bool a2) := by rw [hblk3.cell]; rfl
    have c1 : w3.cell? ⟨w.heap.size, 1, none⟩ = some (.bool b2) := by rw [hblk3.cell]; rfl
    have cm : w3.cell? ⟨w.heap.size, 2, none⟩ = some (.int .u32 m) := by rw [hblk3.cell]; rfl
    have B3 := Lib.hid b3
    have HB3 := Lib.hid hblk3
    clear hb3 ho3 hblk3 b3 HE2 HB2 B2 O2 hS
    go_wp2_with fail
    (with_reducible refine HD.out.mono ?_)
    rintro e w4 ⟨hb4, u4, rfl, ho4⟩
    obtain ⟨A4, c4, rfl⟩ := own_form ho4
    have hblk4 := HB3.out.below hb4 HB3.out.lt
    have b4 := B3.out.trans (hb4.mono B3.out.size)
    have O24 := Lib.hid (own_below O23.out hb4)
    have O34 := Lib.hid (own_below O3.out hb4)
    have O4 := Lib.hid (ownsRow_base (base' := 0) ho4 (Nat.zero_le _))
    have HD2 := Lib.hid (rread_any _ _ bs a2 b2 w4 (HR.out.keeps (Keeps.new b4) (fun _ _ h => h)) (fun b hb => Nat.lt_of_lt_of_le hb b4.size) (by omega))
    rw [← HS.out] at HD2
    clear c0 c1 cm
    have c0 : w4.cell? ⟨w.heap.size, 0, none⟩ = some (.bool a2) := by rw [hblk4.cell]; rfl
    have c1 : w4.cell? ⟨w.heap.size, 1, none⟩ = some (.bool b2) := by rw [hblk4.cell]; rfl
    have cm : w4.cell? ⟨w.heap.size, 2, none⟩ = some (.int .u32 m) := by rw [hblk4.cell]; rfl
    have B4 := Lib.hid b4
    have HB4 := Lib.hid hblk4
    clear hb4 ho4 hblk4 b4 HD HB3 B3 O23 O3
    go_wp2_with fail
    (with_reducible refine HD2.out.mono ?_)
    rintro e w5 ⟨hb5, u5, rfl, ho5⟩
    obtain ⟨A5, c5, rfl⟩ := own_form ho5
    have O25 := Lib.hid (own_below O24.out hb5)
    have O35 := Lib.hid (own_below O34.out hb5)
    have O45 := Lib.hid (own_below O4.out hb5)
    have O5 := Lib.hid (ownsRow_base (base' := 0) ho5 (Nat.zero_le _))
    have B5 := Lib.hid (B4.out.trans (hb5.mono B4.out.size))
    have HS1 := Lib.hid (same_any _ _ _ _ L L w5 (Row.of_own O25.out) (Row.of_own O35.out))
    rw [decide_eq_true rfl] at HS1
    clear hb5 ho5 HD2 O24 O34 O4 c0 c1 cm
    go_wp2_with fail
    (with_reducible refine HS1.out.mono ?_)
    rintro e w6 ⟨rfl, hk6⟩
    have O46 := Lib.hid (ownsRow_keeps O45.out hk6 (fun _ _ h => h))
    have O56 := Lib.hid (ownsRow_keeps O5.out hk6 (fun _ _ h => h))
    have B6 := Lib.hid (Below.quiet B5.out hk6 B5.out.size)
    clear hk6 HS1
    have HS2 := Lib.hid (same_any _ _ _ _ S.2.1 S.2.1 w6 (Row.of_own O46.out) (Row.of_own O56.out))
    rw [decide_eq_true rfl] at HS2
    go_wp2_with fail
    (with_reducible refine HS2.out.mono ?_)
    rintro e w9 ⟨rfl, hk9⟩
    have B9 := Lib.hid (Below.quiet B6.out hk9 B6.out.size)
    clear hk9
    go_wp2_with fail
    go_ret
    exact ⟨rfl, B9.out⟩
end Go.Proofs.YtkllaghfiofnjaaDoor
