/- Contracts of the document's Wire, Read. -/
import Derived.Test.YtkllaghfiofnjaaDoorFrameR
import Derived.Test.YtkllaghfiofnjaaDoorFrameS
import Derived.Test.YtkllaghfiofnjaaDoorFcsR
import Derived.Test.YtkllaghfiofnjaaDoorStuffM
namespace Go.Proofs.YtkllaghfiofnjaaDoor
open Go.RowKit

set_option maxHeartbeats 1000000 in
theorem rwire_any (F : Nat → Prop) (p : Int) (x : Value) (bs : List UInt8) (a q : Bool) (m : Nat) (w : World) (hr : Row w F 1 x bs.length (u8s bs)) (hF : ∀ b, F b → b < w.heap.size) (hm : m < 4294967296) :
    Calls Tryd.prog 21 #[.int .i64 p, x, .agg #[.bool a, .bool q], .int .u32 m] w (Wires w p bs a q m) := by
  have HR := Lib.hid hr
  have HF := Lib.hid hF
  obtain ⟨A, c, rfl, hc⟩ := hr.form
  have B0 := Lib.hid ((Below.refl w.heap.size w).alloc (Nat.le_refl _) (.cells #[.bool a, .bool q] 24))
  have HE := Lib.hid (rencode_any F p _ bs a q (w.alloc (.cells #[.bool a, .bool q] 24)) (HR.out.keeps (Keeps.new B0.out) (fun _ _ h => h)) (fun b hb => Nat.lt_of_lt_of_le (HF.out b hb) B0.out.size))
  obtain ⟨K, hK⟩ : ∃ K, K = Pure.sendErr p bs.length := ⟨_, rfl⟩
  obtain ⟨C, hC⟩ : ∃ C, C = Pure.enc p.toNat bs a q := ⟨_, rfl⟩
  have hCl := Pure.enc_le p.toNat bs a q
  have hSZ : K = 0 → bs.length ≤ 1516 := fun h => (Pure.sendErr_zero (hK ▸ h : Pure.sendErr p bs.length = 0)).2
  have HK := Lib.hid hK
  have HC := Lib.hid hC
  have HSZ := Lib.hid hSZ
  rw [← hC] at hCl
  clear hr hF hK hC hSZ
  go_enter Tryd.func21, Tryd.ntmps21
  go_wp2_with fail
  refine HE.out.mono ?_
  rintro e w1 ⟨hb1, h⟩
  have B1 := Lib.hid (B0.out.trans (hb1.mono B0.out.size))
  clear HE
  rw [← HK.out, ← HC.out] at h
  rcases h with ⟨hk, rfl⟩ | ⟨hk, u, rfl, ho⟩
  · have hn : ((K : Int) != 0) = true := by simp; omega
    have HK2 := Lib.hid hk
    clear hk hb1
    go_wp2_with fail
    go_ret2
    exact ⟨B1.out, .inl ⟨by rw [← HK.out]; exact HK2.out, by rw [← HK.out]; rfl⟩⟩
  · have hl := HSZ.out hk
    have o1 := ownsRow_base (base' := w.heap.size) ho B0.out.size
    have HA := Lib.hid (refAdd16_any _ u C w1 (Row.of_own ho) (fun b hb => ownsRow_lt ho b hb) (by omega))
    have HK2 := Lib.hid hk
    obtain ⟨A1, c1, rfl⟩ := own_form ho
    clear hk ho hb1 o1
    go_wp2_with fail
    refine HA.out.mono ?_
    rintro e w2 ⟨u2, rfl, ho2, hb2⟩
    have B2 := Lib.hid (B1.out.trans (hb2.mono B1.out.size))
    have hal := Pure.add16_length C
    obtain ⟨A2, c2, rfl⟩ := own_form ho2
    have HS := Lib.hid (rstuff_any _ _ (Pure.add16 C) m w2 (Row.of_own ho2) (by omega) hm)
    clear ho2 hb2 hal HA
    go_wp2_with fail
    refine HS.out.mono ?_
    rintro e w3 ⟨u3, rfl, ho3, hb3⟩
    have B3 := Lib.hid (B2.out.trans (hb3.mono B2.out.size))
    have O3 := Lib.hid (ownsRow_base (base' := w.heap.size) ho3 B2.out.size)
    clear ho3 hb3 HS
    go_wp2
    go_ret2
    exact ⟨B3.out, .inr ⟨by rw [← HK.out]; exact HK2.out, u3, rfl, by unfold Pure.line; rw [← HC.out]; exact O3.out⟩⟩

set_option maxHeartbeats 1000000 in
theorem rread_any (F : Nat → Prop) (x : Value) (bs : List UInt8) (a q : Bool) (w : World) (hr : Row w F 1 x bs.length (u8s bs)) (hF : ∀ b, F b → b < w.heap.size) (hl : bs.length ≤ 100000000000000) :
    Calls Tryd.prog 23 #[x, .agg #[.bool a, .bool q]] w (Decodes (Pure.read bs a q) w) := by
  have HR := Lib.hid hr
  have HF := Lib.hid hF
  obtain ⟨A, c, rfl, hc⟩ := hr.form
  have B0 := Lib.hid ((Below.refl w.heap.size w).alloc (Nat.le_refl _) (.cells #[.bool a, .bool q] 24))
  have HB := Lib.hid (Blk.new w 24 #[.bool a, .bool q])
  have HC := Lib.hid (refCheck16_any F _ bs (w.alloc (.cells #[.bool a, .bool q] 24)) (HR.out.keeps (Keeps.new B0.out) (fun _ _ h => h)) (fun b hb => Nat.lt_of_lt_of_le (HF.out b hb) B0.out.size) hl)
  have hS : Pure.read bs a q = if Pure.ends16 bs then Pure.dec (bs.take (bs.length - 2)) a q else (0, [], 5) := rfl
  have hle : (bs.take (bs.length - 2)).length = bs.length - 2 := by simp
  obtain ⟨S, hS2⟩ : ∃ S, S = Pure.read bs a q := ⟨_, rfl⟩
  obtain ⟨C, hC⟩ : ∃ C, C = bs.take (bs.length - 2) := ⟨_, rfl⟩
  rw [← hS2, ← hC] at hS
  rw [← hC] at hle HC
  rw [← hS2]
  have HS := Lib.hid hS
  rw [← hle] at HC
  have HLE := Lib.hid hle
  have hCl : C.length ≤ 100000000000000 := by omega
  clear hr hF hS hS2 hC hle
  go_enter Tryd.func23, Tryd.ntmps23
  go_wp2_with fail
  refine HC.out.mono ?_
  rintro e w1 ⟨hb1, h⟩
  have B1 := Lib.hid (B0.out.trans (hb1.mono B0.out.size))
  have hblk := HB.out.below hb1 (by simp)
  have c0 : w1.cell? ⟨w.heap.size, 0, none⟩ = some (.bool a) := by rw [hblk.cell]; rfl
  have c1 : w1.cell? ⟨w.heap.size, 1, none⟩ = some (.bool q) := by rw [hblk.cell]; rfl
  clear HC hblk
  rcases h with ⟨hk, rfl⟩ | ⟨hk, u, rfl, ho⟩
  · have hS := HS.out
    rw [hk, if_neg (by simp)] at hS
    subst hS
    clear hk hb1
    go_wp2_with fail
    go_ret3
    exact ⟨B1.out, _, rfl, ⟨rfl, .inl ⟨rfl, rfl⟩⟩⟩
  · have hS := HS.out
    rw [hk, if_pos rfl] at hS
    have HD := Lib.hid (rdecode_any _ u C a q w1 (Row.of_own ho) (fun b hb => ownsRow_lt ho b hb) hCl)
    rw [← hS] at HD
    obtain ⟨A1, c1, rfl⟩ := own_form ho
    clear hk ho hb1 hS HS
    go_wp2_with fail
    refine HD.out.mono ?_
    rintro e w2 ⟨hb2, u2, rfl, ho2⟩
    have B2 := Lib.hid (B1.out.trans (hb2.mono B1.out.size))
    have O2 := Lib.hid (ownsRow_base (base' := w.heap.size) ho2 B1.out.size)
    clear hb2 ho2 HD
    go_wp2
    go_ret3
    exact ⟨B2.out, u2, rfl, O2.out⟩
end Go.Proofs.YtkllaghfiofnjaaDoor
