/- Package packet: Split. -/
import Derived.Test.YtaalbjbocbagcaaDoorOptI
namespace Go.Proofs.YtaalbjbocbagcaaDoor
open Go.RowKit
set_option maxRecDepth 100000 in
set_option maxHeartbeats 4000000 in
theorem split_any (F : Nat → Prop) (x : Value) (bs : List UInt8) (w : World) (hg : Handle w) (hF : ∀ b, F b → b < w.heap.size) (hr : Row w F 1 x bs.length (u8s bs)) :
    Calls Tryd.prog 11 #[x] w fun e w' => ∃ u ps, e = .returned (.tuple #[u, .int .i64 (((Pure.split bs).1 : Nat) : Int)]) ∧ optsOf ps = (Pure.split bs).2 ∧ ORow w' (fun b => w.heap.size ≤ b) u ps ∧ Below w.heap.size w w' := by
  obtain ⟨A, cA, rfl, hc⟩ := hr.form
  have HR := Lib.hid hr
  have HF := Lib.hid hF
  have HH := Lib.hid hg
  clear hr hF hg
  have HP0 := readoptions_any F
  obtain ⟨dd, hdd⟩ : ∃ d, d = Pure.split bs := ⟨_, rfl⟩
  have HP := fun g w => HP0 g bs w
  rw [← hdd] at HP ⊢
  obtain ⟨k, D⟩ := dd
  have HP := Lib.hid HP
  clear hdd HP0
  go_enter Tryd.func11, Tryd.ntmps11
  go_upto_region 2 with fail
  obtain ⟨q, hq⟩ : ∃ q, q = w.heap.size := ⟨_, rfl⟩
  rw [← hq]
  generalize hw2 : w.alloc _ = w2
  have hrd : Rd w2 F q bs := by rw [← hw2, hq]; exact Rd.new HR.out
  have hk2 : Keeps nobody w w2 := by rw [← hw2]; exact (Keeps.refl _ w).alloc _
  have HQ := Lib.hid hq
  have HK2 := Lib.hid hk2
  have HPW := Lib.hid (HP.out q w2 hrd (fun b hb => by have := HF.out b hb; omega) (fun b hb => Nat.lt_of_lt_of_le (HF.out b hb) hk2.size))
  clear hw2 hrd hk2 hq HP
  go_wp2_with fail
  refine HPW.out.mono ?_
  rintro e w3 ⟨u, v, ps, rfl, hv, hps, hu, hk3⟩
  obtain ⟨A3, c3, rfl, _⟩ := hu.form
  have HB3 := Lib.hid (Below.keeps HK2.out.to_below hk3 HK2.out.size (fun i h => by have h : i = q := h; have := HQ.out; omega))
  have HN := Lib.hid (number_any v k w3 (HH.out.below HB3.out) hv)
  have HU := Lib.hid hu
  have HPS := Lib.hid hps
  clear hu hv hk3 hps HPW
  go_wp2_with fail
  refine HN.out.mono ?_
  rintro e w4 ⟨rfl, hb4⟩
  have hk4 := Keeps.new hb4
  have HU4 := Lib.hid ((HU.out.keeps hk4 (fun _ _ h => h)).mono (G := fun b => w.heap.size ≤ b) (fun b hb => Nat.le_trans HK2.out.size hb))
  have HB4 := Lib.hid (Below.quiet HB3.out hk4 HB3.out.size)
  clear hk4 hb4 HN
  go_wp2
  go_ret2
  exact ⟨_, ps, rfl, HPS.out, HU4.out, HB4.out⟩
end Go.Proofs.YtaalbjbocbagcaaDoor
