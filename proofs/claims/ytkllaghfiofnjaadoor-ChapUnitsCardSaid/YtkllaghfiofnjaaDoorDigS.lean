/- md4.Sum. -/
import Derived.Test.YtkllaghfiofnjaaDoorFold4
namespace Go.Proofs.YtkllaghfiofnjaaDoor
open Go.RowKit
set_option maxRecDepth 100000 in
set_option maxHeartbeats 4000000 in
theorem sum_any (F : Nat → Prop) (x : Value) (bs : List UInt8) (w : World) (hF : ∀ b, F b → b < w.heap.size) (hbig : bs.length ≤ 100000000) (hr : Row w F 1 x bs.length (u8s bs)) :
    Calls Tryd.prog 67 #[x] w
      fun e w' => ∃ u, e = .returned u ∧ w'.ownsRow w.heap.size 5 1 u 16 (u8s (Pure.md4 bs)) ∧ Below w.heap.size w w' := by
  obtain ⟨A, cA, rfl, hc⟩ := hr.form
  have HR := Lib.hid hr
  have HF := Lib.hid hF
  have HC := Lib.hid hc
  have HBig := Lib.hid hbig
  clear hr hF hc hbig
  obtain ⟨st, hst⟩ : ∃ st, st = Pure.md4Start.list := ⟨_, rfl⟩
  have hsl : st.length = 4 := by rw [hst]; rfl
  have HST := Lib.hid hst
  go_enter Tryd.func67, Tryd.ntmps67
  go_upto_region 2 with fail
  obtain ⟨b0, hb0⟩ : ∃ b0, b0 = w.heap.size := ⟨_, rfl⟩
  obtain ⟨w1, hw1⟩ : ∃ w1, w1 = w.alloc (.cells (u32s Pure.md4Start.list).toArray 125) := ⟨_, rfl⟩
  have e1 : w.alloc (.cells #[.int .u32 1732584193, .int .u32 4023233417, .int .u32 2562383102, .int .u32 271733878] 125) = w1 := hw1.symm
  rw [e1, ← hb0]
  have h1 : Blk w1 b0 125 (u32s st).toArray := by rw [hst, hw1, hb0]; exact Blk.new w _ _
  have hk1 : Keeps nobody w w1 := by rw [hw1]; exact (Keeps.refl _ w).alloc _
  have H1 := Lib.hid h1
  have HK1 := Lib.hid hk1
  have HB0 := Lib.hid hb0
  have HSL := Lib.hid hsl
  clear hw1 e1 h1 hk1 hb0 hst hsl
  apply wp_region_lit
  refine wpList_load_row rfl 125 (.tmp 3) rfl b0 rfl 125 _ (0, 0) _ H1.out Tryd.underlying125 rfl (by rw [state_info]; simp [HSL.out]) ?_
  go_wp2_with fail
  refine (fold_any false Pure.md4Of Pure.md4Of_length (fun x s w hx hs => after_list x s w hx hs) st HSL.out F _ bs w1 (fun b hb => Nat.lt_of_lt_of_le (HF.out b hb) HK1.out.size) HBig.out (HR.out.keeps HK1.out (fun _ _ h => h))).mono ?_
  rintro e w2 ⟨rfl, hb2⟩
  have h2 := H1.out.below hb2 H1.out.lt
  have HK2 := Lib.hid ((Keeps.to_below HK1.out).trans (hb2.mono HK1.out.size))
  have H2 := Lib.hid h2
  obtain ⟨R, hR⟩ : ∃ R, R = Pure.foldOf false Pure.md4Of st bs := ⟨_, rfl⟩
  have hRl : R.length = 4 := by
    rw [hR]
    exact Pure.via_len (n := 4) (fun _ _ => rfl) _ (Pure.via_len (n := 4) (fun _ _ => rfl) _ HSL.out _ _) _ _
  have hmd : Pure.md4 bs = Pure.wordBytes false R := by rw [Pure.md4_fold, hR, HST.out]
  rw [← hR]
  rename_i hKK
  refine hKK _ _ ?_
  refine wpList_store_row rfl 125 (.tmp 3) (.tmp 7) rfl b0 _ rfl rfl 125 _ h2 (by rw [state_info]; simp [hRl]) (by simp [hRl, HSL.out]) (all_words _) ?_
  obtain ⟨w3, hw3⟩ : ∃ w3, w3 = w2.setRow b0 (u32s R).toArray := ⟨_, rfl⟩
  have h3 : Blk w3 b0 125 (u32s R).toArray := by rw [hw3]; exact Blk.rowSet h2 _
  have hk3 : Below w.heap.size w w3 := by rw [hw3]; exact below_setRow HK2.out (by have := HB0.out; omega) _
  have e3 : w2.setRow b0 (u32s R).toArray = w3 := hw3.symm
  rw [e3]
  have HB := Lib.hid (bytes_any false (fun b => b = b0) (.slice (some ⟨b0, 0, none⟩) 4 4) R (by omega) w3 (by
    rw [hRl]
    exact Row.block h3 rfl (by simp [hRl]) (by unfold maxLen; omega) (by omega)))
  have HK3 := Lib.hid hk3
  have HMD := Lib.hid hmd
  have HRL := Lib.hid hRl
  clear hw3 h3 hk3 e3 h2 hb2 hKK hR hmd hRl H1 HK1 H2 HK2 HR
  go_wp2_with fail
  refine HB.out.mono ?_
  rintro e w4 ⟨u, rfl, hu, hb4⟩
  have HU := Lib.hid hu
  have HK4 := Lib.hid (HK3.out.trans (hb4.mono HK3.out.size))
  have hsz := HK3.out.size
  have HSZ := Lib.hid hsz
  clear hu hb4 HB HK3 hsz
  go_wp2
  go_ret
  refine ⟨_, rfl, ?_, HK4.out⟩
  rw [HMD.out]
  have h := HU.out
  rw [HRL.out] at h
  exact ownsRow_base h HSZ.out
end Go.Proofs.YtkllaghfiofnjaaDoor
