/- The law PacketCodes, out of what package packet answers. -/
import Derived.Test.YtaalbjbocbagcaaDoorLaw11A
namespace Go.Proofs.YtaalbjbocbagcaaDoor
open Go.RowKit
set_option maxRecDepth 100000 in
set_option maxHeartbeats 4000000 in
theorem packetCodes_walk' (HEn : EncodeOk) (HDe : DecodeOk) (v z : Value) (p : Pure.Pkt) (bs : List UInt8) (w : World) (hgo : Handle w)
    (hx : Row w (fun b => b < w.heap.size) 1 v p.data.length (u8s p.data)) (hr : Row w (fun b => b < w.heap.size) 1 z bs.length (u8s bs)) :
    Calls Tryd.prog 4 #[pktV p v, z] w fun e w' => e = .returned (.bool true) ∧ Below w.heap.size w w' := by
  obtain ⟨A, cA, rfl, _⟩ := hx.form
  obtain ⟨C, cC, rfl, _⟩ := hr.form
  have hml := hr.2.1
  have hml2 := hx.2.1
  unfold maxLen at hml hml2
  have HGo := Lib.hid hgo
  clear hgo
  have HX := Lib.hid hx
  have HR := Lib.hid hr
  clear hx hr
  obtain ⟨g, hg⟩ : ∃ g, g = w.heap.size := ⟨_, rfl⟩
  go_enter Tryd.func4, Tryd.ntmps4
  go_upto_region 1 with fail
  rw [← hg]
  generalize hw0 : w.alloc _ = w0
  have hB0 : Blk w0 g 28 #[.int .i64 p.code, .int .i64 p.id, .slice A p.data.length cA] := by rw [← hw0, hg]; exact Blk.new w _ _
  have hk0 : Keeps nobody w w0 := by rw [← hw0]; exact (Keeps.refl _ w).alloc _
  have HB0 := Lib.hid hB0
  have HK0 := Lib.hid hk0
  have X0 := Lib.hid (HX.out.keeps hk0 (fun _ _ h => h))
  have R0 := Lib.hid (HR.out.keeps hk0 (fun _ _ h => h))
  clear hw0 hg hB0 hk0 HX HR
  go_wp2_with fail
  refine (awake_any HEn HDe w0 (HGo.out.below HK0.out.to_below)).mono ?_
  rintro e w1 ⟨rfl, hb1⟩
  have hk1 := Keeps.new hb1
  have H1 := Lib.hid (HK0.out.to_below.trans (hb1.mono HK0.out.size))
  have hB1 := HB0.out.keeps hk1 (fun x => x)
  have X1 := Lib.hid (X0.out.keeps hk1 (fun _ _ h => h))
  have R1 := Lib.hid (R0.out.keeps hk1 (fun _ _ h => h))
  have a0 : w1.cell? ⟨g, 0, none⟩ = some (.int .i64 p.code) := by rw [hB1.cell]; rfl
  have a1 : w1.cell? ⟨g, 1, none⟩ = some (.int .i64 p.id) := by rw [hB1.cell]; rfl
  have a2 : w1.cell? ⟨g, 2, none⟩ = some (.slice A p.data.length cA) := by rw [hB1.cell]; rfl
  have HB1 := Lib.hid hB1
  clear hb1 hk1 hB1 HB0 HK0 X0 R0
  by_cases hl1 : 3000 < p.data.length
  · have d0 : decide ((3000 : Int) < (p.data.length : Int)) = true := decide_eq_true (by omega)
    go_wp2
    go_ret
    exact ⟨rfl, H1.out⟩
  have d0 : decide ((3000 : Int) < (p.data.length : Int)) = false := decide_eq_false (by omega)
  by_cases hl2 : 3000 < bs.length
  · have d1 : decide ((3000 : Int) < (bs.length : Int)) = true := decide_eq_true (by omega)
    go_wp2
    go_ret
    exact ⟨rfl, H1.out⟩
  have d1 : decide ((3000 : Int) < (bs.length : Int)) = false := decide_eq_false (by omega)
  have P2 := Lib.hid (HEn _ (.slice A p.data.length cA) p w1 (fun b hb => Nat.lt_of_lt_of_le hb H1.out.size) X1.out)
  obtain ⟨E, hE⟩ : ∃ E, E = (Pure.encode p).1 := ⟨_, rfl⟩
  obtain ⟨O, hO⟩ : ∃ O, O = (Pure.encode p).2 := ⟨_, rfl⟩
  have HEO := Lib.hid (And.intro hE hO)
  rw [← hE, ← hO] at P2
  clear hE hO
  go_wp2_with fail
  refine P2.out.mono ?_
  rintro e w2 ⟨u2, rfl, hu2, hb2⟩
  obtain ⟨A2, c2, rfl⟩ := own_form hu2
  have hk2 := Keeps.new hb2
  have U2 := Lib.hid hu2
  have H2 := Lib.hid (H1.out.trans (hb2.mono H1.out.size))
  have hB2 := HB1.out.keeps hk2 (fun x => x)
  have X2 := Lib.hid (X1.out.keeps hk2 (fun _ _ h => h))
  have R2 := Lib.hid (R1.out.keeps hk2 (fun _ _ h => h))
  have e0 : w2.cell? ⟨g, 0, none⟩ = some (.int .i64 p.code) := by rw [hB2.cell]; rfl
  have e1 : w2.cell? ⟨g, 1, none⟩ = some (.int .i64 p.id) := by rw [hB2.cell]; rfl
  have e2 : w2.cell? ⟨g, 2, none⟩ = some (.slice A p.data.length cA) := by rw [hB2.cell]; rfl
  have P3 := Lib.hid (docencode_any _ (.slice A p.data.length cA) p w2 X2.out)
  rw [← HEO.out.1, ← HEO.out.2] at P3
  clear hu2 hb2 hk2 hB2 P2 H1 X1 R1 HB1 a0 a1 a2
  go_wp2_with fail
  refine P3.out.mono ?_
  rintro e w3 ⟨u3, rfl, hu3, hb3⟩
  obtain ⟨A3, c3, rfl⟩ := own_form hu3
  have hk3 := Keeps.new hb3
  have U3 := Lib.hid hu3
  have U23 := Lib.hid (own_quiet U2.out hk3)
  have H3 := Lib.hid (H2.out.trans (hb3.mono H2.out.size))
  have R3 := Lib.hid (R2.out.keeps hk3 (fun _ _ h => h))
  have P4 := HDe _ _ bs w3 (HGo.out.below H3.out) (fun b hb => Nat.lt_of_lt_of_le hb H3.out.size) R3.out
  obtain ⟨Q, hQ⟩ : ∃ Q, Q = (Pure.decode bs).2 := ⟨_, rfl⟩
  obtain ⟨G, hG⟩ : ∃ G, G = (Pure.decode bs).1 := ⟨_, rfl⟩
  have HQG := Lib.hid (And.intro hQ hG)
  rw [← hQ, ← hG] at P4
  have P4 := Lib.hid P4
  clear hu3 hb3 hk3 P3 H2 X2 R2 U2 hQ hG e0 e1 e2
  go_wp2_with fail
  refine P4.out.mono ?_
  rintro e w4 ⟨u4, rfl, hu4, hb4⟩
  obtain ⟨A4, c4, rfl, _⟩ := hu4.form
  have hk4 := Keeps.new hb4
  have U4 := Lib.hid hu4
  have U24 := Lib.hid (own_quiet U23.out hk4)
  have U34 := Lib.hid (own_quiet U3.out hk4)
  have H4 := Lib.hid (H3.out.trans (hb4.mono H3.out.size))
  have R4 := Lib.hid (R3.out.keeps hk4 (fun _ _ h => h))
  clear hu4 hb4 hk4 P4 H3 R3 U23 U3
  go_upto_region 8 with fail
  obtain ⟨g4, hg4⟩ : ∃ g4, g4 = w4.heap.size := ⟨_, rfl⟩
  obtain ⟨w5, hw5⟩ : ∃ w5, w5 = w4.alloc (.cells #[.int .i64 Q.code, .int .i64 Q.id, .slice A4 Q.data.length c4] 28) := ⟨_, rfl⟩
  rw [← hw5, ← hg4]
  have hB5 : Blk w5 g4 28 #[.int .i64 Q.code, .int .i64 Q.id, .slice A4 Q.data.length c4] := by rw [hw5, hg4]; exact Blk.new w4 _ _
  have hk5 : Keeps nobody w4 w5 := by rw [hw5]; exact (Keeps.refl _ w4).alloc _
  have HB5 := Lib.hid hB5
  have U25 := Lib.hid (own_quiet U24.out hk5)
  have U35 := Lib.hid (own_quiet U34.out hk5)
  have U45 := Lib.hid (U4.out.keeps hk5 (fun _ _ h => h))
  have H5 := Lib.hid (Below.quiet H4.out hk5 H4.out.size)
  have R5 := Lib.hid (R4.out.keeps hk5 (fun _ _ h => h))
  have P5 := docdecode_any _ _ bs w5 (fun b hb => Nat.lt_of_lt_of_le hb H5.out.size) R5.out
  rw [← HQG.out.1, ← HQG.out.2] at P5
  have P5 := Lib.hid P5
  clear hw5 hB5 hk5 hg4 U24 U34 U4 H4 R4
  go_wp2_with fail
  refine P5.out.mono ?_
  rintro e w6 ⟨u6, rfl, hu6, hb6⟩
  obtain ⟨A6, c6, rfl, _⟩ := hu6.form
  have hk6 := Keeps.new hb6
  have U6 := Lib.hid hu6
  have HB6 := Lib.hid (HB5.out.keeps hk6 (fun x => x))
  have U26 := Lib.hid (own_quiet U25.out hk6)
  have U36 := Lib.hid (own_quiet U35.out hk6)
  have U46 := Lib.hid (U45.out.keeps hk6 (fun _ _ h => h))
  have H6 := Lib.hid (H5.out.trans (hb6.mono H5.out.size))
  clear hu6 hb6 hk6 P5 H5 R5 U25 U35 U45 HB5
  go_upto_region 9 with fail
  obtain ⟨g6, hg6⟩ : ∃ g6, g6 = w6.heap.size := ⟨_, rfl⟩
  obtain ⟨w7, hw7⟩ : ∃ w7, w7 = w6.alloc (.cells #[.int .i64 Q.code, .int .i64 Q.id, .slice A6 Q.data.length c6] 28) := ⟨_, rfl⟩
  rw [← hw7, ← hg6]
  have hB7 : Blk w7 g6 28 #[.int .i64 Q.code, .int .i64 Q.id, .slice A6 Q.data.length c6] := by rw [hw7, hg6]; exact Blk.new w6 _ _
  have hk7 : Keeps nobody w6 w7 := by rw [hw7]; exact (Keeps.refl _ w6).alloc _
  have HB7 := Lib.hid hB7
  have HB47 := Lib.hid (HB6.out.keeps hk7 (fun x => x))
  have U27 := own_quiet U26.out hk7
  have U37 := own_quiet U36.out hk7
  have U47 := Lib.hid (U46.out.keeps hk7 (fun _ _ h => h))
  have U67 := Lib.hid (U6.out.keeps hk7 (fun _ _ h => h))
  have hH7 := Below.quiet H6.out hk7 H6.out.size
  have P8 := Lib.hid (sameY (w0 := w) hH7 (Row.of_own U27) (Row.of_own U37) rfl rfl)
  have dE : ((E : Int) == (E : Int)) = true := beq_self_eq_true _
  have dG : ((G : Int) == (G : Int)) = true := beq_self_eq_true _
  clear hw7 hB7 hk7 hg6 hH7 U27 U37 U26 U36 U46 U6 H6 HB6
  go_wp2_with fail
  refine P8.out.mono ?_
  rintro e w8 ⟨rfl, hk8, hb8⟩
  have H8 := Lib.hid hb8
  have hB8 := HB7.out.keeps hk8 (fun x => x)
  have hB48 := HB47.out.keeps hk8 (fun x => x)
  have a0 : w8.cell? ⟨g4, 0, none⟩ = some (.int .i64 Q.code) := by rw [hB48.cell]; rfl
  have a1 : w8.cell? ⟨g4, 1, none⟩ = some (.int .i64 Q.id) := by rw [hB48.cell]; rfl
  have a2 : w8.cell? ⟨g4, 2, none⟩ = some (.slice A4 Q.data.length c4) := by rw [hB48.cell]; rfl
  have b0 : w8.cell? ⟨g6, 0, none⟩ = some (.int .i64 Q.code) := by rw [hB8.cell]; rfl
  have b1 : w8.cell? ⟨g6, 1, none⟩ = some (.int .i64 Q.id) := by rw [hB8.cell]; rfl
  have b2 : w8.cell? ⟨g6, 2, none⟩ = some (.slice A6 Q.data.length c6) := by rw [hB8.cell]; rfl
  have P9 := Lib.hid (samepkt_any _ _ (.slice A4 Q.data.length c4) (.slice A6 Q.data.length c6) Q.code Q.id Q.data w8 (U47.out.keeps hk8 (fun _ _ h => h)) (U67.out.keeps hk8 (fun _ _ h => h)))
  clear hb8 hk8 hB8 hB48 P8 U47 U67 HB7 HB47 dE
  go_wp2_with fail
  refine P9.out.mono ?_
  rintro e w9 ⟨rfl, hk9⟩
  have H9 := Lib.hid (Below.quiet H8.out hk9 H8.out.size)
  clear hk9 P9 H8 a0 a1 a2 b0 b1 b2
  go_wp2
  go_ret
  exact ⟨rfl, H9.out⟩
end Go.Proofs.YtaalbjbocbagcaaDoor
