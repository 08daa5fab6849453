/- The five answers of package packet, as landed; the law PacketKnown. -/
import Derived.Test.YtaalbjbocbagcaaDoorLaw11A
import Derived.Test.YtaalbjbocbagcaaDoorPktF
import Derived.Test.YtaalbjbocbagcaaDoorOptF
import Derived.Test.YtaalbjbocbagcaaDoorOptG
import Derived.Test.YtaalbjbocbagcaaDoorOptJ
namespace Go.Proofs.YtaalbjbocbagcaaDoor
open Go.RowKit
theorem encodeOk : EncodeOk := fun F v p w hF hr => encode_any F v p w hF hr
theorem decodeOk : DecodeOk := fun F x bs w hg hF hr => decode_any F x bs w hg hF hr
theorem optionsOk : OptionsOk := fun F x ps w hF hx => options_any F x ps w hF hx
theorem splitOk : SplitOk := fun F x bs w hg hF hr => split_any F x bs w hg hF hr
theorem sameOk : SameOk := fun F G x y ps qs w hx hy => same_opts F G x y ps qs w hx hy
section
variable {w0 w : World}
/-- Decode of new bytes. -/
theorem freshDecode (hg : Handle w0) (B : Below w0.heap.size w0 w) (l : List UInt8) (cs : Array Value) (n : Nat) (k : Nat) (hc : cs = (u8s l).toArray) (hn : n = l.length) (hl : l.length ≤ 1000) (hd : Pure.decode l = (k, Pure.noPkt)) :
    Calls Tryd.prog 12 #[.slice (some ⟨w.heap.size, 0, none⟩) n n] (w.alloc (.cells cs 5)) fun e w' => ∃ A c, e = .returned (.tuple #[.agg #[.int .i64 0, .int .i64 0, .slice A 0 c], .int .i64 k]) ∧ Below w0.heap.size w0 w' ∧ Keeps nobody w w' := by
  have hk := (Keeps.refl nobody w).alloc (.cells cs 5)
  have hB := Below.quiet B hk B.size
  refine (decodeOk (fun b => b = w.heap.size) _ l (w.alloc (.cells cs 5)) (hg.below hB) (fun b hb => by have hb : b = w.heap.size := hb; simp [hb]) (row_new w l cs n hc hn (by omega))).mono ?_
  rintro e w' ⟨u, rfl, hu, hb⟩
  rw [hd] at hu ⊢
  obtain ⟨A, c, rfl, _⟩ := hu.form
  exact ⟨A, c, rfl, Below.quiet hB (Keeps.new hb) hB.size, hk.trans (Keeps.new hb)⟩
/-- Split of new bytes. -/
theorem freshSplit (hg : Handle w0) (B : Below w0.heap.size w0 w) (l : List UInt8) (cs : Array Value) (n : Nat) (k : Nat) (os : List Pure.Opt) (hc : cs = (u8s l).toArray) (hn : n = l.length) (hl : l.length ≤ 1000) (hd : Pure.split l = (k, os)) :
    Calls Tryd.prog 11 #[.slice (some ⟨w.heap.size, 0, none⟩) n n] (w.alloc (.cells cs 5)) fun e w' => ∃ A c ps, e = .returned (.tuple #[.slice A os.length c, .int .i64 k]) ∧ optsOf ps = os ∧ ORow w' (fun b => w.heap.size ≤ b) (.slice A os.length c) ps ∧ Below w0.heap.size w0 w' ∧ Keeps nobody w w' := by
  have hk := (Keeps.refl nobody w).alloc (.cells cs 5)
  have hB := Below.quiet B hk B.size
  refine (splitOk (fun b => b = w.heap.size) _ l (w.alloc (.cells cs 5)) (hg.below hB) (fun b hb => by have hb : b = w.heap.size := hb; simp [hb]) (row_new w l cs n hc hn (by omega))).mono ?_
  rintro e w' ⟨u, ps, rfl, hps, hu, hb⟩
  rw [hd] at hps ⊢
  dsimp only at hps ⊢
  obtain ⟨A, c, rfl, _⟩ := hu.form
  have hpl : ps.length = os.length := by rw [← hps]; simp
  rw [hpl] at hu ⊢
  exact ⟨A, c, ps, rfl, hps, hu.mono (fun b hb => Nat.le_trans hk.size hb), Below.quiet hB (Keeps.new hb) hB.size, hk.trans (Keeps.new hb)⟩
/-- Encode of new bytes. -/
theorem freshEncode (B : Below w0.heap.size w0 w) (c i : Int) (l bs : List UInt8) (cs : Array Value) (n k : Nat) (hc : cs = (u8s l).toArray) (hn : n = l.length) (hl : l.length ≤ 1000) (hd : Pure.encode ⟨c, i, l⟩ = (k, bs)) :
    Calls Tryd.prog 10 #[.agg #[.int .i64 c, .int .i64 i, .slice (some ⟨w.heap.size, 0, none⟩) n n]] (w.alloc (.cells cs 5)) fun e w' => ∃ A c, e = .returned (.tuple #[.slice A bs.length c, .int .i64 k]) ∧ w'.ownsRow w.heap.size 5 1 (.slice A bs.length c) bs.length (u8s bs) ∧ Below w0.heap.size w0 w' ∧ Keeps nobody w w' := by
  have hk := (Keeps.refl nobody w).alloc (.cells cs 5)
  have hB := Below.quiet B hk B.size
  refine (encodeOk (fun b => b = w.heap.size) _ ⟨c, i, l⟩ (w.alloc (.cells cs 5)) (fun b hb => by have hb : b = w.heap.size := hb; simp [hb]) (row_new w l cs n hc hn (by omega))).mono ?_
  rintro e w' ⟨u, rfl, hu, hb⟩
  rw [hd] at hu ⊢
  obtain ⟨A, c, rfl⟩ := own_form hu
  exact ⟨A, c, rfl, ownsRow_base hu hk.size, Below.quiet hB (Keeps.new hb) hB.size, hk.trans (Keeps.new hb)⟩
end
theorem known_bytes : Pure.encode ⟨1, 7, [1, 4, 5, 220]⟩ = (0, [1, 7, 0, 8, 1, 4, 5, 220]) := by decide +kernel
theorem known_split : Pure.split [1, 4, 5, 220] = (0, [(1, [5, 220])]) := by decide +kernel
theorem known_split1 : Pure.split [1, 1] = (4, []) := by decide +kernel
theorem known_split2 : Pure.split [1] = (4, []) := by decide +kernel
theorem known_one {ps : List (Value × Pure.Opt)} {t : Int} {l : List UInt8} (h : optsOf ps = [(t, l)]) : ∃ v, ps = [(v, (t, l))] := by
  match ps, h with
  | [(v, o)], h => simp at h; exact ⟨v, by rw [h]⟩
set_option maxRecDepth 100000 in
set_option maxHeartbeats 4000000 in
theorem packetKnown_walk (w : World) (hg : Handle w) : Calls Tryd.prog 3 #[] w fun e w' => e = .returned (.bool true) ∧ Below w.heap.size w w' := by
  have HG := Lib.hid hg
  clear hg
  go_enter Tryd.func3, Tryd.ntmps3
  go_wp2_with fail
  refine (awake_any encodeOk decodeOk w HG.out).mono ?_
  rintro e w1 ⟨rfl, hb1⟩
  have H1 := Lib.hid hb1
  clear hb1
  go_wp2_with fail
  refine (freshEncode H1.out 1 7 [1, 4, 5, 220] _ _ 4 0 rfl rfl (by simp) known_bytes).mono ?_
  rintro e w2 ⟨A2, c2, rfl, hu2, hb2, _⟩
  have U2 := Lib.hid hu2
  have H2 := Lib.hid hb2
  clear hu2 hb2 H1
  go_wp2_with fail
  refine (freshSplit HG.out H2.out [1, 4, 5, 220] _ 4 0 _ rfl rfl (by simp) known_split).mono ?_
  rintro e w3 ⟨A3, c3, ps, rfl, hps, hu3, hb3, hk3⟩
  have U23 := Lib.hid (own_quiet U2.out hk3)
  have U3 := Lib.hid hu3
  have H3 := Lib.hid hb3
  obtain ⟨v3, rfl⟩ := known_one hps
  clear hu3 hb3 hk3 hps U2 H2
  go_wp2_with fail
  refine (freshDecode HG.out H3.out [1, 7, 0] _ 3 2 rfl rfl (by simp) (Pure.decode_short (by decide))).mono ?_
  rintro e w4 ⟨A4, c4, rfl, hb4, hk4⟩
  have U24 := Lib.hid (own_quiet U23.out hk4)
  have U4 := Lib.hid (U3.out.keeps hk4 (fun _ _ h => h))
  have H4 := Lib.hid hb4
  clear hb4 hk4 U23 U3 H3
  go_upto_region 6 with fail
  obtain ⟨x4, hx4⟩ : ∃ x, x = w4.alloc (.cells #[.int .i64 0, .int .i64 0, .slice A4 0 c4] 28) := ⟨_, rfl⟩
  rw [← hx4]
  have hk4 : Keeps nobody w4 x4 := by rw [hx4]; exact (Keeps.refl _ w4).alloc _
  have V24 := Lib.hid (own_quiet U24.out hk4)
  have V4 := Lib.hid (U4.out.keeps hk4 (fun _ _ h => h))
  have G4 := Lib.hid (Below.quiet H4.out hk4 H4.out.size)
  clear hk4 hx4 U24 U4 H4
  go_wp2_with fail
  refine (freshDecode HG.out G4.out [1, 7, 0, 3] _ 4 4 rfl rfl (by simp) (Pure.decode_form (by decide) (by decide +kernel))).mono ?_
  rintro e w5 ⟨A5, c5, rfl, hb5, hk5⟩
  have U25 := Lib.hid (own_quiet V24.out hk5)
  have U5 := Lib.hid (V4.out.keeps hk5 (fun _ _ h => h))
  have H5 := Lib.hid hb5
  clear hb5 hk5 V24 V4 G4
  go_upto_region 7 with fail
  obtain ⟨x5, hx5⟩ : ∃ x, x = w5.alloc (.cells #[.int .i64 0, .int .i64 0, .slice A5 0 c5] 28) := ⟨_, rfl⟩
  rw [← hx5]
  have hk5 : Keeps nobody w5 x5 := by rw [hx5]; exact (Keeps.refl _ w5).alloc _
  have V25 := Lib.hid (own_quiet U25.out hk5)
  have V5 := Lib.hid (U5.out.keeps hk5 (fun _ _ h => h))
  have G5 := Lib.hid (Below.quiet H5.out hk5 H5.out.size)
  clear hk5 hx5 U25 U5 H5
  go_wp2_with fail
  refine (freshDecode HG.out G5.out [1, 7, 0, 5] _ 4 2 rfl rfl (by simp) (Pure.decode_cut (by decide) (by decide +kernel) (by decide +kernel))).mono ?_
  rintro e w6 ⟨A6, c6, rfl, hb6, hk6⟩
  have U26 := Lib.hid (own_quiet V25.out hk6)
  have U6 := Lib.hid (V5.out.keeps hk6 (fun _ _ h => h))
  have H6 := Lib.hid hb6
  clear hb6 hk6 V25 V5 G5
  go_upto_region 8 with fail
  obtain ⟨x6, hx6⟩ : ∃ x, x = w6.alloc (.cells #[.int .i64 0, .int .i64 0, .slice A6 0 c6] 28) := ⟨_, rfl⟩
  rw [← hx6]
  have hk6 : Keeps nobody w6 x6 := by rw [hx6]; exact (Keeps.refl _ w6).alloc _
  have V26 := Lib.hid (own_quiet U26.out hk6)
  have V6 := Lib.hid (U6.out.keeps hk6 (fun _ _ h => h))
  have G6 := Lib.hid (Below.quiet H6.out hk6 H6.out.size)
  clear hk6 hx6 U26 U6 H6
  go_wp2_with fail
  refine (freshSplit HG.out G6.out [1, 1] _ 2 4 _ rfl rfl (by simp) known_split1).mono ?_
  rintro e w7 ⟨A7, c7, ps7, rfl, _, _, hb7, hk7⟩
  have U27 := Lib.hid (own_quiet V26.out hk7)
  have U7 := Lib.hid (V6.out.keeps hk7 (fun _ _ h => h))
  have H7 := Lib.hid hb7
  clear hb7 hk7 V26 V6 G6
  go_wp2_with fail
  refine (freshSplit HG.out H7.out [1] _ 1 4 _ rfl rfl (by simp) known_split2).mono ?_
  rintro e w8 ⟨A8, c8, ps8, rfl, _, _, hb8, hk8⟩
  have U28 := Lib.hid (own_quiet U27.out hk8)
  have U8 := Lib.hid (U7.out.keeps hk8 (fun _ _ h => h))
  have H8 := Lib.hid hb8
  clear hb8 hk8 U27 U7 H7
  go_wp2_with fail
  have hk9 := (Keeps.refl nobody w8).alloc (.cells #[.int .u8 1, .int .u8 7, .int .u8 0, .int .u8 8, .int .u8 1, .int .u8 4, .int .u8 5, .int .u8 220] 5)
  refine (sameY (w0 := w) (a := [1, 7, 0, 8, 1, 4, 5, 220]) (b := [1, 7, 0, 8, 1, 4, 5, 220]) (Below.quiet H8.out hk9 H8.out.size) (Row.of_own (own_quiet U28.out hk9)) (row_new w8 [1, 7, 0, 8, 1, 4, 5, 220] _ 8 rfl rfl (by simp)) rfl rfl).mono ?_
  rintro e wa ⟨rfl, hka, hba⟩
  have HA := Lib.hid hba
  obtain ⟨p, o, A1, c1, t, la, e3, _, x0, x1, _, hpa⟩ := (U8.out.keeps (hk9.trans hka) (fun _ _ h => h)).pick 0 (by simp)
  subst e3
  simp only [List.getElem?_cons_zero, Option.some.injEq, Prod.mk.injEq] at hpa
  obtain ⟨rfl, rfl, rfl⟩ := hpa
  simp only [Nat.zero_mul, Nat.add_zero] at x0 x1
  clear hba hka hk9 U28 U8 H8
  go_wp2
  go_ret
  exact ⟨rfl, HA.out⟩
end Go.Proofs.YtaalbjbocbagcaaDoor
