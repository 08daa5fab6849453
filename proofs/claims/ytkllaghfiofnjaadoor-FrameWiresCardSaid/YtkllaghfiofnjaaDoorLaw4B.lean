/- The walk of the law FrameKnown. -/
import Derived.Test.YtkllaghfiofnjaaDoorLaw4A
namespace Go.Proofs.YtkllaghfiofnjaaDoor
open Go.RowKit

theorem own_below {w w' : World} {base : Nat} {e : TypeId} {size : Nat} {v : Value} {n : Nat} {xs : List Value} (h : w.ownsRow base e size v n xs) (k : Below w.heap.size w w') : w'.ownsRow base e size v n xs :=
  ownsRow_keeps h (Keeps.new k) (fun _ _ h => h)
theorem row_at (W : World) (g : Nat) (hg : g = W.heap.size) (l : List UInt8) (cs : Array Value) (n : Nat) (hc : cs = (u8s l).toArray) (hn : n = l.length) (hl : l.length ≤ 100000) :
    Row (W.alloc (.cells cs 5)) (fun b => b = g) 1 (.slice (some ⟨g, 0, none⟩) n n) l.length (u8s l) := by
  subst hg
  exact row_new W l cs n hc hn hl
/-- Encode of what may be sent. -/
theorem Encode_good (F : Nat → Prop) (p : Nat) (P : Int) (hP : P = p) (x : Value) (bs : List UInt8) (a q : Bool) (l : List UInt8) (w : World) (hg : Handle w) (hr : Row w F 1 x bs.length (u8s bs)) (hF : ∀ b, F b → b < w.heap.size)
    (hm : Pure.may p = true) (hl : bs.length ≤ 1516) (he : Pure.enc p bs a q = l) :
    Calls Tryd.prog 13 #[.int .i64 P, x, .agg #[.bool a, .bool q]] w fun e w' => ∃ u, e = .returned (.tuple #[u, .int .i64 0]) ∧ w'.ownsRow w.heap.size 5 1 u l.length (u8s l) ∧ Below w.heap.size w w' := by
  subst hP
  refine (Encode_any F p x bs a q w hg hr hF).mono ?_
  rintro e w' ⟨hb, h⟩
  have hk : Pure.sendErr p bs.length = 0 := by rw [Pure.sendErr_true _ _ hm, if_neg (by omega)]
  rcases h with ⟨h, _⟩ | ⟨_, u, rfl, ho⟩
  · exact absurd hk h
  · rw [Int.toNat_natCast, he] at ho
    exact ⟨u, rfl, ho, hb⟩
theorem Encode_bad (F : Nat → Prop) (p : Int) (x : Value) (bs : List UInt8) (a q : Bool) (w : World) (hg : Handle w) (hr : Row w F 1 x bs.length (u8s bs)) (hF : ∀ b, F b → b < w.heap.size) (hm : Pure.may p = false) :
    Calls Tryd.prog 13 #[.int .i64 p, x, .agg #[.bool a, .bool q]] w fun e w' => e = .returned (.tuple #[.slice none 0 0, .int .i64 1]) ∧ Below w.heap.size w w' := by
  refine (Encode_any F p x bs a q w hg hr hF).mono ?_
  rintro e w' ⟨hb, h⟩
  have hk := Pure.sendErr_false p bs.length hm
  rw [hk] at h
  rcases h with ⟨_, rfl⟩ | ⟨h, _⟩
  · exact ⟨rfl, hb⟩
  · cases h
theorem Decode_is (F : Nat → Prop) (x : Value) (bs : List UInt8) (a q : Bool) (s : Pure.Says) (w : World) (hg : Handle w) (hr : Row w F 1 x bs.length (u8s bs)) (hF : ∀ b, F b → b < w.heap.size) (hl : bs.length ≤ 100000000000000) (hs : Pure.dec bs a q = s) :
    Calls Tryd.prog 14 #[x, .agg #[.bool a, .bool q]] w (Decodes s w) := by
  rw [← hs]; exact Decode_any F x bs a q w hg hr hF hl

set_option maxRecDepth 100000 in
set_option maxHeartbeats 1000000 in
theorem frameKnown_walk (w : World) (hg : Handle w) : Calls Tryd.prog 3 #[] w fun e w' => e = .returned (.bool true) ∧ Below w.heap.size w w' := by
  have HG := Lib.hid hg
  clear hg
  go_enter Tryd.func3, Tryd.ntmps3
  go_wp2_with fail
  refine (awake4_any w HG.out).mono ?_
  rintro e w1 ⟨rfl, hb⟩
  have B1 := Lib.hid hb
  have hsz := hb.size
  have a1 := B1.out.alloc hsz (.cells #[.bool true, .bool true] 24)
  have a2 := a1.alloc a1.size (.cells #[.int .u8 69] 5)
  have HB := Lib.hid ((Blk.new w1 24 #[.bool true, .bool true]).alloc (.cells #[.int .u8 69] 5))
  have HE := Lib.hid (Encode_good _ 33 33 rfl _ [69] false false [255, 3, 0, 33, 69] _ (HG.out.below a2) (row_at (w1.alloc (.cells #[.bool true, .bool true] 24)) (w1.heap.size + 1) (by simp) [69] #[.int .u8 69] 1 rfl rfl (by simp)) (fun b hb => by subst hb; simp) (by decide) (by simp) (by decide))
  have B2 := Lib.hid a2
  clear hb a1 a2
  go_wp2_with fail
  (with_reducible refine HE.out.mono ?_)
  rintro e w2 ⟨u2, rfl, ho2, hb2⟩
  obtain ⟨A2, c2, rfl⟩ := own_form ho2
  obtain ⟨g, hgg⟩ : ∃ g, g = w1.heap.size := ⟨_, rfl⟩
  rw [← hgg] at HB ⊢
  have hgb : g < w2.heap.size := by have := hb2.size; simp at this; omega
  have hblk2 : Blk w2 g 24 #[.bool true, .bool true] := HB.out.below hb2 (by simp; omega)
  have O2 := Lib.hid (ownsRow_base (base' := 0) ho2 (Nat.zero_le _))
  have b2 := B2.out.trans (hb2.mono B2.out.size)
  have a3 := b2.alloc b2.size (.cells #[.int .u8 1] 5)
  have HB2 := Lib.hid (hblk2.alloc (.cells #[.int .u8 1] 5))
  have c0 : w2.cell? ⟨g, 0, none⟩ = some (.bool true) := by rw [hblk2.cell]; rfl
  have c1 : w2.cell? ⟨g, 1, none⟩ = some (.bool true) := by rw [hblk2.cell]; rfl
  have O2' := Lib.hid (O2.out.alloc (.cells #[.int .u8 1] 5))
  have HE2 := Lib.hid (Encode_good _ 49185 49185 rfl _ [1] true true [255, 3, 192, 33, 1] _ (HG.out.below a3) (row_at w2 w2.heap.size rfl [1] #[.int .u8 1] 1 rfl rfl (by simp)) (fun b hb => by subst hb; simp) (by decide) (by simp) (by decide))
  have B3 := Lib.hid a3
  have BB2 := Lib.hid b2
  clear ho2 hb2 hgg hblk2 b2 a3 HE HB
  go_wp2_with fail
  (with_reducible refine HE2.out.mono ?_)
  rintro e w3 ⟨u3, rfl, ho3, hb3⟩
  obtain ⟨A3, c3, rfl⟩ := own_form ho3
  have hblk3 : Blk w3 g 24 #[.bool true, .bool true] := HB2.out.below hb3 (by simp; omega)
  have O23 := Lib.hid (own_below O2'.out hb3)
  have O3 := Lib.hid (ownsRow_base (base' := 0) ho3 (Nat.zero_le _))
  have b3 := B3.out.trans (hb3.mono B3.out.size)
  have a4 := b3.alloc b3.size (.cells #[.int .u8 33, .int .u8 69] 5)
  have HD := Lib.hid (Decode_is _ _ [33, 69] false false (0, [], 4) _ (HG.out.below a4) (row_at w3 w3.heap.size rfl [33, 69] #[.int .u8 33, .int .u8 69] 2 rfl rfl (by simp)) (fun b hb => by subst hb; simp) (by simp) (by decide))
  have B4 := Lib.hid a4
  have HB3 := Lib.hid (hblk3.alloc (.cells #[.int .u8 33, .int .u8 69] 5))
  have O23' := Lib.hid (O23.out.alloc (.cells #[.int .u8 33, .int .u8 69] 5))
  have O3' := Lib.hid (O3.out.alloc (.cells #[.int .u8 33, .int .u8 69] 5))
  have hg3 : g < w3.heap.size := hblk3.lt
  clear ho3 hb3 b3 a4 HE2 c0 c1 O2 O2' HB2 hblk3
  go_wp2_with fail
  (with_reducible refine HD.out.mono ?_)
  rintro e w4 ⟨hb4, u4, rfl, ho4⟩
  obtain ⟨A4, c4, rfl⟩ := own_form ho4
  have hblk4 : Blk w4 g 24 #[.bool true, .bool true] := HB3.out.below hb4 (by simp; omega)
  have O24 := Lib.hid (own_below O23'.out hb4)
  have O34 := Lib.hid (own_below O3'.out hb4)
  have b4 := B4.out.trans (hb4.mono B4.out.size)
  have c0 : w4.cell? ⟨g, 0, none⟩ = some (.bool true) := by rw [hblk4.cell]; rfl
  have c1 : w4.cell? ⟨g, 1, none⟩ = some (.bool true) := by rw [hblk4.cell]; rfl
  have HE3 := Lib.hid (Encode_bad nobody 32 (.slice none 0 0) [] true true w4 (HG.out.below b4) (Row.nil _ _ _) (fun b hb => hb.elim) (by decide))
  have B5 := Lib.hid b4
  clear hb4 ho4 hblk4 b4 HD O23 O23' O3 O3' HB3
  go_wp2_with fail
  (with_reducible refine HE3.out.mono ?_)
  rintro e w5 ⟨rfl, hb5⟩
  have O25 := Lib.hid (own_below O24.out hb5)
  have O35 := Lib.hid (own_below O34.out hb5)
  have B6 := Lib.hid (B5.out.trans (hb5.mono B5.out.size))
  clear hb5 HE3 O24 O34 c0 c1
  go_wp2_with fail
  have HS := Lib.hid (same_any _ _ _ _ [255, 3, 0, 33, 69] [255, 3, 0, 33, 69] _ (Row.of_own (O25.out.alloc (.cells #[.int .u8 255, .int .u8 3, .int .u8 0, .int .u8 33, .int .u8 69] 5))) (row_at w5 w5.heap.size rfl [255, 3, 0, 33, 69] #[.int .u8 255, .int .u8 3, .int .u8 0, .int .u8 33, .int .u8 69] 5 rfl rfl (by simp)))
  have a6 := B6.out.alloc B6.out.size (.cells #[.int .u8 255, .int .u8 3, .int .u8 0, .int .u8 33, .int .u8 69] 5)
  have o6 := O35.out.alloc (.cells #[.int .u8 255, .int .u8 3, .int .u8 0, .int .u8 33, .int .u8 69] 5)
  have B7 := Lib.hid a6
  have O7 := Lib.hid o6
  rw [decide_eq_true (rfl : ([255, 3, 0, 33, 69] : List UInt8) = [255, 3, 0, 33, 69])] at HS
  clear a6 o6
  refine HS.out.mono ?_
  rintro e w6 ⟨rfl, hk6⟩
  have b6 := Below.quiet B7.out hk6 B7.out.size
  have o7 := ownsRow_keeps O7.out hk6 (fun _ _ h => h)
  have a7 := b6.alloc b6.size (.cells #[.int .u8 255, .int .u8 3, .int .u8 192, .int .u8 33, .int .u8 1] 5)
  have HS2 := Lib.hid (same_any _ _ _ _ [255, 3, 192, 33, 1] [255, 3, 192, 33, 1] _ (Row.of_own (o7.alloc (.cells #[.int .u8 255, .int .u8 3, .int .u8 192, .int .u8 33, .int .u8 1] 5))) (row_at w6 w6.heap.size rfl [255, 3, 192, 33, 1] #[.int .u8 255, .int .u8 3, .int .u8 192, .int .u8 33, .int .u8 1] 5 rfl rfl (by simp)))
  rw [decide_eq_true (rfl : ([255, 3, 192, 33, 1] : List UInt8) = [255, 3, 192, 33, 1])] at HS2
  have B8 := Lib.hid a7
  clear hk6 b6 o7 a7 HS
  go_wp2_with fail
  refine HS2.out.mono ?_
  rintro e w7 ⟨rfl, hk7⟩
  have b7 := Below.quiet B8.out hk7 B8.out.size
  have B9 := Lib.hid b7
  have HM := Lib.hid (may_any 289 w7)
  rw [show Pure.may 289 = false by decide] at HM
  clear hk7 b7 HS2
  go_wp2_with fail
  (with_reducible refine HM.out.mono ?_)
  rintro e w8 ⟨rfl, hk8⟩
  have B10 := Lib.hid (Below.quiet B9.out hk8 B9.out.size)
  clear hk8
  go_wp2_with fail
  go_ret
  exact ⟨rfl, B10.out⟩
end Go.Proofs.YtkllaghfiofnjaaDoor
