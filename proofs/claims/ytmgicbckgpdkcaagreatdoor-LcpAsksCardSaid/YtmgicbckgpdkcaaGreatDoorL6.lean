/- The document's Units: a secret's units. -/
import Derived.Laws.Tables
import Derived.Laws.CopyOwn
import Derived.Control
import Derived.BigRegion
import Derived.Test.YtmgicbckgpdkcaaGreatDoorL5
namespace Go.Proofs.YtmgicbckgpdkcaaGreatDoor
set_option maxRecDepth 100000
set_option maxHeartbeats 8000000
open _root_.Go.Lib renaming hid → xhd
open List renaming setIfInBounds_toArray → xqA, getElem_toArray → xqB, getElem_cons_succ → xqC, getElem_cons_zero → xqD, set_cons_succ → xqE, set_cons_zero → xqF
open Go.RowKit
theorem units_any (s : ByteArray) (l : List UInt8) (hl : s.data.toList = l) (hsz : l.length ≤ 1000000) (w : World) :
  Calls Tryz.prog 111 #[.string s] w fun e w' => ∃ v, e = .returned (.tuple #[v, .int .i64 (((Pure.secret l).1 : Nat) : Int)]) ∧ w'.ownsRow w.heap.size 5 1 v (Pure.secret l).2.length (u8s (Pure.secret l).2) ∧ Below w.heap.size w w' := by
 have hs : s.size = l.length := by rw [← hl]; simp
 have HL := xhd hl
 have HSZ := xhd hs
 clear hl
 go_enter Tryz.func111, Tryz.ntmps111
 go_wp2_with fail
 go_loopw [4, 5] (fun v i wr => ∃ (k : Nat) (acc : List UInt8), k ≤ l.length ∧ i = .int .i64 (k : Int) ∧ wr.ownsRow w.heap.size 5 1 v acc.length (u8s acc) ∧ acc.length ≤ 4 * k ∧ Pure.units l = Pure.unitsFrom (l.drop k) acc ∧ Below w.heap.size w wr) (fun _ i _ => l.length - (intOf i).toNat)
 case atStart => exact ⟨0, [], by omega, rfl, World.ownsRow_nil _ _ _ _, by simp, rfl, Below.refl _ _⟩
 case round =>
  obtain ⟨k, acc, hk, rfl, hW, hal, hU, hK⟩ := hrel
  have HW := xhd hW
  have HU := xhd hU
  have HK := xhd hK
  obtain ⟨A2, c2, rfl⟩ := y04 hW
  clear hW hU hK
  by_cases hkl : k < l.length
  ·have i0 : (0 : Int) ≤ (k : Int) := by omega
   have i1 : (k : Int) ≤ (s.size : Int) := by omega
   have i2 : (k : Int) < (l.length : Int) := by omega
   have hne : l.drop k ≠ [] := by
    intro e
    have := congrArg List.length e
    rw [List.length_drop] at this
    simp at this
    omega
   have hx : (s.extract k l.length).data.toList = l.drop k := by
    have e : s = ⟨l.toArray⟩ := by rw [← HL.out]
    have e2 := ByteArray.extract_mk l k l.length
    rw [← e] at e2
    rw [e2]
    simp only
    exact List.take_of_length_le (by rw [List.length_drop]; omega)
   have HLet := xhd (letter_any (s.extract k l.length) (l.drop k) hx (List.length_pos_iff.2 hne) (by rw [List.length_drop]; omega))
   obtain ⟨z1, z2⟩ := Pure.letter_size (l.drop k) hne
   have hn := Pure.letter_num (l.drop k)
   rw [List.length_drop] at z1
   have hbad := fun h => HU.out.trans (Pure.unitsFrom_bad acc hne h)
   have hgo := fun h => HU.out.trans (Pure.unitsFrom_step acc hne h)
   rw [List.drop_drop] at hgo
   obtain ⟨n, hn'⟩ : ∃ n, n = (Pure.letter (l.drop k)).1 := ⟨_, rfl⟩
   obtain ⟨z, hz'⟩ : ∃ z, z = (Pure.letter (l.drop k)).2 := ⟨_, rfl⟩
   rw [← hn'] at hn hgo
   rw [← hz'] at z1 z2 hbad hgo
   have HLet' := xhd (show ∀ w, Calls Tryz.prog 151 #[.string (s.extract k l.length)] w fun e w' => e = .returned (.tuple #[.int .i64 (n : Int), .int .i64 (z : Int)]) ∧ Keeps y01 w w' by rw [hn', hz']; exact HLet.out)
   have HBAD := xhd hbad
   have HGO := xhd hgo
   clear hx hbad hgo hn' hz' HLet HU hne
   have hsz1 := HSZ.out
   go_wp2_with fail
   refine (HLet'.out _).mono ?_
   rintro e w1 ⟨rfl, hk1⟩
   have HK1 := xhd (Below.quiet HK.out hk1 HK.out.size)
   have HW1 := xhd (y3i HW.out hk1)
   have hszw := HK1.out.size
   clear hk1 HLet' HK HW
   by_cases hz : z = 0
   ·subst hz
    have hsec := Pure.secret_none (HBAD.out rfl)
    have HSEC := xhd hsec
    clear hsec HGO
    go_wp2
    go_ret2
    exact ⟨_, by rw [HSEC.out]; rfl, by rw [HSEC.out]; exact World.ownsRow_nil _ _ _ _, HK1.out⟩
   have d0 : ((z : Int) == 0) = false := by rw [beq_eq_false_iff_ne]; omega
   have HGO' := xhd (HGO.out hz)
   obtain ⟨Z, hZ⟩ : ∃ Z, Z = k + z := ⟨_, rfl⟩
   have ez : (k : Int) + (z : Int) = (Z : Int) := by omega
   have hz4 : Z ≤ l.length := by omega
   have HZ := xhd hZ
   clear HBAD HGO hZ
   by_cases hbig : 65535 < n
   ·have hun : Pure.unitsOf n = [UInt8.ofNat ((55296 + (n - 65536) / 1024) % 256), UInt8.ofNat ((55296 + (n - 65536) / 1024) / 256 % 256), UInt8.ofNat ((56320 + (n - 65536) % 1024) % 256), UInt8.ofNat ((56320 + (n - 65536) % 1024) / 256 % 256)] := by
     unfold Pure.unitsOf; rw [if_pos hbig]; rfl
    have dn : decide ((65535 : Int) < (n : Int)) = true := decide_eq_true (by omega)
    obtain ⟨m, hm⟩ : ∃ m, m = n - 65536 := ⟨_, rfl⟩
    rw [← hm] at hun
    have em : (n : Int) - 65536 = (m : Int) := by omega
    obtain ⟨a, ha⟩ : ∃ a, a = 55296 + m / 1024 := ⟨_, rfl⟩
    obtain ⟨b, hb⟩ : ∃ b, b = 56320 + m % 1024 := ⟨_, rfl⟩
    rw [← ha, ← hb] at hun
    have ea : 55296 + (m : Int) / 1024 = (a : Int) := by omega
    have etm : (m : Int).tmod 1024 = (m : Int) % 1024 := Int.tmod_eq_emod_of_nonneg (by omega)
    have eb : 56320 + (m : Int) % 1024 = (b : Int) := by omega
    have hab : a < 65536 := by omega
    have hbb : b < 65536 := by omega
    have hm2 : m ≤ 1048575 := by omega
    obtain ⟨x1, hx1⟩ : ∃ x, x = UInt8.ofNat (a % 256) := ⟨_, rfl⟩
    obtain ⟨x2, hx2⟩ : ∃ x, x = UInt8.ofNat (a / 256 % 256) := ⟨_, rfl⟩
    obtain ⟨x3, hx3⟩ : ∃ x, x = UInt8.ofNat (b % 256) := ⟨_, rfl⟩
    obtain ⟨x4, hx4⟩ : ∃ x, x = UInt8.ofNat (b / 256 % 256) := ⟨_, rfl⟩
    rw [← hx1, ← hx2, ← hx3, ← hx4] at hun
    have f1 : (a : Int) % 256 = (x1.toNat : Int) := by rw [hx1, UInt8.toNat_ofNat']; omega
    have f2 : (a : Int) / 256 = (x2.toNat : Int) := by rw [hx2, UInt8.toNat_ofNat']; omega
    have f3 : (b : Int) % 256 = (x3.toNat : Int) := by rw [hx3, UInt8.toNat_ofNat']; omega
    have f4 : (b : Int) / 256 = (x4.toNat : Int) := by rw [hx4, UInt8.toNat_ofNat']; omega
    have HUN := xhd hun
    clear hun hm ha hb hx1 hx2 hx3 hx4 hbig
    go_wp2_with (at_builtin; refine y0d ?_)
    unfold Hid
    refine y0n rfl (.tmp 36) (.tmp 47) rfl w.heap.size (.slice A2 acc.length c2) acc.length acc rfl rfl (y0z HW1.out (World.grownBy_alloc w1 _ none) (by simp)) _ _ [x1, x2, x3, x4] rfl (y1f w1 [x1, x2, x3, x4] _ 4 rfl rfl (by simp)) (by simp; omega) (by simp; omega) ?_
    intro v3 w3 hown3 hg3 hat3
    have HB3 := xhd (show Below w.heap.size w w3 from ((HK1.out.alloc HK1.out.size _).grown hg3 (by simp; have := HK1.out.size; omega) (fun k hk => y06 HW1.out k hk)))
    have HO3 := xhd hown3
    clear hown3 hg3 hat3
    go_wp2_with fail
    go_roundw
    case rel => exact ⟨Z, acc ++ [x1, x2, x3, x4], hz4, rfl, HO3.out, by rw [List.length_append]; simp only [List.length_cons, List.length_nil]; omega, by rw [HZ.out, ← HUN.out]; exact HGO'.out, HB3.out⟩
    case measure => simp [intOf]; omega
   ·have hun : Pure.unitsOf n = [UInt8.ofNat (n % 256), UInt8.ofNat (n / 256 % 256)] := by
     unfold Pure.unitsOf; rw [if_neg hbig]; rfl
    have dn : decide ((65535 : Int) < (n : Int)) = false := decide_eq_false (by omega)
    obtain ⟨x1, hx1⟩ : ∃ x, x = UInt8.ofNat (n % 256) := ⟨_, rfl⟩
    obtain ⟨x2, hx2⟩ : ∃ x, x = UInt8.ofNat (n / 256 % 256) := ⟨_, rfl⟩
    rw [← hx1, ← hx2] at hun
    have f1 : (n : Int) % 256 = (x1.toNat : Int) := by rw [hx1, UInt8.toNat_ofNat']; omega
    have f2 : (n : Int) / 256 = (x2.toNat : Int) := by rw [hx2, UInt8.toNat_ofNat']; omega
    have HUN := xhd hun
    clear hun hx1 hx2
    go_wp2_with (at_builtin; refine y0d ?_)
    unfold Hid
    refine y0n rfl (.tmp 49) (.tmp 55) rfl w.heap.size (.slice A2 acc.length c2) acc.length acc rfl rfl (y0z HW1.out (World.grownBy_alloc w1 _ none) (by simp)) _ _ [x1, x2] rfl (y1f w1 [x1, x2] _ 2 rfl rfl (by simp)) (by simp; omega) (by simp; omega) ?_
    intro v3 w3 hown3 hg3 hat3
    have HB3 := xhd (show Below w.heap.size w w3 from ((HK1.out.alloc HK1.out.size _).grown hg3 (by simp; have := HK1.out.size; omega) (fun k hk => y06 HW1.out k hk)))
    have HO3 := xhd hown3
    clear hown3 hg3 hat3
    go_wp2_with fail
    go_roundw
    case rel => exact ⟨Z, acc ++ [x1, x2], hz4, rfl, HO3.out, by rw [List.length_append]; simp only [List.length_cons, List.length_nil]; omega, by rw [HZ.out, ← HUN.out]; exact HGO'.out, HB3.out⟩
    case measure => simp [intOf]; omega
  ·have hkk : k = l.length := by omega
   subst hkk
   have hu := HU.out
   rw [List.drop_length, Pure.unitsFrom_nil] at hu
   clear hkl hk
   by_cases hlong : 512 < acc.length
   ·have hsec := Pure.secret_long hu hlong
    have HSEC := xhd hsec
    have d1 : decide ((512 : Int) < (acc.length : Int)) = true := decide_eq_true (by omega)
    clear hsec hu HU
    go_wp2
    go_ret2
    exact ⟨_, by rw [HSEC.out]; rfl, by rw [HSEC.out]; exact World.ownsRow_nil _ _ _ _, HK.out⟩
   ·have hsec := Pure.secret_some hu hlong
    have HSEC := xhd hsec
    have d1 : decide ((512 : Int) < (acc.length : Int)) = false := decide_eq_false (by omega)
    clear hsec hu HU
    go_wp2
    go_ret2
    exact ⟨_, by rw [HSEC.out]; rfl, by rw [HSEC.out]; exact HW.out, HK.out⟩
theorem y1h (x y : UInt32) : bits .and .u32 (x.toNat : Int) (y.toNat : Int) = (((x &&& y).toNat : Nat) : Int) := by
 rw [u32_and_nat x.toNat y.toNat x.toNat_lt y.toNat_lt, UInt32.toNat_and]
theorem y23 (x y : UInt32) : bits .or .u32 (x.toNat : Int) (y.toNat : Int) = (((x ||| y).toNat : Nat) : Int) := by
 rw [u32_or_nat x.toNat y.toNat x.toNat_lt y.toNat_lt, UInt32.toNat_or]
theorem y2y (x y : UInt32) : bits .xor .u32 (x.toNat : Int) (y.toNat : Int) = (((x ^^^ y).toNat : Nat) : Int) := by
 rw [u32_xor_nat x.toNat y.toNat x.toNat_lt y.toNat_lt, UInt32.toNat_xor]
theorem not_u32 (x : UInt32) : bits .xor .u32 IntKind.u32.max (x.toNat : Int) = (((~~~x).toNat : Nat) : Int) := by
 have h : (-1 : UInt32).toNat = 4294967295 := by decide
 have h2 : ~~~x = (-1 : UInt32) ^^^ x := by
  apply UInt32.eq_of_toBitVec_eq
  simp
 have := y2y (-1) x
 rw [h] at this
 rw [h2, ← this]
 rfl
theorem y13 (x y : UInt32) : ((x.toNat : Int) + (y.toNat : Int)) % 4294967296 = (((x + y).toNat : Nat) : Int) := by
 rw [UInt32.toNat_add]
 omega
theorem y6b (x : UInt32) (n : Nat) (hn : n < 32) : (x.toNat : Int) * 2 ^ n % 4294967296 = (((x <<< UInt32.ofNat n).toNat : Nat) : Int) := by
 rw [UInt32.toNat_shiftLeft]
 have : (UInt32.ofNat n).toNat % 32 = n := by simp; omega
 rw [this, Nat.shiftLeft_eq, Int.natCast_emod, Int.natCast_mul, Int.natCast_pow]
 rfl
theorem shr_u32 (x : UInt32) (n : Nat) (hn : n < 32) : (x.toNat : Int) / 2 ^ n = (((x >>> UInt32.ofNat n).toNat : Nat) : Int) := by
 rw [UInt32.toNat_shiftRight]
 have : (UInt32.ofNat n).toNat % 32 = n := by simp; omega
 rw [this, Nat.shiftRight_eq_div_pow, Int.natCast_ediv, Int.natCast_pow]
 rfl
theorem low_u32 (x : UInt32) : (x.toNat : Int) % 256 = ((x.toUInt8.toNat : Nat) : Int) := by
 rw [UInt32.toNat_toUInt8]
 omega
theorem wide_u8 (b : UInt8) : ((b.toNat : Nat) : Int) = ((b.toUInt32.toNat : Nat) : Int) := by simp
abbrev u32s (l : List UInt32) : List Value := l.map fun b => Value.int .u32 b.toNat
theorem y19 (l : List UInt32) (j : Nat) (h : j < l.length) : (u32s l)[j]? = some (.int .u32 ((l.getD j 0).toNat)) := by
 rw [List.getElem?_map, List.getElem?_eq_getElem h, List.getD_eq_getElem?_getD, List.getElem?_eq_getElem h]; rfl
theorem y36 (l : List UInt32) (j : Nat) (x : UInt32) : (u32s l).toArray.setIfInBounds j (.int .u32 x.toNat) = (u32s (l.set j x)).toArray := by
 apply Array.toList_inj.1
 simp [List.map_set]
namespace Pure
def noughts (n : Nat) : Nat := (119 - n % 64) % 64
theorem noughts_spec (n : Nat) : (n + 1 + noughts n) % 64 = 56 := by unfold noughts; omega
theorem noughts_least (n k : Nat) (h : k < noughts n) : (n + 1 + k) % 64 ≠ 56 := by unfold noughts at h; omega
def lenByte (low : Bool) (n i : Nat) : UInt8 := UInt8.ofNat (8 * n / 2 ^ (if low then 8 * i else 56 - 8 * i))
def lenBytes (low : Bool) (n k : Nat) : List UInt8 := (List.range k).map (lenByte low n)
def pad (low : Bool) (b : List UInt8) : List UInt8 := b ++ [128] ++ List.replicate (noughts b.length) 0 ++ lenBytes low b.length 8
theorem y52 (low : Bool) (b : List UInt8) : (pad low b).length = b.length + 1 + noughts b.length + 8 := by simp [pad, lenBytes]; omega
theorem pad_blocks (low : Bool) (b : List UInt8) : (pad low b).length % 64 = 0 := by
 rw [y52]
 have := noughts_spec b.length
 omega
theorem pad_le (low : Bool) (b : List UInt8) : (pad low b).length ≤ b.length + 72 := by
 rw [y52]
 unfold noughts
 omega
def rotl (x : UInt32) (n : Nat) : UInt32 := x <<< UInt32.ofNat n ||| x >>> UInt32.ofNat (32 - n)
def wordsLow (m : List UInt8) (at' : Nat) : Nat → List UInt32
 | 0 => List.replicate 16 0
 | i + 1 => (wordsLow m at' i).set (i / 4) ((wordsLow m at' i).getD (i / 4) 0 ||| (m.getD (at' + i) 0).toUInt32 <<< UInt32.ofNat (8 * (i % 4)))
theorem wordsLow_length (m : List UInt8) (at' : Nat) : ∀ i, (wordsLow m at' i).length = 16
 | 0 => rfl
 | i + 1 => by simp only [wordsLow, List.length_set]; exact wordsLow_length m at' i
structure W4 where
 a : UInt32
 b : UInt32
 c : UInt32
 d : UInt32
def md4F (s : Nat) (b c d : UInt32) : UInt32 := if s < 16 then b &&& c ||| ~~~b &&& d else if s < 32 then b &&& c ||| b &&& d ||| c &&& d else b ^^^ c ^^^ d
def md4T (s : Nat) : UInt32 := if s < 16 then 0 else if s < 32 then 0x5a827999 else 0x6ed9eba1
def md4Order : List Nat := [0, 1, 2, 3, 4, 5, 6, 7, 8, 9, 10, 11, 12, 13, 14, 15, 0, 4, 8, 12, 1, 5, 9, 13, 2, 6, 10, 14, 3, 7, 11, 15, 0, 8, 4, 12, 2, 10, 6, 14, 1, 9, 5, 13, 3, 11, 7, 15]
def md4Turns : List Nat := [3, 7, 11, 19, 3, 5, 9, 13, 3, 9, 11, 15]
def md4Step (x : List UInt32) (s : Nat) (v : W4) : W4 :=
 ⟨v.d, rotl (v.a + md4F s v.b v.c v.d + x.getD (md4Order.getD s 0) 0 + md4T s) (md4Turns.getD (s / 16 * 4 + s % 4) 0), v.b, v.c⟩
def md4Steps (x : List UInt32) (v : W4) : Nat → W4
 | 0 => v
 | s + 1 => md4Step x s (md4Steps x v s)
def md4Start : W4 := ⟨0x67452301, 0xefcdab89, 0x98badcfe, 0x10325476⟩
def md4Blocks (m : List UInt8) : Nat → W4
 | 0 => md4Start
 | k + 1 =>
  let h := md4Blocks m k
  let v := md4Steps (wordsLow m (64 * k) 64) h 48
  ⟨h.a + v.a, h.b + v.b, h.c + v.c, h.d + v.d⟩
def W4.list (v : W4) : List UInt32 := [v.a, v.b, v.c, v.d]
def outLow (h : List UInt32) (i : Nat) : UInt8 := (h.getD (i / 4) 0 >>> UInt32.ofNat (8 * (i % 4))).toUInt8
def md4 (b : List UInt8) : List UInt8 := (List.range 16).map (outLow (md4Blocks (pad true b) ((pad true b).length / 64)).list)
theorem md4_length (b : List UInt8) : (md4 b).length = 16 := by simp [md4]
end Pure
def lenOf : Value → Nat
 | .slice _ n _ => n
 | _ => 0
theorem y44 (low : Bool) (n i s : Nat) (hs : s = if low then 8 * i else 56 - 8 * i) : ((n : Int) * 8 / 2 ^ s) % 256 = (((Pure.lenByte low n i).toNat : Nat) : Int) := by
 unfold Pure.lenByte
 rw [← hs, UInt8.toNat_ofNat', Nat.mul_comm 8 n, Int.natCast_emod, Int.natCast_ediv, Int.natCast_pow, Int.natCast_mul]
 rfl
theorem y39 (low : Bool) (n k : Nat) : Pure.lenBytes low n (k + 1) = Pure.lenBytes low n k ++ [Pure.lenByte low n k] := by
 simp [Pure.lenBytes, List.range_succ]
theorem y0y (low : Bool) (n k : Nat) : (Pure.lenBytes low n k).length = k := by simp [Pure.lenBytes]
theorem new1 (W : World) (x : UInt8) : Row (W.alloc (.cells #[.int .u8 x.toNat] 5)) (fun b => b = W.heap.size) 1 (.slice (some ⟨W.heap.size, 0, none⟩) 1 1) 1 (u8s [x]) := y1f W [x] _ _ rfl rfl (by simp)
theorem pad_any (low : Bool) (F : Nat → Prop) (x : Value) (bs : List UInt8) (w : World) (hr : Row w F 1 x bs.length (u8s bs)) (hF : ∀ b, F b → b < w.heap.size) (hl : bs.length ≤ 100000000) :
  Calls Tryz.prog 152 #[x, .bool low] w fun e w' => ∃ u, e = .returned u ∧ w'.ownsRow w.heap.size 5 1 u (Pure.pad low bs).length (u8s (Pure.pad low bs)) ∧ Below w.heap.size w w' := by
 obtain ⟨A, cA, rfl, hc⟩ := hr.form
 have HC := xhd (copy_any F _ bs w hr hF (by omega))
 clear hr hF
 go_enter Tryz.func152, Tryz.ntmps152
 go_wp2_with fail
 refine HC.out.mono ?_
 rintro e w1 ⟨u, rfl, hu, hb1⟩
 have HU := xhd hu
 have HB := xhd hb1
 clear HC hu hb1
 go_wp2_with (at_builtin; refine y0d ?_)
 unfold Hid
 have hsz := HB.out.size
 refine y0n rfl (.tmp 9) (.tmp 10) rfl w.heap.size u bs.length bs rfl rfl (y0z HU.out (World.grownBy_alloc w1 _ none) (by simp)) _ _ [128] rfl (new1 w1 128) (by simp; omega) (by simp; omega) ?_
 intro v2 w2 hown2 hg2 hat2
 have HO2 := xhd hown2
 have HB2 := xhd (show Below w.heap.size w w2 from ((HB.out.alloc hsz _).grown hg2 (by simp; omega) (fun k hk => y06 HU.out k hk)))
 clear HU HB hown2 hg2 hat2
 go_wp2_with fail
 go_loopw [5] (fun v wr => ∃ k : Nat, k ≤ Pure.noughts bs.length ∧ wr.ownsRow w.heap.size 5 1 v (bs.length + 1 + k) (u8s (bs ++ [128] ++ List.replicate k 0)) ∧ Below w.heap.size w wr) (fun v _ => bs.length + 1 + Pure.noughts bs.length - lenOf v)
 case atStart => exact ⟨0, by omega, by simpa using HO2.out, HB2.out⟩
 case round =>
  clear HO2 HB2
  obtain ⟨k, hk, hW, hK⟩ := hrel
  have HW := xhd hW
  have HK := xhd hK
  obtain ⟨A, c, rfl⟩ := y04 HW.out
  clear hW hK
  have hno : Pure.noughts bs.length < 64 := by unfold Pure.noughts; omega
  by_cases hkl : k < Pure.noughts bs.length
  ·have hne := Pure.noughts_least bs.length k hkl
   obtain ⟨N, hN⟩ : ∃ N, N = bs.length + 1 + k := ⟨_, rfl⟩
   rw [← hN] at HW hne ⊢
   have hN2 : N ≤ 200000000 := by omega
   have hm : ((N : Int) % 64 != 56) = true := by rw [bne_iff_ne]; omega
   have HN := xhd hN
   clear hN hne
   have hsz := HK.out.size
   go_wp2_with (at_builtin; refine y0d ?_)
   unfold Hid
   refine y0n rfl (.tmp 16) (.tmp 17) rfl w.heap.size (.slice A N c) N (bs ++ [128] ++ List.replicate k 0) (by simp; have := HN.out; omega) rfl (y0z HW.out (World.grownBy_alloc wr _ none) (by simp)) _ _ [0] rfl (new1 wr 0) (by simp; omega) (by simp; omega) ?_
   intro v3 w3 hown3 hg3 hat3
   have HO3 := xhd hown3
   have HB3 := xhd (show Below w.heap.size w w3 from ((HK.out.alloc hsz _).grown hg3 (by simp; omega) (fun k hk => y06 HW.out k hk)))
   clear hown3 hg3 hat3
   go_wp2_with fail
   go_roundw
   case rel =>
    refine ⟨k + 1, by omega, ?_, HB3.out⟩
    have h3 := HO3.out
    have e1 : (bs ++ [128] ++ List.replicate k 0 ++ [0]) = bs ++ [128] ++ List.replicate (k + 1) 0 := by rw [List.append_assoc _ (List.replicate k 0), List.replicate_succ']
    rw [e1] at h3
    have e2 : (bs ++ [128] ++ List.replicate (k + 1) 0).length = bs.length + 1 + (k + 1) := by simp; omega
    rw [e2] at h3
    exact h3
   case measure =>
    have h3 := HO3.out
    obtain ⟨A3, c3, rfl⟩ := y04 h3
    have := HN.out
    simp [lenOf]
    omega
  ·have hkk : k = Pure.noughts bs.length := by omega
   subst hkk
   have hsp := Pure.noughts_spec bs.length
   obtain ⟨N, hN⟩ : ∃ N, N = bs.length + 1 + Pure.noughts bs.length := ⟨_, rfl⟩
   rw [← hN] at HW hsp ⊢
   have hN2 : N ≤ 200000000 := by omega
   have hm : ((N : Int) % 64 != 56) = false := by
    have : (N : Int) % 64 = 56 := by omega
    rw [this]; rfl
   have HN := xhd hN
   obtain ⟨base, hbase⟩ : ∃ base, base = bs ++ [128] ++ List.replicate (Pure.noughts bs.length) 0 := ⟨_, rfl⟩
   have HBase := xhd hbase
   have hlb : base.length = N := by rw [hbase, hN]; simp; omega
   rw [← hbase] at HW
   have HL := xhd hlb
   clear hN hsp hbase hlb hkl hk hno
   go_wp2_with fail
   go_loopw [5, 7] (fun v i wr => ∃ k : Nat, k ≤ 8 ∧ i = .int .i64 k ∧ wr.ownsRow w.heap.size 5 1 v (N + k) (u8s (base ++ Pure.lenBytes low bs.length k)) ∧ Below w.heap.size w wr) (fun _ i _ => 8 - (intOf i).toNat)
   case atStart => exact ⟨0, by omega, rfl, by simpa [Pure.lenBytes] using HW.out, HK.out⟩
   case round =>
    clear HW HK
    obtain ⟨k, hk, rfl, hW, hK⟩ := hrel
    have HW := xhd hW
    have HK := xhd hK
    obtain ⟨A, c, rfl⟩ := y04 HW.out
    clear hW hK
    by_cases hkl : k < 8
    ·have hi0 : (0 : Int) ≤ (k : Int) := by omega
     have hi1 : (k : Int) < 8 := by omega
     have hsz := HK.out.size
     cases low
     ·have hb := y44 false bs.length k (56 - 8 * k) (by simp)
      obtain ⟨X, hX⟩ : ∃ X, X = Pure.lenByte false bs.length k := ⟨_, rfl⟩
      rw [← hX] at hb
      have HX := xhd hX
      clear hX
      go_wp2_with (at_builtin; refine y0d ?_)
      unfold Hid
      refine y0n rfl (.tmp 37) (.tmp 45) rfl w.heap.size (.slice A (N + k) c) (N + k) (base ++ Pure.lenBytes false bs.length k) (by have := HL.out; simp [y0y]; omega) rfl (y0z HW.out (World.grownBy_alloc wr _ none) (by simp)) _ _ [X] rfl (new1 wr X) (by simp; omega) (by simp; omega) ?_
      intro v3 w3 hown3 hg3 hat3
      have HO3 := xhd hown3
      have HB3 := xhd (show Below w.heap.size w w3 from ((HK.out.alloc hsz _).grown hg3 (by simp; omega) (fun k hk => y06 HW.out k hk)))
      clear hown3 hg3 hat3
      go_wp2_with fail
      go_roundw
      case rel =>
       refine ⟨k + 1, by omega, by go_num, ?_, HB3.out⟩
       have h3 := HO3.out
       rw [List.append_assoc, HX.out, ← y39] at h3
       have e2 : (base ++ Pure.lenBytes false bs.length (k + 1)).length = N + (k + 1) := by have := HL.out; simp [y0y]; omega
       rw [e2] at h3
       exact h3
      case measure => simp [intOf]; omega
     ·have hb := y44 true bs.length k (8 * k) (by simp)
      obtain ⟨X, hX⟩ : ∃ X, X = Pure.lenByte true bs.length k := ⟨_, rfl⟩
      rw [← hX] at hb
      have HX := xhd hX
      clear hX
      go_wp2_with (at_builtin; refine y0d ?_)
      unfold Hid
      refine y0n rfl (.tmp 28) (.tmp 35) rfl w.heap.size (.slice A (N + k) c) (N + k) (base ++ Pure.lenBytes true bs.length k) (by have := HL.out; simp [y0y]; omega) rfl (y0z HW.out (World.grownBy_alloc wr _ none) (by simp)) _ _ [X] rfl (new1 wr X) (by simp; omega) (by simp; omega) ?_
      intro v3 w3 hown3 hg3 hat3
      have HO3 := xhd hown3
      have HB3 := xhd (show Below w.heap.size w w3 from ((HK.out.alloc hsz _).grown hg3 (by simp; omega) (fun k hk => y06 HW.out k hk)))
      clear hown3 hg3 hat3
      go_wp2_with fail
      go_roundw
      case rel =>
       refine ⟨k + 1, by omega, by go_num, ?_, HB3.out⟩
       have h3 := HO3.out
       rw [List.append_assoc, HX.out, ← y39] at h3
       have e2 : (base ++ Pure.lenBytes true bs.length (k + 1)).length = N + (k + 1) := by have := HL.out; simp [y0y]; omega
       rw [e2] at h3
       exact h3
      case measure => simp [intOf]; omega
    ·have hk8 : k = 8 := by omega
     subst hk8
     go_wp2
     go_ret
     refine ⟨_, rfl, ?_, HK.out⟩
     have h3 := HW.out
     rw [HBase.out] at h3
     rw [show Pure.pad low bs = bs ++ [128] ++ List.replicate (Pure.noughts bs.length) 0 ++ Pure.lenBytes low bs.length 8 from rfl]
     have e2 : (bs ++ [128] ++ List.replicate (Pure.noughts bs.length) 0 ++ Pure.lenBytes low bs.length 8).length = N + 8 := by have := HN.out; simp [y0y]; omega
     rw [e2]
     exact h3
theorem left_eq (x : UInt32) (n : Nat) (h1 : 1 ≤ n) (hn : n < 32) : bits .or .u32 ((x.toNat : Int) * 2 ^ n % 4294967296) ((x.toNat : Int) / 2 ^ (32 - n)) = (((Pure.rotl x n).toNat : Nat) : Int) := by
 rw [y6b x n hn, shr_u32 x (32 - n) (by omega), y23]
 rfl
theorem rotl_any (x : UInt32) (n : Nat) (h1 : 1 ≤ n) (hn : n < 32) (w : World) : Calls Tryz.prog 153 #[.int .u32 x.toNat, .int .i64 n] w fun e w' => e = .returned (.int .u32 ((Pure.rotl x n).toNat)) ∧ w' = w := by
 have h0 : (0 : Int) ≤ n := by omega
 have h2 : (n : Int) ≤ 32 := by omega
 have he := left_eq x n h1 hn
 go_enter Tryz.func153, Tryz.ntmps153
 go_wp2
 go_ret
 exact ⟨rfl, rfl⟩
theorem y69 (x : UInt32) (n : Nat) (h1 : 1 ≤ n) (hn : n < 32) (w : World) : Calls Tryz.prog 211 #[.int .u32 x.toNat, .int .i64 n] w fun e w' => e = .returned (.int .u32 ((Pure.rotl x n).toNat)) ∧ w' = w := by
 have h0 : (0 : Int) ≤ n := by omega
 have h2 : (n : Int) < 32 := by omega
 have h3 : (n : Int) ≤ 32 := by omega
 have he := left_eq x n h1 hn
 have hm : bits .and .u64 (n : Int) 31 = (n : Int) := by
  have := u64_and_nat n 31 (by omega) (by omega)
  rw [show n &&& 31 = n from by have := Nat.and_two_pow_sub_one_eq_mod n 5; rw [show (2:Nat)^5 - 1 = 31 from rfl] at this; rw [this]; omega] at this
  exact this
 go_enter Tryz.func211, Tryz.ntmps211
 go_wp2
 go_ret
 exact ⟨rfl, rfl⟩
theorem choice_any (x y z r : UInt32) (hr : r = x &&& y ||| ~~~x &&& z) (w : World) : Calls Tryz.prog 212 #[.int .u32 x.toNat, .int .u32 y.toNat, .int .u32 z.toNat] w fun e w' => e = .returned (.int .u32 r.toNat) ∧ w' = w := by
 obtain ⟨a, ha⟩ : ∃ a, a = x &&& y := ⟨_, rfl⟩
 obtain ⟨b, hb⟩ : ∃ b, b = ~~~x := ⟨_, rfl⟩
 obtain ⟨c, hc⟩ : ∃ c, c = b &&& z := ⟨_, rfl⟩
 rw [← ha, ← hb, ← hc] at hr
 have ea := y1h x y
 rw [← ha] at ea
 have eb := not_u32 x
 rw [← hb] at eb
 have ec := y1h b z
 rw [← hc] at ec
 have er := y23 a c
 rw [← hr] at er
 clear ha hb hc hr
 go_enter Tryz.func212, Tryz.ntmps212
 go_wp2
 all_goals go_ret
 all_goals exact ⟨rfl, rfl⟩
theorem y7w (x y z r : UInt32) (hr : r = x &&& y ||| x &&& z ||| y &&& z) (w : World) : Calls Tryz.prog 213 #[.int .u32 x.toNat, .int .u32 y.toNat, .int .u32 z.toNat] w fun e w' => e = .returned (.int .u32 r.toNat) ∧ w' = w := by
 obtain ⟨a, ha⟩ : ∃ a, a = x &&& y := ⟨_, rfl⟩
 obtain ⟨b, hb⟩ : ∃ b, b = x &&& z := ⟨_, rfl⟩
 obtain ⟨c, hc⟩ : ∃ c, c = a ||| b := ⟨_, rfl⟩
 obtain ⟨d, hd⟩ : ∃ d, d = y &&& z := ⟨_, rfl⟩
 rw [← ha, ← hb, ← hc, ← hd] at hr
 have ea := y1h x y
 rw [← ha] at ea
 have eb := y1h x z
 rw [← hb] at eb
 have ec := y23 a b
 rw [← hc] at ec
 have ed := y1h y z
 rw [← hd] at ed
 have er := y23 c d
 rw [← hr] at er
 clear ha hb hc hd hr
 go_enter Tryz.func213, Tryz.ntmps213
 go_wp2
 all_goals go_ret
 all_goals exact ⟨rfl, rfl⟩
theorem parity_any (x y z r : UInt32) (hr : r = x ^^^ y ^^^ z) (w : World) : Calls Tryz.prog 214 #[.int .u32 x.toNat, .int .u32 y.toNat, .int .u32 z.toNat] w fun e w' => e = .returned (.int .u32 r.toNat) ∧ w' = w := by
 obtain ⟨a, ha⟩ : ∃ a, a = x ^^^ y := ⟨_, rfl⟩
 rw [← ha] at hr
 have ea := y2y x y
 rw [← ha] at ea
 have er := y2y a z
 rw [← hr] at er
 clear ha hr
 go_enter Tryz.func214, Tryz.ntmps214
 go_wp2
 all_goals go_ret
 all_goals exact ⟨rfl, rfl⟩
namespace Pure
def sumTo (h v : W4) (i : Nat) : List UInt32 := [h.a + (if 0 < i then v.a else 0), h.b + (if 1 < i then v.b else 0), h.c + (if 2 < i then v.c else 0), h.d + (if 3 < i then v.d else 0)]
theorem sumTo_zero (h v : W4) : sumTo h v 0 = h.list := by simp [sumTo, W4.list]
theorem sumTo_four (h v : W4) : sumTo h v 4 = W4.list ⟨h.a + v.a, h.b + v.b, h.c + v.c, h.d + v.d⟩ := by simp [sumTo, W4.list]
theorem sumTo_succ (h v : W4) (i : Nat) (hi : i < 4) : sumTo h v (i + 1) = (sumTo h v i).set i ((sumTo h v i).getD i 0 + v.list.getD i 0) := by
 rcases (show i = 0 ∨ i = 1 ∨ i = 2 ∨ i = 3 by omega) with rfl | rfl | rfl | rfl <;> simp [sumTo, W4.list]
theorem W4.list_length (v : W4) : v.list.length = 4 := rfl
theorem md4Turns_range (s : Nat) (hs : s < 48) : 1 ≤ md4Turns.getD (s / 16 * 4 + s % 4) 0 ∧ md4Turns.getD (s / 16 * 4 + s % 4) 0 < 32 := by
 have : ∀ s < 48, 1 ≤ md4Turns.getD (s / 16 * 4 + s % 4) 0 ∧ md4Turns.getD (s / 16 * 4 + s % 4) 0 < 32 := by decide
 exact this s hs
theorem md4Order_range (s : Nat) (hs : s < 48) : md4Order.getD s 0 < 16 := by
 have : ∀ s < 48, md4Order.getD s 0 < 16 := by decide
 exact this s hs
end Pure
theorem Keeps.rowSet {S : Nat → Prop} {a w : World} {g : Nat} (h : Keeps S a w) (hp : g < a.heap.size → S g) (cs : Array Value) : Keeps S a (w.setRow g cs) :=
 ⟨h.os, h.tape, h.output, by simpa using h.size, fun k hk hs => (setRow_other w g k cs (fun e => hs (e ▸ hp (e ▸ hk)))).trans (h.block k hk hs)⟩
theorem Blk.rowSet {w : World} {g : Nat} {t : TypeId} {old : Array Value} (h : Blk w g t old) (cs : Array Value) : Blk (w.setRow g cs) g t cs := setRow_heap w g old cs t (0, 0) h
theorem y1a (l : List UInt32) : (l.map fun (b : UInt32) => Value.int .u32 b.toNat).toArray.all (·.oneCell') = true := by simp [Value.oneCell']
theorem y76 {P : Program} {o : Oper} {a : Act} {w : World} (ty : TypeId) (x : Operand) (ho : o.op = .load ty x)
  (g : Nat) (hx : a.eval x = .pointer (some ⟨g, 0, none⟩)) (t : TypeId) (cs : Array Value) (fr : Nat × Nat) (d : TypeDesc) (hg : w.heap[g]? = some (.cells cs t fr))
  (hu : P.underlying ty = some d) (hd : (match d with | .struct _ | .array _ _ => true | _ => false) = true) (hi : (P.info? ty).map (·.size) = some cs.size) :
  (execOp a.eval o).run P w = .ok (.value (.agg cs)) w := by
 unfold execOp
 simp only [ho, hx, Instr.loadAt, Instr.sureAddr, Sem.run_bind, Sem.run_pure, Result.andThen_ok, run_loadVar_row w g t ty cs fr d hg hu hd hi]
theorem u32_info : (Tryz.prog.info? 23).map (fun i => (i.zero, i.size, i.bytes)) = some (some (.int .u32 0), 1, 4) := by kernel_rfl
theorem made_words (n : Nat) : madeCells (Value.int .u32 0).cells (n * 1) = (u32s (List.replicate n 0)).toArray := by
 rw [show (Value.int .u32 0).cells = #[.int .u32 0] from rfl]
 apply Array.ext_getElem?
 intro i
 simp only [madeCells, Nat.mul_one]
 by_cases h : i < n
 ·simp [h, Nat.mod_one]
 ·simp [h]
theorem y40 {w : World} {ops : Array Oper} {rest : List Oper} {o : Oper} {a : Act} {Q : Exit → Act → World → Prop}
  (hg : o.guard = none) (l c : Operand) (hop : o.op = Op.makeSlice 204 l c) (n : Nat) (kl kc : IntKind) (hl : a.eval l = .int kl (n : Int)) (hc : a.eval c = .int kc (n : Int)) (hn : n ≤ 1000000)
  (hK : ∀ w', Blk w' w.heap.size 23 (u32s (List.replicate n 0)).toArray → Keeps y01 w w' → w'.heap.size = w.heap.size + 1 → wpList Tryz.prog ops Q rest (a.put o.dst (.slice (some ⟨w.heap.size, 0, none⟩) n n)) w') :
  wpList Tryz.prog ops Q (o :: rest) a w := by
 obtain ⟨i0, hi0, hz0, hz1, hz2⟩ := info_parts u32_info
 refine wpList_plain hg fun K hK' => ?_
 have hrun := run_make (P := Tryz.prog) w 204 23 i0 _ Tryz.underlying204 hi0 hz0 kl kc n n (by omega) (by omega) (by rw [hz2]; omega) (by omega)
 rw [hz1, Int.toNat_natCast, made_words] at hrun
 obtain ⟨w', hw'⟩ : ∃ w', w' = w.alloc (.cells (u32s (List.replicate n 0)).toArray 23) := ⟨_, rfl⟩
 rw [← hw'] at hrun
 unfold Oper.wp
 simp [execOp, hop, hl, hc, hrun, Result.andThen]
 exact hK' _ _ (hK w' (by rw [hw']; exact Blk.new w _ _) (by rw [hw']; exact (Keeps.refl _ w).alloc _) (by rw [hw']; simp))
abbrev warr (l : List UInt32) : Value := .agg (u32s l).toArray
abbrev iarr (l : List Nat) : Value := .agg (ints l).toArray
theorem y7d (t e : TypeId) (n : Nat) (cs : Array Value) (q : Nat) (v : Value) (W : World) (h : Tryz.prog.underlying t = some (.array n e)) (hq : q < n) (hv : cs[q]? = some v)
  (i : TypeInfo) (hi : Tryz.prog.info? e = some i) (hs : i.size = 1) (d : TypeDesc) (he : Tryz.prog.underlying e = some d) (hd : (match d with | .struct _ | .array _ _ => true | _ => false) = false) : (Instr.index t (.agg cs) (.int .i64 (q : Int))).run Tryz.prog W = .ok v W := by
 have hc : (0 : Int) ≤ (q : Int) ∧ (q : Int) < (n : Int) := by omega
 have e1 : (Instr.index t (.agg cs) (.int .i64 (q : Int))).run Tryz.prog W = (part e cs q).run Tryz.prog W := by
  have hnq : ¬ n ≤ q := by omega
  simp [Instr.index, run_underlying h, asIntOf, hnq, go_sem, sizeOf, typeInfo, hi, hs]
 rw [e1]
 have hagg : (isAgg e).run Tryz.prog W = .ok false W := by
  unfold isAgg
  rw [Sem.run_bind, run_underlying he W]
  cases d <;> simp_all
 simp [part, Sem.run_bind, hagg, hv]
theorem y25 (l : List Nat) (q : Nat) (v : Nat) (W : World) (hq : q < 16) (hv : (ints l)[q]? = some (.int .i64 (v : Int))) : (Instr.index 292 (.agg (ints l).toArray) (.int .i64 (q : Int))).run Tryz.prog W = .ok (.int .i64 (v : Int)) W := by
 obtain ⟨i0, hi0, hz0, hz1, hz2⟩ := info_parts int_info
 exact y7d 292 3 16 _ q _ W Tryz.underlying292 hq (by simpa using hv) i0 hi0 hz1 _ Tryz.underlying3 rfl
def y1e : Code → List Code
 | .loop c => [c]
 | .seq a b => y1e a ++ y1e b
 | .block _ c => y1e c
 | .scope c => y1e c
 | .cond _ a b => y1e a ++ y1e b
 | _ => []
noncomputable def y4h : Code := (y1e ((Tryz.f112).body.getD .skip)).getD 0 .skip
noncomputable def docBody2 : Code := (y1e y4h).getD 0 .skip
noncomputable def docBody3 : Code := (y1e y4h).getD 1 .skip
noncomputable def docBody4 : Code := (y1e y4h).getD 2 .skip
noncomputable def docBody5 : Code := (y1e ((Tryz.f112).body.getD .skip)).getD 1 .skip
theorem y73 (c0 c1 c2 c3 c5 c6 c10 c11 c12 c13 c14 c15 c16 c17 c18 c19 c20 c21 c22 c23 c24 c25 c26 c27 c28 c29 c56 c57 c58 c59 c60 c61 c62 c63 c64 c65 c66 c67 c68 c69 c70 c71 c72 c73 c74 c75 c76 c77 c78 c79 c80 c81 c82 c83 c84 c85 c86 c87 c88 c89 c90 c91 c92 c93 c94 c95 c96 c97 c98 c99 c100 c101 c102 c103 c104 c105 c106 c107 c108 c109 c110 c111 c112 c113 c114 c115 c116 c117 c118 c119 c120 c121 c122 c123 c124 c125 c126 c127 c128 c129 c130 c131 c132 c133 c134 c135 c136 c137 c138 c139 c140 c141 c142 c143 c144 c145 c146 c147 c148 c149 c150 c151 c152 c153 c154 c155 c156 c157 c158 c159 c160 c161 c162 c163 c164 c165 c166 c167 c168 c169 c170 c171 c172 c173 c174 c175 c176 c177 c178 c179 c180 c181 c182 c183 c184 c185 c186 c187 c188 c189 c190 c191 c192 c193 c194 c195 c196 c197 : Value) (u30 u31 u32 u33 u34 u35 u36 u37 u38 u39 u40 u41 u42 u43 u44 u45 u46 u47 u48 u49 u50 u51 u52 u53 u54 u55 : Value) (A : Option Addr) (cA : Nat) (m : List UInt8) (K p bx : Nat) (hp : p + 64 ≤ 64 * K) (hmK : m.length = 64 * K) (hK2 : K ≤ 1000000) (G : Nat → Prop) (hG : ¬ G bx) (w0 : World) (hM : Row w0 G 1 (.slice A (64 * K) cA) (64 * K) (u8s m)) (hX : Blk w0 bx 23 (u32s (Pure.wordsLow m p 0)).toArray) (Q0 : Exit → Act → World → Prop)
  (hQ : ∀ (c : List PanicEntry) (a : Act) (d : Option Nat) (v : Value) (w : World), Q0 (.panic c) (a.put d v) w → Q0 (.panic c) a w)
  (hexit : ∀ (v30 v31 v32 v33 v34 v35 v36 v37 v38 v39 v40 v41 v42 v43 v44 v45 v46 v47 v48 v49 v50 v51 v52 v53 v54 v55 : Value) (wr : World), Blk wr bx 23 (u32s (Pure.wordsLow m p 64)).toArray → Keeps (only bx) w0 wr → Q0 (.exit 2) { tmps := (c0 :: c1 :: c2 :: c3 :: .slice A (64 * K) cA :: c5 :: c6 :: .int .i64 (p : Int) :: .slice (some ⟨bx, 0, none⟩) 16 16 :: .int .i64 ((64 : Nat) : Int) :: c10 :: c11 :: c12 :: c13 :: c14 :: c15 :: c16 :: c17 :: c18 :: c19 :: c20 :: c21 :: c22 :: c23 :: c24 :: c25 :: c26 :: c27 :: c28 :: c29 :: v30 :: v31 :: v32 :: v33 :: v34 :: v35 :: v36 :: v37 :: v38 :: v39 :: v40 :: v41 :: v42 :: v43 :: v44 :: v45 :: v46 :: v47 :: v48 :: v49 :: v50 :: v51 :: v52 :: v53 :: v54 :: v55 :: c56 :: c57 :: c58 :: c59 :: c60 :: c61 :: c62 :: c63 :: c64 :: c65 :: c66 :: c67 :: c68 :: c69 :: c70 :: c71 :: c72 :: c73 :: c74 :: c75 :: c76 :: c77 :: c78 :: c79 :: c80 :: c81 :: c82 :: c83 :: c84 :: c85 :: c86 :: c87 :: c88 :: c89 :: c90 :: c91 :: c92 :: c93 :: c94 :: c95 :: c96 :: c97 :: c98 :: c99 :: c100 :: c101 :: c102 :: c103 :: c104 :: c105 :: c106 :: c107 :: c108 :: c109 :: c110 :: c111 :: c112 :: c113 :: c114 :: c115 :: c116 :: c117 :: c118 :: c119 :: c120 :: c121 :: c122 :: c123 :: c124 :: c125 :: c126 :: c127 :: c128 :: c129 :: c130 :: c131 :: c132 :: c133 :: c134 :: c135 :: c136 :: c137 :: c138 :: c139 :: c140 :: c141 :: c142 :: c143 :: c144 :: c145 :: c146 :: c147 :: c148 :: c149 :: c150 :: c151 :: c152 :: c153 :: c154 :: c155 :: c156 :: c157 :: c158 :: c159 :: c160 :: c161 :: c162 :: c163 :: c164 :: c165 :: c166 :: c167 :: c168 :: c169 :: c170 :: c171 :: c172 :: c173 :: c174 :: c175 :: c176 :: c177 :: c178 :: c179 :: c180 :: c181 :: c182 :: c183 :: c184 :: c185 :: c186 :: c187 :: c188 :: c189 :: c190 :: c191 :: c192 :: c193 :: c194 :: c195 :: c196 :: c197 :: []).toArray, defers := [] } wr) :
  Code.wp Tryz.prog (Code.loop docBody2) Q0 { tmps := (c0 :: c1 :: c2 :: c3 :: .slice A (64 * K) cA :: c5 :: c6 :: .int .i64 (p : Int) :: .slice (some ⟨bx, 0, none⟩) 16 16 :: .int .i64 0 :: c10 :: c11 :: c12 :: c13 :: c14 :: c15 :: c16 :: c17 :: c18 :: c19 :: c20 :: c21 :: c22 :: c23 :: c24 :: c25 :: c26 :: c27 :: c28 :: c29 :: u30 :: u31 :: u32 :: u33 :: u34 :: u35 :: u36 :: u37 :: u38 :: u39 :: u40 :: u41 :: u42 :: u43 :: u44 :: u45 :: u46 :: u47 :: u48 :: u49 :: u50 :: u51 :: u52 :: u53 :: u54 :: u55 :: c56 :: c57 :: c58 :: c59 :: c60 :: c61 :: c62 :: c63 :: c64 :: c65 :: c66 :: c67 :: c68 :: c69 :: c70 :: c71 :: c72 :: c73 :: c74 :: c75 :: c76 :: c77 :: c78 :: c79 :: c80 :: c81 :: c82 :: c83 :: c84 :: c85 :: c86 :: c87 :: c88 :: c89 :: c90 :: c91 :: c92 :: c93 :: c94 :: c95 :: c96 :: c97 :: c98 :: c99 :: c100 :: c101 :: c102 :: c103 :: c104 :: c105 :: c106 :: c107 :: c108 :: c109 :: c110 :: c111 :: c112 :: c113 :: c114 :: c115 :: c116 :: c117 :: c118 :: c119 :: c120 :: c121 :: c122 :: c123 :: c124 :: c125 :: c126 :: c127 :: c128 :: c129 :: c130 :: c131 :: c132 :: c133 :: c134 :: c135 :: c136 :: c137 :: c138 :: c139 :: c140 :: c141 :: c142 :: c143 :: c144 :: c145 :: c146 :: c147 :: c148 :: c149 :: c150 :: c151 :: c152 :: c153 :: c154 :: c155 :: c156 :: c157 :: c158 :: c159 :: c160 :: c161 :: c162 :: c163 :: c164 :: c165 :: c166 :: c167 :: c168 :: c169 :: c170 :: c171 :: c172 :: c173 :: c174 :: c175 :: c176 :: c177 :: c178 :: c179 :: c180 :: c181 :: c182 :: c183 :: c184 :: c185 :: c186 :: c187 :: c188 :: c189 :: c190 :: c191 :: c192 :: c193 :: c194 :: c195 :: c196 :: c197 :: []).toArray, defers := [] } w0 := by
 conv => arg 2; arg 1; whnf
 have HM := xhd hM
 have HX0 := xhd hX
 have HG := xhd hG
 clear hM hX hG
 go_loopw [9] (fun i wr => ∃ q : Nat, q ≤ 64 ∧ i = .int .i64 (q : Int) ∧ Blk wr bx 23 (u32s (Pure.wordsLow m p q)).toArray ∧ Keeps (only bx) w0 wr) (fun i _ => 64 - (intOf i).toNat)
 case atStart => exact ⟨0, by omega, rfl, HX0.out, Keeps.refl _ _⟩
 case round =>
  clear HX0
  obtain ⟨q, hq, rfl, hX, hK⟩ := hrel
  by_cases hql : q < 64
  ·clear hexit
   obtain ⟨b, off, rfl, hbG, hcm⟩ := (HM.out.keeps hK (fun x hx h => HG.out (h ▸ hx))).cellAt (by omega)
   obtain ⟨z, hz⟩ : ∃ z, z = p + q := ⟨_, rfl⟩
   have hzI : (p : Int) + (q : Int) = (z : Int) := by omega
   have hz1 : (0 : Int) ≤ (z : Int) := by omega
   have hz2 : (z : Int) < 64 * (K : Int) := by omega
   have c1 := hcm z _ (y28 m z (by omega))
   obtain ⟨B, hB⟩ : ∃ B : UInt8, B = m.getD z 0 := ⟨_, rfl⟩
   rw [← hB] at c1
   obtain ⟨t, ht⟩ : ∃ t, t = q / 4 := ⟨_, rfl⟩
   obtain ⟨r, hr⟩ : ∃ r, r = q % 4 := ⟨_, rfl⟩
   have htI : (q : Int) / 4 = (t : Int) := by omega
   have hrI : (q : Int) % 4 = (r : Int) := by omega
   have ht1 : (0 : Int) ≤ (t : Int) := by omega
   have ht2 : (t : Int) < 16 := by omega
   have hr4 : r < 4 := by omega
   have hwt : IntKind.i64.wrap (t : Int) = (t : Int) := IntWalk.i64_in _ (by omega)
   have hwr : IntKind.i64.wrap (r : Int) = (r : Int) := IntWalk.i64_in _ (by omega)
   have hwz : IntKind.i64.wrap (z : Int) = (z : Int) := IntWalk.i64_in _ (by omega)
   have k0 : wr.cell? ⟨bx, t, none⟩ = some (.int .u32 ((Pure.wordsLow m p q).getD t 0).toNat) := by rw [hX.cell, ← y19 _ t (by rw [Pure.wordsLow_length]; omega)]; simp
   obtain ⟨V, hV⟩ : ∃ V, V = (Pure.wordsLow m p q).getD t 0 := ⟨_, rfl⟩
   rw [← hV] at k0
   have f0 : wr.frozen? ⟨bx, t, none⟩ = false := hX.frozen t
   obtain ⟨Y, hY⟩ : ∃ Y : UInt32, Y = B.toUInt32 <<< UInt32.ofNat (8 * r) := ⟨_, rfl⟩
   have hBl := B.toNat_lt
   have hv0 : (B.toNat : Int) % 4294967296 = (B.toNat : Int) := Int.emod_eq_of_lt (by omega) (by omega)
   have hv1 : (B.toNat : Int) * 2 ^ (8 * r) % 4294967296 = (Y.toNat : Int) := by rw [hY, ← y6b _ _ (by omega), wide_u8]
   obtain ⟨Z, hZ⟩ : ∃ Z : UInt32, Z = V ||| Y := ⟨_, rfl⟩
   have hv2 := y23 V Y
   rw [← hZ] at hv2
   have hnext : Pure.wordsLow m p (q + 1) = (Pure.wordsLow m p q).set t Z := by simp only [Pure.wordsLow]; rw [hZ, hY, hV, hB, ht, hr, hz]
   have hmin : min (8 * (q % 4)) 32 = 8 * r := by omega
   have HMin := xhd hmin
   have HN := xhd hnext
   have HX := xhd hX
   have HK := xhd hK
   clear hcm hB ht hr hV hY hZ hnext hX hK hz HM HG hmK hmin
   go_upto_region 12 with fail
   refine y0i (fun w' => w'.cell? ⟨bx, t, none⟩ = some (.int .u32 V.toNat) ∧ w'.cell? ⟨b, off + z, none⟩ = some (.int .u8 B.toNat)) 22 23 rfl (by kernel_rfl) ⟨k0, c1⟩ (fun hHeld => ?_)
   iterate 22
    refine y0t rfl (by kernel_rfl) (fun _ _ _ h => hQ _ _ _ _ _ h) (Or.inl ⟨by rfl, by intro w hSw; obtain ⟨s0, s1⟩ := hSw; go_simp; try with_reducible rfl⟩) hHeld.out ?_
    simp only [Act.put, xqA, Nat.reduceAdd, xqB, xqC, xqD, xqE, xqF]
   refine y0u (by kernel_rfl) rfl (fun K hK => ?_)
   clear hHeld
   go_simp
   refine hK.out _ _ (fun h => absurd rfl h) ?_
   clear hK K
   refine y0f (by kernel_rfl) ?_ _
   go_wp2_with fail
   go_roundw
   case rel =>
    refine ⟨q + 1, by omega, by go_num, ?_, ?_⟩
    ·rw [HN.out, ← y36, HMin.out, hv1, hv2]
     exact (HX.out.set t _).drew
    ·exact (HK.out.store bx t (fun _ => y0p bx) _).drew
   case measure => simp [intOf]; omega
  ·have hqq : q = 64 := by omega
   subst hqq
   clear hq hql
   go_wp2_with fail
   exact hexit _ _ _ _ _ _ _ _ _ _ _ _ _ _ _ _ _ _ _ _ _ _ _ _ _ _ wr hX hK
end Go.Proofs.YtmgicbckgpdkcaaGreatDoor
