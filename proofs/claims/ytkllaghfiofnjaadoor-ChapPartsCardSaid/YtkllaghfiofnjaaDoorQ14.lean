/- des.Encrypt. -/
import Derived.Test.YtkllaghfiofnjaaDoorQ13
import Derived.Test.YtkllaghfiofnjaaDoorQ10
import Derived.Test.YtkllaghfiofnjaaDoorQ11
import Derived.Test.YtkllaghfiofnjaaDoorQ9
import Derived.Laws.CopyOwn
import Derived.Test.YtkllaghfiofnjaaDoorQ12
import Derived.Test.YtkllaghfiofnjaaDoorQ1
import Derived.OpenShut
namespace Go.Proofs.YtkllaghfiofnjaaDoor
open Go.RowKit
theorem val_halves (l : List Bool) (h : l.length = 64) : Pure.val l / 2 ^ 32 = Pure.val (l.take 32) ∧ Pure.val l % 2 ^ 32 = Pure.val (l.drop 32) := by
  rw [Pure.val_take, Pure.val_drop, h]; exact ⟨rfl, rfl⟩
theorem xor_is (l f : List Bool) (h : l.length = 32) : Pure.desXor l f = Pure.xors l f := by
  unfold Pure.desXor Pure.xors
  rw [h]
theorem ip_in64 : ∀ k, k < Pure.desIp.length → 1 ≤ Pure.desIp.getD k 0 ∧ Pure.desIp.getD k 0 ≤ 64 := by
  rw [Pure.ip_length]; exact ip_within
theorem mix_call {f : Value} {w : World} (hf : Mixes w f) :
    ∃ a b, f = .func (.func 112) #[] #[.pointer (some ⟨a, 0, none⟩), .pointer (some ⟨b, 0, none⟩)] ∧ ∀ (r k : List Bool), r.length = 32 → k.length = 48 → ∀ w', Keeps nobody w w' →
      Calls Tryd.prog 112 #[.int .u64 ((Pure.val r : Nat) : Int), .int .u64 ((Pure.val k : Nat) : Int), .pointer (some ⟨a, 0, none⟩), .pointer (some ⟨b, 0, none⟩)] w' fun e w'' => e = .returned (.int .u64 ((Pure.val (Pure.desF r k) : Nat) : Int)) ∧ Keeps nobody w' w'' := by
  obtain ⟨a, b, fp, fe, e, h⟩ := id hf
  exact ⟨a, b, e, fun r k hr hk w' hw => mixed_any r k hr hk f w' (hf.keeps hw) a b e⟩
theorem desF_length (r k : List Bool) : (Pure.desF r k).length = 32 := by unfold Pure.desF; rw [Pure.pick_length]; rfl
set_option maxRecDepth 100000 in
set_option maxHeartbeats 8000000 in
theorem encrypt_ok (F G : Nat → Prop) (x y : Value) (key block : List UInt8) (w : World) (hx : Row w F 1 x 7 (u8s key)) (hy : Row w G 1 y 8 (u8s block)) (hk : key.length = 7) (hb : block.length = 8) (hF : ∀ b, F b → b < w.heap.size) (hG : ∀ b, G b → b < w.heap.size) :
    Calls Tryd.prog 85 #[x, y] w fun e w' => ∃ u, e = .returned (.tuple #[u, .int .i64 0]) ∧ w'.ownsRow w.heap.size 5 1 u 8 (u8s (Pure.des key block)) ∧ Below w.heap.size w w' := by
  obtain ⟨A, cA, rfl, hc⟩ := hx.form
  obtain ⟨B, cB, rfl, hd⟩ := hy.form
  have HX := Lib.hid hx
  have HY := Lib.hid hy
  clear hx hy hF hG hc hd
  have hKl : (Pure.bitsOfBytes true key).length = 56 := by rw [Pure.bitsOfBytes_length, hk]
  have hBl : (Pure.bitsOfBytes true block).length = 64 := by rw [Pure.bitsOfBytes_length, hb]
  have hdes : Pure.des key block = Pure.ofBits (Pure.desBits (Pure.bitsOfBytes true key) (Pure.bitsOfBytes true block)) := rfl
  obtain ⟨KB, hKB⟩ : ∃ K, K = Pure.bitsOfBytes true key := ⟨_, rfl⟩
  obtain ⟨BB, hBB⟩ : ∃ B, B = Pure.bitsOfBytes true block := ⟨_, rfl⟩
  rw [← hKB] at hKl hdes
  rw [← hBB] at hBl hdes
  have HKB := Lib.hid hKB
  have HBB := Lib.hid hBB
  have HDES := Lib.hid hdes
  have HKl := Lib.hid hKl
  have HBl := Lib.hid hBl
  have Hk := Lib.hid hk
  have Hb := Lib.hid hb
  clear hKB hBB hdes hKl hBl hk hb
  go_enter Tryd.func85, Tryd.ntmps85
  go_wp2_with fail
  refine (initialTable_any _).mono ?_
  rintro e w1 ⟨u1, rfl, hr1, hk1⟩
  have HR1 := Lib.hid hr1
  have HK1 := Lib.hid hk1
  clear hr1 hk1
  go_wp2_with fail
  refine (mixer_any _).mono ?_
  rintro e w2 ⟨fm, rfl, hm2, hk2⟩
  obtain ⟨ma, mb, rfl, hM⟩ := mix_call hm2
  have HM := Lib.hid hM
  have HR2 := Lib.hid (HR1.out.keeps hk2 (fun _ _ h => h))
  have HK2 := Lib.hid (HK1.out.trans hk2)
  have HP2 := Lib.hid (picker_any _ 64 u1 Pure.desIp w2 HR2.out)
  clear hm2 hk2 hM HR1 HK1
  go_wp2_with fail
  refine HP2.out.mono ?_
  rintro e w3 ⟨f3, rfl, hp3, hk3⟩
  obtain ⟨pa, pb, rfl, hP⟩ := picks_call hp3 (by omega) (by rw [Pure.ip_length]; omega) ip_in64
  have HP := Lib.hid (hP BB HBl.out)
  have HR3 := Lib.hid (HR2.out.keeps hk3 (fun _ _ h => h))
  have HM3 := Lib.hid hk3
  have HK3 := Lib.hid (HK2.out.trans hk3)
  have HN3 := Lib.hid (numberOf_any G (.slice B 8 cB) block w3 (by rw [Hb.out]; exact HY.out.keeps HK3.out (fun _ _ h => h)) (by rw [Hb.out]; omega))
  rw [← HBB.out] at HN3
  clear hp3 hP hk3 HR2 HK2 HP2
  go_wp2_with fail
  refine HN3.out.mono ?_
  rintro e w4 ⟨rfl, hk4⟩
  have HR4 := Lib.hid (HR3.out.keeps hk4 (fun _ _ h => h))
  have HM4 := Lib.hid (HM3.out.trans hk4)
  have HK4 := Lib.hid (HK3.out.trans hk4)
  have HP4 := Lib.hid (HP.out w4 hk4)
  clear hk4 HP HN3 HR3 HM3 HK3
  go_wp2_with fail
  refine HP4.out.mono ?_
  rintro e w5 ⟨rfl, hk5⟩
  have HR5 := Lib.hid (HR4.out.keeps hk5 (fun _ _ h => h))
  have HM5 := Lib.hid (HM4.out.trans hk5)
  have HK5 := Lib.hid (HK4.out.trans hk5)
  clear hk5 HP4 HR4 HM4 HK4
  have hpl : (Pure.pick BB Pure.desIp).length = 64 := by rw [Pure.pick_length, Pure.ip_length]
  obtain ⟨v1, v2⟩ := val_halves _ hpl
  have hvl := Pure.val_lt (Pure.pick BB Pure.desIp)
  rw [hpl] at hvl
  have hSl : (Pure.desStart KB BB).l = (Pure.pick BB Pure.desIp).take 32 := rfl
  have hSr : (Pure.desStart KB BB).r = (Pure.pick BB Pure.desIp).drop 32 := rfl
  rw [← hSl] at v1
  rw [← hSr] at v2
  have hGS := Pure.Good.start KB BB
  have hcd := Pure.desRounds_cd (Pure.desStart KB BB) (Pure.desStart KB []) rfl rfl
  have hbits : Pure.desBits KB BB = Pure.desPut ((Pure.desRounds (Pure.desStart KB BB) 16).r ++ (Pure.desRounds (Pure.desStart KB BB) 16).l) 64 := rfl
  obtain ⟨T, hTl, hT⟩ := nums_of (fun k => Pure.val (Pure.pick ((Pure.desRounds (Pure.desStart KB []) (k + 1)).c ++ (Pure.desRounds (Pure.desStart KB []) (k + 1)).d) Pure.desPc2)) 16
  have HRK := Lib.hid (roundKeys_any KB HKl.out T hTl hT)
  have HT := Lib.hid (show ∀ k, k < 16 → T.getD k 0 = Pure.val (Pure.desRoundKey (Pure.desRounds (Pure.desStart KB BB) (k + 1)).c (Pure.desRounds (Pure.desStart KB BB) (k + 1)).d) from fun k hk => by
    obtain ⟨h1, h2⟩ := hcd (k + 1)
    rw [hT k hk, h1, h2]; rfl)
  obtain ⟨S, hS⟩ : ∃ S, S = Pure.desStart KB BB := ⟨_, rfl⟩
  rw [← hS] at HT v1 v2 hGS hbits
  have HBITS := Lib.hid hbits
  have HGS := Lib.hid hGS
  have HTl := Lib.hid hTl
  obtain ⟨V, hV⟩ : ∃ V, V = Pure.val (Pure.pick BB Pure.desIp) := ⟨_, rfl⟩
  obtain ⟨L0, hL0⟩ : ∃ L, L = Pure.val S.l := ⟨_, rfl⟩
  obtain ⟨R0, hR0⟩ : ∃ R, R = Pure.val S.r := ⟨_, rfl⟩
  rw [← hV, ← hL0] at v1
  rw [← hV, ← hR0] at v2
  rw [← hV] at hvl ⊢
  have e1 : (V : Int) / 4294967296 = (L0 : Int) := by omega
  have HL := Lib.hid (low_nat 32 V R0 (by omega) (by omega) (by omega) _ rfl 32 rfl v2)
  have HL0 := Lib.hid hL0
  have HR0 := Lib.hid hR0
  clear hpl v1 v2 hSl hSr hGS hcd hbits hT hTl hS hV hL0 hR0
  go_wp2_with fail
  refine (HL.out _).mono ?_
  rintro e w6 ⟨rfl, hk6⟩
  have HR6 := Lib.hid (HR5.out.keeps hk6 (fun _ _ h => h))
  have HM6 := Lib.hid (HM5.out.trans hk6)
  have HK6 := Lib.hid (HK5.out.trans hk6)
  have HN6 := Lib.hid (numberOf_any F (.slice A 7 cA) key w6 (by rw [Hk.out]; exact HX.out.keeps HK6.out (fun _ _ h => h)) (by rw [Hk.out]; omega))
  rw [← HKB.out] at HN6
  clear hk6 HL HR5 HM5 HK5
  go_wp2_with fail
  refine HN6.out.mono ?_
  rintro e w7 ⟨rfl, hk7⟩
  have HR7 := Lib.hid (HR6.out.keeps hk7 (fun _ _ h => h))
  have HM7 := Lib.hid (HM6.out.trans hk7)
  have HK7 := Lib.hid (HK6.out.trans hk7)
  clear hk7 HN6 HR6 HM6 HK6
  go_wp2_with fail
  refine (HRK.out w7).mono ?_
  rintro e w8 ⟨rfl, hk8⟩
  have HR8 := Lib.hid (HR7.out.keeps hk8 (fun _ _ h => h))
  have HM8 := Lib.hid (HM7.out.trans hk8)
  have HK8 := Lib.hid (HK7.out.trans hk8)
  clear hk8 HRK HR7 HM7 HK7
  go_wp2_with fail
  go_loopw [9, 10, 35] (fun l r i wr => ∃ k : Nat, k ≤ 16 ∧ i = .int .i64 (k : Int) ∧ l = .int .u64 ((Pure.val (Pure.desRounds S k).l : Nat) : Int) ∧ r = .int .u64 ((Pure.val (Pure.desRounds S k).r : Nat) : Int) ∧ Keeps nobody w8 wr) (fun _ _ i _ => 16 - (intOf i).toNat)
  case atStart => exact ⟨0, by omega, rfl, by rw [HL0.out]; rfl, by rw [HR0.out]; rfl, Keeps.refl _ _⟩
  case round =>
    clear HL0 HR0
    obtain ⟨k, hk, rfl, rfl, rfl, hK⟩ := hrel
    have HK := Lib.hid hK
    clear hK
    by_cases hkl : k < 16
    · have hi0 : (0 : Int) ≤ (k : Int) := by omega
      have hi1 : (k : Int) < 16 := by omega
      obtain ⟨gc, gd, gl, gr⟩ := HGS.out.rounds k
      obtain ⟨_, _, gl', gr'⟩ := HGS.out.rounds (k + 1)
      have hTk := HT.out k hkl
      have el : (Pure.desRounds S (k + 1)).l = (Pure.desRounds S k).r := rfl
      have er : (Pure.desRounds S (k + 1)).r = Pure.desXor (Pure.desRounds S k).l (Pure.desF (Pure.desRounds S k).r (Pure.desRoundKey (Pure.desRounds S (k + 1)).c (Pure.desRounds S (k + 1)).d)) := rfl
      have HMk := Lib.hid (fun w' hw' => HM.out (Pure.desRounds S k).r (Pure.desRoundKey (Pure.desRounds S (k + 1)).c (Pure.desRounds S (k + 1)).d) gr (Pure.desRoundKey_length _ _) w' hw')
      obtain ⟨Z, hZ⟩ : ∃ Z, Z = Pure.desF (Pure.desRounds S k).r (Pure.desRoundKey (Pure.desRounds S (k + 1)).c (Pure.desRounds S (k + 1)).d) := ⟨_, rfl⟩
      have hZl : Z.length = 32 := by rw [hZ, desF_length]
      rw [← hZ] at er HMk
      have hx := Pure.val_xors (Pure.desRounds S k).l Z (by rw [gl, hZl])
      rw [← xor_is _ _ gl, ← er] at hx
      have l1 := Pure.val_lt (Pure.desRounds S k).l
      have l2 := Pure.val_lt Z
      rw [gl] at l1
      rw [hZl] at l2
      rw [← hTk] at HMk
      obtain ⟨tk, htk⟩ : ∃ t, t = T.getD k 0 := ⟨_, rfl⟩
      have hat : (u64s T).toArray[k]? = some (.int .u64 (tk : Int)) := by
        have hl := HTl.out
        rw [htk, List.getElem?_toArray, List.getElem?_map, List.getElem?_eq_getElem (by omega), List.getD_eq_getElem?_getD, List.getElem?_eq_getElem (by omega)]; rfl
      rw [← htk] at HMk
      obtain ⟨L, hL⟩ : ∃ L, L = Pure.val (Pure.desRounds S k).l := ⟨_, rfl⟩
      obtain ⟨R, hR⟩ : ∃ R, R = Pure.val (Pure.desRounds S k).r := ⟨_, rfl⟩
      obtain ⟨R', hR'⟩ : ∃ R, R = Pure.val (Pure.desRounds S (k + 1)).r := ⟨_, rfl⟩
      obtain ⟨z, hz⟩ : ∃ z, z = Pure.val Z := ⟨_, rfl⟩
      rw [← hR, ← hz] at HMk
      rw [← hL, ← hR', ← hz] at hx
      rw [← hL] at l1
      rw [← hz] at l2
      rw [← hL, ← hR]
      have e2 : bits .xor .u64 (L : Int) (z : Int) = (R' : Int) := xor_u64 L z R' hx.symm (by omega) (by omega)
      obtain ⟨i0, hi00, hz0, hz1, hz2⟩ := info_parts word_info
      have hix := fun W => run_index_any .i64 170 108 16 _ k _ W Tryd.underlying170 hkl hat i0 hi00 hz1 _ Tryd.underlying108 rfl
      have HEL := Lib.hid (show (R : Nat) = Pure.val (Pure.desRounds S (k + 1)).l by rw [el]; exact hR)
      have HER := Lib.hid hR'
      clear gc gd gl gr gl' gr' hTk el er hZ hZl hx l1 l2 htk hat hL hR hR' hz hi00 hz0 hz1 hz2
      go_wp2_with fail
      with_reducible refine (HMk.out _ (HM8.out.trans HK.out)).mono ?_
      rintro e wa ⟨rfl, hka⟩
      have HKa := Lib.hid (HK.out.trans hka)
      clear hka HMk HK hix
      go_wp2_with fail
      go_roundw
      case rel => exact ⟨k + 1, by omega, by go_num, by rw [HEL.out], by rw [HER.out], HKa.out⟩
      case measure => simp [intOf]; omega
    · have hkk : k = 16 := by omega
      subst hkk
      clear hkl hk
      have HRr := Lib.hid (HR8.out.keeps HK.out (fun _ _ h => h)).strong
      have HI := Lib.hid (inverse_any (fun b => True ∧ b < wr.heap.size) u1 wr (by have h := HRr.out; rw [Pure.ip_length] at h; exact h) (fun b hb => hb.2))
      have HKr := Lib.hid (HK8.out.trans HK.out)
      obtain ⟨gc, gd, gl, gr⟩ := HGS.out.rounds 16
      have hor := Pure.val_or (Pure.desRounds S 16).r (Pure.desRounds S 16).l
      have l1 := Pure.val_lt (Pure.desRounds S 16).l
      have l2 := Pure.val_lt (Pure.desRounds S 16).r
      rw [gl] at hor l1
      rw [gr] at l2
      have hlen : ((Pure.desRounds S 16).r ++ (Pure.desRounds S 16).l).length = 64 := by rw [List.length_append, gl, gr]
      have hout : Pure.ofBits (Pure.pick ((Pure.desRounds S 16).r ++ (Pure.desRounds S 16).l) (Pure.backs 64)) = Pure.des key block := by
        rw [Pure.pick_backs, HDES.out, HBITS.out]
      obtain ⟨Y, hY⟩ : ∃ Y, Y = (Pure.desRounds S 16).r ++ (Pure.desRounds S 16).l := ⟨_, rfl⟩
      obtain ⟨L, hL⟩ : ∃ L, L = Pure.val (Pure.desRounds S 16).l := ⟨_, rfl⟩
      obtain ⟨R, hR⟩ : ∃ R, R = Pure.val (Pure.desRounds S 16).r := ⟨_, rfl⟩
      rw [← hY] at hor hlen hout
      rw [← hL, ← hR] at hor
      rw [← hL] at l1
      rw [← hR] at l2
      rw [← hL, ← hR]
      have hplen : (Pure.pick Y (Pure.backs 64)).length = 64 := by rw [Pure.pick_length, Pure.backs_length]
      have HBO := Lib.hid (bytesOf_any (Pure.pick Y (Pure.backs 64)) hplen)
      have HLY := Lib.hid hlen
      have HOUT := Lib.hid hout
      obtain ⟨U, hU⟩ : ∃ U, U = Pure.val Y := ⟨_, rfl⟩
      rw [← hU] at hor
      have e2 : bits .or .u64 ((R : Int) * 4294967296) (L : Int) = (U : Int) := by
        have h := or_u64 (R * 2 ^ 32) L U hor (by omega) (by omega)
        simpa using h
      have l3 : R < 4294967296 := l2
      have HU := Lib.hid hU
      clear gc gd gl gr hor l1 l2 hlen hout hY hL hR hplen hU HK
      go_wp2_with fail
      refine HI.out.mono ?_
      rintro e wa ⟨ua, rfl, hra, hka⟩
      have HKa := Lib.hid (HKr.out.trans hka)
      have HPa := Lib.hid (picker_any _ 64 ua (Pure.backs 64) wa (by rw [Pure.backs_length]; exact hra))
      clear hra hka HI HKr
      go_wp2_with fail
      refine HPa.out.mono ?_
      rintro e wb ⟨fb, rfl, hpb, hkb⟩
      obtain ⟨qa, qb, rfl, hQ⟩ := picks_call hpb (by omega) (by rw [Pure.backs_length]; omega) (by rw [Pure.backs_length]; exact Pure.backs_range)
      have HQ := Lib.hid (hQ Y HLY.out wb (Keeps.refl _ _))
      have HKb := Lib.hid (HKa.out.trans hkb)
      rw [← HU.out] at HQ
      clear hpb hkb hQ HKa HPa
      go_wp2_with fail
      with_reducible refine HQ.out.mono ?_
      rintro e wc ⟨rfl, hkc⟩
      have HKc := Lib.hid (HKb.out.trans hkc)
      clear hkc HKb HQ
      go_wp2_with fail
      with_reducible refine (HBO.out wc).mono ?_
      rintro e wd ⟨ud, rfl, hrd, hkd⟩
      have HKd := Lib.hid (HKc.out.trans hkd)
      have HRd := Lib.hid (ownsRow_base hrd HKc.out.size)
      obtain ⟨Ad, cd, rfl⟩ := own_form hrd
      clear hkd hrd HKc HBO
      go_wp2
      go_ret2
      refine ⟨_, rfl, ?_, HKd.out.to_below⟩
      rw [← HOUT.out]
      exact HRd.out
theorem encrypt_bad (F G : Nat → Prop) (x y : Value) (key block : List UInt8) (w : World) (hx : Row w F 1 x key.length (u8s key)) (hy : Row w G 1 y block.length (u8s block)) (hbad : key.length ≠ 7 ∨ block.length ≠ 8) :
    Calls Tryd.prog 85 #[x, y] w fun e w' => ∃ u, e = .returned (.tuple #[u, .int .i64 1]) ∧ Row w' nobody 1 u 0 [] ∧ Below w.heap.size w w' := by
  obtain ⟨A, cA, rfl, hc⟩ := hx.form
  obtain ⟨B, cB, rfl, hd⟩ := hy.form
  have lx := hx.2.1
  have ly := hy.2.1
  unfold maxLen at lx ly
  clear hx hy hc hd
  by_cases h7 : key.length = 7
  · have h8 : block.length ≠ 8 := by rcases hbad with h | h; exact absurd h7 h; exact h
    have e1 : ((key.length : Int) != 7) = false := by rw [h7]; rfl
    have e2 : ((block.length : Int) != 8) = true := by rw [bne_iff_ne]; omega
    clear hbad h7 h8
    go_enter Tryd.func85, Tryd.ntmps85
    go_wp2
    go_ret2
    exact ⟨_, rfl, Row.nil _ _ _, Below.refl _ _⟩
  · have e1 : ((key.length : Int) != 7) = true := by rw [bne_iff_ne]; omega
    clear hbad h7
    go_enter Tryd.func85, Tryd.ntmps85
    go_wp2
    go_ret2
    exact ⟨_, rfl, Row.nil _ _ _, Below.refl _ _⟩
end Go.Proofs.YtkllaghfiofnjaaDoor
/- chap.answerTo, chap.Answer: what they answer to a challenge and a hash that are as long as they should be. -/
namespace Go.Proofs.YtkllaghfiofnjaaDoor
open Go.RowKit Go.Shelf
attribute [local go_sem] Oper.semAt_some
/-- Two results that lie in cells. -/
theorem results_two {fn : Func} {p q : Tmp} {t u : TypeId} (h : fn.results = #[.cell p t, .cell q u]) (tmps : Array Value) (P : Program) (w : World) (g k : Nat) (x y : Value) (hp : tmps.getD p undef = .pointer (some ⟨g, 0, none⟩)) (hq : tmps.getD q undef = .pointer (some ⟨k, 0, none⟩))
    (ht : ∀ w, (isAgg t).run P w = .ok false w) (hu : ∀ w, (isAgg u).run P w = .ok false w) (hx : w.cell? ⟨g, 0, none⟩ = some x) (hy : w.cell? ⟨k, 0, none⟩ = some y) : (results fn tmps).run P w = .ok (.tuple #[x, y]) w := by
  have hp' : tmps[p]?.getD undef = .pointer (some ⟨g, 0, none⟩) := by simpa using hp
  have hq' : tmps[q]?.getD undef = .pointer (some ⟨k, 0, none⟩) := by simpa using hq
  simp [results, h, hp', hq', asAddr, loadVar, ht, hu, hx, hy, Result.andThen]
theorem own_isCells {w : World} {base n size : Nat} {e : TypeId} {v : Value} {xs : List Value} (h : w.ownsRow base e size v n xs) (b : Nat) (hb : v.ownBlock = some b) : ∃ cs fz, w.heap[b]? = some (.cells cs e fz) := by
  rcases h.2 with ⟨rfl, _⟩ | ⟨g', cap, cur, rfl, _, hh, _⟩
  · simp [Value.ownBlock] at hb
  · have : g' = b := by simpa [Value.ownBlock] using hb
    subst this
    exact ⟨cur, _, hh⟩
theorem own_walks {w w' : World} {B base n size : Nat} {e : TypeId} {v : Value} {xs : List Value} {row : Option Nat} (h : w.ownsRow base e size v n xs) (hg : w.grownBy w' row) (hr : ∀ r, row = some r → B ≤ r ∧ ∃ o : Obj, w.heap[r]? = some o ∧ o.isCells = false) : w'.ownsRow base e size v n xs :=
  own_grown h hg (fun b hb e => by
    obtain ⟨_, o, ho, hc⟩ := hr b e
    obtain ⟨cs, fz, hcs⟩ := own_isCells h b hb
    rw [ho] at hcs
    injection hcs with hcs
    subst hcs
    cases hc)
/-- A key of the hash, among the noughts behind it. -/
theorem key_row {w : World} {g : Nat} {t : TypeId} {h : List UInt8} (hb : Blk w g t (u8s (h ++ List.replicate 5 0)).toArray) (hh : h.length = 16) (i : Nat) (hi : i < 3) : Row w (fun b => b = g) 1 (.slice (some ⟨g, 7 * i, none⟩) 7 7) 7 (u8s (Pure.keyPart h i)) := by
  have hl := Pure.keyPart_length h hh i hi
  refine ⟨by rw [List.length_map, hl], by unfold maxLen; omega, _, 7, rfl, Nat.le_refl _, by simp, fun _ => ⟨g, _, rfl, rfl, fun j u hu => ?_⟩⟩
  have hj : j < 7 := by
    have := (List.getElem?_eq_some_iff.1 hu).1
    rw [List.length_map, hl] at this
    exact this
  rw [hb.cell, ← hu]
  unfold Pure.keyPart
  simp only [List.getElem?_toArray, List.getElem?_map, List.getElem?_take, List.getElem?_drop]
  rw [if_pos hj]
namespace Pure
/-- The blocks of an answer whose numbers are told. -/
def parts (c h : List UInt8) (ks : List Nat) : List UInt8 := ks.flatMap fun i => des (keyPart h i) c
theorem parts_length (c h : List UInt8) (ks : List Nat) : (parts c h ks).length = 8 * ks.length := by
  induction ks with
  | nil => rfl
  | cons k ks ih =>
    have : parts c h (k :: ks) = des (keyPart h k) c ++ parts c h ks := rfl
    rw [this, List.length_append, des_length, ih, List.length_cons]
    omega
theorem parts_snoc (c h : List UInt8) (ks : List Nat) (k : Nat) : parts c h (ks ++ [k]) = parts c h ks ++ des (keyPart h k) c := by simp [parts]
theorem parts_all (c h : List UInt8) : parts c h (List.range 3) = answer c h := by
  unfold parts answer
  simp [List.range, List.range.loop]
end Pure
set_option maxRecDepth 100000 in
set_option maxHeartbeats 4000000 in
theorem answerTo_any (F G : Nat → Prop) (x y : Value) (c h : List UInt8) (w : World) (hx : Row w F 1 x 8 (u8s c)) (hy : Row w G 1 y 16 (u8s h)) (hc : c.length = 8) (hh : h.length = 16) (hF : ∀ b, F b → b < w.heap.size) (hG : ∀ b, G b → b < w.heap.size) :
    Calls Tryd.prog 69 #[x, y] w fun e w' => ∃ u, e = .returned (.tuple #[u, .nilIface]) ∧ w'.ownsRow w.heap.size 5 1 u 24 (u8s (Pure.answer c h)) ∧ Below w.heap.size w w' := by
  obtain ⟨A, cA, rfl, _⟩ := hx.form
  have HX := Lib.hid hx
  have HF := Lib.hid hF
  obtain ⟨B, cB, rfl, _⟩ := hy.form
  obtain ⟨bh, oh, rfl, hgb, hch⟩ := hy.cellAt (by omega)
  have HCH := Lib.hid hch
  have HGB := Lib.hid (hG bh hgb)
  clear hx hF hy hG hgb hch
  refine callsIn_wide (n := 3).1 ?_
  refine callsIn_of_wp_marks Tryd.func69 rfl trivial ?_ rfl
  simp only [Tryd.ntmps69, List.size_toArray, List.length_cons, List.length_nil, Nat.reduceAdd, Nat.reduceSub, Array.replicate_succ, Array.replicate_zero, List.push_toArray, List.append_toArray, List.nil_append, List.cons_append]
  refine wpIn_wide.2 ?_
  go_upto_region 4 with fail
  obtain ⟨b0, hb0⟩ : ∃ b0, b0 = w.heap.size := ⟨_, rfl⟩
  obtain ⟨w1, hw1⟩ : ∃ w1, w1 = (((w.alloc (.cells #[.slice A 8 cA] 25)).alloc (.cells #[.slice none 0 0] 25)).alloc (.cells #[.nilIface] 65)).alloc (.cells (u8s (List.replicate 21 0)).toArray 130) := ⟨_, rfl⟩
  have e1 : (((w.alloc (.cells #[.slice A 8 cA] 25)).alloc (.cells #[.slice none 0 0] 25)).alloc (.cells #[.nilIface] 65)).alloc (.cells #[.int .u8 0, .int .u8 0, .int .u8 0, .int .u8 0, .int .u8 0, .int .u8 0, .int .u8 0, .int .u8 0, .int .u8 0, .int .u8 0, .int .u8 0, .int .u8 0, .int .u8 0, .int .u8 0, .int .u8 0, .int .u8 0, .int .u8 0, .int .u8 0, .int .u8 0, .int .u8 0, .int .u8 0] 130) = w1 := hw1.symm
  rw [e1, ← hb0]
  have h0 : Blk w1 b0 25 #[.slice A 8 cA] := by rw [hw1, hb0]; exact (((Blk.new w _ _).alloc _).alloc _).alloc _
  have h1 : Blk w1 (b0 + 1) 25 #[.slice none 0 0] := by
    rw [hw1, hb0]
    have := Blk.new (w.alloc (.cells #[.slice A 8 cA] 25)) 25 #[.slice none 0 0]
    rw [World.size_alloc] at this
    exact (this.alloc _).alloc _
  have h2 : Blk w1 (b0 + 1 + 1) 65 #[.nilIface] := by
    rw [hw1, hb0]
    have := Blk.new ((w.alloc (.cells #[.slice A 8 cA] 25)).alloc (.cells #[.slice none 0 0] 25)) 65 #[.nilIface]
    rw [World.size_alloc, World.size_alloc] at this
    exact this.alloc _
  have h3 : Blk w1 (b0 + 1 + 1 + 1) 130 (u8s (List.replicate 21 0)).toArray := by
    rw [hw1, hb0]
    have := Blk.new (((w.alloc (.cells #[.slice A 8 cA] 25)).alloc (.cells #[.slice none 0 0] 25)).alloc (.cells #[.nilIface] 65)) 130 (u8s (List.replicate 21 0)).toArray
    rw [World.size_alloc, World.size_alloc, World.size_alloc] at this
    exact this
  have hk1 : Keeps nobody w w1 := by rw [hw1]; exact ((((Keeps.refl _ w).alloc _).alloc _).alloc _).alloc _
  have hz1 : w1.heap.size = b0 + 4 := by rw [hw1, hb0]; simp
  have HB0 := Lib.hid hb0
  clear hw1 e1 hb0
  apply wp_region_lit
  refine wpList_plain rfl (fun K hK => ?_)
  go_simp
  refine hK _ _ ?_
  clear hK K
  refine wpList_plain rfl (fun K hK => ?_)
  go_simp
  refine hK _ _ ?_
  clear hK K
  refine wpList_copy_own rfl (.tmp 15) (.tmp 16) 25 25 rfl 5 Tryd.underlying25 (by kernel_rfl) (b0 + 1 + 1 + 1) 0 21 21 ⟨bh, oh, none⟩ 16 cB rfl rfl _ 130 h3 (u8s h) (by rw [List.length_map, hh]; rfl) (fun j v hj => by rw [addr_add]; exact ((Keeps.to_below hk1).cell (p := ⟨bh, oh + j, none⟩) HGB.out).trans (HCH.out j v hj)) (by simp [hh]) (fun v hv => by obtain ⟨b, _, rfl⟩ := List.mem_map.1 hv; rfl) ?_
  have ecp : (List.take 0 (u8s (List.replicate 21 0)).toArray.toList ++ (u8s h ++ List.drop (0 + (u8s h).length) (u8s (List.replicate 21 0)).toArray.toList)) = u8s (h ++ List.replicate 5 0) := by
    simp [hh]
  rw [ecp, show (goInt ((u8s h).length : Nat)) = Value.int .i64 16 by simp [hh, goInt]]
  obtain ⟨w2, hw2⟩ : ∃ w2, w2 = w1.setRow (b0 + 1 + 1 + 1) (u8s (h ++ List.replicate 5 0)).toArray := ⟨_, rfl⟩
  have hk2 : Keeps (only (b0 + 1 + 1 + 1)) w1 w2 := by rw [hw2]; exact Keeps.rowSet (Keeps.refl _ w1) (fun _ => only_self _) _
  have g3 : Blk w2 (b0 + 1 + 1 + 1) 130 (u8s (h ++ List.replicate 5 0)).toArray := by rw [hw2]; exact Blk.rowSet h3 _
  have g0 := h0.keeps hk2 (fun e => by have e : b0 = b0 + 1 + 1 + 1 := e; omega)
  have g1 := h1.keeps hk2 (fun e => by have e : b0 + 1 = b0 + 1 + 1 + 1 := e; omega)
  have g2 := h2.keeps hk2 (fun e => by have e : b0 + 1 + 1 = b0 + 1 + 1 + 1 := e; omega)
  have hz2 : w2.heap.size = b0 + 4 := by rw [hw2]; simpa using hz1
  have GB : Below w.heap.size w w2 := Below.keeps (Keeps.to_below hk1) hk2 hk1.size (fun i hi => by have hi : i = b0 + 1 + 1 + 1 := hi; have := HB0.out; omega)
  rw [← hw2]
  have GBH := Lib.hid GB
  have G0 := Lib.hid g0
  have G1 := Lib.hid g1
  have G2 := Lib.hid g2
  have G3 := Lib.hid g3
  have HZ2 := Lib.hid hz2
  clear hw2 ecp h0 h1 h2 h3 hk1 hz1 hk2 g0 g1 g2 g3 hz2 GB
  go_wp2_with fail
  refine (chunk7_any _ _ _ _).mono ?_
  rintro e w' ⟨rfl, rfl⟩
  go_wp2_with fail
  obtain ⟨bA, hbA⟩ : ∃ bA, bA = w2.heap.size := ⟨_, rfl⟩
  obtain ⟨wL, hwL⟩ : ∃ wL, wL = ((w2.alloc (.cells #[.slice none 0 0] 25)).alloc (.cells #[.slice (some ⟨b0 + 1 + 1 + 1, 0, none⟩) 21 21] 25)).alloc (.cells #[.int .i64 7] 3) := ⟨_, rfl⟩
  rw [← hwL, ← hbA]
  have hA0 : Blk wL bA 25 #[.slice none 0 0] := by rw [hwL, hbA]; exact ((Blk.new w2 _ _).alloc _).alloc _
  have hx1 : Boxed wL (bA + 1) 25 (.slice (some ⟨b0 + 1 + 1 + 1, 0, none⟩) 21 21) := by
    rw [hwL, hbA]
    have := Boxed.new (w2.alloc (.cells #[.slice none 0 0] 25)) 25 (.slice (some ⟨b0 + 1 + 1 + 1, 0, none⟩) 21 21)
    rw [World.size_alloc] at this
    exact this.alloc _
  have hx2 : Boxed wL (bA + 1 + 1) 3 (.int .i64 7) := by
    rw [hwL, hbA]
    have := Boxed.new ((w2.alloc (.cells #[.slice none 0 0] 25)).alloc (.cells #[.slice (some ⟨b0 + 1 + 1 + 1, 0, none⟩) 21 21] 25)) 3 (.int .i64 7)
    rw [World.size_alloc, World.size_alloc] at this
    exact this
  have hkL : Keeps nobody w2 wL := by rw [hwL]; exact (((Keeps.refl _ w2).alloc _).alloc _).alloc _
  have hzL : bA + 2 < wL.heap.size := by rw [hwL, hbA]; simp
  have HL0 := Lib.hid (G0.out.keeps hkL (fun h => h))
  have HL1 := Lib.hid (G1.out.keeps hkL (fun h => h))
  have HL2 := Lib.hid (G2.out.keeps hkL (fun h => h))
  have HL3 := Lib.hid (G3.out.keeps hkL (fun h => h))
  have HLB := Lib.hid (Below.quiet GBH.out hkL GBH.out.size)
  have HLX := Lib.hid (HX.out.keeps (Keeps.new (Below.quiet GBH.out hkL GBH.out.size)) (fun _ _ h => h))
  have hbA2 : b0 + 1 + 1 + 1 < bA := by have := HZ2.out; rw [hbA]; omega
  clear hwL hbA hkL G0 G1 G2 G3 GBH HZ2 HX
  refine wpIn_wide (n := 3).1 ?_
  refine wpIn_rangeFunc_ownG rfl (by omega) (gf := 99) (lb := #[.pointer (some ⟨bA + 1, 0, none⟩), .pointer (some ⟨bA + 1 + 1, 0, none⟩)]) rfl trivial (enters_of Tryd.func99 (by kernel_rfl) rfl)
    (chunk7_stops _ (by omega) wL (bA + 1) (bA + 1 + 1) bA (by omega) (by omega) (by omega) (by omega) (some ⟨b0 + 1 + 1 + 1, 0, none⟩) (b0 + 1 + 1 + 1) 0 21 3 (fun h => rfl) (by omega) (by omega) hx1 hx2)
    keptBut_t (keptBut_kb (by omega)) (Below.refl _ _) (fun _ => rfl)
    (fun pre W => (∃ v, Blk W bA 25 #[v] ∧ W.ownsRow wL.heap.size 5 1 v (Pure.parts c h (pre.map (·.1))).length (u8s (Pure.parts c h (pre.map (·.1))))) ∧ (Keeps (only bA) wL W ∧ wL.heap.size ≤ W.heap.size))
    (fun _ _ _ => False)
    (OwnFrom.and (fun s X Y row hs hgr hr => by
      obtain ⟨v, h1, h2⟩ := hs
      exact ⟨v, (hgr.block bA h1.lt (fun e => by have := (hr bA e.symm).1; omega)).trans h1, own_walks h2 hgr hr⟩) (ownFrom_keeps (by omega)))
    (fun _ _ _ _ _ hs _ _ => hs)
    ⟨⟨_, hA0, World.ownsRow_nil _ _ _ _⟩, Keeps.refl _ _, Nat.le_refl _⟩
    (fun x => { tmps := #[.slice A 8 cA, .slice (some ⟨bh, oh, none⟩) 16 cB, .pointer (some ⟨b0, 0, none⟩), undef, .pointer (some ⟨b0 + 1, 0, none⟩), .pointer (some ⟨b0 + 1 + 1, 0, none⟩), .pointer (some ⟨b0 + 1 + 1 + 1, 0, none⟩), .pointer (some ⟨bA, 0, none⟩), .slice (some ⟨b0 + 1 + 1 + 1, 7 * x.1, none⟩) 7 7, undef, undef,
        .slice (some ⟨bh, oh, none⟩) 16 cB, .int .i64 16, .bool false, undef, .slice (some ⟨b0 + 1 + 1 + 1, 0, none⟩) 21 21, .slice (some ⟨bh, oh, none⟩) 16 cB, .int .i64 16, .slice (some ⟨b0 + 1 + 1 + 1, 0, none⟩) 21 21,
        .func (.func 99) #[] #[.pointer (some ⟨bA + 1, 0, none⟩), .pointer (some ⟨bA + 1 + 1, 0, none⟩)], .slice (some ⟨b0 + 1 + 1 + 1, 7 * x.1, none⟩) 7 7,
        undef, undef, undef, undef, undef, undef, undef, undef, undef, undef, undef, undef, undef, undef], defers := [] }) ?assign ?body ?done ?stop
  case assign =>
    intro l x W K hK
    gi_wp2
    exact hK
  case stop =>
    rintro D c pre W _ _ h _
    exact h.elim
  case done =>
    rintro D ys W hD hys ⟨⟨v, hv, ho⟩, ⟨hB, hsz⟩⟩ hK
    rw [hys, Pure.parts_all] at ho
    have hal := Pure.answer_length c h
    rw [hal] at ho
    obtain ⟨Av, cv, rfl⟩ := own_form ho
    have k1 := HL1.out.keeps hB (fun e => by have e : b0 + 1 = bA := e; omega)
    have k2 := HL2.out.keeps hB (fun e => by have e : b0 + 1 + 1 = bA := e; omega)
    have cA0 : W.cell? ⟨bA, 0, none⟩ = some (.slice Av 24 cv) := by rw [hv.cell]; rfl
    have cR : W.cell? ⟨b0 + 1, 0, none⟩ = some (.slice none 0 0) := by rw [k1.cell]; rfl
    have cE : W.cell? ⟨b0 + 1 + 1, 0, none⟩ = some .nilIface := by rw [k2.cell]; rfl
    have fR : W.frozen? ⟨b0 + 1, 0, none⟩ = false := k1.frozen 0
    have fE : W.frozen? ⟨b0 + 1 + 1, 0, none⟩ = false := k2.frozen 0
    have K1 := Lib.hid k1
    have K2 := Lib.hid k2
    have HO := Lib.hid ho
    have HBB := Lib.hid hB
    have HKD := Lib.hid hK
    clear hv ho hB hK k1 k2 hal
    go_wp2_with fail
    obtain ⟨w9, hw9⟩ : ∃ w9, w9 = (W.setCell ⟨b0 + 1, 0, none⟩ (.slice Av 24 cv)).setCell ⟨b0 + 1 + 1, 0, none⟩ .nilIface := ⟨_, rfl⟩
    have g1 : Blk w9 (b0 + 1) 25 #[.slice Av 24 cv] := by rw [hw9]; exact (K1.out.set 0 _).far (by simp) _
    have g2 : Blk w9 (b0 + 1 + 1) 65 #[.nilIface] := by rw [hw9]; exact (K2.out.far (by simp) _).set 0 _
    have hD9 : w9.heap[D]? = some (.deferred (some [])) := by
      rw [hw9, Below.heap_setCell _ _ _ _ (show D ≠ b0 + 1 + 1 by omega), Below.heap_setCell _ _ _ _ (show D ≠ b0 + 1 by omega)]
      exact HKD.out
    have hO9 : w9.ownsRow wL.heap.size 5 1 (.slice Av 24 cv) 24 (u8s (Pure.answer c h)) := by
      rw [hw9]
      exact own_store (own_store HO.out (fun e => by have := ownsRow_ge HO.out _ e; omega)) (fun e => by have := ownsRow_ge HO.out _ e; omega)
    have hw0 := HB0.out
    have hB9 : Below w.heap.size w w9 := by
      rw [hw9]
      exact Below.keeps (Below.keeps HLB.out HBB.out HLB.out.size (fun i hi => by have hi : i = bA := hi; omega)) (((Keeps.refl (fun i => i = b0 + 1 ∨ i = b0 + 1 + 1) W).store (b0 + 1) 0 (fun _ => .inl rfl) _).store (b0 + 1 + 1) 0 (fun _ => .inr rfl) _) (by have := HBB.out.size; have := HLB.out.size; omega) (fun i hi => by rcases hi with h | h <;> omega)
    have hDw : w.heap.size ≤ D := by have := HLB.out.size; omega
    rw [← hw9]
    clear hw9
    refine ⟨by simp, .inl ⟨_, _, rfl, run_takeDeferred hD9, ?_⟩⟩
    have g1' : Blk (w9.putObj D (.deferred none)) (b0 + 1) 25 #[.slice Av 24 cv] := (World.putObj_heap_other (by omega)).trans g1
    have g2' : Blk (w9.putObj D (.deferred none)) (b0 + 1 + 1) 65 #[.nilIface] := (World.putObj_heap_other (by omega)).trans g2
    have hB10 := hB9.trans (belowK_b (w := w) (Nat.le_refl _) w9 D _ (.deferred none) hDw hD9 rfl rfl)
    have hO10 : (w9.putObj D (.deferred none)).ownsRow w.heap.size 5 1 (.slice Av 24 cv) 24 (u8s (Pure.answer c h)) := by
      refine ownsRow_base (own_walks (B := 0) (row := some D) hO9 (grownBy_putObj' w9 D _) (fun r e => ?_)) HLB.out.size
      injection e with e
      subst e
      exact ⟨Nat.zero_le _, _, hD9, rfl⟩
    exact ⟨_, results_two rfl _ _ _ (b0 + 1) (b0 + 1 + 1) (.slice Av 24 cv) .nilIface rfl rfl Tryd.isAgg25 Tryd.isAgg65 (by rw [g1'.cell]; rfl) (by rw [g2'.cell]; rfl), ⟨_, rfl, hO10, hB10⟩⟩
  case body =>
    rintro l pre x W ⟨⟨v, hv, ho⟩, ⟨hB, hsz⟩⟩ hlen
    have hk3 := HL3.out.keeps hB (fun e => by have e : b0 + 1 + 1 + 1 = bA := e; omega)
    have hk0 := HL0.out.keeps hB (fun e => by have e : b0 = bA := e; omega)
    have hrow := key_row hk3 hh x.1 x.2
    have hrc := HLX.out.keeps hB (fun b hb e => by have e : b = bA := e; have := HF.out b hb; have := HB0.out; omega)
    have hE := encrypt_ok _ F _ _ (Pure.keyPart h x.1) c W hrow hrc (Pure.keyPart_length h hh x.1 x.2) hc (fun b hb => by have hb : b = b0 + 1 + 1 + 1 := hb; omega) (fun b hb => by have := HF.out b hb; have := HB0.out; omega)
    have HE := Lib.hid hE
    have c0 : W.cell? ⟨b0, 0, none⟩ = some (.slice A 8 cA) := by rw [hk0.cell]; rfl
    have HV := Lib.hid hv
    have HO := Lib.hid ho
    have HBB := Lib.hid hB
    clear hk3 hk0 hrow hrc hE hv ho hB hx1 hx2 hA0
    gi_wp2
    refine ⟨trivial, (CallsIn.inRound l (callsIn_wide.2 HE.out)).mono ?_⟩
    rintro e w3 ⟨u, rfl, hu, hb3⟩
    obtain ⟨Au, cu, rfl⟩ := own_form hu
    obtain ⟨Ao, co, rfl⟩ := own_form HO.out
    obtain ⟨bu, rfl, _, hcu⟩ := own_cell hu (by omega)
    have hv3 := HV.out.below hb3 HV.out.lt
    have ho3 := ownsRow_keeps HO.out (Keeps.new hb3) (fun _ _ h => h)
    have cA0 : w3.cell? ⟨bA, 0, none⟩ = some (.slice Ao (Pure.parts c h (pre.map (·.1))).length co) := by rw [hv3.cell]; rfl
    have fA : w3.frozen? ⟨bA, 0, none⟩ = false := hv3.frozen 0
    have HV3 := Lib.hid hv3
    have HO3 := Lib.hid ho3
    have HU := Lib.hid hcu
    have HB3 := Lib.hid hb3
    have hz3 := hb3.size
    have HPL := Lib.hid (Pure.parts_length c h (pre.map (·.1)))
    clear HE hu hv3 ho3 hcu hb3 c0 HV HO
    obtain ⟨i0, hi, hz0, hz1, hz2⟩ := info_parts u8_info
    have hdl := Pure.des_length (Pure.keyPart h x.1) c
    gi_wp2_with (gi_at_builtin; refine stopHere ?_)
    unfold Hid
    refine wpListIn_append_own _ rfl _ _ 25 rfl wL.heap.size 5 i0 (.int .u8 0) 1 1 Tryd.underlying25 hi hz0 hz1 hz2 rfl (by decide) _ _ _ rfl HO3.out ⟨bu, 0, none⟩ 8 cu (u8s (Pure.des (Pure.keyPart h x.1) c)) rfl (by rw [List.length_map, hdl]) (fun j v hj => by rw [addr_add, Nat.zero_add]; exact HU.out j v hj) (u8s_cells _) (by have := HPL.out; simp only [List.length_map] at this; unfold maxLen; omega) (by have := HPL.out; simp only [List.length_map] at this; omega) (by omega) ?_
    intro v4 w4 hown4 hg4 _
    have hg4 : w3.grownBy w4 (Value.slice Ao (Pure.parts c h (pre.map (·.1))).length co).ownBlock := hg4
    have hin : (pre ++ [x]).map (·.1) = pre.map (·.1) ++ [x.1] := by simp
    have hown5 : w4.ownsRow wL.heap.size 5 1 v4 (Pure.parts c h ((pre ++ [x]).map (·.1))).length (u8s (Pure.parts c h ((pre ++ [x]).map (·.1)))) := by
      have e : u8s (Pure.parts c h (pre.map (·.1)) ++ Pure.des (Pure.keyPart h x.1) c) = u8s (Pure.parts c h (pre.map (·.1))) ++ u8s (Pure.des (Pure.keyPart h x.1) c) := List.map_append
      rw [hin, Pure.parts_snoc, List.length_append, hdl, e]
      exact hown4
    obtain ⟨A5, c5, rfl⟩ := own_form hown5
    have hne : (Value.slice Ao (Pure.parts c h (pre.map (·.1))).length co).ownBlock ≠ some bA := ownsRow_ne HO3.out HV3.out (by decide)
    have hv4 : Blk w4 bA 25 #[.slice Ao (Pure.parts c h (pre.map (·.1))).length co] := (hg4.block bA HV3.out.lt (fun e => hne e.symm)).trans HV3.out
    have cA4 : w4.cell? ⟨bA, 0, none⟩ = some (.slice Ao (Pure.parts c h (pre.map (·.1))).length co) := by rw [hv4.cell]; rfl
    have fA4 : w4.frozen? ⟨bA, 0, none⟩ = false := hv4.frozen 0
    have hne5 : (Value.slice A5 (Pure.parts c h ((pre ++ [x]).map (·.1))).length c5).ownBlock ≠ some bA := ownsRow_ne hown5 hv4 (by decide)
    obtain ⟨N5, hN5⟩ : ∃ N, N = (Pure.parts c h ((pre ++ [x]).map (·.1))).length := ⟨_, rfl⟩
    rw [← hN5] at hne5 ⊢
    obtain ⟨w5, hw5⟩ : ∃ w5, w5 = w4.setCell ⟨bA, 0, none⟩ (.slice A5 N5 c5) := ⟨_, rfl⟩
    have hv5 : Blk w5 bA 25 #[.slice A5 N5 c5] := by rw [hw5]; exact hv4.set 0 _
    have ho5 : w5.ownsRow wL.heap.size 5 1 (.slice A5 N5 c5) (Pure.parts c h ((pre ++ [x]).map (·.1))).length (u8s (Pure.parts c h ((pre ++ [x]).map (·.1)))) := by
      rw [hw5]
      rw [← hN5] at hown5 ⊢
      exact own_store hown5 hne5
    have hbL : bA < wL.heap.size := by omega
    have h54 : ∀ k, k ≠ bA → w5.heap[k]? = w4.heap[k]? := fun k hk => by rw [hw5]; exact Below.heap_setCell _ _ _ _ hk
    have hkf : KeepsFrom wL.heap.size W w5 := by
      refine ⟨?_, fun k o hBk hk ho => ?_⟩
      · have := hg4.size
        rw [hw5]; simp; omega
      · have hk3 : w3.heap[k]? = some o := (HB3.out.block k (Array.getElem?_eq_some_iff.1 hk).1).trans hk
        rw [h54 k (by omega), hg4.block k (Array.getElem?_eq_some_iff.1 hk3).1 (fun e => ?_)]
        · exact hk3
        · obtain ⟨cs, fz, hcs⟩ := own_isCells HO3.out k e.symm
          rw [hk3] at hcs
          injection hcs with hcs
          subst hcs
          cases ho
    have hkp : KeptBut wL.heap.size bA W w5 := fun k hk hs => by
      have hkW : k < W.heap.size := by omega
      have := HB3.out.size
      rw [h54 k hs, hg4.block k (by omega) (fun e => by have := ownsRow_ge HO3.out k e.symm; omega)]
      exact HB3.out.block k hkW
    have hkk : Keeps (only bA) wL w5 := by
      rw [hw5]
      exact ((HBB.out.trans' (Keeps.new HB3.out) (fun _ h _ => h.elim)).grown hg4 (fun k e hk => by have := ownsRow_ge HO3.out k e; omega)).store bA 0 (fun _ => only_self bA) _
    have hz5 : wL.heap.size ≤ w5.heap.size := hkk.size
    have HP5 := Lib.hid (And.intro hkf (And.intro hkp (And.intro hv5 (And.intro ho5 (And.intro hkk hz5)))))
    have HW5 := Lib.hid hw5
    clear hown4 hg4 hown5 hne hv4 hne5 hv5 ho5 h54 hkf hkp hkk hz5 hw5 hin HO3 HV3 HU HB3 cA0 fA hi hz0 hz1 hz2 hdl hN5
    gi_wp2
    rw [← HW5.out]
    obtain ⟨hkf, hkp, hv5, ho5, hkk, hz5⟩ := HP5.out
    exact ⟨hkf, hkp, ⟨_, hv5, ho5⟩, hkk, hz5⟩
theorem answer_any (F G : Nat → Prop) (x y : Value) (c h : List UInt8) (w : World) (E : Env w) (hx : Row w F 1 x 8 (u8s c)) (hy : Row w G 1 y 16 (u8s h)) (hc : c.length = 8) (hh : h.length = 16) (hF : ∀ b, F b → b < w.heap.size) (hG : ∀ b, G b → b < w.heap.size) :
    Calls Tryd.prog 52 #[x, y] w fun e w' => ∃ u, e = .returned (.tuple #[u, .int .i64 0]) ∧ w'.ownsRow w.heap.size 5 1 u 24 (u8s (Pure.answer c h)) ∧ Below w.heap.size w w' := by
  have HA := Lib.hid (answerTo_any F G x y c h w hx hy hc hh hF hG)
  have HE := Lib.hid E
  obtain ⟨A, cA, rfl, _⟩ := hx.form
  obtain ⟨B, cB, rfl, _⟩ := hy.form
  clear hx hy hF hG E hc hh
  go_enter Tryd.func52, Tryd.ntmps52
  go_wp2_with fail
  refine HA.out.mono ?_
  rintro e w1 ⟨u, rfl, hu, hb1⟩
  obtain ⟨Au, cu, rfl⟩ := own_form hu
  have HT := Lib.hid (told_any Au 24 cu .nilIface 0 w1 (HE.out.hd.below hb1) (.inl ⟨rfl, rfl⟩))
  have HU := Lib.hid hu
  have HB := Lib.hid hb1
  clear hu hb1 HA HE
  go_wp2_with fail
  refine HT.out.mono ?_
  rintro e w2 ⟨rfl, hb2⟩
  have HU2 := Lib.hid (ownsRow_keeps HU.out (Keeps.new hb2) (fun _ _ h => h))
  have HB2 := Lib.hid (HB.out.trans (hb2.mono HB.out.size))
  clear hb2 HT HU HB
  go_wp2
  go_ret2
  exact ⟨_, rfl, HU2.out, HB2.out⟩
end Go.Proofs.YtkllaghfiofnjaaDoor
/- The law ChapParts. -/
namespace Go.Proofs.YtkllaghfiofnjaaDoor
open Go.RowKit
theorem answer_ok : AnswerOk := fun F G x y c h w E hx hy hc hh hF hG => answer_any F G x y c h w E hx hy hc hh hF hG
theorem chapParts_walk (a0 a1 : List UInt8) (a2 : Int) (w : World) (E : Env w) (w0 : a0.length = 8) (w1 : a1.length = 16) (w2 : (Lit.int .u16 a2).wf = true) :
    Calls Tryd.prog 10 #[.agg (u8s a0).toArray, .agg (u8s a1).toArray, .int .u16 a2] w fun e w' => e = .returned (.bool true) ∧ Below w.heap.size w w' :=
  chapParts_walk_of answer_ok a0 a1 a2 w E w0 w1 w2
end Go.Proofs.YtkllaghfiofnjaaDoor
/- Arrays of bytes as arguments. -/
namespace Go.Proofs.YtkllaghfiofnjaaDoor
open Go.RowKit
theorem okWide_arr8 {P : Program} {w : World} {r : Reach} {base : Nat} {t e : TypeId} {n : Nat} {v : Value} (ht : P.underlying t = some (.array n e)) (h : Value.okWide P w r base t v) : ∃ cs, v = .agg cs ∧ cs.size = P.cellsOf t := by
  simp only [Value.okWide, ht] at h
  obtain ⟨cs, h1, h2, _⟩ := h
  exact ⟨cs, h1, h2⟩
theorem bytesArr_of {H : Type} {enc : TypeId × Value → H} {P : Program} {w : World} {base : Nat} {sp : Nat → Bool} {held : Bool} {fuel : Nat} {cs : List Value} {x : DataW H × List MemPlace} {t e : TypeId} {n : Nat}
    (ht : P.underlying t = some (.array n e)) (he : P.underlying e = some (.int .u8)) (hc : P.cellsOf e = 1) (hC : P.cellsOf t = n) (h : DataW.trod enc P w base sp held fuel t cs = some x) :
    ∃ l : List UInt8, l.length = n ∧ cs = l.map fun b => Value.int .u8 b.toNat := by
  obtain ⟨xs, m, _, _, hl, hxl, hi⟩ := DataW.trod_array ht h
  rw [hC] at hl
  have hcell : ∀ i, i < n → ∃ b : UInt8, cs[i]? = some (.int .u8 b.toNat) := by
    intro i hin
    have h1 := hi i hin
    rw [hc, Nat.mul_one, List.getElem?_eq_getElem (by omega)] at h1
    obtain ⟨z, hz, _, hw⟩ := DataW.trod_int he h1
    obtain ⟨z0, z1⟩ := u8_of_wf hw
    have h2 : cs[i]? = some (.int .u8 z) := by
      have := congrArg (·[0]?) hz
      simpa using this
    refine ⟨UInt8.ofNat z.toNat, ?_⟩
    rw [h2, UInt8.toNat_ofNat', Nat.mod_eq_of_lt (by omega)]
    congr 2
    omega
  obtain ⟨l, hll, hlc⟩ := list_choice n hcell
  refine ⟨l, hll, ?_⟩
  apply List.ext_getElem?
  intro i
  rw [List.getElem?_map]
  rcases Nat.lt_or_ge i n with hin | hin
  · have h1 : l[i]? = some l[i] := List.getElem?_eq_getElem (by omega)
    rw [hlc i _ h1, h1]
    rfl
  · rw [List.getElem?_eq_none (by omega), List.getElem?_eq_none (by omega)]
    rfl
end Go.Proofs.YtkllaghfiofnjaaDoor
