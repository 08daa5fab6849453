/- des.Encrypt. -/
import Derived.Test.YtmelphlgpnmopaaEncL
import Derived.Test.YtmelphlgpnmopaaDesI
namespace Go.Proofs.Ytmelphlgpnmopaa
open Go.RowKit
theorem val_halves (l : List Bool) (h : l.length = 64) : Pure.val l / 2 ^ 32 = Pure.val (l.take 32) ∧ Pure.val l % 2 ^ 32 = Pure.val (l.drop 32) := by
  rw [Pure.val_take, Pure.val_drop, h]; exact ⟨rfl, rfl⟩
theorem xor_is (l f : List Bool) (h : l.length = 32) : Pure.desXor l f = Pure.xors l f := by
  unfold Pure.desXor Pure.xors
  rw [h]
theorem ip_in64 : ∀ k, k < Pure.desIp.length → 1 ≤ Pure.desIp.getD k 0 ∧ Pure.desIp.getD k 0 ≤ 64 := by
  rw [Pure.ip_length]; exact ip_within
theorem mix_call {f : Value} {w : World} (hf : Mixes w f) :
    ∃ a b, f = .func (.func 28) #[] #[.pointer (some ⟨a, 0, none⟩), .pointer (some ⟨b, 0, none⟩)] ∧ ∀ (r k : List Bool), r.length = 32 → k.length = 48 → ∀ w', Keeps nobody w w' →
      Calls Try.prog 28 #[.int .u64 ((Pure.val r : Nat) : Int), .int .u64 ((Pure.val k : Nat) : Int), .pointer (some ⟨a, 0, none⟩), .pointer (some ⟨b, 0, none⟩)] w' fun e w'' => e = .returned (.int .u64 ((Pure.val (Pure.desF r k) : Nat) : Int)) ∧ Keeps nobody w' w'' := by
  obtain ⟨a, b, fp, fe, e, h⟩ := id hf
  exact ⟨a, b, e, fun r k hr hk w' hw => mixed_any r k hr hk f w' (hf.keeps hw) a b e⟩
theorem desF_length (r k : List Bool) : (Pure.desF r k).length = 32 := by unfold Pure.desF; rw [Pure.pick_length]; rfl
set_option maxRecDepth 100000 in
set_option maxHeartbeats 8000000 in
theorem encrypt_ok (F G : Nat → Prop) (x y : Value) (key block : List UInt8) (w : World) (hx : Row w F 1 x 7 (u8s key)) (hy : Row w G 1 y 8 (u8s block)) (hk : key.length = 7) (hb : block.length = 8) (hF : ∀ b, F b → b < w.heap.size) (hG : ∀ b, G b → b < w.heap.size) :
    Calls Try.prog 8 #[x, y] w fun e w' => ∃ u, e = .returned (.tuple #[u, .int .i64 0]) ∧ w'.ownsRow w.heap.size 5 1 u 8 (u8s (Pure.des key block)) ∧ Below w.heap.size w w' := by
  obtain ⟨A, cA, rfl, hc⟩ := hx.form
  obtain ⟨B, cB, rfl, hd⟩ := hy.form
  have HX := Lib.hid hx
  have HY := Lib.hid hy
  clear hx hy hF hG hc hd
  have hKl : (Pure.bitsOfBytes true key).length = 56 := by rw [Pure.bitsOfBytes_length, hk]
  have hBl : (Pure.bitsOfBytes true block).length = 64 := by rw [Pure.bitsOfBytes_length, hb]
  have hdes : Pure.des key block = Pure.ofBits (Pure.desBits (Pure.bitsOfBytes true key) (Pure.bitsOfBytes true block)) := rfl
  obtain ⟨KB, hKB⟩ : ∃ K, K = Pure.bitsOfBytes true key := ⟨_, rfl⟩
  obtain ⟨BB, hBB⟩ : ∃ B, B = Pure.bitsOfBytes true block := ⟨_, rfl⟩
  rw [← hKB] at hKl hdes
  rw [← hBB] at hBl hdes
  have HKB := Lib.hid hKB
  have HBB := Lib.hid hBB
  have HDES := Lib.hid hdes
  have HKl := Lib.hid hKl
  have HBl := Lib.hid hBl
  have Hk := Lib.hid hk
  have Hb := Lib.hid hb
  clear hKB hBB hdes hKl hBl hk hb
  go_enter Try.func8, Try.ntmps8
  go_wp2_with fail
  refine (initialTable_any _).mono ?_
  rintro e w1 ⟨u1, rfl, hr1, hk1⟩
  have HR1 := Lib.hid hr1
  have HK1 := Lib.hid hk1
  clear hr1 hk1
  go_wp2_with fail
  refine (mixer_any _).mono ?_
  rintro e w2 ⟨fm, rfl, hm2, hk2⟩
  obtain ⟨ma, mb, rfl, hM⟩ := mix_call hm2
  have HM := Lib.hid hM
  have HR2 := Lib.hid (HR1.out.keeps hk2 (fun _ _ h => h))
  have HK2 := Lib.hid (HK1.out.trans hk2)
  have HP2 := Lib.hid (picker_any _ 64 u1 Pure.desIp w2 HR2.out)
  clear hm2 hk2 hM HR1 HK1
  go_wp2_with fail
  refine HP2.out.mono ?_
  rintro e w3 ⟨f3, rfl, hp3, hk3⟩
  obtain ⟨pa, pb, rfl, hP⟩ := picks_call hp3 (by omega) (by rw [Pure.ip_length]; omega) ip_in64
  have HP := Lib.hid (hP BB HBl.out)
  have HR3 := Lib.hid (HR2.out.keeps hk3 (fun _ _ h => h))
  have HM3 := Lib.hid hk3
  have HK3 := Lib.hid (HK2.out.trans hk3)
  have HN3 := Lib.hid (number_any G (.slice B 8 cB) block w3 (by rw [Hb.out]; exact HY.out.keeps HK3.out (fun _ _ h => h)) (by rw [Hb.out]; omega))
  rw [← HBB.out] at HN3
  clear hp3 hP hk3 HR2 HK2 HP2
  go_wp2_with fail
  refine HN3.out.mono ?_
  rintro e w4 ⟨rfl, hk4⟩
  have HR4 := Lib.hid (HR3.out.keeps hk4 (fun _ _ h => h))
  have HM4 := Lib.hid (HM3.out.trans hk4)
  have HK4 := Lib.hid (HK3.out.trans hk4)
  have HP4 := Lib.hid (HP.out w4 hk4)
  clear hk4 HP HN3 HR3 HM3 HK3
  go_wp2_with fail
  refine HP4.out.mono ?_
  rintro e w5 ⟨rfl, hk5⟩
  have HR5 := Lib.hid (HR4.out.keeps hk5 (fun _ _ h => h))
  have HM5 := Lib.hid (HM4.out.trans hk5)
  have HK5 := Lib.hid (HK4.out.trans hk5)
  clear hk5 HP4 HR4 HM4 HK4
  have hpl : (Pure.pick BB Pure.desIp).length = 64 := by rw [Pure.pick_length, Pure.ip_length]
  obtain ⟨v1, v2⟩ := val_halves _ hpl
  have hvl := Pure.val_lt (Pure.pick BB Pure.desIp)
  rw [hpl] at hvl
  have hSl : (Pure.desStart KB BB).l = (Pure.pick BB Pure.desIp).take 32 := rfl
  have hSr : (Pure.desStart KB BB).r = (Pure.pick BB Pure.desIp).drop 32 := rfl
  rw [← hSl] at v1
  rw [← hSr] at v2
  have hGS := Pure.Good.start KB BB
  have hcd := Pure.desRounds_cd (Pure.desStart KB BB) (Pure.desStart KB []) rfl rfl
  have hbits : Pure.desBits KB BB = Pure.desPut ((Pure.desRounds (Pure.desStart KB BB) 16).r ++ (Pure.desRounds (Pure.desStart KB BB) 16).l) 64 := rfl
  obtain ⟨T, hTl, hT⟩ := nums_of (fun k => Pure.val (Pure.pick ((Pure.desRounds (Pure.desStart KB []) (k + 1)).c ++ (Pure.desRounds (Pure.desStart KB []) (k + 1)).d) Pure.desPc2)) 16
  have HRK := Lib.hid (roundKeys_any KB HKl.out T hTl hT)
  have HT := Lib.hid (show ∀ k, k < 16 → T.getD k 0 = Pure.val (Pure.desRoundKey (Pure.desRounds (Pure.desStart KB BB) (k + 1)).c (Pure.desRounds (Pure.desStart KB BB) (k + 1)).d) from fun k hk => by
    obtain ⟨h1, h2⟩ := hcd (k + 1)
    rw [hT k hk, h1, h2]; rfl)
  obtain ⟨S, hS⟩ : ∃ S, S = Pure.desStart KB BB := ⟨_, rfl⟩
  rw [← hS] at HT v1 v2 hGS hbits
  have HBITS := Lib.hid hbits
  have HGS := Lib.hid hGS
  have HTl := Lib.hid hTl
  obtain ⟨V, hV⟩ : ∃ V, V = Pure.val (Pure.pick BB Pure.desIp) := ⟨_, rfl⟩
  obtain ⟨L0, hL0⟩ : ∃ L, L = Pure.val S.l := ⟨_, rfl⟩
  obtain ⟨R0, hR0⟩ : ∃ R, R = Pure.val S.r := ⟨_, rfl⟩
  rw [← hV, ← hL0] at v1
  rw [← hV, ← hR0] at v2
  rw [← hV] at hvl ⊢
  have e1 : (V : Int) / 4294967296 = (L0 : Int) := by omega
  have HL := Lib.hid (low_nat 32 V R0 (by omega) (by omega) (by omega) _ rfl 32 rfl v2)
  have HL0 := Lib.hid hL0
  have HR0 := Lib.hid hR0
  clear hpl v1 v2 hSl hSr hGS hcd hbits hT hTl hS hV hL0 hR0
  go_wp2_with fail
  refine (HL.out _).mono ?_
  rintro e w6 ⟨rfl, hk6⟩
  have HR6 := Lib.hid (HR5.out.keeps hk6 (fun _ _ h => h))
  have HM6 := Lib.hid (HM5.out.trans hk6)
  have HK6 := Lib.hid (HK5.out.trans hk6)
  have HN6 := Lib.hid (number_any F (.slice A 7 cA) key w6 (by rw [Hk.out]; exact HX.out.keeps HK6.out (fun _ _ h => h)) (by rw [Hk.out]; omega))
  rw [← HKB.out] at HN6
  clear hk6 HL HR5 HM5 HK5
  go_wp2_with fail
  refine HN6.out.mono ?_
  rintro e w7 ⟨rfl, hk7⟩
  have HR7 := Lib.hid (HR6.out.keeps hk7 (fun _ _ h => h))
  have HM7 := Lib.hid (HM6.out.trans hk7)
  have HK7 := Lib.hid (HK6.out.trans hk7)
  clear hk7 HN6 HR6 HM6 HK6
  go_wp2_with fail
  refine (HRK.out w7).mono ?_
  rintro e w8 ⟨rfl, hk8⟩
  have HR8 := Lib.hid (HR7.out.keeps hk8 (fun _ _ h => h))
  have HM8 := Lib.hid (HM7.out.trans hk8)
  have HK8 := Lib.hid (HK7.out.trans hk8)
  clear hk8 HRK HR7 HM7 HK7
  go_wp2_with fail
  go_loopw [9, 10, 35] (fun l r i wr => ∃ k : Nat, k ≤ 16 ∧ i = .int .i64 (k : Int) ∧ l = .int .u64 ((Pure.val (Pure.desRounds S k).l : Nat) : Int) ∧ r = .int .u64 ((Pure.val (Pure.desRounds S k).r : Nat) : Int) ∧ Keeps nobody w8 wr) (fun _ _ i _ => 16 - (intOf i).toNat)
  case atStart => exact ⟨0, by omega, rfl, by rw [HL0.out]; rfl, by rw [HR0.out]; rfl, Keeps.refl _ _⟩
  case round =>
    clear HL0 HR0
    obtain ⟨k, hk, rfl, rfl, rfl, hK⟩ := hrel
    have HK := Lib.hid hK
    clear hK
    by_cases hkl : k < 16
    · have hi0 : (0 : Int) ≤ (k : Int) := by omega
      have hi1 : (k : Int) < 16 := by omega
      obtain ⟨gc, gd, gl, gr⟩ := HGS.out.rounds k
      obtain ⟨_, _, gl', gr'⟩ := HGS.out.rounds (k + 1)
      have hTk := HT.out k hkl
      have el : (Pure.desRounds S (k + 1)).l = (Pure.desRounds S k).r := rfl
      have er : (Pure.desRounds S (k + 1)).r = Pure.desXor (Pure.desRounds S k).l (Pure.desF (Pure.desRounds S k).r (Pure.desRoundKey (Pure.desRounds S (k + 1)).c (Pure.desRounds S (k + 1)).d)) := rfl
      have HMk := Lib.hid (fun w' hw' => HM.out (Pure.desRounds S k).r (Pure.desRoundKey (Pure.desRounds S (k + 1)).c (Pure.desRounds S (k + 1)).d) gr (Pure.desRoundKey_length _ _) w' hw')
      obtain ⟨Z, hZ⟩ : ∃ Z, Z = Pure.desF (Pure.desRounds S k).r (Pure.desRoundKey (Pure.desRounds S (k + 1)).c (Pure.desRounds S (k + 1)).d) := ⟨_, rfl⟩
      have hZl : Z.length = 32 := by rw [hZ, desF_length]
      rw [← hZ] at er HMk
      have hx := Pure.val_xors (Pure.desRounds S k).l Z (by rw [gl, hZl])
      rw [← xor_is _ _ gl, ← er] at hx
      have l1 := Pure.val_lt (Pure.desRounds S k).l
      have l2 := Pure.val_lt Z
      rw [gl] at l1
      rw [hZl] at l2
      rw [← hTk] at HMk
      obtain ⟨tk, htk⟩ : ∃ t, t = T.getD k 0 := ⟨_, rfl⟩
      have hat : (u64s T).toArray[k]? = some (.int .u64 (tk : Int)) := by
        have hl := HTl.out
        rw [htk, List.getElem?_toArray, List.getElem?_map, List.getElem?_eq_getElem (by omega), List.getD_eq_getElem?_getD, List.getElem?_eq_getElem (by omega)]; rfl
      rw [← htk] at HMk
      obtain ⟨L, hL⟩ : ∃ L, L = Pure.val (Pure.desRounds S k).l := ⟨_, rfl⟩
      obtain ⟨R, hR⟩ : ∃ R, R = Pure.val (Pure.desRounds S k).r := ⟨_, rfl⟩
      obtain ⟨R', hR'⟩ : ∃ R, R = Pure.val (Pure.desRounds S (k + 1)).r := ⟨_, rfl⟩
      obtain ⟨z, hz⟩ : ∃ z, z = Pure.val Z := ⟨_, rfl⟩
      rw [← hR, ← hz] at HMk
      rw [← hL, ← hR', ← hz] at hx
      rw [← hL] at l1
      rw [← hz] at l2
      rw [← hL, ← hR]
      have e2 : bits .xor .u64 (L : Int) (z : Int) = (R' : Int) := xor_u64 L z R' hx.symm (by omega) (by omega)
      obtain ⟨i0, hi00, hz0, hz1, hz2⟩ := info_parts word_info
      have hix := fun W => run_index_any .i64 45 38 16 _ k _ W Try.underlying45 hkl hat i0 hi00 hz1 _ Try.underlying38 rfl
      have HEL := Lib.hid (show (R : Nat) = Pure.val (Pure.desRounds S (k + 1)).l by rw [el]; exact hR)
      have HER := Lib.hid hR'
      clear gc gd gl gr gl' gr' hTk el er hZ hZl hx l1 l2 htk hat hL hR hR' hz hi00 hz0 hz1 hz2
      go_wp2_with fail
      with_reducible refine (HMk.out _ (HM8.out.trans HK.out)).mono ?_
      rintro e wa ⟨rfl, hka⟩
      have HKa := Lib.hid (HK.out.trans hka)
      clear hka HMk HK hix
      go_wp2_with fail
      go_roundw
      case rel => exact ⟨k + 1, by omega, by go_num, by rw [HEL.out], by rw [HER.out], HKa.out⟩
      case measure => simp [intOf]; omega
    · have hkk : k = 16 := by omega
      subst hkk
      clear hkl hk
      have HRr := Lib.hid (HR8.out.keeps HK.out (fun _ _ h => h)).strong
      have HI := Lib.hid (inverse_any (fun b => True ∧ b < wr.heap.size) u1 wr (by have h := HRr.out; rw [Pure.ip_length] at h; exact h) (fun b hb => hb.2))
      have HKr := Lib.hid (HK8.out.trans HK.out)
      obtain ⟨gc, gd, gl, gr⟩ := HGS.out.rounds 16
      have hor := Pure.val_or (Pure.desRounds S 16).r (Pure.desRounds S 16).l
      have l1 := Pure.val_lt (Pure.desRounds S 16).l
      have l2 := Pure.val_lt (Pure.desRounds S 16).r
      rw [gl] at hor l1
      rw [gr] at l2
      have hlen : ((Pure.desRounds S 16).r ++ (Pure.desRounds S 16).l).length = 64 := by rw [List.length_append, gl, gr]
      have hout : Pure.ofBits (Pure.pick ((Pure.desRounds S 16).r ++ (Pure.desRounds S 16).l) (Pure.backs 64)) = Pure.des key block := by
        rw [Pure.pick_backs, HDES.out, HBITS.out]
      obtain ⟨Y, hY⟩ : ∃ Y, Y = (Pure.desRounds S 16).r ++ (Pure.desRounds S 16).l := ⟨_, rfl⟩
      obtain ⟨L, hL⟩ : ∃ L, L = Pure.val (Pure.desRounds S 16).l := ⟨_, rfl⟩
      obtain ⟨R, hR⟩ : ∃ R, R = Pure.val (Pure.desRounds S 16).r := ⟨_, rfl⟩
      rw [← hY] at hor hlen hout
      rw [← hL, ← hR] at hor
      rw [← hL] at l1
      rw [← hR] at l2
      rw [← hL, ← hR]
      have hplen : (Pure.pick Y (Pure.backs 64)).length = 64 := by rw [Pure.pick_length, Pure.backs_length]
      have HBO := Lib.hid (bytesOf_any (Pure.pick Y (Pure.backs 64)) hplen)
      have HLY := Lib.hid hlen
      have HOUT := Lib.hid hout
      obtain ⟨U, hU⟩ : ∃ U, U = Pure.val Y := ⟨_, rfl⟩
      rw [← hU] at hor
      have e2 : bits .or .u64 ((R : Int) * 4294967296) (L : Int) = (U : Int) := by
        have h := or_u64 (R * 2 ^ 32) L U hor (by omega) (by omega)
        simpa using h
      have l3 : R < 4294967296 := l2
      have HU := Lib.hid hU
      clear gc gd gl gr hor l1 l2 hlen hout hY hL hR hplen hU HK
      go_wp2_with fail
      refine HI.out.mono ?_
      rintro e wa ⟨ua, rfl, hra, hka⟩
      have HKa := Lib.hid (HKr.out.trans hka)
      have HPa := Lib.hid (picker_any _ 64 ua (Pure.backs 64) wa (by rw [Pure.backs_length]; exact hra))
      clear hra hka HI HKr
      go_wp2_with fail
      refine HPa.out.mono ?_
      rintro e wb ⟨fb, rfl, hpb, hkb⟩
      obtain ⟨qa, qb, rfl, hQ⟩ := picks_call hpb (by omega) (by rw [Pure.backs_length]; omega) (by rw [Pure.backs_length]; exact Pure.backs_range)
      have HQ := Lib.hid (hQ Y HLY.out wb (Keeps.refl _ _))
      have HKb := Lib.hid (HKa.out.trans hkb)
      rw [← HU.out] at HQ
      clear hpb hkb hQ HKa HPa
      go_wp2_with fail
      with_reducible refine HQ.out.mono ?_
      rintro e wc ⟨rfl, hkc⟩
      have HKc := Lib.hid (HKb.out.trans hkc)
      clear hkc HKb HQ
      go_wp2_with fail
      with_reducible refine (HBO.out wc).mono ?_
      rintro e wd ⟨ud, rfl, hrd, hkd⟩
      have HKd := Lib.hid (HKc.out.trans hkd)
      have HRd := Lib.hid (ownsRow_base hrd HKc.out.size)
      obtain ⟨Ad, cd, rfl⟩ := own_form hrd
      clear hkd hrd HKc HBO
      go_wp2
      go_ret2
      refine ⟨_, rfl, ?_, HKd.out.to_below⟩
      rw [← HOUT.out]
      exact HRd.out
theorem encrypt_bad (F G : Nat → Prop) (x y : Value) (key block : List UInt8) (w : World) (hx : Row w F 1 x key.length (u8s key)) (hy : Row w G 1 y block.length (u8s block)) (hbad : key.length ≠ 7 ∨ block.length ≠ 8) :
    Calls Try.prog 8 #[x, y] w fun e w' => ∃ u, e = .returned (.tuple #[u, .int .i64 1]) ∧ Row w' nobody 1 u 0 [] ∧ Below w.heap.size w w' := by
  obtain ⟨A, cA, rfl, hc⟩ := hx.form
  obtain ⟨B, cB, rfl, hd⟩ := hy.form
  have lx := hx.2.1
  have ly := hy.2.1
  unfold maxLen at lx ly
  clear hx hy hc hd
  by_cases h7 : key.length = 7
  · have h8 : block.length ≠ 8 := by rcases hbad with h | h; exact absurd h7 h; exact h
    have e1 : ((key.length : Int) != 7) = false := by rw [h7]; rfl
    have e2 : ((block.length : Int) != 8) = true := by rw [bne_iff_ne]; omega
    clear hbad h7 h8
    go_enter Try.func8, Try.ntmps8
    go_wp2
    go_ret2
    exact ⟨_, rfl, Row.nil _ _ _, Below.refl _ _⟩
  · have e1 : ((key.length : Int) != 7) = true := by rw [bne_iff_ne]; omega
    clear hbad h7
    go_enter Try.func8, Try.ntmps8
    go_wp2
    go_ret2
    exact ⟨_, rfl, Row.nil _ _ _, Below.refl _ _⟩
end Go.Proofs.Ytmelphlgpnmopaa
