/- des: the keys of the rounds. -/
import Derived.Test.YtmelphlgpnmopaaEncK
namespace Go.Proofs.Ytmelphlgpnmopaa
open Go.RowKit
set_option maxHeartbeats 8000000 in
theorem roundKeys_any (K : List Bool) (hKl : K.length = 56) (T : List Nat) (hTl : T.length = 16) (hT : ∀ k, k < 16 → T.getD k 0 = Pure.val (Pure.pick ((Pure.desRounds (Pure.desStart K []) (k + 1)).c ++ (Pure.desRounds (Pure.desStart K []) (k + 1)).d) Pure.desPc2)) (w : World) :
    Calls Try.prog 16 #[.int .u64 ((Pure.val K : Nat) : Int)] w fun e w' => e = .returned (.agg (u64s T).toArray) ∧ Keeps nobody w w' := by
  have HI := Lib.hid words16_info
  have HGS := Lib.hid (show Pure.Good (Pure.desStart K []) from Pure.Good.start K [])
  have HTl := Lib.hid hTl
  have HT := Lib.hid hT
  clear hTl hT
  obtain ⟨g, hg⟩ : ∃ g, g = w.heap.size := ⟨_, rfl⟩
  go_enter Try.func16, Try.ntmps16
  go_upto_region 1 with fail
  rw [← hg]
  generalize hw0 : w.alloc _ = w0
  have HB0 := Lib.hid (show Blk w0 g 45 (u64s (List.replicate 16 0)).toArray by rw [← hw0, hg]; exact Blk.new w _ _)
  have HK0 := Lib.hid (show Keeps nobody w w0 by rw [← hw0]; exact (Keeps.refl _ w).alloc _)
  have HG := Lib.hid hg
  clear hw0 hg
  go_wp2_with fail
  refine (keyTable_any _).mono ?_
  rintro e w1 ⟨u1, rfl, hr1, hk1⟩
  have HP1 := Lib.hid (picker_any _ 56 u1 keyPicks w1 hr1)
  have HK1 := Lib.hid hk1
  clear hr1 hk1
  go_wp2_with fail
  refine HP1.out.mono ?_
  rintro e w2 ⟨f2, rfl, hp2, hk2⟩
  obtain ⟨pa, pb, rfl, hP⟩ := picks_call hp2 (by omega) (by decide) keyPicks_in
  have HP := Lib.hid (hP K hKl w2 (Keeps.refl _ _))
  have HK2 := Lib.hid (HK1.out.trans hk2)
  clear hp2 hk2 HP1 HK1 hP hKl
  go_wp2_with fail
  refine HP.out.mono ?_
  rintro e w3 ⟨rfl, hk3⟩
  have HK3 := Lib.hid (HK2.out.trans hk3)
  obtain ⟨s1, s2⟩ := start_key K
  have hvl := Pure.val_lt (Pure.pick K keyPicks)
  rw [Pure.pick_length, show keyPicks.length = 56 by decide] at hvl
  obtain ⟨V, hV⟩ : ∃ V, V = Pure.val (Pure.pick K keyPicks) := ⟨_, rfl⟩
  rw [← hV] at s1 s2 hvl ⊢
  obtain ⟨S, hS⟩ : ∃ S, S = Pure.desStart K [] := ⟨_, rfl⟩
  rw [← hS] at s1 s2 HGS HT
  have HS := Lib.hid hS
  obtain ⟨c0, hc0⟩ : ∃ c, c = Pure.val S.c := ⟨_, rfl⟩
  obtain ⟨d0, hd0⟩ : ∃ d, d = Pure.val S.d := ⟨_, rfl⟩
  rw [← hc0] at s1
  rw [← hd0] at s2
  have HL := Lib.hid (low_nat 28 V d0 (by omega) (by omega) (by omega) _ rfl 28 rfl s2)
  have e1 : (V : Int) / 268435456 = (c0 : Int) := by omega
  have HC0 := Lib.hid hc0
  have HD0 := Lib.hid hd0
  clear hk3 HP HK2 hV s1 s2 hS hc0 hd0
  go_wp2_with fail
  refine (HL.out _).mono ?_
  rintro e w4 ⟨rfl, hk4⟩
  have HK4 := Lib.hid (HK3.out.trans hk4)
  clear hk4 HK3 HL
  go_wp2_with fail
  refine (roundKeyTable_any _).mono ?_
  rintro e w5 ⟨u5, rfl, hr5, hk5⟩
  have HK5 := Lib.hid (HK4.out.trans hk5)
  have HP5 := Lib.hid (picker_any _ 56 u5 Pure.desPc2 w5 hr5)
  clear hr5 hk5 HK4
  go_wp2_with fail
  refine HP5.out.mono ?_
  rintro e w6 ⟨f6, rfl, hp6, hk6⟩
  obtain ⟨qa, qb, rfl, hQ⟩ := picks_call hp6 (by omega) (by decide) pc2_within
  have HQ := Lib.hid hQ
  have HK6 := Lib.hid (HK5.out.trans hk6)
  clear hp6 hk6 HP5 HK5 hQ
  go_upto_region 5 with fail
  obtain ⟨h, hh⟩ : ∃ h, h = w6.heap.size := ⟨_, rfl⟩
  rw [← hh]
  generalize hw7 : w6.alloc _ = w7
  have HB7 := Lib.hid (show Blk w7 h 45 (u64s (List.replicate 16 0)).toArray by rw [← hw7, hh]; exact Blk.new w6 _ _)
  have HK7 := Lib.hid (show Keeps nobody w6 w7 by rw [← hw7]; exact (Keeps.refl _ w6).alloc _)
  have HH := Lib.hid hh
  clear hw7 hh
  go_wp2_with fail
  go_loopw [4, 5, 20] (fun c d i wr => ∃ k : Nat, k ≤ 16 ∧ i = .int .i64 (k : Int) ∧ c = .int .u64 ((Pure.val (Pure.desRounds S k).c : Nat) : Int) ∧ d = .int .u64 ((Pure.val (Pure.desRounds S k).d : Nat) : Int) ∧
    Blk wr h 45 (u64s (T.take k ++ List.replicate (16 - k) 0)).toArray ∧ Keeps nobody w6 wr) (fun _ _ i _ => 16 - (intOf i).toNat)
  case atStart => exact ⟨0, by omega, rfl, by rw [HC0.out]; rfl, by rw [HD0.out]; rfl, by simpa using HB7.out, HK7.out⟩
  case round =>
    clear HC0 HD0 HB7 HK7
    obtain ⟨k, hk, rfl, rfl, rfl, hB, hK⟩ := hrel
    have HB := Lib.hid hB
    have HK := Lib.hid hK
    clear hB hK
    by_cases hkl : k < 16
    · have hi0 : (0 : Int) ≤ (k : Int) := by omega
      have hi1 : (k : Int) < 16 := by omega
      obtain ⟨gc, gd, _, _⟩ := HGS.out.rounds k
      obtain ⟨gc', gd', _, _⟩ := HGS.out.rounds (k + 1)
      obtain ⟨by1, by2⟩ := by_range (k + 1)
      have ec : (Pure.desRounds S (k + 1)).c = Pure.desTurn (Pure.desRounds S k).c (Pure.desBy (k + 1)) := rfl
      have ed : (Pure.desRounds S (k + 1)).d = Pure.desTurn (Pure.desRounds S k).d (Pure.desBy (k + 1)) := rfl
      have HRC := Lib.hid (rotated_any (Pure.desRounds S k).c (Pure.desBy (k + 1)) gc by1 by2)
      have HRD := Lib.hid (rotated_any (Pure.desRounds S k).d (Pure.desBy (k + 1)) gd by1 by2)
      have HTn := Lib.hid (turn_any2 (k + 1) (by omega) (by omega))
      rw [← ec] at HRC
      rw [← ed] at HRD
      have hTk : T.getD k 0 = Pure.val (Pure.pick ((Pure.desRounds S (k + 1)).c ++ (Pure.desRounds S (k + 1)).d) Pure.desPc2) := HT.out k hkl
      have HQk := Lib.hid (HQ.out ((Pure.desRounds S (k + 1)).c ++ (Pure.desRounds S (k + 1)).d) (by rw [List.length_append, gc', gd']))
      have hor := Pure.val_or (Pure.desRounds S (k + 1)).c (Pure.desRounds S (k + 1)).d
      have l1 := Pure.val_lt (Pure.desRounds S (k + 1)).c
      have l2 := Pure.val_lt (Pure.desRounds S (k + 1)).d
      rw [gc'] at l1
      rw [gd'] at hor l2
      obtain ⟨C, hC⟩ : ∃ C, C = Pure.val (Pure.desRounds S k).c := ⟨_, rfl⟩
      obtain ⟨D, hD⟩ : ∃ D, D = Pure.val (Pure.desRounds S k).d := ⟨_, rfl⟩
      obtain ⟨C', hC'⟩ : ∃ C, C = Pure.val (Pure.desRounds S (k + 1)).c := ⟨_, rfl⟩
      obtain ⟨D', hD'⟩ : ∃ D, D = Pure.val (Pure.desRounds S (k + 1)).d := ⟨_, rfl⟩
      obtain ⟨U, hU⟩ : ∃ U, U = Pure.val ((Pure.desRounds S (k + 1)).c ++ (Pure.desRounds S (k + 1)).d) := ⟨_, rfl⟩
      obtain ⟨X, hX⟩ : ∃ X, X = Pure.val (Pure.pick ((Pure.desRounds S (k + 1)).c ++ (Pure.desRounds S (k + 1)).d) Pure.desPc2) := ⟨_, rfl⟩
      obtain ⟨N, hN⟩ : ∃ N, N = k + 1 := ⟨_, rfl⟩
      obtain ⟨Y, hY⟩ : ∃ Y, Y = Pure.desBy (k + 1) := ⟨_, rfl⟩
      rw [← hC, ← hC', ← hY] at HRC
      rw [← hD, ← hD', ← hY] at HRD
      rw [← hY, ← hN] at HTn
      rw [← hU, ← hX] at HQk
      rw [← hC', ← hD', ← hU] at hor
      rw [← hC'] at l1
      rw [← hD'] at l2
      rw [← hX] at hTk
      rw [← hC, ← hD]
      have e1 : (k : Int) + 1 = (N : Int) := by omega
      have e2 : bits .or .u64 ((C' : Int) * 268435456) (D' : Int) = (U : Int) := by
        have h := or_u64 (C' * 2 ^ 28) D' U hor (by omega) (by omega)
        simpa using h
      have hset := set_more T 16 k HTl.out hkl
      rw [hTk] at hset
      have HSET := Lib.hid hset
      have HC' := Lib.hid hC'
      have HD' := Lib.hid hD'
      have HN := Lib.hid hN
      have l3 : C' < 268435456 := l1
      clear hC hD hC' hD' hU hX hN hY gc gd gc' gd' by1 by2 ec ed hTk hor l1 l2 hset
      go_wp2_with fail
      refine (HTn.out _).mono ?_
      rintro e wa ⟨rfl, qa', hwa⟩
      have HKa := Lib.hid (HK.out.trans (Keeps.of_drewN hwa))
      have HBa := Lib.hid (HB.out.keeps (Keeps.of_drewN hwa) (fun x => x))
      clear hwa HTn HB HK
      go_wp2_with fail
      refine (HRC.out _).mono ?_
      rintro e wb ⟨rfl, qb', hwb⟩
      have HKb := Lib.hid (HKa.out.trans (Keeps.of_drewN hwb))
      have HBb := Lib.hid (HBa.out.keeps (Keeps.of_drewN hwb) (fun x => x))
      clear hwb HRC HBa HKa
      go_wp2_with fail
      refine (HRD.out _).mono ?_
      rintro e wc ⟨rfl, qc', hwc⟩
      have HKc := Lib.hid (HKb.out.trans (Keeps.of_drewN hwc))
      have HBc := Lib.hid (HBb.out.keeps (Keeps.of_drewN hwc) (fun x => x))
      clear hwc HRD HBb HKb
      go_wp2_with fail
      with_reducible refine (HQk.out _ HKc.out).mono ?_
      rintro e wd ⟨rfl, hkd⟩
      have HKd := Lib.hid (HKc.out.trans hkd)
      have hBd := HBc.out.keeps hkd (fun x => x)
      have f1 := hBd.frozen k
      have c1 : ∃ u, wd.cell? ⟨h, k, none⟩ = some u := by
        rw [hBd.cell]
        exact ⟨_, Array.getElem?_eq_getElem (by simp [HTl.out]; omega)⟩
      obtain ⟨u, c1⟩ := c1
      have hS := hBd.set k (.int .u64 (X : Int))
      rw [u64s_set, HSET.out] at hS
      have HBs := Lib.hid hS
      have HKs := Lib.hid (HKd.out.store h k (fun hl => by have := HH.out; omega) (.int .u64 (X : Int)))
      clear hkd hBd hS HKc HBc HQk
      go_wp2_with fail
      go_roundw
      case rel => exact ⟨k + 1, by omega, by rw [HN.out], by rw [HC'.out], by rw [HD'.out], HBs.out, HKs.out⟩
      case measure => have := HN.out; simp [intOf]; omega
    · have hkk : k = 16 := by omega
      subst hkk
      clear hkl hk
      have hB := HB.out
      rw [List.take_of_length_le (by have := HTl.out; omega), Nat.sub_self, List.replicate_zero, List.append_nil] at hB
      have hB0 := (HB0.out.keeps HK6.out (fun x => x)).keeps HK.out (fun x => x)
      have HBf := Lib.hid hB
      have HBg := Lib.hid hB0
      clear hB hB0 HB
      go_upto_region 12 with fail
      have hTs := HTl.out
      apply wp_region_lit
      refine wpList_load_row rfl 45 (.tmp 7) rfl h rfl 45 _ (0, 0) _ HBf.out Try.underlying45 rfl (by rw [HI.out]; simp; omega) ?_
      refine wpList_store_row rfl 45 (.tmp 2) (.tmp 41) rfl g _ rfl rfl 45 _ HBg.out (by rw [HI.out]; simp; omega) (by simp [hTs]) (by simp [Value.oneCell']) ?_
      have hb9 := Blk.rowSet HBg.out (u64s T).toArray
      have hk9 := ((HK0.out.trans HK6.out).trans HK.out).rowSet (g := g) (fun hl => by have := HG.out; omega) (u64s T).toArray
      have HB9 := Lib.hid hb9
      have HK9 := Lib.hid hk9
      clear hb9 hk9
      go_wp2_with fail
      refine bodyPost_ret (results_cell_row rfl _ _ g 45 _ (0, 0) _ rfl HB9.out Try.underlying45 rfl (by rw [HI.out]; simp; omega)) rfl ?_
      exact ⟨rfl, HK9.out⟩
end Go.Proofs.Ytmelphlgpnmopaa
