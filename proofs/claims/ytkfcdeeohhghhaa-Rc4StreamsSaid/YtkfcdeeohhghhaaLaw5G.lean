/- The walk of the law Rc4Streams. -/
import Derived.Test.YtkfcdeeohhghhaaLaw5A
import Derived.Test.YtkfcdeeohhghhaaRc4H
import Derived.Test.YtkfcdeeohhghhaaRowsIn
import Derived.Test.YtkfcdeeohhghhaaLast
namespace Go.Proofs.Ytkfcdeeohhghhaa
open Go.RowKit

theorem and1023 (a : Int) : ∃ q : Nat, bits .and .i64 a 1023 = (q : Int) ∧ q < 1024 := by
  refine ⟨((BitVec.ofInt 64 a) &&& (BitVec.ofInt 64 1023)).toNat, ?_, ?_⟩
  · have h : ((BitVec.ofInt 64 a) &&& (BitVec.ofInt 64 1023)).toNat ≤ 1023 := by
      rw [BitVec.toNat_and]
      exact Nat.le_trans Nat.and_le_right (by decide)
    show IntKind.i64.wrap (((BitVec.ofInt 64 a &&& BitVec.ofInt 64 1023).toNat : Nat) : Int) = _
    exact IntWalk.i64_in _ (by omega)
  · have h : ((BitVec.ofInt 64 a) &&& (BitVec.ofInt 64 1023)).toNat ≤ 1023 := by
      rw [BitVec.toNat_and]
      exact Nat.le_trans Nat.and_le_right (by decide)
    omega

section
variable {w0 wr : World}
theorem docxorL {F : Nat → Prop} {x : Value} {bs : List UInt8} {g : Nat} {c : Pure.Rc} (B : Below w0.heap.size w0 wr) (ho : DKObj wr g c) (hg : w0.heap.size ≤ g) (hr : Row wr F 1 x bs.length (u8s bs)) (hF : ¬ F g) (hl : bs.length ≤ 100000000) (hn : c.n ≤ 1000000000) :
    Calls Try.prog 17 #[.pointer (some ⟨g, 0, none⟩), x] wr fun e w' => ∃ A cap, e = .returned (.slice A bs.length cap) ∧ w'.ownsRow wr.heap.size 5 1 (.slice A bs.length cap) bs.length (u8s (c.xor bs).2) ∧
      DKObj w' g (c.xor bs).1 ∧ Keeps (only g) wr w' ∧ Below w0.heap.size w0 w' :=
  (docxor_key F x bs g c wr hr hF hl ho hn).mono fun e w' ⟨u, he, hu, hk, hK⟩ => by
    obtain ⟨A, cap, rfl⟩ := own_form hu
    exact ⟨A, cap, he, hu, hk, hK, Below.keeps B hK B.size (fun i hi => by unfold only at hi; omega)⟩
theorem docxorT {A : Option Addr} {len cap : Nat} {g id n : Nat} (B : Below w0.heap.size w0 wr) (ho : DTObj wr g id n) (hg : w0.heap.size ≤ g) (h1 : id < 1024) (h2 : n + len < 1000000000) :
    Calls Try.prog 17 #[.pointer (some ⟨g, 0, none⟩), .slice A len cap] wr fun e w' => ∃ A cap, e = .returned (.slice A len cap) ∧ w'.ownsRow wr.heap.size 5 1 (.slice A len cap) len (u8s (Pure.term id n len)) ∧
      DTObj w' g id (n + len) ∧ Keeps (only g) wr w' ∧ Below w0.heap.size w0 w' :=
  (docxor_term A len cap g id n wr ho h1 h2).mono fun e w' ⟨u, he, hu, hk, hK⟩ => by
    obtain ⟨A, cap, rfl⟩ := own_form hu
    exact ⟨A, cap, he, hu, hk, hK, Below.keeps B hK B.size (fun i hi => by unfold only at hi; omega)⟩
end
theorem blk_ne {w : World} {g h : Nat} {t u : TypeId} {cs ds : Array Value} (a : Blk w g t cs) (b : Blk w h u ds) (hne : t ≠ u ∨ cs ≠ ds) : g ≠ h := by
  rintro rfl
  rw [Blk, a.raw] at b
  injection b with b
  injection b with b1 b2
  rcases hne with e | e
  · exact e b2
  · exact e b1

set_option maxRecDepth 100000 in
set_option maxHeartbeats 20000000 in
theorem rc4Streams_walk (a0 : Option Addr) (len0 cap0 : Nat) (z0 : List Int) (a1 : Int) (a2 : Option Addr) (len2 cap2 : Nat) (w : World) (w0 : IsRow .u8 w a0 len0 cap0 z0) (w1 : (Lit.int .i64 a1).wf = true) (w2 : IsStructs w [.row .u8] a2 len2 cap2) :
    Calls Try.prog 4 #[.slice a0 len0 cap0, .int .i64 a1, .slice a2 len2 cap2] w fun e w' => e = .returned (.bool true) ∧ Below w.heap.size w w' := by
  obtain ⟨ks, hkl, hr⟩ := w0.bytes
  obtain ⟨ps, hpl, hfr⟩ := frows_of w2
  obtain ⟨N, hN⟩ : ∃ N, N = ps.length := ⟨_, rfl⟩
  have HN := Lib.hid hN
  rw [← hkl] at hr ⊢
  rw [← hpl, ← hN] at hfr ⊢
  have hmax := hr.2.1
  have hmax2 := hfr.out.2.1
  unfold maxLen at hmax hmax2
  have hmax3 : N ≤ 9223372036854775807 := by omega
  have HK := Lib.hid hr
  have FR := Lib.hid hfr
  have HA := Lib.hid (awake_any w)
  obtain ⟨id, hid, hid2⟩ := and1023 a1
  have HID := Lib.hid hid
  clear hr hfr w0 w1 w2 hkl hpl hN hmax2 hid
  go_enter Try.func4, Try.ntmps4
  go_wp2_with fail
  refine HA.out.mono ?_
  rintro e wa ⟨rfl, hba⟩
  have BA := Lib.hid hba
  clear hba HA
  by_cases hok : ks.length ≤ 400 ∧ N ≤ 30
  · obtain ⟨o1, o2⟩ := hok
    have c1 : ¬ (ks.length : Int) > 400 := by omega
    have c2 : ¬ (N : Int) > 30 := by omega
    go_wp2_with fail
    clear c1 c2
    go_loopw [7] (fun i wr => ∃ k : Nat, k ≤ N ∧ i = .int .i64 k ∧ (∀ p ∈ ps.take k, p.2.length ≤ 300) ∧ wa = wr) (fun i _ => N - (intOf i).toNat)
    case atStart => exact ⟨0, by omega, rfl, by simp, rfl⟩
    case round =>
      obtain ⟨k, hk, rfl, hall, rfl⟩ := hrel
      have HALL := Lib.hid hall
      clear hall
      by_cases hlt : k < N
      · have hkp : k < ps.length := by have := HN.out; omega
        obtain ⟨p, o, A, c, bs, rfl, _, hcell, hrow, hpk⟩ := FRow.pick (FR.out.keeps (Keeps.new BA.out) (fun _ _ h => h)) k hkp
        have hi0 : (0 : Int) ≤ (k : Int) := by omega
        have hi1 : (k : Int) < (N : Int) := by omega
        have HPK := Lib.hid hpk
        have hbm := hrow.2.1
        unfold maxLen at hbm
        clear hrow hpk
        by_cases hl : bs.length ≤ 300
        · have c3 : ¬ (bs.length : Int) > 300 := by omega
          go_wp2
          go_roundw
          case rel =>
            refine ⟨k + 1, by omega, by go_num, ?_, by first | rfl | trivial⟩
            intro q hq
            rw [List.take_add_one, HPK.out] at hq
            rcases List.mem_append.1 hq with hq | hq
            · exact HALL.out q hq
            · simp at hq
              subst hq
              exact hl
          case measure => simp [intOf]; omega
        · have c3 : (bs.length : Int) > 300 := by omega
          go_wp2
          go_ret
          exact ⟨rfl, BA.out⟩
      · have hk' : k = N := by omega
        have hall : ∀ p ∈ ps, p.2.length ≤ 300 := by
          intro p hp
          refine HALL.out p ?_
          rw [hk', HN.out, List.take_length]
          exact hp
        have HALL2 := Lib.hid hall
        clear HALL hall hk'
        by_cases hok2 : 0 < ks.length ∧ ks.length ≤ 256
        · obtain ⟨o3, o4⟩ := hok2
          have HX := Lib.hid (newL BA.out (HK.out.keeps (Keeps.new BA.out) (fun _ _ h => h)) o3 o4)
          have hwa := BA.out.size
          go_wp2_with fail
          with_reducible refine HX.out.mono ?_
          rintro e wb ⟨g, rfl, hg, og, _, hbb⟩
          obtain ⟨c0, hc0⟩ : ∃ c0, c0 = Pure.Rc.new ks := ⟨_, rfl⟩
          have hn0 : c0.n = 0 := by rw [hc0]; rfl
          have HM := Lib.hid (newdoc_ok _ _ ks wb (HK.out.keeps (Keeps.new hbb) (fun _ _ h => h)) o3 o4)
          rw [← hc0] at og HM
          have OG := Lib.hid og
          have hglt := og.lt
          have BB := Lib.hid hbb
          clear og hbb HX hc0
          go_wp2_with fail
          with_reducible refine HM.out.mono ?_
          rintro e wc ⟨rfl, om, hbc⟩
          have OG1 := Lib.hid (OG.out.keeps (Keeps.new hbc) (fun h => h))
          obtain ⟨gm, hgm⟩ : ∃ gm, gm = wb.heap.size := ⟨_, rfl⟩
          rw [← hgm] at om ⊢
          have OM := Lib.hid om
          have hmlt := om.lt
          have hbcs := hbc.size
          have BC := Lib.hid (BB.out.trans (hbc.mono BB.out.size))
          have hgmw : w.heap.size ≤ gm := by have := BB.out.size; omega
          clear hgm
          have hgw : w.heap.size ≤ g := by omega
          have HSY := Lib.hid (symbolL (id := id) BC.out)
          clear om hbc HM OG
          have hid := HID.out
          go_wp2_with fail
          with_reducible refine HSY.out.mono ?_
          rintro e wd ⟨s, rfl, hs, os, hkd, hbd⟩
          have OG2 := Lib.hid (OG1.out.keeps hkd (fun h => h))
          have OM2 := Lib.hid (OM.out.keeps hkd (fun h => h))
          have OS2 := Lib.hid os
          have hslt := os.lt
          have hsw : w.heap.size ≤ s := by have := BC.out.size; omega
          have hds := hkd.size
          have BD := Lib.hid hbd
          have HSD := Lib.hid (docsymbol_any id wd)
          clear os hkd hbd HSY OG1 OM hs
          go_wp2_with fail
          with_reducible refine HSD.out.mono ?_
          rintro e we ⟨rfl, ot, hbe⟩
          have OG3 := Lib.hid (OG2.out.keeps (Keeps.new hbe) (fun h => h))
          have OM3 := Lib.hid (OM2.out.keeps (Keeps.new hbe) (fun h => h))
          have OS3 := Lib.hid (OS2.out.keeps (Keeps.new hbe) (fun h => h))
          obtain ⟨t, ht⟩ : ∃ t, t = wd.heap.size := ⟨_, rfl⟩
          rw [← ht] at ot ⊢
          have OT3 := Lib.hid ot
          have htw : w.heap.size ≤ t := by have := BD.out.size; omega
          have BE := Lib.hid (BD.out.trans (hbe.mono BD.out.size))
          have hsm : s ≠ gm := blk_ne OS3.out.blk OM3.out.blk (.inl (by decide))
          have hst : s ≠ t := blk_ne OS3.out.blk OT3.out.blk (.inl (by decide))
          have hmt : gm ≠ t := blk_ne OM3.out.blk OT3.out.blk (.inr (by
            intro e
            have h1 := mc_tail (s := c0.s) (i := c0.i) (j := c0.j) (n := c0.n) (t := false) (id := 0) OM3.out.ok.s 3
            have h2 := mc_tail (s := zero256) (i := 0) (j := 0) (n := (0 : Nat)) (t := true) (id := id) zero256_length 3
            rw [e] at h1
            rw [h1] at h2
            exact absurd h2 (by simp)))
          clear ot hbe HSD OG2 OM2 OS2 ht hid BD BC BB hbcs hds hglt hmlt hslt hg
          go_wp2_with fail
          obtain ⟨we1, hwe1⟩ : ∃ we1, we1 = we := ⟨_, rfl⟩
          rw [← hwe1] at OG3 OM3 OS3 OT3 BE ⊢
          clear hwe1
          go_loopw [8, 14] (fun cv i wr => ∃ (k gc : Nat) (c : Pure.Rc) (n : Nat), k ≤ N ∧ i = .int .i64 k ∧ cv = .pointer (some ⟨gc, 0, none⟩) ∧ w.heap.size ≤ gc ∧ KObj wr gc c ∧ DKObj wr gm c ∧ TObj wr s id n ∧ DTObj wr t id n ∧ c.n ≤ 300 * k ∧ n ≤ 300 * k ∧ Below w.heap.size w wr) (fun _ i _ => N - (intOf i).toNat)
          case atStart => exact ⟨0, g, c0, 0, by omega, rfl, rfl, hgw, OG3.out, OM3.out, OS3.out, OT3.out, by omega, by omega, BE.out⟩
          case round =>
            clear OG3 OM3 OS3 OT3 BE
            obtain ⟨k, gc, c, n, hk, rfl, rfl, hgc, og, om, os, ot, hcn, hnn, hb⟩ := hrel
            have BR := Lib.hid hb
            have OG := Lib.hid og
            have OM := Lib.hid om
            have OS := Lib.hid os
            have OT := Lib.hid ot
            have hcm : gc ≠ gm := blk_ne og.blk om.blk (.inl (by decide))
            have hct : gc ≠ t := blk_ne og.blk ot.blk (.inl (by decide))
            have hcs : gc ≠ s := blk_ne og.blk os.blk (.inr (by
              intro e
              have h1 : (cc 1 c.s c.i c.j 0 c.n)[0]? = some (.int .i64 1) := cc_0
              rw [e] at h1
              have h2 : (cc 2 zero256 0 0 id n)[0]? = some (.int .i64 2) := cc_0
              rw [h1] at h2
              exact absurd h2 (by simp)))
            have hgl := og.lt
            have hml := om.lt
            have hsl := os.lt
            have htl := ot.lt
            clear og om os ot hb
            by_cases hlt : k < N
            · have hkp : k < ps.length := by have := HN.out; omega
              obtain ⟨p, o, A, cA, bs, rfl, hpw, hcell, hrow, hpk⟩ := FRow.pick FR.out k hkp
              have hbs : bs.length ≤ 300 := HALL2.out _ (List.mem_of_getElem? hpk)
              have hi0 : (0 : Int) ≤ (k : Int) := by omega
              have hi1 : (k : Int) < (N : Int) := by omega
              have RB := Lib.hid hrow
              have CE := Lib.hid hcell
              have HC := Lib.hid (cloneL BR.out OG.out)
              clear hcell hrow hpk
              go_wp2_with fail
              with_reducible refine HC.out.mono ?_
              rintro e wk ⟨gk, rfl, hgk, ok, hkk, hbk⟩
              have OG1 := Lib.hid (OG.out.keeps hkk (fun h => h))
              have OM1 := Lib.hid (OM.out.keeps hkk (fun h => h))
              have OS1 := Lib.hid (OS.out.keeps hkk (fun h => h))
              have OT1 := Lib.hid (OT.out.keeps hkk (fun h => h))
              have OK1 := Lib.hid ok
              have hkl := ok.lt
              have hrk := hkk.size
              have cellAt : ∀ w', Below w.heap.size w w' → w'.cell? ⟨p, o + k, none⟩ = some (.slice A bs.length cA) := fun w' h => (h.cell (p := ⟨p, o + k, none⟩) hpw).trans CE.out
              have HCA := Lib.hid cellAt
              have BK := Lib.hid hbk
              have hc258 := cellAt wk hbk
              clear ok hkk hbk HC OG OM OS OT cellAt
              go_upto_region 22 with fail
              refine wp_region_Z (fun w' => w'.cell? ⟨p, o + k, none⟩ = some (.slice A bs.length cA)) 47 48 rfl (by kernel_rfl) hc258 (fun HH => ?_)
              clear hc258
              refine wpAnyZ_take (i := 0) rfl (by kernel_rfl) (fun _ _ _ h => h) (Or.inl ⟨by rfl, by intro w hSw; have s0 := hSw; go_simp; try with_reducible rfl⟩) HH.out ?_
              try simp only [Act.put, List.setIfInBounds_toArray, Nat.reduceAdd, List.getElem_toArray, List.getElem_cons_succ, List.getElem_cons_zero, List.set_cons_succ, List.set_cons_zero]
              refine wpAnyZ_take (i := 1) rfl (by kernel_rfl) (fun _ _ _ h => h) (Or.inl ⟨by rfl, by intro w hSw; have s0 := hSw; go_simp; try with_reducible rfl⟩) HH.out ?_
              try simp only [Act.put, List.setIfInBounds_toArray, Nat.reduceAdd, List.getElem_toArray, List.getElem_cons_succ, List.getElem_cons_zero, List.set_cons_succ, List.set_cons_zero]
              refine wpAnyZ_take (i := 2) rfl (by kernel_rfl) (fun _ _ _ h => h) (Or.inl ⟨by rfl, by intro w hSw; have s0 := hSw; go_simp; try with_reducible rfl⟩) HH.out ?_
              try simp only [Act.put, List.setIfInBounds_toArray, Nat.reduceAdd, List.getElem_toArray, List.getElem_cons_succ, List.getElem_cons_zero, List.set_cons_succ, List.set_cons_zero]
              refine wpAnyZ_take (i := 3) rfl (by kernel_rfl) (fun _ _ _ h => h) (Or.inl ⟨by rfl, by intro w hSw; have s0 := hSw; go_simp; try with_reducible rfl⟩) HH.out ?_
              try simp only [Act.put, List.setIfInBounds_toArray, Nat.reduceAdd, List.getElem_toArray, List.getElem_cons_succ, List.getElem_cons_zero, List.set_cons_succ, List.set_cons_zero]
              refine wpAnyZ_take (i := 4) rfl (by kernel_rfl) (fun _ _ _ h => h) (Or.inl ⟨by rfl, by intro w hSw; have s0 := hSw; go_simp; try with_reducible rfl⟩) HH.out ?_
              try simp only [Act.put, List.setIfInBounds_toArray, Nat.reduceAdd, List.getElem_toArray, List.getElem_cons_succ, List.getElem_cons_zero, List.set_cons_succ, List.set_cons_zero]
              refine wpAnyZ_take (i := 6) rfl (by kernel_rfl) (fun _ _ _ h => h) (Or.inl ⟨by rfl, by intro w hSw; have s0 := hSw; go_simp; try with_reducible rfl⟩) HH.out ?_
              try simp only [Act.put, List.setIfInBounds_toArray, Nat.reduceAdd, List.getElem_toArray, List.getElem_cons_succ, List.getElem_cons_zero, List.set_cons_succ, List.set_cons_zero]
              refine wpAnyZ_take (i := 7) rfl (by kernel_rfl) (fun _ _ _ h => h) (Or.inl ⟨by rfl, by intro w hSw; have s0 := hSw; go_simp; try with_reducible rfl⟩) HH.out ?_
              try simp only [Act.put, List.setIfInBounds_toArray, Nat.reduceAdd, List.getElem_toArray, List.getElem_cons_succ, List.getElem_cons_zero, List.set_cons_succ, List.set_cons_zero]
              refine wpAnyZ_take (i := 8) rfl (by kernel_rfl) (fun _ _ _ h => h) (Or.inl ⟨by rfl, by intro w hSw; have s0 := hSw; go_simp; try with_reducible rfl⟩) HH.out ?_
              try simp only [Act.put, List.setIfInBounds_toArray, Nat.reduceAdd, List.getElem_toArray, List.getElem_cons_succ, List.getElem_cons_zero, List.set_cons_succ, List.set_cons_zero]
              refine wpAnyZ_take (i := 9) rfl (by kernel_rfl) (fun _ _ _ h => h) (Or.inl ⟨by rfl, by intro w hSw; have s0 := hSw; go_simp; try with_reducible rfl⟩) HH.out ?_
              try simp only [Act.put, List.setIfInBounds_toArray, Nat.reduceAdd, List.getElem_toArray, List.getElem_cons_succ, List.getElem_cons_zero, List.set_cons_succ, List.set_cons_zero]
              refine wpAnyZ_take (i := 10) rfl (by kernel_rfl) (fun _ _ _ h => h) (Or.inl ⟨by rfl, by intro w hSw; have s0 := hSw; go_simp; try with_reducible rfl⟩) HH.out ?_
              try simp only [Act.put, List.setIfInBounds_toArray, Nat.reduceAdd, List.getElem_toArray, List.getElem_cons_succ, List.getElem_cons_zero, List.set_cons_succ, List.set_cons_zero]
              have hbd := below_drew BK.out
              have hkd : Keeps nobody wk wk.drew := (Keeps.refl _ wk).drew
              have HX := Lib.hid (xorL hbd (OG1.out.keeps hkd (fun h => h)) hgc (RB.out.keeps (Keeps.new hbd) (fun _ _ h => h)) (by omega) (by omega) (by omega))
              have OM2 := Lib.hid (OM1.out.keeps hkd (fun h => h))
              have OS2 := Lib.hid (OS1.out.keeps hkd (fun h => h))
              have OT2 := Lib.hid (OT1.out.keeps hkd (fun h => h))
              have OK2 := Lib.hid (OK1.out.keeps hkd (fun h => h))
              have hdk : wk.drew.heap.size = wk.heap.size := rfl
              clear hbd hkd OG1 OM1 OS1 OT1 OK1 HH
              refine wpAnyZ_one (i := 5) (by kernel_rfl) rfl (fun K hKK => ?_)
              go_simp
              with_reducible refine HX.out.mono ?_
              rintro e w1 ⟨A1, k1, rfl, hu, hg1, hK, hB⟩
              have hc1n : (c.xor bs).1.n ≤ 300 * k + 300 := by rw [Pure.Rc.xor_n]; omega
              have HX2 := Lib.hid (docxorL hB (OM2.out.keeps hK (fun h => hcm h.symm)) hgmw (RB.out.keeps (Keeps.new hB) (fun _ _ h => h)) (by omega) (by omega) (by omega))
              have U1 := Lib.hid hu
              have OG3 := Lib.hid hg1
              have OS3 := Lib.hid (OS2.out.keeps hK (fun h => hcs h.symm))
              have OT3 := Lib.hid (OT2.out.keeps hK (fun h => hct h.symm))
              have OK3 := Lib.hid (OK2.out.keeps hK (fun h => by unfold only at h; omega))
              have hk1 := hK.size
              refine hKK.out _ _ (fun _ => HCA.out _ hB) ?_
              clear hKK K hu hg1 hK hB HX OM2 OS2 OT2 OK2
              try simp only [Act.put, List.setIfInBounds_toArray, Nat.reduceAdd, List.getElem_toArray, List.getElem_cons_succ, List.getElem_cons_zero, List.set_cons_succ, List.set_cons_zero]
              refine wpAnyZ_one (i := 11) (by kernel_rfl) rfl (fun K hKK => ?_)
              go_simp
              with_reducible refine HX2.out.mono ?_
              rintro e w2 ⟨A2, k2, rfl, hu, hm1, hK, hB⟩
              have HS := Lib.hid (sameY hB (Row.of_own (own_only U1.out hK (by omega))) (Row.of_own hu) (Pure.Rc.xor_length _ _) rfl)
              have OM4 := Lib.hid hm1
              have OG4 := Lib.hid (OG3.out.keeps hK (fun h => hcm h))
              have OS4 := Lib.hid (OS3.out.keeps hK (fun h => hsm h))
              have OT4 := Lib.hid (OT3.out.keeps hK (fun h => hmt h.symm))
              have OK4 := Lib.hid (OK3.out.keeps hK (fun h => by unfold only at h; omega))
              have hk2 := hK.size
              refine hKK.out _ _ (fun _ => HCA.out _ hB) ?_
              clear hKK K hu hm1 hK hB HX2 OG3 OS3 OT3 OK3 U1
              try simp only [Act.put, List.setIfInBounds_toArray, Nat.reduceAdd, List.getElem_toArray, List.getElem_cons_succ, List.getElem_cons_zero, List.set_cons_succ, List.set_cons_zero]
              refine wpAnyZ_one (i := 12) (by kernel_rfl) rfl (fun K hKK => ?_)
              go_simp
              with_reducible refine HS.out.mono ?_
              rintro e w3 ⟨rfl, hK, hB⟩
              have OM5 := Lib.hid (OM4.out.keeps hK (fun h => h))
              have OG5 := Lib.hid (OG4.out.keeps hK (fun h => h))
              have OS5 := Lib.hid (OS4.out.keeps hK (fun h => h))
              have OT5 := Lib.hid (OT4.out.keeps hK (fun h => h))
              have OK5 := Lib.hid (OK4.out.keeps hK (fun h => h))
              have B5 := Lib.hid hB
              have hk3 := hK.size
              refine hKK.out _ _ (fun _ => HCA.out _ hB) ?_
              have HH := Lib.hid (HCA.out _ hB)
              clear hKK K hK hB HS OM4 OG4 OS4 OT4 OK4
              try simp only [Act.put, List.setIfInBounds_toArray, Nat.reduceAdd, List.getElem_toArray, List.getElem_cons_succ, List.getElem_cons_zero, List.set_cons_succ, List.set_cons_zero]
              refine wpAnyZ_take (i := 13) rfl (by kernel_rfl) (fun _ _ _ h => h) (Or.inl ⟨by rfl, by intro w hSw; have s0 := hSw; go_simp; try with_reducible rfl⟩) HH.out ?_
              try simp only [Act.put, List.setIfInBounds_toArray, Nat.reduceAdd, List.getElem_toArray, List.getElem_cons_succ, List.getElem_cons_zero, List.set_cons_succ, List.set_cons_zero]
              refine wpAnyZ_take (i := 14) rfl (by kernel_rfl) (fun _ _ _ h => h) (Or.inl ⟨by rfl, by intro w hSw; have s0 := hSw; go_simp; try with_reducible rfl⟩) HH.out ?_
              try simp only [Act.put, List.setIfInBounds_toArray, Nat.reduceAdd, List.getElem_toArray, List.getElem_cons_succ, List.getElem_cons_zero, List.set_cons_succ, List.set_cons_zero]
              obtain ⟨c', hc'⟩ : ∃ c', c' = (c.xor bs).1 := ⟨_, rfl⟩
              rw [← hc'] at OM5 OG5 hc1n
              have HCC := Lib.hid hc'
              have hmn : w3.cell? ⟨gm, 258, none⟩ = some (.int .i64 c'.n) := by rw [OM5.out.blk.cell]; exact mc_tail OM5.out.ok.s 2
              have HOF := Lib.hid (offsetL OG5.out)
              have HH2 := Lib.hid (And.intro HH.out hmn)
              clear HH hmn hc'
              refine wpAnyZ_more (S' := fun w' => w'.cell? ⟨p, o + k, none⟩ = some (.slice A bs.length cA) ∧ w'.cell? ⟨gm, 258, none⟩ = some (.int .i64 c'.n)) (fun _ h => h.1) _ _ _ _ ?_
              refine wpAnyZ_take (i := 15) rfl (by kernel_rfl) (fun _ _ _ h => h) (Or.inl ⟨by rfl, by intro w hSw; obtain ⟨s0, s1⟩ := hSw; go_simp; try with_reducible rfl⟩) HH2.out ?_
              try simp only [Act.put, List.setIfInBounds_toArray, Nat.reduceAdd, List.getElem_toArray, List.getElem_cons_succ, List.getElem_cons_zero, List.set_cons_succ, List.set_cons_zero]
              refine wpAnyZ_take (i := 17) rfl (by kernel_rfl) (fun _ _ _ h => h) (Or.inl ⟨by rfl, by intro w hSw; obtain ⟨s0, s1⟩ := hSw; go_simp; try with_reducible rfl⟩) HH2.out ?_
              try simp only [Act.put, List.setIfInBounds_toArray, Nat.reduceAdd, List.getElem_toArray, List.getElem_cons_succ, List.getElem_cons_zero, List.set_cons_succ, List.set_cons_zero]
              refine wpAnyZ_take (i := 18) rfl (by kernel_rfl) (fun _ _ _ h => h) (Or.inl ⟨by rfl, by intro w hSw; obtain ⟨s0, s1⟩ := hSw; go_simp; try with_reducible rfl⟩) HH2.out ?_
              try simp only [Act.put, List.setIfInBounds_toArray, Nat.reduceAdd, List.getElem_toArray, List.getElem_cons_succ, List.getElem_cons_zero, List.set_cons_succ, List.set_cons_zero]
              refine wpAnyZ_take (i := 19) rfl (by kernel_rfl) (fun _ _ _ h => h) (Or.inl ⟨by rfl, by intro w hSw; obtain ⟨s0, s1⟩ := hSw; go_simp; try with_reducible rfl⟩) HH2.out ?_
              try simp only [Act.put, List.setIfInBounds_toArray, Nat.reduceAdd, List.getElem_toArray, List.getElem_cons_succ, List.getElem_cons_zero, List.set_cons_succ, List.set_cons_zero]
              refine wpAnyZ_take (i := 20) rfl (by kernel_rfl) (fun _ _ _ h => h) (Or.inl ⟨by rfl, by intro w hSw; obtain ⟨s0, s1⟩ := hSw; go_simp; try with_reducible rfl⟩) HH2.out ?_
              try simp only [Act.put, List.setIfInBounds_toArray, Nat.reduceAdd, List.getElem_toArray, List.getElem_cons_succ, List.getElem_cons_zero, List.set_cons_succ, List.set_cons_zero]
              refine wpAnyZ_one (i := 16) (by kernel_rfl) rfl (fun K hKK => ?_)
              go_simp
              with_reducible refine HOF.out.mono ?_
              rintro e w' ⟨rfl, rfl⟩
              refine hKK.out _ _ (fun _ => HH2.out) ?_
              clear hKK K HOF
              try simp only [Act.put, List.setIfInBounds_toArray, Nat.reduceAdd, List.getElem_toArray, List.getElem_cons_succ, List.getElem_cons_zero, List.set_cons_succ, List.set_cons_zero]
              refine wpAnyZ_take (i := 21) rfl (by kernel_rfl) (fun _ _ _ h => h) (Or.inl ⟨by rfl, by intro w hSw; obtain ⟨s0, s1⟩ := hSw; go_simp; try with_reducible rfl⟩) HH2.out ?_
              try simp only [Act.put, List.setIfInBounds_toArray, Nat.reduceAdd, List.getElem_toArray, List.getElem_cons_succ, List.getElem_cons_zero, List.set_cons_succ, List.set_cons_zero]
              refine wpAnyZ_take (i := 22) rfl (by kernel_rfl) (fun _ _ _ h => h) (Or.inl ⟨by rfl, by intro w hSw; obtain ⟨s0, s1⟩ := hSw; go_simp; try with_reducible rfl⟩) HH2.out ?_
              try simp only [Act.put, List.setIfInBounds_toArray, Nat.reduceAdd, List.getElem_toArray, List.getElem_cons_succ, List.getElem_cons_zero, List.set_cons_succ, List.set_cons_zero]
              refine wpAnyZ_take (i := 23) rfl (by kernel_rfl) (fun _ _ _ h => h) (Or.inl ⟨by rfl, by intro w hSw; obtain ⟨s0, s1⟩ := hSw; go_simp; try with_reducible rfl⟩) HH2.out ?_
              try simp only [Act.put, List.setIfInBounds_toArray, Nat.reduceAdd, List.getElem_toArray, List.getElem_cons_succ, List.getElem_cons_zero, List.set_cons_succ, List.set_cons_zero]
              refine wpAnyZ_take (i := 24) rfl (by kernel_rfl) (fun _ _ _ h => h) (Or.inl ⟨by rfl, by intro w hSw; obtain ⟨s0, s1⟩ := hSw; go_simp; try with_reducible rfl⟩) HH2.out ?_
              try simp only [Act.put, List.setIfInBounds_toArray, Nat.reduceAdd, List.getElem_toArray, List.getElem_cons_succ, List.getElem_cons_zero, List.set_cons_succ, List.set_cons_zero]
              refine wpAnyZ_take (i := 25) rfl (by kernel_rfl) (fun _ _ _ h => h) (Or.inl ⟨by rfl, by intro w hSw; obtain ⟨s0, s1⟩ := hSw; go_simp; try with_reducible rfl⟩) HH2.out ?_
              try simp only [Act.put, List.setIfInBounds_toArray, Nat.reduceAdd, List.getElem_toArray, List.getElem_cons_succ, List.getElem_cons_zero, List.set_cons_succ, List.set_cons_zero]
              refine wpAnyZ_take (i := 26) rfl (by kernel_rfl) (fun _ _ _ h => h) (Or.inl ⟨by rfl, by intro w hSw; obtain ⟨s0, s1⟩ := hSw; go_simp; try with_reducible rfl⟩) HH2.out ?_
              try simp only [Act.put, List.setIfInBounds_toArray, Nat.reduceAdd, List.getElem_toArray, List.getElem_cons_succ, List.getElem_cons_zero, List.set_cons_succ, List.set_cons_zero]
              refine wpAnyZ_take (i := 27) rfl (by kernel_rfl) (fun _ _ _ h => h) (Or.inl ⟨by rfl, by intro w hSw; obtain ⟨s0, s1⟩ := hSw; go_simp; try with_reducible rfl⟩) HH2.out ?_
              try simp only [Act.put, List.setIfInBounds_toArray, Nat.reduceAdd, List.getElem_toArray, List.getElem_cons_succ, List.getElem_cons_zero, List.set_cons_succ, List.set_cons_zero]
              refine wpAnyZ_take (i := 28) rfl (by kernel_rfl) (fun _ _ _ h => h) (Or.inl ⟨by rfl, by intro w hSw; obtain ⟨s0, s1⟩ := hSw; go_simp; try with_reducible rfl⟩) HH2.out ?_
              try simp only [Act.put, List.setIfInBounds_toArray, Nat.reduceAdd, List.getElem_toArray, List.getElem_cons_succ, List.getElem_cons_zero, List.set_cons_succ, List.set_cons_zero]
              refine wpAnyZ_take (i := 30) rfl (by kernel_rfl) (fun _ _ _ h => h) (Or.inl ⟨by rfl, by intro w hSw; obtain ⟨s0, s1⟩ := hSw; go_simp; try with_reducible rfl⟩) HH2.out ?_
              try simp only [Act.put, List.setIfInBounds_toArray, Nat.reduceAdd, List.getElem_toArray, List.getElem_cons_succ, List.getElem_cons_zero, List.set_cons_succ, List.set_cons_zero]
              refine wpAnyZ_take (i := 31) rfl (by kernel_rfl) (fun _ _ _ h => h) (Or.inl ⟨by rfl, by intro w hSw; obtain ⟨s0, s1⟩ := hSw; go_simp; try with_reducible rfl⟩) HH2.out ?_
              try simp only [Act.put, List.setIfInBounds_toArray, Nat.reduceAdd, List.getElem_toArray, List.getElem_cons_succ, List.getElem_cons_zero, List.set_cons_succ, List.set_cons_zero]
              refine wpAnyZ_take (i := 32) rfl (by kernel_rfl) (fun _ _ _ h => h) (Or.inl ⟨by rfl, by intro w hSw; obtain ⟨s0, s1⟩ := hSw; go_simp; try with_reducible rfl⟩) HH2.out ?_
              try simp only [Act.put, List.setIfInBounds_toArray, Nat.reduceAdd, List.getElem_toArray, List.getElem_cons_succ, List.getElem_cons_zero, List.set_cons_succ, List.set_cons_zero]
              refine wpAnyZ_take (i := 33) rfl (by kernel_rfl) (fun _ _ _ h => h) (Or.inl ⟨by rfl, by intro w hSw; obtain ⟨s0, s1⟩ := hSw; go_simp; try with_reducible rfl⟩) HH2.out ?_
              try simp only [Act.put, List.setIfInBounds_toArray, Nat.reduceAdd, List.getElem_toArray, List.getElem_cons_succ, List.getElem_cons_zero, List.set_cons_succ, List.set_cons_zero]
              refine wpAnyZ_take (i := 34) rfl (by kernel_rfl) (fun _ _ _ h => h) (Or.inl ⟨by rfl, by intro w hSw; obtain ⟨s0, s1⟩ := hSw; go_simp; try with_reducible rfl⟩) HH2.out ?_
              try simp only [Act.put, List.setIfInBounds_toArray, Nat.reduceAdd, List.getElem_toArray, List.getElem_cons_succ, List.getElem_cons_zero, List.set_cons_succ, List.set_cons_zero]
              have HX := Lib.hid (xorT (A := A) (len := bs.length) (cap := cA) B5.out OS5.out hsw hid2 (by omega))
              refine wpAnyZ_one (i := 29) (by kernel_rfl) rfl (fun K hKK => ?_)
              go_simp
              with_reducible refine HX.out.mono ?_
              rintro e w4 ⟨A4, k4, rfl, hu, hs1, hK, hB⟩
              have OM6 := Lib.hid (OM5.out.keeps hK (fun h => hsm h.symm))
              have OG6 := Lib.hid (OG5.out.keeps hK (fun h => hcs h))
              have OT6 := Lib.hid (OT5.out.keeps hK (fun h => hst h.symm))
              have OK6 := Lib.hid (OK5.out.keeps hK (fun h => by unfold only at h; omega))
              have OS6 := Lib.hid hs1
              have U4 := Lib.hid hu
              have B6 := Lib.hid hB
              have hk4 := hK.size
              have hmn : w4.cell? ⟨gm, 258, none⟩ = some (.int .i64 c'.n) := by rw [OM6.out.blk.cell]; exact mc_tail OM6.out.ok.s 2
              have HX2 := Lib.hid (docxorT (A := A) (len := bs.length) (cap := cA) hB OT6.out htw hid2 (by omega))
              refine hKK.out _ _ (fun _ => ⟨HCA.out _ hB, hmn⟩) ?_
              clear hKK K hu hs1 hK hB hmn HX HH2 OM5 OG5 OS5 OT5 OK5 B5
              try simp only [Act.put, List.setIfInBounds_toArray, Nat.reduceAdd, List.getElem_toArray, List.getElem_cons_succ, List.getElem_cons_zero, List.set_cons_succ, List.set_cons_zero]
              refine wpAnyZ_one (i := 35) (by kernel_rfl) rfl (fun K hKK => ?_)
              go_simp
              with_reducible refine HX2.out.mono ?_
              rintro e w5 ⟨A5, k5, rfl, hu, ht1, hK, hB⟩
              have OM7 := Lib.hid (OM6.out.keeps hK (fun h => hmt h))
              have OG7 := Lib.hid (OG6.out.keeps hK (fun h => hct h))
              have OS7 := Lib.hid (OS6.out.keeps hK (fun h => hst h))
              have OK7 := Lib.hid (OK6.out.keeps hK (fun h => by unfold only at h; omega))
              have OT7 := Lib.hid ht1
              have hk5 := hK.size
              have hmn : w5.cell? ⟨gm, 258, none⟩ = some (.int .i64 c'.n) := by rw [OM7.out.blk.cell]; exact mc_tail OM7.out.ok.s 2
              have HS := Lib.hid (sameY hB (Row.of_own (own_only U4.out hK (by omega))) (Row.of_own hu) (Pure.term_length _ _ _) rfl)
              refine hKK.out _ _ (fun _ => ⟨HCA.out _ hB, hmn⟩) ?_
              clear hKK K hu ht1 hK hB hmn HX2 OM6 OG6 OS6 OT6 OK6 B6 U4
              try simp only [Act.put, List.setIfInBounds_toArray, Nat.reduceAdd, List.getElem_toArray, List.getElem_cons_succ, List.getElem_cons_zero, List.set_cons_succ, List.set_cons_zero]
              refine wpAnyZ_one (i := 36) (by kernel_rfl) rfl (fun K hKK => ?_)
              go_simp
              with_reducible refine HS.out.mono ?_
              rintro e w6 ⟨rfl, hK, hB⟩
              have OM8 := Lib.hid (OM7.out.keeps hK (fun h => h))
              have OG8 := Lib.hid (OG7.out.keeps hK (fun h => h))
              have OS8 := Lib.hid (OS7.out.keeps hK (fun h => h))
              have OT8 := Lib.hid (OT7.out.keeps hK (fun h => h))
              have OK8 := Lib.hid (OK7.out.keeps hK (fun h => h))
              have B8 := Lib.hid hB
              have hk6 := hK.size
              have hmn : w6.cell? ⟨gm, 258, none⟩ = some (.int .i64 c'.n) := by rw [OM8.out.blk.cell]; exact mc_tail OM8.out.ok.s 2
              have htn : w6.cell? ⟨t, 258, none⟩ = some (.int .i64 (n + bs.length : Nat)) := by rw [OT8.out.blk.cell]; exact mc_tail zero256_length 2
              refine hKK.out _ _ (fun _ => ⟨HCA.out _ hB, hmn⟩) ?_
              have HH2 := Lib.hid (And.intro (HCA.out _ hB) hmn)
              have HOF := Lib.hid (offsetT OS8.out)
              obtain ⟨M, hM⟩ : ∃ M, M = n + bs.length := ⟨_, rfl⟩
              rw [← hM] at htn HOF
              have HMM := Lib.hid hM
              have HH3 := Lib.hid (And.intro (And.intro (HCA.out _ hB) hmn) htn)
              clear hKK K hK hB hmn htn hM HS OM7 OG7 OS7 OT7 OK7
              try simp only [Act.put, List.setIfInBounds_toArray, Nat.reduceAdd, List.getElem_toArray, List.getElem_cons_succ, List.getElem_cons_zero, List.set_cons_succ, List.set_cons_zero]
              refine wpAnyZ_take (i := 37) rfl (by kernel_rfl) (fun _ _ _ h => h) (Or.inl ⟨by rfl, by intro w hSw; obtain ⟨s0, s1⟩ := hSw; go_simp; try with_reducible rfl⟩) HH2.out ?_
              try simp only [Act.put, List.setIfInBounds_toArray, Nat.reduceAdd, List.getElem_toArray, List.getElem_cons_succ, List.getElem_cons_zero, List.set_cons_succ, List.set_cons_zero]
              refine wpAnyZ_take (i := 38) rfl (by kernel_rfl) (fun _ _ _ h => h) (Or.inl ⟨by rfl, by intro w hSw; obtain ⟨s0, s1⟩ := hSw; go_simp; try with_reducible rfl⟩) HH2.out ?_
              try simp only [Act.put, List.setIfInBounds_toArray, Nat.reduceAdd, List.getElem_toArray, List.getElem_cons_succ, List.getElem_cons_zero, List.set_cons_succ, List.set_cons_zero]
              refine wpAnyZ_take (i := 39) rfl (by kernel_rfl) (fun _ _ _ h => h) (Or.inl ⟨by rfl, by intro w hSw; obtain ⟨s0, s1⟩ := hSw; go_simp; try with_reducible rfl⟩) HH2.out ?_
              try simp only [Act.put, List.setIfInBounds_toArray, Nat.reduceAdd, List.getElem_toArray, List.getElem_cons_succ, List.getElem_cons_zero, List.set_cons_succ, List.set_cons_zero]
              clear HH2
              refine wpAnyZ_more (S' := fun w' => (w'.cell? ⟨p, o + k, none⟩ = some (.slice A bs.length cA) ∧ w'.cell? ⟨gm, 258, none⟩ = some (.int .i64 c'.n)) ∧ w'.cell? ⟨t, 258, none⟩ = some (.int .i64 M)) (fun _ h => h.1) _ _ _ _ ?_
              refine wpAnyZ_take (i := 40) rfl (by kernel_rfl) (fun _ _ _ h => h) (Or.inl ⟨by rfl, by intro w hSw; obtain ⟨⟨s0, s1⟩, s2⟩ := hSw; go_simp; try with_reducible rfl⟩) HH3.out ?_
              try simp only [Act.put, List.setIfInBounds_toArray, Nat.reduceAdd, List.getElem_toArray, List.getElem_cons_succ, List.getElem_cons_zero, List.set_cons_succ, List.set_cons_zero]
              refine wpAnyZ_take (i := 42) rfl (by kernel_rfl) (fun _ _ _ h => h) (Or.inl ⟨by rfl, by intro w hSw; obtain ⟨⟨s0, s1⟩, s2⟩ := hSw; go_simp; try with_reducible rfl⟩) HH3.out ?_
              try simp only [Act.put, List.setIfInBounds_toArray, Nat.reduceAdd, List.getElem_toArray, List.getElem_cons_succ, List.getElem_cons_zero, List.set_cons_succ, List.set_cons_zero]
              refine wpAnyZ_take (i := 43) rfl (by kernel_rfl) (fun _ _ _ h => h) (Or.inl ⟨by rfl, by intro w hSw; obtain ⟨⟨s0, s1⟩, s2⟩ := hSw; go_simp; try with_reducible rfl⟩) HH3.out ?_
              try simp only [Act.put, List.setIfInBounds_toArray, Nat.reduceAdd, List.getElem_toArray, List.getElem_cons_succ, List.getElem_cons_zero, List.set_cons_succ, List.set_cons_zero]
              refine wpAnyZ_take (i := 44) rfl (by kernel_rfl) (fun _ _ _ h => h) (Or.inl ⟨by rfl, by intro w hSw; obtain ⟨⟨s0, s1⟩, s2⟩ := hSw; go_simp; try with_reducible rfl⟩) HH3.out ?_
              try simp only [Act.put, List.setIfInBounds_toArray, Nat.reduceAdd, List.getElem_toArray, List.getElem_cons_succ, List.getElem_cons_zero, List.set_cons_succ, List.set_cons_zero]
              refine wpAnyZ_take (i := 45) rfl (by kernel_rfl) (fun _ _ _ h => h) (Or.inl ⟨by rfl, by intro w hSw; obtain ⟨⟨s0, s1⟩, s2⟩ := hSw; go_simp; try with_reducible rfl⟩) HH3.out ?_
              try simp only [Act.put, List.setIfInBounds_toArray, Nat.reduceAdd, List.getElem_toArray, List.getElem_cons_succ, List.getElem_cons_zero, List.set_cons_succ, List.set_cons_zero]
              refine wpAnyZ_one (i := 41) (by kernel_rfl) rfl (fun K hKK => ?_)
              go_simp
              with_reducible refine HOF.out.mono ?_
              rintro e w' ⟨rfl, rfl⟩
              refine hKK.out _ _ (fun _ => HH3.out) ?_
              clear hKK K HOF
              try simp only [Act.put, List.setIfInBounds_toArray, Nat.reduceAdd, List.getElem_toArray, List.getElem_cons_succ, List.getElem_cons_zero, List.set_cons_succ, List.set_cons_zero]
              refine wpAnyZ_take (i := 46) rfl (by kernel_rfl) (fun _ _ _ h => h) (Or.inl ⟨by rfl, by intro w hSw; obtain ⟨⟨s0, s1⟩, s2⟩ := hSw; go_simp; try with_reducible rfl⟩) HH3.out ?_
              try simp only [Act.put, List.setIfInBounds_toArray, Nat.reduceAdd, List.getElem_toArray, List.getElem_cons_succ, List.getElem_cons_zero, List.set_cons_succ, List.set_cons_zero]
              refine wpAnyZ_one (i := 47) (by kernel_rfl) rfl (fun K hKK => ?_)
              go_simp
              refine hKK.out _ _ (fun h => absurd rfl h) ?_
              clear hKK K HH3
              refine wpAnyZ_done (by kernel_rfl) ?_ _
              have hcell := HCA.out _ B8.out
              have HX := Lib.hid (xorL B8.out OK8.out (by omega) (RB.out.keeps (Keeps.new B8.out) (fun _ _ h => h)) (by omega) (by omega) (by omega))
              go_wp2_with fail
              with_reducible refine HX.out.mono ?_
              rintro e w7 ⟨A7, k7, rfl, _, hk1', hK, hB⟩
              rw [← HCC.out] at hk1'
              have OK9 := Lib.hid hk1'
              have OG9 := Lib.hid (OG8.out.keeps hK (fun h => by unfold only at h; omega))
              have OM9 := Lib.hid (OM8.out.keeps hK (fun h => by unfold only at h; omega))
              have OS9 := Lib.hid (OS8.out.keeps hK (fun h => by unfold only at h; omega))
              have OT9 := Lib.hid (OT8.out.keeps hK (fun h => by unfold only at h; omega))
              have B9 := Lib.hid hB
              have hM2 : n + bs.length ≤ 300 * (k + 1) := by omega
              have hc2 : c'.n ≤ 300 * (k + 1) := by omega
              have hgk2 : w.heap.size ≤ gk := by omega
              clear hk1' hK hB HX hcell OG8 OM8 OS8 OT8 OK8 B8
              by_cases hodd : k % 2 = 1
              · have hp : (k : Int) % 2 = 1 := by omega
                go_wp2
                go_roundw
                case rel => exact ⟨k + 1, gk, c', n + bs.length, by omega, by go_num, rfl, hgk2, OK9.out, OM9.out, OS9.out, OT9.out, hc2, hM2, B9.out⟩
                case measure => simp [intOf]; omega
              · have hp : ¬ (k : Int) % 2 = 1 := by omega
                go_wp2
                go_roundw
                case rel => exact ⟨k + 1, gc, c', n + bs.length, by omega, by go_num, rfl, hgc, OG9.out, OM9.out, OS9.out, OT9.out, hc2, hM2, B9.out⟩
                case measure => simp [intOf]; omega
            · go_wp2
              go_ret
              exact ⟨rfl, BR.out⟩
        · have hbad : ks.length < 1 ∨ 256 < ks.length := by omega
          have hml : ks.length ≤ maxLen := by unfold maxLen; omega
          have HX := Lib.hid (new_bad a0 ks.length cap0 wa hbad hml)
          have HM := Lib.hid (newdoc_bad a0 ks.length cap0 wa hbad hml)
          clear hbad hml hok2
          go_wp2_with fail
          with_reducible refine HX.out.mono ?_
          rintro e w' ⟨rfl, rfl⟩
          go_wp2_with fail
          with_reducible refine HM.out.mono ?_
          rintro e w' ⟨rfl, rfl⟩
          go_wp2
          go_ret
          exact ⟨rfl, BA.out⟩
  · by_cases c1 : (ks.length : Int) > 400
    · go_wp2
      go_ret
      exact ⟨rfl, BA.out⟩
    · have c2 : (N : Int) > 30 := by omega
      go_wp2
      go_ret
      exact ⟨rfl, BA.out⟩
end Go.Proofs.Ytkfcdeeohhghhaa
