/- Package lcp: Check. -/
import Derived.Test.YtmgicbckgpdkcaaGreatDoorQ31
import Derived.Deep.MidRow
namespace Go.Proofs.YtmgicbckgpdkcaaGreatDoor
set_option maxRecDepth 100000
open Go.RowKit
theorem load_guarded_as {P : Program} {ops : Array Oper} {rest : List Oper} {op : Oper} {a : Act} {w : World} {Q : Exit → Act → World → Prop} (hgw : Region.wanted op (yielded ops a.tmps) = true) (ty : TypeId) (x : Operand) (ho : op.op = .load ty x)
    (b o : Nat) (hx : a.eval x = .pointer (some ⟨b, o, none⟩)) (cs : List Value) (V : Value) (hV : V = .agg cs.toArray) (d : TypeDesc) (hc : w.rangeAt b o cs)
    (hu : P.underlying ty = some d) (hd : d.isRow = true) (hi : (P.info? ty).map (·.size) = some cs.length)
    (h : wpList P ops Q rest (a.put op.dst V) w) : wpList P ops Q (op :: rest) a w := by
  subst hV
  exact wpList_step fun K hK => by rw [if_pos hgw]; exact wp_load_mid ty x ho b o hx cs d hc hu hd hi (hK _ _ h)
set_option maxRecDepth 100000 in
set_option maxHeartbeats 8000000 in
theorem lcheck_any (c : Pure.Cfg) (nm sc : ByteArray) (hn : nm.data.toList = c.name) (hs : sc.data.toList = c.secret) (hl : c.secret.length ≤ 1000000) (w : World) (E : Env w) :
    Calls Tryz.prog 16 #[cfgV c nm sc] w fun e w' => e = .returned (.int .i64 (c.check : Int)) ∧ Keeps nobody w w' := by
  obtain ⟨cb, hcb⟩ : ∃ q, q = w.heap.size := ⟨_, rfl⟩
  obtain ⟨w1, hw1⟩ : ∃ q, q = w.alloc (.cells (cfgCells c nm sc).toArray 25) := ⟨_, rfl⟩
  have hk1 : Keeps nobody w w1 := by rw [hw1]; exact (Keeps.refl _ w).alloc _
  have hC : Blk w1 cb 25 (cfgCells c nm sc).toArray := by rw [hw1, hcb]; exact Blk.new w _ _
  have c1 : w1.cell? ⟨cb, 1, none⟩ = some (.string nm) := by rw [hC.cell]; rfl
  have c2 : w1.cell? ⟨cb, 2, none⟩ = some (.string sc) := by rw [hC.cell]; rfl
  have hsz : nm.size = c.name.length := by rw [← hn]; rfl
  have HA := Lib.hid (hash_any sc c.secret hs hl w1 (E.below hk1.to_below))
  rw [hash_code] at HA
  have HC := Lib.hid hC
  have HK := Lib.hid hk1
  obtain ⟨CK, hCK⟩ : ∃ q, q = c.check := ⟨_, rfl⟩
  rw [← hCK]
  have HCK := Lib.hid hCK
  clear hn hs hl hk1 hC hCK E
  go_enter Tryz.func16, Tryz.ntmps16
  go_upto_region 1 with fail
  rw [← hcb, ← hw1]
  clear hcb hw1
  obtain ⟨CV, hCV⟩ : ∃ q, q = cfgV c nm sc := ⟨_, rfl⟩
  rw [← hCV]
  have HCV := Lib.hid hCV
  clear hCV
  by_cases h1 : 64 < c.name.length
  · have d1 : decide ((64 : Int) < (nm.size : Int)) = true := decide_eq_true (by rw [hsz]; omega)
    have d2 : decide (64 < nm.size) = true := decide_eq_true (by rw [hsz]; exact h1)
    have HE := Lib.hid (show CK = 3 from HCK.out.trans (if_pos h1))
    clear h1 hsz
    go_wp2_with fail
    go_ret
    exact ⟨by rw [HE.out]; rfl, HK.out⟩
  have d1 : decide ((64 : Int) < (nm.size : Int)) = false := decide_eq_false (by rw [hsz]; omega)
  have d2 : decide (64 < nm.size) = false := decide_eq_false (by rw [hsz]; exact h1)
  have H1 := Lib.hid h1
  clear h1 hsz
  go_wp2_with fail
  refine HA.out.mono ?_
  rintro e w2 ⟨v, rfl, hown, hbel⟩
  obtain ⟨A2, c22, rfl⟩ := own_form hown
  have hk2 : Keeps nobody w1 w2 := Keeps.new hbel
  have hC2 := HC.out.keeps hk2 (fun e => e)
  have HK2 := Lib.hid (HK.out.trans hk2)
  have HC2 := Lib.hid hC2
  obtain ⟨kk, hkk⟩ : ∃ q, q = (Pure.secret c.secret).1 := ⟨_, rfl⟩
  rw [← hkk]
  have HKK := Lib.hid hkk
  clear hown hbel hk2 hC2 hkk c1 c2
  by_cases h0 : kk = 0
  case neg =>
    have qn : (((kk : Nat) : Int) != 0) = true := by rw [bne_iff_ne]; omega
    have HE := Lib.hid (show CK = kk from HCK.out.trans ((if_neg H1.out).trans ((if_pos (by rw [← HKK.out]; exact h0)).trans HKK.out.symm)))
    clear h0
    go_wp2_with fail
    go_ret
    exact ⟨by rw [HE.out]; rfl, HK2.out⟩
  case pos =>
    subst h0
    have HE := Lib.hid (show CK = if c.fine then 0 else 1 from HCK.out.trans ((if_neg H1.out).trans (if_neg (by rw [← HKK.out]; decide))))
    obtain ⟨f1, hf1⟩ : ∃ b, b = ((decide (64 ≤ c.mru) && decide (c.mru ≤ 1500)) && ((c.mrru == 0) || (decide (64 ≤ c.mrru) && decide (c.mrru ≤ 1500))) && ((c.bits == 0) || (decide (c.bits = 40) || decide (c.bits = 56) || decide (c.bits = 128))) && (decide (1 ≤ c.timeout) && decide (c.timeout ≤ 1000)) && (decide (1 ≤ c.tries) && decide (c.tries ≤ 1000)) && ((c.fragment == 0) || (decide (16 ≤ c.fragment) && decide (c.fragment ≤ 1500)))) := ⟨_, rfl⟩
    obtain ⟨f2, hf2⟩ : ∃ b, b = (((c.fragment == 0) || !(c.mrru == 0)) && (!(c.must || c.stateless || c.symbol) || !(c.bits == 0))) := ⟨_, rfl⟩
    have HFF := Lib.hid (show c.fine = (f1 && f2) by rw [hf1, hf2]; exact fine_of_parts c)
    have hwi := lwithin_as c nm sc _ _ _ _ _ _ _ _ _ rfl rfl rfl rfl rfl rfl rfl rfl rfl w2
    rw [← hf1, ← HCV.out] at hwi
    have HWI := Lib.hid hwi
    have HCO := Lib.hid (fun W => lconsistent_as c nm sc _ _ _ rfl rfl rfl W)
    rw [← hf2, ← HCV.out] at HCO
    clear hf1 hf2 hwi
    go_upto_region 6 with fail
    refine wp_region_list ?_
    refine wpList_load_mid rfl 25 (.tmp 1) rfl cb 0 rfl (cfgCells c nm sc) _ (fun j v hv => by rw [Nat.zero_add, HC2.out.cell, List.getElem?_toArray]; exact hv) Tryz.underlying25 rfl cfg_info ?_
    rw [show Value.agg (cfgCells c nm sc).toArray = CV from HCV.out.symm]
    go_wp2_with fail
    refine HWI.out.mono ?_
    rintro e w3 ⟨rfl, hk3⟩
    have HK3 := Lib.hid (HK2.out.trans hk3)
    have HC3 := Lib.hid (HC2.out.keeps hk3 (fun e => e))
    clear hk3
    cases f1
    · have HE2 := Lib.hid (show CK = 1 by rw [HE.out, HFF.out]; rfl)
      go_wp2_with fail
      go_ret
      exact ⟨by rw [HE2.out]; rfl, HK3.out⟩
    · have hco := HCO.out w3
      go_wp2_with (refine load_guarded_as (by rfl) 25 (.tmp 1) rfl cb 0 rfl (cfgCells c nm sc) CV HCV.out _ (fun j v hv => by rw [Nat.zero_add, HC3.out.cell, List.getElem?_toArray]; exact hv) Tryz.underlying25 rfl cfg_info ?_)
      refine hco.mono ?_
      rintro e w4 ⟨rfl, hk4⟩
      have HK4 := Lib.hid (HK3.out.trans hk4)
      clear hk4 hco
      cases f2
      · have HE2 := Lib.hid (show CK = 1 by rw [HE.out, HFF.out]; rfl)
        go_wp2_with fail
        go_ret
        exact ⟨by rw [HE2.out]; rfl, HK4.out⟩
      · have HE2 := Lib.hid (show CK = 0 by rw [HE.out, HFF.out]; rfl)
        go_wp2_with fail
        go_ret
        exact ⟨by rw [HE2.out]; rfl, HK4.out⟩
end Go.Proofs.YtmgicbckgpdkcaaGreatDoor
