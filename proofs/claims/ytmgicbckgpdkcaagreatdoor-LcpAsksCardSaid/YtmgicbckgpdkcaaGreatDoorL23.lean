/- The document's Rules of chapter 14. -/
import Derived.Test.YtmgicbckgpdkcaaGreatDoorL22
namespace Go.Proofs.YtmgicbckgpdkcaaGreatDoor
set_option maxRecDepth 100000
set_option maxHeartbeats 16000000
open _root_.Go.Lib renaming hid → xhd
open Go.RowKit
theorem y1z (w : World) : Calls Tryz.prog 62 #[] w fun e w' => e = .returned (.slice (some ⟨w.heap.size, 0, none⟩) 3 3) ∧ w' = w.alloc (.cells #[.int .u8 194, .int .u8 35, .int .u8 129] 5) := by
 go_enter Tryz.func62, Tryz.ntmps62
 go_wp2_with fail
 go_ret
 exact ⟨rfl, rfl⟩
def DW (w wx : World) (cb : Nat) (C : Array Value) (n : Nat) (v : Value) (L : List Pure.Rule) : Prop := ∃ us, DRead w wx v us ∧ y0e us = L ∧ us.length ≤ n ∧ Blk wx cb 25 C
theorem DW.step {w wx w' : World} {cb n k : Nat} {C : Array Value} {v v' : Value} {us ps : List (Value × Pure.Rule)} {L M : List Pure.Rule} (h : DRead w wx v us) (hL : y0e us = L) (hn : us.length ≤ n) (hC : Blk wx cb 25 C) (hk : ps.length = k) (hd : ∀ p ∈ ps, Row wx (fun b => w.heap.size ≤ b ∧ v.ownBlock ≠ some b ∧ b < wx.heap.size) 1 p.1 p.2.want.length (u8s p.2.want)) (hM : L ++ y0e ps = M)
  (ho : w'.ownsRow w.heap.size 148 7 v' (us.length + k) (y0a (us ++ ps))) (kp : Keeps (fun b => v.ownBlock = some b) wx w') (hb : ∀ b, v'.ownBlock = some b → v.ownBlock = some b ∨ wx.heap.size ≤ b) : DW w w' cb C (n + k) v' M :=
 ⟨us ++ ps, h.more hk hd ho kp hb, by rw [← hM, ← hL]; simp [y0e], by rw [List.length_append]; omega, hC.keeps kp (fun e => y24 h.own hC (by decide) e)⟩
theorem DW.mono {w wx : World} {cb n m : Nat} {C : Array Value} {v : Value} {L M : List Pure.Rule} (h : DW w wx cb C n v L) (hm : n ≤ m) (e : L = M) : DW w wx cb C m v M := by
 obtain ⟨us, h1, h2, h3, h4⟩ := h
 exact ⟨us, h1, h2.trans e, Nat.le_trans h3 hm, h4⟩
theorem y32 {w : World} {F : Nat → Prop} {ps : List (Value × Pure.Rule)} (h : ∀ p ∈ ps, p.1 = .slice none 0 0 ∧ p.2.want = []) : ∀ p ∈ ps, Row w F 1 p.1 p.2.want.length (u8s p.2.want) := fun p hp => by
 rw [(h p hp).1, (h p hp).2]
 exact Row.nil _ _ _
theorem y7o (c : Pure.Cfg) (nm sc : ByteArray) (w : World) :
  Calls Tryz.prog 49 #[cfgV c nm sc] w fun e w' => ∃ v, ∃ us : List (Value × Pure.Rule), e = .returned v ∧ y0e us = c.rules ∧ DRead w w' v us := by
 obtain ⟨cb, hcb⟩ : ∃ q, q = w.heap.size := ⟨_, rfl⟩
 obtain ⟨C, hC⟩ : ∃ q, q = (y07 c nm sc).toArray := ⟨_, rfl⟩
 obtain ⟨wa, hwa⟩ : ∃ q, q = w.alloc (.cells (y07 c nm sc).toArray 25) := ⟨_, rfl⟩
 have HBa := xhd (show Blk wa cb 25 C by rw [hwa, hcb, hC]; exact Blk.new w _ _)
 have HKa := xhd (show Keeps y01 w wa by rw [hwa]; exact (Keeps.refl _ w).alloc _)
 have HC0 := xhd (show C[0]? = some (.bool c.server) ∧ C[4]? = some (.bool c.pfc) ∧ C[5]? = some (.bool c.acfc) ∧ C[7]? = some (.int .i64 c.mrru) by rw [hC]; exact ⟨rfl, rfl, rfl, rfl⟩)
 obtain ⟨w1, hw1⟩ : ∃ q, q = wa.alloc (.cells #[.int .i64 1, .int .i64 2, .int .i64 2, .int .i64 64, .int .i64 1500, .slice none 0 0, .bool false, .int .i64 2, .int .i64 4, .int .i64 1, .int .i64 0, .int .i64 0, .slice none 0 0, .bool false] 148) := ⟨_, rfl⟩
 have HS := xhd (show DW w w1 cb C 2 (.slice (some ⟨wa.heap.size, 0, none⟩) 2 2) [Pure.rangeOf 1, Pure.passOf 2 4] from ⟨[(.slice none 0 0, Pure.rangeOf 1), (.slice none 0 0, Pure.passOf 2 4)], by rw [hw1]; exact DRead.lit w wa HKa.out _ _ 2 rfl rfl (by decide) (by simp [Pure.rangeOf, Pure.passOf]), rfl, Nat.le_refl _, by rw [hw1]; exact HBa.out.alloc _⟩)
 obtain ⟨b0, hb0⟩ : ∃ q, q = wa.heap.size := ⟨_, rfl⟩
 rw [← hb0] at HS
 obtain ⟨vv, hvv⟩ : ∃ q, q = Value.slice (some ⟨b0, 0, none⟩) 2 2 := ⟨_, rfl⟩
 rw [← hvv] at HS
 clear HBa HKa hC
 go_enter Tryz.func49, Tryz.ntmps49
 go_upto_region 1 with fail
 rw [← hwa, ← hcb]
 clear hwa hcb
 go_upto_region 2 with fail
 rw [← hw1, ← hb0, ← hvv]
 clear hw1 hb0 hvv
 have c0 : w1.cell? ⟨cb, 0, none⟩ = some (.bool c.server) := by obtain ⟨us, _, _, _, h⟩ := HS.out; rw [h.cell]; exact HC0.out.1
 go_upto_if 9 with fail
 clear c0
 go_cut [3] (fun s wx => ∃ v W, v = s ∧ W = wx ∧ DW w W cb C 3 v ([Pure.rangeOf 1, Pure.passOf 2 4] ++ (if c.server then [] else [Pure.proofRule])))
 case first =>
  cases hsv : c.server
  ·go_upto_region 3 with fail
   obtain ⟨us, hr, he, hl, hbc⟩ := HS.out
   obtain ⟨A, cc, rfl⟩ := y04 hr.own
   have HR := xhd hr
   have HE := xhd he
   have HL := xhd hl
   have HBC := xhd hbc
   clear hr he hl hbc HS
   obtain ⟨p, hp⟩ : ∃ q, q = w1.heap.size := ⟨_, rfl⟩
   go_wp2_with fail
   refine (y1z w1).mono ?_
   rintro e w2 ⟨rfl, hw2⟩
   have HP := xhd (show Row w2 (fun b => w.heap.size ≤ b ∧ (Value.slice A us.length cc).ownBlock ≠ some b ∧ b < w2.heap.size) 1 (.slice (some ⟨w1.heap.size, 0, none⟩) 3 3) Pure.proofRule.want.length (u8s Pure.proofRule.want) from (by
    rw [hw2]
    refine (y1f w1 Pure.proofData _ 3 rfl rfl (by decide)).mono (fun b hb => ?_)
    subst hb
    exact ⟨HR.out.kept.size, fun e => by have := y0o HR.out.own _ e; omega, by simp⟩))
   have hk2 : Keeps y01 w1 w2 := by rw [hw2]; exact (Keeps.refl _ w1).alloc _
   have HR := xhd (HR.out.keeps hk2)
   have HBC := xhd (HBC.out.keeps hk2 (fun e => e))
   rw [← hp] at HP ⊢
   clear hw2 hk2 hp
   go_wp2_with (at_builtin; refine y0d ?_)
   unfold Hid
   refine y18 rfl (.tmp 10) (.tmp 13) rfl w.heap.size (.slice A us.length cc) us [(.slice (some ⟨p, 0, none⟩) 3 3, Pure.proofRule)] 1 _ rfl rfl (by decide) (by simp [Value.oneCell']) rfl rfl HR.out.own (by have := HL.out; omega) HR.out.kept.size ?_
   intro A4 c4 w4 hown4 hk4 hob4
   have H4 := xhd (DW.step (k := 1) (M := [Pure.rangeOf 1, Pure.passOf 2 4] ++ [Pure.proofRule]) HR.out HE.out HL.out HBC.out rfl (fun q hq => by rw [List.mem_singleton.1 hq]; exact HP.out) (by rfl) hown4 hk4 hob4)
   clear hown4 hk4 hob4
   go_wp2_with fail
   go_meet
   exact ⟨_, _, rfl, rfl, H4.out.mono (by omega) (by first | rfl | (rw [hsv]; rfl) | (simp [hsv]; done))⟩
  ·go_wp2_with fail
   go_meet
   exact ⟨_, _, rfl, rfl, HS.out.mono (by omega) (by first | rfl | (rw [hsv]; rfl) | (simp [hsv]; done))⟩
 case rest =>
  obtain ⟨v2, w2, rfl, rfl, hcut⟩ := hcut
  have HS2 := xhd hcut
  clear hcut HS
  obtain ⟨us, hr, he, hl, hbc⟩ := HS2.out
  obtain ⟨A, cc, rfl⟩ := y04 hr.own
  have HR := xhd hr
  have HE := xhd he
  have HL := xhd hl
  have HBC := xhd hbc
  clear hr he hl hbc HS2
  go_wp2_with (at_builtin; refine y0d ?_)
  unfold Hid
  refine y18 rfl (.tmp 15) (.tmp 17) rfl w.heap.size (.slice A us.length cc) us [(.slice none 0 0, Pure.passOf 5 4)] 1 _ rfl rfl (by decide) (by simp [Value.oneCell']) rfl rfl HR.out.own (by have := HL.out; omega) HR.out.kept.size ?_
  intro A4 c4 w4 hown4 hk4 hob4
  have H4 := xhd (DW.step (k := 1) (M := [Pure.rangeOf 1, Pure.passOf 2 4] ++ (if c.server then [] else [Pure.proofRule]) ++ [Pure.passOf 5 4]) HR.out HE.out HL.out HBC.out rfl (y32 (by simp [Pure.passOf])) (by rfl) hown4 hk4 hob4)
  clear hown4 hk4 hob4
  obtain ⟨v4, hv4⟩ : ∃ q, q = Value.slice A4 (us.length + 1) c4 := ⟨_, rfl⟩
  rw [← hv4] at H4 ⊢
  have HS3 := H4
  clear H4 HR HE HL HBC hv4
  have c0 : w4.cell? ⟨cb, 4, none⟩ = some (.bool c.pfc) := by obtain ⟨us, _, _, _, h⟩ := HS3.out; rw [h.cell]; exact HC0.out.2.1
  go_upto_if 20 with fail
  clear c0
  go_cut [3] (fun s wx => ∃ v W, v = s ∧ W = wx ∧ DW w W cb C 5 v ([Pure.rangeOf 1, Pure.passOf 2 4] ++ (if c.server then [] else [Pure.proofRule]) ++ [Pure.passOf 5 4] ++ (if c.pfc then [Pure.passOf 7 0] else [])))
  case first =>
   cases hsv : c.pfc
   ·go_wp2_with fail
    go_meet
    exact ⟨_, _, rfl, rfl, HS3.out.mono (by omega) (by first | rfl | (rw [hsv]; rfl) | (simp [hsv]; done))⟩
   ·go_upto_region 6 with fail
    obtain ⟨us, hr, he, hl, hbc⟩ := HS3.out
    obtain ⟨A, cc, rfl⟩ := y04 hr.own
    have HR := xhd hr
    have HE := xhd he
    have HL := xhd hl
    have HBC := xhd hbc
    clear hr he hl hbc HS3
    go_wp2_with (at_builtin; refine y0d ?_)
    unfold Hid
    refine y18 rfl (.tmp 21) (.tmp 23) rfl w.heap.size (.slice A us.length cc) us [(.slice none 0 0, Pure.passOf 7 0)] 1 _ rfl rfl (by decide) (by simp [Value.oneCell']) rfl rfl HR.out.own (by have := HL.out; omega) HR.out.kept.size ?_
    intro A4 c4 w4 hown4 hk4 hob4
    have H4 := xhd (DW.step (k := 1) (M := ([Pure.rangeOf 1, Pure.passOf 2 4] ++ (if c.server then [] else [Pure.proofRule]) ++ [Pure.passOf 5 4]) ++ [Pure.passOf 7 0]) HR.out HE.out HL.out HBC.out rfl (y32 (by simp [Pure.passOf])) (by rfl) hown4 hk4 hob4)
    clear hown4 hk4 hob4
    go_wp2_with fail
    go_meet
    exact ⟨_, _, rfl, rfl, H4.out.mono (by omega) (by first | rfl | (rw [hsv]; rfl) | (simp [hsv]; done))⟩
  case rest =>
   obtain ⟨v5, w5, rfl, rfl, hcut⟩ := hcut
   have HS5 := xhd hcut
   clear hcut HS3
   have c0 : w5.cell? ⟨cb, 5, none⟩ = some (.bool c.acfc) := by obtain ⟨us, _, _, _, h⟩ := HS5.out; rw [h.cell]; exact HC0.out.2.2.1
   go_upto_if 26 with fail
   clear c0
   go_cut [3] (fun s wx => ∃ v W, v = s ∧ W = wx ∧ DW w W cb C 6 v ([Pure.rangeOf 1, Pure.passOf 2 4] ++ (if c.server then [] else [Pure.proofRule]) ++ [Pure.passOf 5 4] ++ (if c.pfc then [Pure.passOf 7 0] else []) ++ (if c.acfc then [Pure.passOf 8 0] else [])))
   case first =>
    cases hsv : c.acfc
    ·go_wp2_with fail
     go_meet
     exact ⟨_, _, rfl, rfl, HS5.out.mono (by omega) (by first | rfl | (rw [hsv]; rfl) | (simp [hsv]; done))⟩
    ·go_upto_region 8 with fail
     obtain ⟨us, hr, he, hl, hbc⟩ := HS5.out
     obtain ⟨A, cc, rfl⟩ := y04 hr.own
     have HR := xhd hr
     have HE := xhd he
     have HL := xhd hl
     have HBC := xhd hbc
     clear hr he hl hbc HS5
     go_wp2_with (at_builtin; refine y0d ?_)
     unfold Hid
     refine y18 rfl (.tmp 27) (.tmp 29) rfl w.heap.size (.slice A us.length cc) us [(.slice none 0 0, Pure.passOf 8 0)] 1 _ rfl rfl (by decide) (by simp [Value.oneCell']) rfl rfl HR.out.own (by have := HL.out; omega) HR.out.kept.size ?_
     intro A4 c4 w4 hown4 hk4 hob4
     have H4 := xhd (DW.step (k := 1) (M := ([Pure.rangeOf 1, Pure.passOf 2 4] ++ (if c.server then [] else [Pure.proofRule]) ++ [Pure.passOf 5 4] ++ (if c.pfc then [Pure.passOf 7 0] else [])) ++ [Pure.passOf 8 0]) HR.out HE.out HL.out HBC.out rfl (y32 (by simp [Pure.passOf])) (by rfl) hown4 hk4 hob4)
     clear hown4 hk4 hob4
     go_wp2_with fail
     go_meet
     exact ⟨_, _, rfl, rfl, H4.out.mono (by omega) (by first | rfl | (rw [hsv]; rfl) | (simp [hsv]; done))⟩
   case rest =>
    obtain ⟨v6, w6, rfl, rfl, hcut⟩ := hcut
    have HS6 := xhd hcut
    clear hcut HS5
    have c0 : w6.cell? ⟨cb, 7, none⟩ = some (.int .i64 c.mrru) := by obtain ⟨us, _, _, _, h⟩ := HS6.out; rw [h.cell]; exact HC0.out.2.2.2
    go_upto_if 33 with fail
    clear c0
    go_cut [3] (fun s wx => ∃ v W, v = s ∧ W = wx ∧ DW w W cb C 8 v ([Pure.rangeOf 1, Pure.passOf 2 4] ++ (if c.server then [] else [Pure.proofRule]) ++ [Pure.passOf 5 4] ++ (if c.pfc then [Pure.passOf 7 0] else []) ++ (if c.acfc then [Pure.passOf 8 0] else []) ++ (if c.mrru = 0 then [] else [Pure.rangeOf 17, Pure.passOf 18 0])))
    case first =>
     by_cases hsv : c.mrru = 0
     ·rw [show ((c.mrru : Int) != 0) = false by simp [hsv]]
      go_wp2_with fail
      go_meet
      exact ⟨_, _, rfl, rfl, HS6.out.mono (by omega) (by rw [if_pos hsv]; simp)⟩
     ·rw [show ((c.mrru : Int) != 0) = true by simp [hsv]]
      go_upto_region 10 with fail
      obtain ⟨us, hr, he, hl, hbc⟩ := HS6.out
      obtain ⟨A, cc, rfl⟩ := y04 hr.own
      have HR := xhd hr
      have HE := xhd he
      have HL := xhd hl
      have HBC := xhd hbc
      clear hr he hl hbc HS6
      go_wp2_with (at_builtin; refine y0d ?_)
      unfold Hid
      refine y18 rfl (.tmp 34) (.tmp 37) rfl w.heap.size (.slice A us.length cc) us [(.slice none 0 0, Pure.rangeOf 17), (.slice none 0 0, Pure.passOf 18 0)] 2 _ rfl rfl (by decide) (by simp [Value.oneCell']) rfl rfl HR.out.own (by have := HL.out; omega) HR.out.kept.size ?_
      intro A4 c4 w4 hown4 hk4 hob4
      have H4 := xhd (DW.step (k := 2) (M := ([Pure.rangeOf 1, Pure.passOf 2 4] ++ (if c.server then [] else [Pure.proofRule]) ++ [Pure.passOf 5 4] ++ (if c.pfc then [Pure.passOf 7 0] else []) ++ (if c.acfc then [Pure.passOf 8 0] else [])) ++ [Pure.rangeOf 17, Pure.passOf 18 0]) HR.out HE.out HL.out HBC.out rfl (y32 (by simp [Pure.rangeOf, Pure.passOf])) (by rfl) hown4 hk4 hob4)
      clear hown4 hk4 hob4
      go_wp2_with fail
      go_meet
      exact ⟨_, _, rfl, rfl, H4.out.mono (by omega) (by rw [if_neg hsv])⟩
    case rest =>
     obtain ⟨v7, w7, rfl, rfl, hcut⟩ := hcut
     obtain ⟨us, h1, h2, _, _⟩ := hcut
     obtain ⟨A, cc, rfl⟩ := y04 h1.own
     have H1 := xhd h1
     have H2 := xhd h2
     clear h1 h2 HS6
     go_wp2_with fail
     go_ret
     exact ⟨_, us, rfl, H2.out, H1.out⟩
def DA (w wx : World) (cb : Nat) (C : Array Value) (n : Nat) (v : Value) (L : List Pure.Opt) : Prop := ∃ qs, Read w wx v qs ∧ y02 qs = L ∧ qs.length ≤ n ∧ Blk wx cb 25 C
theorem DA.mono {w wx : World} {cb n m : Nat} {C : Array Value} {v : Value} {L M : List Pure.Opt} (h : DA w wx cb C n v L) (hm : n ≤ m) (e : L = M) : DA w wx cb C m v M := by
 obtain ⟨us, h1, h2, h3, h4⟩ := h
 exact ⟨us, h1, h2.trans e, Nat.le_trans h3 hm, h4⟩
theorem DA.quiet {w wx wy : World} {cb n : Nat} {C : Array Value} {v : Value} {L : List Pure.Opt} (h : DA w wx cb C n v L) (k : Keeps y01 wx wy) : DA w wy cb C n v L := by
 obtain ⟨us, h1, h2, h3, h4⟩ := h
 exact ⟨us, h1.keeps k, h2, h3, h4.keeps k (fun e => e)⟩
theorem DA.step {w wx w' : World} {cb n : Nat} {C : Array Value} {v v' : Value} {qs : List (Value × Pure.Opt)} {p : Value × Pure.Opt} {L M : List Pure.Opt} (h : Read w wx v qs) (hL : y02 qs = L) (hn : qs.length ≤ n) (hC : Blk wx cb 25 C) (hM : L ++ [p.2] = M)
  (hr : Read w w' v' (qs ++ [p])) (kp : Keeps (fun b => v.ownBlock = some b) wx w') : DA w w' cb C (n + 1) v' M :=
 ⟨qs ++ [p], hr, by rw [← hM, ← hL]; simp [y02], by rw [List.length_append]; simpa using hn, hC.keeps kp (fun e => y24 h.own hC (by decide) e)⟩
theorem docask_any (c : Pure.Cfg) (nm sc : ByteArray) (hf : c.fine = true) (ha : c.accm < 4294967296) (m : Nat) (hm : m < 4294967296) (w : World) :
  Calls Tryz.prog 23 #[cfgV c nm sc, .int .u32 (m : Int)] w fun e w' => ∃ v, ∃ qs : List (Value × Pure.Opt), e = .returned v ∧ y02 qs = c.ask m ∧ Read w w' v qs := by
 obtain ⟨f1, f2, f3⟩ := Pure.fine_nums hf
 obtain ⟨mu, hmu⟩ : ∃ q : Nat, q = c.mru.toNat := ⟨_, rfl⟩
 obtain ⟨mr, hmr⟩ : ∃ q : Nat, q = c.mrru.toNat := ⟨_, rfl⟩
 have emu : c.mru = (mu : Int) := by omega
 have emr : c.mrru = (mr : Int) := by omega
 have HMU := xhd (show mu < 4294967296 ∧ mr < 4294967296 by omega)
 have HAC := xhd (show c.accm < 4294967296 ∧ m < 4294967296 from ⟨ha, hm⟩)
 obtain ⟨K, hK⟩ : ∃ q, q = c.ask m := ⟨_, rfl⟩
 rw [← hK]
 have HK := xhd (show K = (if mu = 1500 then [] else [(1, Pure.wide mu 2)]) ++ (if c.accm = 4294967295 then [] else [(2, Pure.wide c.accm 4)]) ++ (if c.server then [(3, Pure.proofData)] else []) ++
  (if m = 0 then [] else [(5, Pure.wide m 4)]) ++ (if c.pfc then [(7, [])] else []) ++ (if c.acfc then [(8, [])] else []) ++ (if mr = 0 then [] else [(17, Pure.wide mr 2)]) ++ (if mr = 0 then [] else if c.short then [(18, [])] else []) by
  rw [hK]
  unfold Pure.Cfg.ask
  rw [emu, emr]
  have g1 : (((mu : Nat) : Int) = 1500) = (mu = 1500) := by apply propext; omega
  have g2 : (((mr : Nat) : Int) = 0) = (mr = 0) := by apply propext; omega
  simp only [g1, g2, Int.toNat_natCast])
 obtain ⟨cb, hcb⟩ : ∃ q, q = w.heap.size := ⟨_, rfl⟩
 obtain ⟨C, hC⟩ : ∃ q, q = (y07 c nm sc).toArray := ⟨_, rfl⟩
 obtain ⟨w1, hw1⟩ : ∃ q, q = w.alloc (.cells (y07 c nm sc).toArray 25) := ⟨_, rfl⟩
 have HC0 := xhd (show C[3]? = some (.int .i64 (mu : Int)) ∧ C[6]? = some (.int .u32 (c.accm : Int)) ∧ C[0]? = some (.bool c.server) ∧ C[4]? = some (.bool c.pfc) ∧ C[5]? = some (.bool c.acfc) ∧ C[7]? = some (.int .i64 (mr : Int)) ∧ C[8]? = some (.bool c.short) by rw [hC, ← emu, ← emr]; exact ⟨rfl, rfl, rfl, rfl, rfl, rfl, rfl⟩)
 have HS := xhd (show DA w w1 cb C 0 (.slice none 0 0) [] from ⟨[], by rw [hw1]; exact (Read.nil w).keeps ((Keeps.refl _ w).alloc _), rfl, Nat.le_refl _, by rw [hw1, hcb, hC]; exact Blk.new w _ _⟩)
 clear hC hf ha hm f1 f2 f3 hmu hmr emu emr hK
 go_enter Tryz.func23, Tryz.ntmps23
 go_upto_region 2 with fail
 rw [← hw1, ← hcb]
 obtain ⟨vv, hvv⟩ : ∃ q, q = Value.slice none 0 0 := ⟨_, rfl⟩
 rw [← hvv] at HS ⊢
 clear hw1 hcb hvv
 have c0 : w1.cell? ⟨cb, 3, none⟩ = some (.int .i64 (mu : Int)) := by obtain ⟨us, _, _, _, h⟩ := HS.out; rw [h.cell]; exact HC0.out.1
 go_upto_if 8 with fail
 clear c0
 go_cut [5] (fun s wx => ∃ v W, v = s ∧ W = wx ∧ DA w W cb C 1 v ((if mu = 1500 then [] else [(1, Pure.wide mu 2)])))
 case first =>
  by_cases hsv : mu = 1500
  ·rw [show ((mu : Int) != 1500) = false by simp [hsv]]
   go_wp2_with fail
   go_meet
   exact ⟨_, _, rfl, rfl, HS.out.mono (by omega) (by first | rfl | (rw [hsv]; rfl) | (simp [hsv]; done))⟩
  ·rw [show ((mu : Int) != 1500) = true by simp; omega]
   go_upto_region 3 with fail
   have c0 : w1.cell? ⟨cb, 3, none⟩ = some (.int .i64 (mu : Int)) := by obtain ⟨us, _, _, _, h⟩ := HS.out; rw [h.cell]; exact HC0.out.1
   obtain ⟨qs, hr, he, hl, hbc⟩ := HS.out
   obtain ⟨A, cc, rfl⟩ := y04 hr.own
   have HR := xhd hr
   have HE := xhd he
   have HL := xhd hl
   have HBC := xhd hbc
   clear hr he hl hbc HS
   have HWD := xhd (y2e mu 2 w1 (by decide) HMU.out.1)
   go_wp2_with fail
   refine HWD.out.mono ?_
   rintro e w2 ⟨u, rfl, hu, hbl⟩
   obtain ⟨Au, cu, rfl⟩ := y04 hu
   have hkn := Keeps.new hbl
   have HD := xhd (show Row w2 (fun b => w.heap.size ≤ b ∧ (Value.slice A qs.length cc).ownBlock ≠ some b ∧ b < w2.heap.size) 1 (.slice Au (Pure.wide mu 2).length cu) (Pure.wide mu 2).length (u8s (Pure.wide mu 2)) by rw [Pure.wide_length]; exact HR.out.fresh ((Row.of_own hu).mono (fun b hb => y06 hu b hb)))
   have HR := xhd (HR.out.keeps hkn)
   have HBC := xhd (HBC.out.keeps hkn (fun e => e))
   clear hu hbl hkn HWD c0
   go_wp2_with (at_builtin; refine y0d ?_)
   unfold Hid
   refine y0w rfl (.tmp 9) (.tmp 14) rfl (.slice A qs.length cc) qs Au cu 1 (Pure.wide mu 2) rfl rfl HR.out (by have := HL.out; omega) HD.out ?_
   intro A4 c4 w4 hr4 hk4
   have H4 := xhd (DA.step (M := ([]) ++ [(1, Pure.wide mu 2)]) HR.out HE.out HL.out HBC.out (by rfl) hr4 hk4)
   clear hr4 hk4
   go_wp2_with fail
   go_meet
   exact ⟨_, _, rfl, rfl, H4.out.mono (by omega) (by first | rfl | (rw [hsv]; rfl) | (simp [hsv]; done))⟩
 case rest =>
  obtain ⟨s1, x1, rfl, rfl, hcut⟩ := hcut
  have HS1 := xhd hcut
  clear hcut HS
  have c0 : x1.cell? ⟨cb, 6, none⟩ = some (.int .u32 (c.accm : Int)) := by obtain ⟨us, _, _, _, h⟩ := HS1.out; rw [h.cell]; exact HC0.out.2.1
  go_upto_if 18 with fail
  clear c0
  go_cut [5] (fun s wx => ∃ v W, v = s ∧ W = wx ∧ DA w W cb C 2 v ((if mu = 1500 then [] else [(1, Pure.wide mu 2)]) ++ (if c.accm = 4294967295 then [] else [(2, Pure.wide c.accm 4)])))
  case first =>
   by_cases hsv : c.accm = 4294967295
   ·rw [show ((c.accm : Int) != 4294967295) = false by simp [hsv]]
    go_wp2_with fail
    go_meet
    exact ⟨_, _, rfl, rfl, HS1.out.mono (by omega) (by first | rfl | (rw [hsv]; rfl) | (simp [hsv]; done))⟩
   ·rw [show ((c.accm : Int) != 4294967295) = true by simp; omega]
    go_upto_region 5 with fail
    have c0 : x1.cell? ⟨cb, 6, none⟩ = some (.int .u32 (c.accm : Int)) := by obtain ⟨us, _, _, _, h⟩ := HS1.out; rw [h.cell]; exact HC0.out.2.1
    obtain ⟨qs, hr, he, hl, hbc⟩ := HS1.out
    obtain ⟨A, cc, rfl⟩ := y04 hr.own
    have HR := xhd hr
    have HE := xhd he
    have HL := xhd hl
    have HBC := xhd hbc
    clear hr he hl hbc HS1
    have ec : IntKind.i64.wrap ((c.accm : Nat) : Int) = ((c.accm : Nat) : Int) := IntWalk.i64_in _ (by have := HAC.out; omega)
    have HWD := xhd (y2e c.accm 4 x1 (by decide) HAC.out.1)
    go_wp2_with fail
    refine HWD.out.mono ?_
    rintro e w2 ⟨u, rfl, hu, hbl⟩
    obtain ⟨Au, cu, rfl⟩ := y04 hu
    have hkn := Keeps.new hbl
    have HD := xhd (show Row w2 (fun b => w.heap.size ≤ b ∧ (Value.slice A qs.length cc).ownBlock ≠ some b ∧ b < w2.heap.size) 1 (.slice Au (Pure.wide c.accm 4).length cu) (Pure.wide c.accm 4).length (u8s (Pure.wide c.accm 4)) by rw [Pure.wide_length]; exact HR.out.fresh ((Row.of_own hu).mono (fun b hb => y06 hu b hb)))
    have HR := xhd (HR.out.keeps hkn)
    have HBC := xhd (HBC.out.keeps hkn (fun e => e))
    clear hu hbl hkn HWD c0
    go_wp2_with (at_builtin; refine y0d ?_)
    unfold Hid
    refine y0w rfl (.tmp 19) (.tmp 25) rfl (.slice A qs.length cc) qs Au cu 2 (Pure.wide c.accm 4) rfl rfl HR.out (by have := HL.out; omega) HD.out ?_
    intro A4 c4 w4 hr4 hk4
    have H4 := xhd (DA.step (M := ((if mu = 1500 then [] else [(1, Pure.wide mu 2)])) ++ [(2, Pure.wide c.accm 4)]) HR.out HE.out HL.out HBC.out (by rfl) hr4 hk4)
    clear hr4 hk4
    go_wp2_with fail
    go_meet
    exact ⟨_, _, rfl, rfl, H4.out.mono (by omega) (by first | rfl | (rw [hsv]; rfl) | (simp [hsv]; done))⟩
  case rest =>
   obtain ⟨s2, x2, rfl, rfl, hcut⟩ := hcut
   have HS2 := xhd hcut
   clear hcut HS1
   have c0 : x2.cell? ⟨cb, 0, none⟩ = some (.bool c.server) := by obtain ⟨us, _, _, _, h⟩ := HS2.out; rw [h.cell]; exact HC0.out.2.2.1
   go_upto_if 28 with fail
   clear c0
   go_cut [5] (fun s wx => ∃ v W, v = s ∧ W = wx ∧ DA w W cb C 3 v ((if mu = 1500 then [] else [(1, Pure.wide mu 2)]) ++ (if c.accm = 4294967295 then [] else [(2, Pure.wide c.accm 4)]) ++ (if c.server then [(3, Pure.proofData)] else [])))
   case first =>
    cases hsv : c.server
    ·go_wp2_with fail
     go_meet
     exact ⟨_, _, rfl, rfl, HS2.out.mono (by omega) (by first | rfl | (rw [hsv]; rfl) | (simp [hsv]; done))⟩
    ·go_upto_region 7 with fail
     obtain ⟨qs, hr, he, hl, hbc⟩ := HS2.out
     obtain ⟨A, cc, rfl⟩ := y04 hr.own
     have HR := xhd hr
     have HE := xhd he
     have HL := xhd hl
     have HBC := xhd hbc
     clear hr he hl hbc HS2
     obtain ⟨p, hp⟩ : ∃ q, q = x2.heap.size := ⟨_, rfl⟩
     go_wp2_with fail
     refine (y1z x2).mono ?_
     rintro e w2 ⟨rfl, hw2⟩
     have HD := xhd (show Row w2 (fun b => w.heap.size ≤ b ∧ (Value.slice A qs.length cc).ownBlock ≠ some b ∧ b < w2.heap.size) 1 (.slice (some ⟨x2.heap.size, 0, none⟩) Pure.proofData.length 3) Pure.proofData.length (u8s Pure.proofData) from HR.out.fresh (by
      rw [hw2]
      exact (y1f x2 Pure.proofData _ 3 rfl rfl (by decide)).mono (fun b hb => by subst hb; exact Nat.le_refl _)))
     have hkn : Keeps y01 x2 w2 := by rw [hw2]; exact (Keeps.refl _ x2).alloc _
     have HR := xhd (HR.out.keeps hkn)
     have HBC := xhd (HBC.out.keeps hkn (fun e => e))
     rw [← hp] at HD ⊢
     clear hw2 hkn hp
     go_wp2_with (at_builtin; refine y0d ?_)
     unfold Hid
     refine y0w rfl (.tmp 29) (.tmp 32) rfl (.slice A qs.length cc) qs (some ⟨p, 0, none⟩) 3 3 Pure.proofData rfl rfl HR.out (by have := HL.out; omega) HD.out ?_
     intro A4 c4 w4 hr4 hk4
     have H4 := xhd (DA.step (M := ((if mu = 1500 then [] else [(1, Pure.wide mu 2)]) ++ (if c.accm = 4294967295 then [] else [(2, Pure.wide c.accm 4)])) ++ [(3, Pure.proofData)]) HR.out HE.out HL.out HBC.out (by rfl) hr4 hk4)
     clear hr4 hk4
     go_wp2_with fail
     go_meet
     exact ⟨_, _, rfl, rfl, H4.out.mono (by omega) (by first | rfl | (rw [hsv]; rfl) | (simp [hsv]; done))⟩
   case rest =>
    obtain ⟨s3, x3, rfl, rfl, hcut⟩ := hcut
    have HS3 := xhd hcut
    clear hcut HS2
    go_upto_if 35 with fail
    go_cut [5] (fun s wx => ∃ v W, v = s ∧ W = wx ∧ DA w W cb C 4 v ((if mu = 1500 then [] else [(1, Pure.wide mu 2)]) ++ (if c.accm = 4294967295 then [] else [(2, Pure.wide c.accm 4)]) ++ (if c.server then [(3, Pure.proofData)] else []) ++ (if m = 0 then [] else [(5, Pure.wide m 4)])))
    case first =>
     by_cases hsv : m = 0
     ·rw [show ((m : Int) != 0) = false by simp [hsv]]
      go_wp2_with fail
      go_meet
      exact ⟨_, _, rfl, rfl, HS3.out.mono (by omega) (by first | rfl | (rw [hsv]; rfl) | (simp [hsv]; done))⟩
     ·rw [show ((m : Int) != 0) = true by simp; omega]
      go_upto_region 9 with fail
      obtain ⟨qs, hr, he, hl, hbc⟩ := HS3.out
      obtain ⟨A, cc, rfl⟩ := y04 hr.own
      have HR := xhd hr
      have HE := xhd he
      have HL := xhd hl
      have HBC := xhd hbc
      clear hr he hl hbc HS3
      have ec : IntKind.i64.wrap ((m : Nat) : Int) = ((m : Nat) : Int) := IntWalk.i64_in _ (by have := HAC.out; omega)
      have HWD := xhd (y2e m 4 x3 (by decide) HAC.out.2)
      go_wp2_with fail
      refine HWD.out.mono ?_
      rintro e w2 ⟨u, rfl, hu, hbl⟩
      obtain ⟨Au, cu, rfl⟩ := y04 hu
      have hkn := Keeps.new hbl
      have HD := xhd (show Row w2 (fun b => w.heap.size ≤ b ∧ (Value.slice A qs.length cc).ownBlock ≠ some b ∧ b < w2.heap.size) 1 (.slice Au (Pure.wide m 4).length cu) (Pure.wide m 4).length (u8s (Pure.wide m 4)) by rw [Pure.wide_length]; exact HR.out.fresh ((Row.of_own hu).mono (fun b hb => y06 hu b hb)))
      have HR := xhd (HR.out.keeps hkn)
      have HBC := xhd (HBC.out.keeps hkn (fun e => e))
      clear hu hbl hkn HWD
      go_wp2_with (at_builtin; refine y0d ?_)
      unfold Hid
      refine y0w rfl (.tmp 36) (.tmp 41) rfl (.slice A qs.length cc) qs Au cu 5 (Pure.wide m 4) rfl rfl HR.out (by have := HL.out; omega) HD.out ?_
      intro A4 c4 w4 hr4 hk4
      have H4 := xhd (DA.step (M := ((if mu = 1500 then [] else [(1, Pure.wide mu 2)]) ++ (if c.accm = 4294967295 then [] else [(2, Pure.wide c.accm 4)]) ++ (if c.server then [(3, Pure.proofData)] else [])) ++ [(5, Pure.wide m 4)]) HR.out HE.out HL.out HBC.out (by rfl) hr4 hk4)
      clear hr4 hk4
      go_wp2_with fail
      go_meet
      exact ⟨_, _, rfl, rfl, H4.out.mono (by omega) (by first | rfl | (rw [hsv]; rfl) | (simp [hsv]; done))⟩
    case rest =>
     obtain ⟨s4, x4, rfl, rfl, hcut⟩ := hcut
     have HS4 := xhd hcut
     clear hcut HS3
     have c0 : x4.cell? ⟨cb, 4, none⟩ = some (.bool c.pfc) := by obtain ⟨us, _, _, _, h⟩ := HS4.out; rw [h.cell]; exact HC0.out.2.2.2.1
     go_upto_if 44 with fail
     clear c0
     go_cut [5] (fun s wx => ∃ v W, v = s ∧ W = wx ∧ DA w W cb C 5 v ((if mu = 1500 then [] else [(1, Pure.wide mu 2)]) ++ (if c.accm = 4294967295 then [] else [(2, Pure.wide c.accm 4)]) ++ (if c.server then [(3, Pure.proofData)] else []) ++ (if m = 0 then [] else [(5, Pure.wide m 4)]) ++ (if c.pfc then [(7, [])] else [])))
     case first =>
      cases hsv : c.pfc
      ·go_wp2_with fail
       go_meet
       exact ⟨_, _, rfl, rfl, HS4.out.mono (by omega) (by first | rfl | (rw [hsv]; rfl) | (simp [hsv]; done))⟩
      ·go_upto_region 11 with fail
       obtain ⟨qs, hr, he, hl, hbc⟩ := HS4.out
       obtain ⟨A, cc, rfl⟩ := y04 hr.own
       have HR := xhd hr
       have HE := xhd he
       have HL := xhd hl
       have HBC := xhd hbc
       clear hr he hl hbc HS4
       go_wp2_with (at_builtin; refine y0d ?_)
       unfold Hid
       refine y0w rfl (.tmp 45) (.tmp 47) rfl (.slice A qs.length cc) qs none 0 7 [] rfl rfl HR.out (by have := HL.out; omega) (Row.nil _ _ _) ?_
       intro A4 c4 w4 hr4 hk4
       have H4 := xhd (DA.step (M := ((if mu = 1500 then [] else [(1, Pure.wide mu 2)]) ++ (if c.accm = 4294967295 then [] else [(2, Pure.wide c.accm 4)]) ++ (if c.server then [(3, Pure.proofData)] else []) ++ (if m = 0 then [] else [(5, Pure.wide m 4)])) ++ [(7, [])]) HR.out HE.out HL.out HBC.out (by rfl) hr4 hk4)
       clear hr4 hk4
       go_wp2_with fail
       go_meet
       exact ⟨_, _, rfl, rfl, H4.out.mono (by omega) (by first | rfl | (rw [hsv]; rfl) | (simp [hsv]; done))⟩
     case rest =>
      obtain ⟨s5, x5, rfl, rfl, hcut⟩ := hcut
      have HS5 := xhd hcut
      clear hcut HS4
      have c0 : x5.cell? ⟨cb, 5, none⟩ = some (.bool c.acfc) := by obtain ⟨us, _, _, _, h⟩ := HS5.out; rw [h.cell]; exact HC0.out.2.2.2.2.1
      go_upto_if 50 with fail
      clear c0
      go_cut [5] (fun s wx => ∃ v W, v = s ∧ W = wx ∧ DA w W cb C 6 v ((if mu = 1500 then [] else [(1, Pure.wide mu 2)]) ++ (if c.accm = 4294967295 then [] else [(2, Pure.wide c.accm 4)]) ++ (if c.server then [(3, Pure.proofData)] else []) ++ (if m = 0 then [] else [(5, Pure.wide m 4)]) ++ (if c.pfc then [(7, [])] else []) ++ (if c.acfc then [(8, [])] else [])))
      case first =>
       cases hsv : c.acfc
       ·go_wp2_with fail
        go_meet
        exact ⟨_, _, rfl, rfl, HS5.out.mono (by omega) (by first | rfl | (rw [hsv]; rfl) | (simp [hsv]; done))⟩
       ·go_upto_region 13 with fail
        obtain ⟨qs, hr, he, hl, hbc⟩ := HS5.out
        obtain ⟨A, cc, rfl⟩ := y04 hr.own
        have HR := xhd hr
        have HE := xhd he
        have HL := xhd hl
        have HBC := xhd hbc
        clear hr he hl hbc HS5
        go_wp2_with (at_builtin; refine y0d ?_)
        unfold Hid
        refine y0w rfl (.tmp 51) (.tmp 53) rfl (.slice A qs.length cc) qs none 0 8 [] rfl rfl HR.out (by have := HL.out; omega) (Row.nil _ _ _) ?_
        intro A4 c4 w4 hr4 hk4
        have H4 := xhd (DA.step (M := ((if mu = 1500 then [] else [(1, Pure.wide mu 2)]) ++ (if c.accm = 4294967295 then [] else [(2, Pure.wide c.accm 4)]) ++ (if c.server then [(3, Pure.proofData)] else []) ++ (if m = 0 then [] else [(5, Pure.wide m 4)]) ++ (if c.pfc then [(7, [])] else [])) ++ [(8, [])]) HR.out HE.out HL.out HBC.out (by rfl) hr4 hk4)
        clear hr4 hk4
        go_wp2_with fail
        go_meet
        exact ⟨_, _, rfl, rfl, H4.out.mono (by omega) (by first | rfl | (rw [hsv]; rfl) | (simp [hsv]; done))⟩
      case rest =>
       obtain ⟨s6, x6, rfl, rfl, hcut⟩ := hcut
       have HS6 := xhd hcut
       clear hcut HS5
       have c0 : x6.cell? ⟨cb, 7, none⟩ = some (.int .i64 (mr : Int)) := by obtain ⟨us, _, _, _, h⟩ := HS6.out; rw [h.cell]; exact HC0.out.2.2.2.2.2.1
       go_upto_if 57 with fail
       clear c0
       go_cut [5] (fun s wx => ∃ v W, v = s ∧ W = wx ∧ DA w W cb C 7 v ((if mu = 1500 then [] else [(1, Pure.wide mu 2)]) ++ (if c.accm = 4294967295 then [] else [(2, Pure.wide c.accm 4)]) ++ (if c.server then [(3, Pure.proofData)] else []) ++ (if m = 0 then [] else [(5, Pure.wide m 4)]) ++ (if c.pfc then [(7, [])] else []) ++ (if c.acfc then [(8, [])] else []) ++ (if mr = 0 then [] else [(17, Pure.wide mr 2)])))
       case first =>
        by_cases hsv : mr = 0
        ·rw [show ((mr : Int) != 0) = false by simp [hsv]]
         go_wp2_with fail
         go_meet
         exact ⟨_, _, rfl, rfl, HS6.out.mono (by omega) (by first | rfl | (rw [hsv]; rfl) | (simp [hsv]; done))⟩
        ·rw [show ((mr : Int) != 0) = true by simp; omega]
         go_upto_region 15 with fail
         have c0 : x6.cell? ⟨cb, 7, none⟩ = some (.int .i64 (mr : Int)) := by obtain ⟨us, _, _, _, h⟩ := HS6.out; rw [h.cell]; exact HC0.out.2.2.2.2.2.1
         obtain ⟨qs, hr, he, hl, hbc⟩ := HS6.out
         obtain ⟨A, cc, rfl⟩ := y04 hr.own
         have HR := xhd hr
         have HE := xhd he
         have HL := xhd hl
         have HBC := xhd hbc
         clear hr he hl hbc HS6
         have HWD := xhd (y2e mr 2 x6 (by decide) HMU.out.2)
         go_wp2_with fail
         refine HWD.out.mono ?_
         rintro e w2 ⟨u, rfl, hu, hbl⟩
         obtain ⟨Au, cu, rfl⟩ := y04 hu
         have hkn := Keeps.new hbl
         have HD := xhd (show Row w2 (fun b => w.heap.size ≤ b ∧ (Value.slice A qs.length cc).ownBlock ≠ some b ∧ b < w2.heap.size) 1 (.slice Au (Pure.wide mr 2).length cu) (Pure.wide mr 2).length (u8s (Pure.wide mr 2)) by rw [Pure.wide_length]; exact HR.out.fresh ((Row.of_own hu).mono (fun b hb => y06 hu b hb)))
         have HR := xhd (HR.out.keeps hkn)
         have HBC := xhd (HBC.out.keeps hkn (fun e => e))
         clear hu hbl hkn HWD c0
         go_wp2_with (at_builtin; refine y0d ?_)
         unfold Hid
         refine y0w rfl (.tmp 58) (.tmp 63) rfl (.slice A qs.length cc) qs Au cu 17 (Pure.wide mr 2) rfl rfl HR.out (by have := HL.out; omega) HD.out ?_
         intro A4 c4 w4 hr4 hk4
         have H4 := xhd (DA.step (M := ((if mu = 1500 then [] else [(1, Pure.wide mu 2)]) ++ (if c.accm = 4294967295 then [] else [(2, Pure.wide c.accm 4)]) ++ (if c.server then [(3, Pure.proofData)] else []) ++ (if m = 0 then [] else [(5, Pure.wide m 4)]) ++ (if c.pfc then [(7, [])] else []) ++ (if c.acfc then [(8, [])] else [])) ++ [(17, Pure.wide mr 2)]) HR.out HE.out HL.out HBC.out (by rfl) hr4 hk4)
         clear hr4 hk4
         go_wp2_with fail
         go_meet
         exact ⟨_, _, rfl, rfl, H4.out.mono (by omega) (by first | rfl | (rw [hsv]; rfl) | (simp [hsv]; done))⟩
       case rest =>
        obtain ⟨s7, x7, rfl, rfl, hcut⟩ := hcut
        have HS7 := xhd hcut
        clear hcut HS6
        have c0 : x7.cell? ⟨cb, 8, none⟩ = some (.bool c.short) := by obtain ⟨us, _, _, _, h⟩ := HS7.out; rw [h.cell]; exact HC0.out.2.2.2.2.2.2
        have c1 : x7.cell? ⟨cb, 7, none⟩ = some (.int .i64 (mr : Int)) := by obtain ⟨us, _, _, _, h⟩ := HS7.out; rw [h.cell]; exact HC0.out.2.2.2.2.2.1
        have HSV : ∀ B : Bool, B = ((mr : Int) != 0 && c.short) → DA w x7 cb C 7 s7 ((if mu = 1500 then [] else [(1, Pure.wide mu 2)]) ++ (if c.accm = 4294967295 then [] else [(2, Pure.wide c.accm 4)]) ++ (if c.server then [(3, Pure.proofData)] else []) ++ (if m = 0 then [] else [(5, Pure.wide m 4)]) ++ (if c.pfc then [(7, [])] else []) ++ (if c.acfc then [(8, [])] else []) ++ (if mr = 0 then [] else [(17, Pure.wide mr 2)])) := fun _ _ => HS7.out
        by_cases hmz : mr = 0
        ·have ez : ((mr : Int) != 0) = false := by simp [hmz]
         obtain ⟨qs, hr, he, _, _⟩ := HS7.out
         obtain ⟨A, cc, rfl⟩ := y04 hr.own
         have HR := xhd hr
         have HE := xhd (show y02 qs = K by rw [he, HK.out, if_pos hmz, if_pos hmz]; simp)
         clear hr he HSV HS7
         go_wp2_with fail
         go_ret
         exact ⟨_, qs, rfl, HE.out, HR.out⟩
        ·have ez : ((mr : Int) != 0) = true := by simp [hmz]
         clear HSV
         cases hsv : c.short
         ·rw [hsv] at c0
          obtain ⟨qs, hr, he, _, _⟩ := HS7.out
          obtain ⟨A, cc, rfl⟩ := y04 hr.own
          have HR := xhd hr
          have HE := xhd (show y02 qs = K by rw [he, HK.out, hsv, if_neg hmz, if_neg hmz]; simp)
          clear hr he HS7
          go_wp2_with fail
          go_ret
          exact ⟨_, qs, rfl, HE.out, HR.out⟩
         ·rw [hsv] at c0
          obtain ⟨qs, hr, he, hl, _⟩ := HS7.out
          obtain ⟨A, cc, rfl⟩ := y04 hr.own
          have HR := xhd hr
          have HL := xhd hl
          have HE := xhd (show y02 qs ++ [(18, [])] = K by rw [he, HK.out, hsv, if_neg hmz, if_neg hmz]; simp)
          clear hr he hl HS7
          go_wp2_with (at_builtin; refine y0d ?_)
          unfold Hid
          refine y0w rfl (.tmp 72) (.tmp 74) rfl (.slice A qs.length cc) qs none 0 18 [] rfl rfl HR.out (by have := HL.out; omega) (Row.nil _ _ _) ?_
          intro A4 c4 w4 hr4 hk4
          have HR4 := xhd hr4
          clear hr4 hk4
          go_wp2_with fail
          go_ret
          exact ⟨_, _, rfl, by rw [← HE.out]; simp [y02], HR4.out⟩
theorem y8e (k : Int) (w : World) : Calls Tryz.prog 57 #[.int .i64 k] w fun e w' => e = .returned (.int .i64 (if k = 40 ∨ k = 56 then 8 else if k = 128 then 16 else 0)) ∧ w = w' := by
 by_cases h1 : k = 40
 ·subst h1
  go_enter Tryz.func57, Tryz.ntmps57
  go_wp2_with fail
  go_ret
  exact ⟨rfl, rfl⟩
 by_cases h2 : k = 56
 ·subst h2
  go_enter Tryz.func57, Tryz.ntmps57
  go_wp2_with fail
  go_ret
  exact ⟨rfl, rfl⟩
 by_cases h3 : k = 128
 ·subst h3
  go_enter Tryz.func57, Tryz.ntmps57
  go_wp2_with fail
  go_ret
  exact ⟨rfl, rfl⟩
 rw [if_neg (by omega), if_neg h3]
 have e1 : (k == 40) = false := by simp [h1]
 have e2 : (k == 56) = false := by simp [h2]
 have e3 : (k == 128) = false := by simp [h3]
 clear h1 h2 h3
 go_enter Tryz.func57, Tryz.ntmps57
 go_wp2_with fail
 go_ret
 exact ⟨rfl, rfl⟩
theorem y7s (c : Pure.Cfg) : c.fine = ((decide ((64 : Int) ≤ c.mru) && decide (c.mru ≤ 1500) && ((c.mrru == 0) || decide ((64 : Int) ≤ c.mrru) && decide (c.mrru ≤ 1500))) && ((c.bits == 0) || decide ((0 : Int) < (if c.bits = 40 ∨ c.bits = 56 then 8 else if c.bits = 128 then 16 else 0 : Int))) && decide ((1 : Int) ≤ c.timeout) && decide (c.timeout ≤ 1000) && decide ((1 : Int) ≤ c.tries) && decide (c.tries ≤ 1000) && ((c.fragment == 0) || decide ((16 : Int) ≤ c.fragment) && decide (c.fragment ≤ 1500) && decide ((0 : Int) < c.mrru)) && (decide ((0 : Int) < c.bits) || !c.must && !c.stateless && !c.symbol)) := by
 have hb : (decide (c.bits = 0) || decide (c.bits = 40) || decide (c.bits = 56) || decide (c.bits = 128)) = ((c.bits == 0) || decide ((0 : Int) < (if c.bits = 40 ∨ c.bits = 56 then 8 else if c.bits = 128 then 16 else 0 : Int))) := by
  by_cases h0 : c.bits = 0
  ·simp [h0]
  by_cases h1 : c.bits = 40
  ·simp [h1]
  by_cases h2 : c.bits = 56
  ·simp [h2]
  by_cases h3 : c.bits = 128
  ·simp [h3]
  simp [h0, h1, h2, h3]
 unfold Pure.Cfg.fine Pure.inInfo
 rw [hb]
 have ez : ∀ x : Int, (x == 0) = decide (x = 0) := fun x => rfl
 rw [ez, ez, ez]
 generalize decide (c.bits = 0) = z0
 generalize decide (c.mrru = 0) = z1
 generalize decide (c.fragment = 0) = z2
 generalize decide ((0 : Int) < (if c.bits = 40 ∨ c.bits = 56 then 8 else if c.bits = 128 then 16 else 0 : Int)) = z3
 generalize decide ((64 : Int) ≤ c.mru) = z4
 generalize decide (c.mru ≤ 1500) = z5
 generalize decide ((64 : Int) ≤ c.mrru) = z6
 generalize decide (c.mrru ≤ 1500) = z7
 generalize decide ((1 : Int) ≤ c.timeout) = z8
 generalize decide (c.timeout ≤ 1000) = z9
 generalize decide ((1 : Int) ≤ c.tries) = y0
 generalize decide (c.tries ≤ 1000) = y1
 generalize decide ((16 : Int) ≤ c.fragment) = y2
 generalize decide (c.fragment ≤ 1500) = y3
 generalize decide ((0 : Int) < c.mrru) = y4
 generalize decide ((0 : Int) < c.bits) = y5
 generalize c.must = y6
 generalize c.stateless = y7
 generalize c.symbol = y8
 cases y6 <;> cases y7 <;> cases y8 <;> simp [Bool.and_assoc]
theorem y7m (c : Pure.Cfg) (nm sc : ByteArray) (hn : nm.data.toList = c.name) (hs : sc.data.toList = c.secret) (hl : c.secret.length ≤ 1000000) (w : World) :
  Calls Tryz.prog 18 #[cfgV c nm sc] w fun e w' => e = .returned (.int .i64 (c.check : Int)) ∧ Keeps y01 w w' := by
 obtain ⟨cb, hcb⟩ : ∃ q, q = w.heap.size := ⟨_, rfl⟩
 obtain ⟨w1, hw1⟩ : ∃ q, q = w.alloc (.cells (y07 c nm sc).toArray 25) := ⟨_, rfl⟩
 have hk1 : Keeps y01 w w1 := by rw [hw1]; exact (Keeps.refl _ w).alloc _
 have hC : Blk w1 cb 25 (y07 c nm sc).toArray := by rw [hw1, hcb]; exact Blk.new w _ _
 have c1 : w1.cell? ⟨cb, 1, none⟩ = some (.string nm) := by rw [hC.cell]; rfl
 have c2 : w1.cell? ⟨cb, 2, none⟩ = some (.string sc) := by rw [hC.cell]; rfl
 have hsz : nm.size = c.name.length := by rw [← hn]; rfl
 have HA := xhd (y8c sc c.secret hs hl w1)
 rw [y6n] at HA
 have HC := xhd hC
 have HK := xhd hk1
 obtain ⟨CK, hCK⟩ : ∃ q, q = c.check := ⟨_, rfl⟩
 rw [← hCK]
 have HCK := xhd hCK
 clear hn hs hl hk1 hC hCK
 go_enter Tryz.func18, Tryz.ntmps18
 go_upto_region 1 with fail
 rw [← hcb, ← hw1]
 clear hcb hw1
 by_cases h1 : 64 < c.name.length
 ·have d1 : decide ((64 : Int) < (nm.size : Int)) = true := decide_eq_true (by rw [hsz]; omega)
  have d2 : decide (64 < nm.size) = true := decide_eq_true (by rw [hsz]; exact h1)
  have HE := xhd (show CK = 3 from HCK.out.trans (if_pos h1))
  clear h1 hsz
  go_wp2_with fail
  go_ret
  exact ⟨by rw [HE.out]; rfl, HK.out⟩
 have d1 : decide ((64 : Int) < (nm.size : Int)) = false := decide_eq_false (by rw [hsz]; omega)
 have d2 : decide (64 < nm.size) = false := decide_eq_false (by rw [hsz]; exact h1)
 have H1 := xhd h1
 clear h1 hsz
 go_wp2_with fail
 refine HA.out.mono ?_
 rintro e w2 ⟨v, rfl, hown, hbel⟩
 obtain ⟨AH, cH, rfl⟩ := y04 hown
 have hk2 : Keeps y01 w1 w2 := Keeps.new hbel
 have HK2 := xhd (HK.out.trans hk2)
 have HC2 := xhd (HC.out.keeps hk2 (fun e => e))
 obtain ⟨kk, hkk⟩ : ∃ q, q = (Pure.secret c.secret).1 := ⟨_, rfl⟩
 rw [← hkk]
 have HKK := xhd hkk
 clear hown hbel hk2 hkk c1 c2 HA d1 d2 HK HC
 by_cases h0 : kk = 0
 case neg =>
  have qn : (((kk : Nat) : Int) != 0) = true := by rw [bne_iff_ne]; omega
  have HE := xhd (show CK = kk from HCK.out.trans ((if_neg H1.out).trans ((if_pos (by rw [← HKK.out]; exact h0)).trans HKK.out.symm)))
  clear h0
  go_wp2_with fail
  go_ret
  exact ⟨by rw [HE.out]; rfl, HK2.out⟩
 case pos =>
  subst h0
  have HE := xhd (show CK = if c.fine then 0 else 1 from HCK.out.trans ((if_neg H1.out).trans (if_neg (by rw [← HKK.out]; decide))))
  obtain ⟨sz, hsz⟩ : ∃ q : Int, q = (if c.bits = 40 ∨ c.bits = 56 then 8 else if c.bits = 128 then 16 else 0 : Int) := ⟨_, rfl⟩
  have HSZ := xhd (y8e c.bits w2)
  have hfine := y7s c
  rw [← hsz] at HSZ hfine
  clear hsz HKK HCK H1
  go_upto_region 6 with fail
  obtain ⟨A1, eA1⟩ : ∃ b, decide ((64 : Int) ≤ c.mru) = b := ⟨_, rfl⟩
  obtain ⟨A2, eA2⟩ : ∃ b, decide (c.mru ≤ 1500) = b := ⟨_, rfl⟩
  obtain ⟨Z1, eZ1⟩ : ∃ b, (c.mrru == 0) = b := ⟨_, rfl⟩
  obtain ⟨M1, eM1⟩ : ∃ b, decide ((64 : Int) ≤ c.mrru) = b := ⟨_, rfl⟩
  obtain ⟨M2, eM2⟩ : ∃ b, decide (c.mrru ≤ 1500) = b := ⟨_, rfl⟩
  obtain ⟨ZB, eZB⟩ : ∃ b, (c.bits == 0) = b := ⟨_, rfl⟩
  obtain ⟨T1, eT1⟩ : ∃ b, decide ((1 : Int) ≤ c.timeout) = b := ⟨_, rfl⟩
  obtain ⟨T2, eT2⟩ : ∃ b, decide (c.timeout ≤ 1000) = b := ⟨_, rfl⟩
  obtain ⟨R1, eR1⟩ : ∃ b, decide ((1 : Int) ≤ c.tries) = b := ⟨_, rfl⟩
  obtain ⟨R2, eR2⟩ : ∃ b, decide (c.tries ≤ 1000) = b := ⟨_, rfl⟩
  obtain ⟨ZF, eZF⟩ : ∃ b, (c.fragment == 0) = b := ⟨_, rfl⟩
  obtain ⟨F1, eF1⟩ : ∃ b, decide ((16 : Int) ≤ c.fragment) = b := ⟨_, rfl⟩
  obtain ⟨F2, eF2⟩ : ∃ b, decide (c.fragment ≤ 1500) = b := ⟨_, rfl⟩
  obtain ⟨MP, eMP⟩ : ∃ b, decide ((0 : Int) < c.mrru) = b := ⟨_, rfl⟩
  obtain ⟨BP, eBP⟩ : ∃ b, decide ((0 : Int) < c.bits) = b := ⟨_, rfl⟩
  obtain ⟨SZ, eSZ⟩ : ∃ b, decide ((0 : Int) < sz) = b := ⟨_, rfl⟩
  obtain ⟨m1, em1⟩ : ∃ b, c.must = b := ⟨_, rfl⟩
  obtain ⟨m2, em2⟩ : ∃ b, c.stateless = b := ⟨_, rfl⟩
  obtain ⟨m3, em3⟩ : ∃ b, c.symbol = b := ⟨_, rfl⟩
  rw [eA1, eA2, eZ1, eM1, eM2, eZB, eT1, eT2, eR1, eR2, eZF, eF1, eF2, eMP, eBP, eSZ, em1, em2, em3] at hfine
  obtain ⟨B1, hB1⟩ : ∃ b, b = (A1 && A2 && (Z1 || M1 && M2)) := ⟨_, rfl⟩
  obtain ⟨B2, hB2⟩ : ∃ b, b = (B1 && (ZB || SZ) && T1 && T2 && R1 && R2) := ⟨_, rfl⟩
  obtain ⟨B3, hB3⟩ : ∃ b, b = (B2 && (ZF || F1 && F2 && MP) && (BP || !m1 && !m2 && !m3)) := ⟨_, rfl⟩
  have HB1 := xhd hB1
  have HB2 := xhd hB2
  have HB3 := xhd hB3
  have HF := xhd (show c.fine = B3 by rw [hfine, hB3, hB2, hB1])
  clear hfine hB1 hB2 hB3
  go_cut [5] (fun s wx => s = .bool B1 ∧ w2 = wx)
  case first =>
   have c3 : w2.cell? ⟨cb, 3, none⟩ = some (.int .i64 c.mru) := by rw [HC2.out.cell]; rfl
   have c7 : w2.cell? ⟨cb, 7, none⟩ = some (.int .i64 c.mrru) := by rw [HC2.out.cell]; rfl
   clear eZB eT1 eT2 eR1 eR2 eZF eF1 eF2 eMP eBP eSZ em1 em2 em3 HSZ
   cases A1
   ·go_wp2_with fail
    go_meet
    exact ⟨by rw [HB1.out]; rfl, rfl⟩
   ·cases A2
    ·go_wp2_with fail
     go_meet
     exact ⟨by rw [HB1.out]; rfl, rfl⟩
    ·cases Z1
     ·cases M1
      ·go_wp2_with fail
       go_meet
       exact ⟨by rw [HB1.out]; rfl, rfl⟩
      ·cases M2
       ·go_wp2_with fail
        go_meet
        exact ⟨by rw [HB1.out]; rfl, rfl⟩
       ·go_wp2_with fail
        go_meet
        exact ⟨by rw [HB1.out]; rfl, rfl⟩
     ·go_wp2_with fail
      go_meet
      exact ⟨by rw [HB1.out]; rfl, rfl⟩
  case rest =>
   obtain ⟨rfl, rfl⟩ := hcut
   go_upto_region 7 with fail
   go_cut [5] (fun s wx => s = .bool B2 ∧ w2 = wx)
   case first =>
    have c9 : w2.cell? ⟨cb, 9, none⟩ = some (.int .i64 c.bits) := by rw [HC2.out.cell]; rfl
    have c15 : w2.cell? ⟨cb, 15, none⟩ = some (.int .i64 c.timeout) := by rw [HC2.out.cell]; rfl
    have c16 : w2.cell? ⟨cb, 16, none⟩ = some (.int .i64 c.tries) := by rw [HC2.out.cell]; rfl
    clear eA1 eA2 eZ1 eM1 eM2 eZF eF1 eF2 eMP eBP em1 em2 em3 HB1
    cases B1
    ·go_wp2_with fail
     go_meet
     exact ⟨by rw [HB2.out]; rfl, rfl⟩
    ·cases ZB
     ·go_wp2_with fail
      refine HSZ.out.mono ?_
      rintro e wq ⟨rfl, rfl⟩
      cases SZ
      ·go_wp2_with fail
       go_meet
       exact ⟨by rw [HB2.out]; rfl, rfl⟩
      ·cases T1
       ·go_wp2_with fail
        go_meet
        exact ⟨by rw [HB2.out]; rfl, rfl⟩
       ·cases T2
        ·go_wp2_with fail
         go_meet
         exact ⟨by rw [HB2.out]; rfl, rfl⟩
        ·cases R1
         ·go_wp2_with fail
          go_meet
          exact ⟨by rw [HB2.out]; rfl, rfl⟩
         ·cases R2
          ·go_wp2_with fail
           go_meet
           exact ⟨by rw [HB2.out]; rfl, rfl⟩
          ·go_wp2_with fail
           go_meet
           exact ⟨by rw [HB2.out]; rfl, rfl⟩
     ·cases T1
      ·go_wp2_with fail
       go_meet
       exact ⟨by rw [HB2.out]; rfl, rfl⟩
      ·cases T2
       ·go_wp2_with fail
        go_meet
        exact ⟨by rw [HB2.out]; rfl, rfl⟩
       ·cases R1
        ·go_wp2_with fail
         go_meet
         exact ⟨by rw [HB2.out]; rfl, rfl⟩
        ·cases R2
         ·go_wp2_with fail
          go_meet
          exact ⟨by rw [HB2.out]; rfl, rfl⟩
         ·go_wp2_with fail
          go_meet
          exact ⟨by rw [HB2.out]; rfl, rfl⟩
   case rest =>
    obtain ⟨rfl, rfl⟩ := hcut
    go_upto_region 8 with fail
    go_cut [5] (fun s wx => s = .bool B3 ∧ w2 = wx)
    case first =>
     have c7 : w2.cell? ⟨cb, 7, none⟩ = some (.int .i64 c.mrru) := by rw [HC2.out.cell]; rfl
     have c9 : w2.cell? ⟨cb, 9, none⟩ = some (.int .i64 c.bits) := by rw [HC2.out.cell]; rfl
     have c17 : w2.cell? ⟨cb, 17, none⟩ = some (.int .i64 c.fragment) := by rw [HC2.out.cell]; rfl
     have c10 : w2.cell? ⟨cb, 10, none⟩ = some (.bool m2) := by rw [HC2.out.cell, ← em2]; rfl
     have c13 : w2.cell? ⟨cb, 13, none⟩ = some (.bool m1) := by rw [HC2.out.cell, ← em1]; rfl
     have c14 : w2.cell? ⟨cb, 14, none⟩ = some (.bool m3) := by rw [HC2.out.cell, ← em3]; rfl
     clear eA1 eA2 eZ1 eM1 eM2 eZB eT1 eT2 eR1 eR2 eSZ em1 em2 em3 HB1 HB2 HSZ
     cases B2
     ·go_wp2_with fail
      go_meet
      exact ⟨by rw [HB3.out]; rfl, rfl⟩
     ·cases ZF
      ·cases F1
       ·go_wp2_with fail
        go_meet
        exact ⟨by rw [HB3.out]; rfl, rfl⟩
       ·cases F2
        ·go_wp2_with fail
         go_meet
         exact ⟨by rw [HB3.out]; rfl, rfl⟩
        ·cases MP
         ·go_wp2_with fail
          go_meet
          exact ⟨by rw [HB3.out]; rfl, rfl⟩
         ·cases BP
          ·cases m1
           ·cases m2
            ·cases m3
             ·go_wp2_with fail
              go_meet
              exact ⟨by rw [HB3.out]; rfl, rfl⟩
             ·go_wp2_with fail
              go_meet
              exact ⟨by rw [HB3.out]; rfl, rfl⟩
            ·go_wp2_with fail
             go_meet
             exact ⟨by rw [HB3.out]; rfl, rfl⟩
           ·go_wp2_with fail
            go_meet
            exact ⟨by rw [HB3.out]; rfl, rfl⟩
          ·go_wp2_with fail
           go_meet
           exact ⟨by rw [HB3.out]; rfl, rfl⟩
      ·cases BP
       ·cases m1
        ·cases m2
         ·cases m3
          ·go_wp2_with fail
           go_meet
           exact ⟨by rw [HB3.out]; rfl, rfl⟩
          ·go_wp2_with fail
           go_meet
           exact ⟨by rw [HB3.out]; rfl, rfl⟩
         ·go_wp2_with fail
          go_meet
          exact ⟨by rw [HB3.out]; rfl, rfl⟩
        ·go_wp2_with fail
         go_meet
         exact ⟨by rw [HB3.out]; rfl, rfl⟩
       ·go_wp2_with fail
        go_meet
        exact ⟨by rw [HB3.out]; rfl, rfl⟩
    case rest =>
     obtain ⟨rfl, rfl⟩ := hcut
     clear eA1 eA2 eZ1 eM1 eM2 eZB eT1 eT2 eR1 eR2 eZF eF1 eF2 eMP eBP eSZ em1 em2 em3 HB1 HB2 HB3 HSZ
     cases B3
     ·go_wp2_with fail
      go_ret
      exact ⟨by rw [HE.out, HF.out]; rfl, HK2.out⟩
     ·go_wp2_with fail
      go_ret
      exact ⟨by rw [HE.out, HF.out]; rfl, HK2.out⟩
end Go.Proofs.YtmgicbckgpdkcaaGreatDoor
