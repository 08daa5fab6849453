/- What chapter 14's configurations ask of one another. Nothing of the program. -/
import Derived.Test.YtmgicbckgpdkcaaGreatDoorQ28
import Derived.Test.YtmgicbckgpdkcaaGreatDoorQ27
namespace Go.Proofs.YtmgicbckgpdkcaaGreatDoor
set_option maxRecDepth 100000
set_option maxHeartbeats 4000000
open _root_.Go.Lib renaming hid → xhd
namespace Pure
theorem ask_cases {c : Cfg} {m : Nat} {o : Opt} (h : o ∈ c.ask m) : (o = (1, wide c.mru.toNat 2) ∧ c.mru ≠ 1500) ∨ (o = (2, wide c.accm 4) ∧ c.accm ≠ 4294967295) ∨ (o = (3, proofData) ∧ c.server = true) ∨ (o = (5, wide m 4) ∧ m ≠ 0) ∨ (o = (7, []) ∧ c.pfc = true) ∨ (o = (8, []) ∧ c.acfc = true) ∨ (o = (17, wide c.mrru.toNat 2) ∧ c.mrru ≠ 0) ∨ (o = (18, []) ∧ c.mrru ≠ 0 ∧ c.short = true) := by
 unfold Cfg.ask at h
 simp only [List.mem_append] at h
 rcases h with ((((((h | h) | h) | h) | h) | h) | h) | h
 ·split at h
  ·cases h
  ·rename_i hc; exact .inl ⟨List.mem_singleton.1 h, hc⟩
 ·split at h
  ·cases h
  ·rename_i hc; exact .inr (.inl ⟨List.mem_singleton.1 h, hc⟩)
 ·split at h
  ·rename_i hc; exact .inr (.inr (.inl ⟨List.mem_singleton.1 h, hc⟩))
  ·cases h
 ·split at h
  ·cases h
  ·rename_i hc; exact .inr (.inr (.inr (.inl ⟨List.mem_singleton.1 h, hc⟩)))
 ·split at h
  ·rename_i hc; exact .inr (.inr (.inr (.inr (.inl ⟨List.mem_singleton.1 h, hc⟩))))
  ·cases h
 ·split at h
  ·rename_i hc; exact .inr (.inr (.inr (.inr (.inr (.inl ⟨List.mem_singleton.1 h, hc⟩)))))
  ·cases h
 ·split at h
  ·cases h
  ·rename_i hc; exact .inr (.inr (.inr (.inr (.inr (.inr (.inl ⟨List.mem_singleton.1 h, hc⟩))))))
 ·split at h
  ·cases h
  ·rename_i hc
   split at h
   ·rename_i hs; exact .inr (.inr (.inr (.inr (.inr (.inr (.inr ⟨List.mem_singleton.1 h, hc, hs⟩))))))
   ·cases h
theorem ask_types (c : Cfg) (m : Nat) : ((c.ask m).map Prod.fst).Sublist [1, 2, 3, 5, 7, 8, 17, 18] := by
 have one : ∀ (p : Prop) [Decidable p] (o : Opt), ((if p then [] else [o]).map Prod.fst).Sublist [o.1] := fun p _ o => by
  split
  ·exact List.nil_sublist _
  ·exact List.Sublist.refl _
 have two : ∀ (p : Bool) (o : Opt), ((if p then [o] else []).map Prod.fst).Sublist [o.1] := fun p o => by
  split
  ·exact List.Sublist.refl _
  ·exact List.nil_sublist _
 have three : ((if c.mrru = 0 then [] else if c.short then [((18 : Int), ([] : List UInt8))] else []).map Prod.fst).Sublist [18] := by
  split
  ·exact List.nil_sublist _
  ·exact two _ _
 unfold Cfg.ask
 simp only [List.map_append]
 exact (((((((one _ _).append (one _ _)).append (two _ _)).append (one _ _)).append (two _ _)).append (two _ _)).append (one _ _)).append three
theorem ask_fine (c : Cfg) (m : Nat) : Fine (c.ask m) := by
 refine ⟨?_, fun o ho => ?_⟩
 ·have := (ask_types c m).length_le
  rw [List.length_map] at this
  exact Nat.le_trans this (by decide)
 ·unfold Opt.odd
  rcases ask_cases ho with ⟨rfl, _⟩ | ⟨rfl, _⟩ | ⟨rfl, _⟩ | ⟨rfl, _⟩ | ⟨rfl, _⟩ | ⟨rfl, _⟩ | ⟨rfl, _⟩ | ⟨rfl, _⟩ <;> simp [wide_length, proofData]
theorem fine_nums {c : Cfg} (h : c.fine = true) : 64 ≤ c.mru ∧ c.mru ≤ 1500 ∧ (c.mrru = 0 ∨ 64 ≤ c.mrru ∧ c.mrru ≤ 1500) := by
 unfold Cfg.fine inInfo at h
 simp only [Bool.and_eq_true, Bool.or_eq_true, decide_eq_true_eq] at h
 exact ⟨h.1.1.1.1.1.1.1, h.1.1.1.1.1.1.2, h.1.1.1.1.1.2⟩
end Pure
open Go.RowKit
abbrev cfgCells (c : Pure.Cfg) (nm sc : ByteArray) : List Value := [.bool c.server, .string nm, .string sc, .int .i64 c.mru, .bool c.pfc, .bool c.acfc, .int .u32 (c.accm : Int), .int .i64 c.mrru, .bool c.short, .int .i64 c.bits, .bool c.stateless, .bool c.mppc, .bool c.deflate, .bool c.must, .bool c.symbol, .int .i64 c.timeout, .int .i64 c.tries, .int .i64 c.fragment]
abbrev cfgV (c : Pure.Cfg) (nm sc : ByteArray) : Value := .agg (cfgCells c nm sc).toArray
theorem ask1_opt (b : Bool) (k : Int) (x : Nat) (y : Int) (hy : y = (x : Int)) (hx : x < 4294967296) (L : List Pure.Opt) (hL : L = if b then [(k, Pure.wide x (Pure.psize k))] else []) (w0 : World) (lb : Nat) (P : Nat → Prop) (v : Value) (qs : List (Value × Pure.Opt)) (w : World) (h : AVar w0 w lb P v qs) (hq : qs.length ≤ 100) (hP : ¬ P lb) :
  Calls Tryz.prog 51 #[.bool b, .int .i64 k, .int .i64 y, .pointer (some ⟨lb, 0, none⟩)] w fun e w' => e = .returned (.tuple #[]) ∧ ∃ v' qs', AVar w0 w' lb P v' qs' ∧ optsOf qs' = optsOf qs ++ L ∧ qs'.length ≤ qs.length + 1 ∧ Keeps (fun i => w0.heap.size ≤ i ∧ ¬ P i) w w' := by
 rw [hy, hL]
 exact ask1_any b k x hx w0 lb P v qs w h hq hP
theorem lask_any (c : Pure.Cfg) (nm sc : ByteArray) (hf : c.fine = true) (ha : c.accm < 4294967296) (m : Nat) (hm : m < 4294967296) (w : World) :
  Calls Tryz.prog 14 #[cfgV c nm sc, .int .u32 (m : Int)] w fun e w' => ∃ v, ∃ qs : List (Value × Pure.Opt), e = .returned v ∧ optsOf qs = c.ask m ∧ Read w w' v qs := by
 obtain ⟨cb, hcb⟩ : ∃ q, q = w.heap.size := ⟨_, rfl⟩
 obtain ⟨w1, hw1⟩ : ∃ q, q = (w.alloc (.cells (cfgCells c nm sc).toArray 25)).alloc (.cells #[.slice none 0 0] 27) := ⟨_, rfl⟩
 have hk1 : Keeps nobody w w1 := by rw [hw1]; exact ((Keeps.refl _ w).alloc _).alloc _
 have HC := xhd (show Blk w1 cb 25 (cfgCells c nm sc).toArray by rw [hw1, hcb]; exact (Blk.new w _ _).alloc _)
 have hL : Blk w1 (cb + 1) 27 #[.slice none 0 0] := by
  rw [hw1, show cb + 1 = (w.alloc (.cells (cfgCells c nm sc).toArray 25)).heap.size by rw [hcb]; simp]
  exact Blk.new _ _ _
 have HA0 := xhd (show AVar w w1 (cb + 1) (fun b => b = cb) (.slice none 0 0) [] from ⟨⟨World.ownsRow_nil _ _ _ _, fun b e => (by cases e), by simp, by omega, hL.lt, fun b e => by rw [e]; exact HC.out.lt, hk1.to_below⟩, hL⟩)
 have HF := xhd hf
 have HAC := xhd ha
 obtain ⟨hmr, hmr2, hrr⟩ := Pure.fine_nums hf
 have emru : c.mru = ((c.mru.toNat : Nat) : Int) := by omega
 have hmru : c.mru.toNat < 4294967296 := by omega
 have emrru : c.mrru = ((c.mrru.toNat : Nat) : Int) := by omega
 have hmrru : c.mrru.toNat < 4294967296 := by omega
 have HM1 := xhd emru
 have HM2 := xhd emrru
 have HM3 := xhd hmru
 have HM4 := xhd hmrru
 have HNL := xhd (show ¬ cb + 1 = cb by omega)
 have HMM := xhd hm
 have eA : wrap64 (c.accm : Int) = (c.accm : Int) := IntWalk.wrap64_in _ (by omega)
 have eM : wrap64 (m : Int) = (m : Int) := IntWalk.wrap64_in _ (by omega)
 clear hk1 hL hf ha hmr hmr2 hrr emru hmru emrru hmrru hm
 have HL1 := xhd (show (if c.mru = 1500 then [] else [(1, Pure.wide c.mru.toNat 2)]) = if (c.mru != 1500) then [((1 : Int), Pure.wide c.mru.toNat (Pure.psize 1))] else [] from by by_cases h : c.mru = 1500 <;> simp [h, Pure.psize])
 have HQ1 := xhd (fun (v : Value) (qs : List (Value × Pure.Opt)) (W : World) (h : AVar w W (cb + 1) (fun b => b = cb) v qs) (hq : qs.length ≤ 100) => ask1_opt (c.mru != 1500) 1 (c.mru.toNat) (c.mru) (HM1.out) (HM3.out) (if c.mru = 1500 then [] else [(1, Pure.wide c.mru.toNat 2)]) HL1.out w (cb + 1) (fun b => b = cb) v qs W h hq HNL.out)
 have HL2 := xhd (show (if c.accm = 4294967295 then [] else [(2, Pure.wide c.accm 4)]) = if ((c.accm : Int) != 4294967295) then [((2 : Int), Pure.wide c.accm (Pure.psize 2))] else [] from by
  by_cases h : c.accm = 4294967295
  ·simp [h]
  ·have : (((c.accm : Int) != 4294967295)) = true := by rw [bne_iff_ne]; omega
   rw [this]; simp [h, Pure.psize])
 have HQ2 := xhd (fun (v : Value) (qs : List (Value × Pure.Opt)) (W : World) (h : AVar w W (cb + 1) (fun b => b = cb) v qs) (hq : qs.length ≤ 100) => ask1_opt ((c.accm : Int) != 4294967295) 2 (c.accm) ((c.accm : Int)) (rfl) (HAC.out) (if c.accm = 4294967295 then [] else [(2, Pure.wide c.accm 4)]) HL2.out w (cb + 1) (fun b => b = cb) v qs W h hq HNL.out)
 have HL3 := xhd (show (if c.server then [(3, Pure.proofData)] else []) = if c.server then [((3 : Int), Pure.wide 12723073 (Pure.psize 3))] else [] from by cases c.server <;> simp [Pure.psize, Pure.proofData, Pure.wide] <;> decide)
 have HQ3 := xhd (fun (v : Value) (qs : List (Value × Pure.Opt)) (W : World) (h : AVar w W (cb + 1) (fun b => b = cb) v qs) (hq : qs.length ≤ 100) => ask1_opt c.server 3 (12723073) (12723073) (rfl) ((by decide)) (if c.server then [(3, Pure.proofData)] else []) HL3.out w (cb + 1) (fun b => b = cb) v qs W h hq HNL.out)
 have HL4 := xhd (show (if m = 0 then [] else [(5, Pure.wide m 4)]) = if ((m : Int) != 0) then [((5 : Int), Pure.wide m (Pure.psize 5))] else [] from by
  by_cases h : m = 0
  ·simp [h]
  ·have : (((m : Int) != 0)) = true := by rw [bne_iff_ne]; omega
   rw [this]; simp [h, Pure.psize])
 have HQ4 := xhd (fun (v : Value) (qs : List (Value × Pure.Opt)) (W : World) (h : AVar w W (cb + 1) (fun b => b = cb) v qs) (hq : qs.length ≤ 100) => ask1_opt ((m : Int) != 0) 5 (m) ((m : Int)) (rfl) (HMM.out) (if m = 0 then [] else [(5, Pure.wide m 4)]) HL4.out w (cb + 1) (fun b => b = cb) v qs W h hq HNL.out)
 have HL5 := xhd (show (if c.pfc then [(7, [])] else []) = if c.pfc then [((7 : Int), Pure.wide 0 (Pure.psize 7))] else [] from by cases c.pfc <;> simp [Pure.psize, Pure.wide])
 have HQ5 := xhd (fun (v : Value) (qs : List (Value × Pure.Opt)) (W : World) (h : AVar w W (cb + 1) (fun b => b = cb) v qs) (hq : qs.length ≤ 100) => ask1_opt c.pfc 7 (0) (0) (rfl) ((by decide)) (if c.pfc then [(7, [])] else []) HL5.out w (cb + 1) (fun b => b = cb) v qs W h hq HNL.out)
 have HL6 := xhd (show (if c.acfc then [(8, [])] else []) = if c.acfc then [((8 : Int), Pure.wide 0 (Pure.psize 8))] else [] from by cases c.acfc <;> simp [Pure.psize, Pure.wide])
 have HQ6 := xhd (fun (v : Value) (qs : List (Value × Pure.Opt)) (W : World) (h : AVar w W (cb + 1) (fun b => b = cb) v qs) (hq : qs.length ≤ 100) => ask1_opt c.acfc 8 (0) (0) (rfl) ((by decide)) (if c.acfc then [(8, [])] else []) HL6.out w (cb + 1) (fun b => b = cb) v qs W h hq HNL.out)
 have HL7 := xhd (show (if c.mrru = 0 then [] else [(17, Pure.wide c.mrru.toNat 2)]) = if (c.mrru != 0) then [((17 : Int), Pure.wide c.mrru.toNat (Pure.psize 17))] else [] from by by_cases h : c.mrru = 0 <;> simp [h, Pure.psize])
 have HQ7 := xhd (fun (v : Value) (qs : List (Value × Pure.Opt)) (W : World) (h : AVar w W (cb + 1) (fun b => b = cb) v qs) (hq : qs.length ≤ 100) => ask1_opt (c.mrru != 0) 17 (c.mrru.toNat) (c.mrru) (HM2.out) (HM4.out) (if c.mrru = 0 then [] else [(17, Pure.wide c.mrru.toNat 2)]) HL7.out w (cb + 1) (fun b => b = cb) v qs W h hq HNL.out)
 have HL8 := xhd (show (if c.mrru = 0 then [] else if c.short then [(18, [])] else []) = if (c.short && (c.mrru != 0)) then [((18 : Int), Pure.wide 0 (Pure.psize 18))] else [] from by by_cases h : c.mrru = 0 <;> cases hs : c.short <;> simp [h, Pure.psize, Pure.wide])
 have HQ8 := xhd (fun (B : Bool) (v : Value) (qs : List (Value × Pure.Opt)) (W : World) (h : AVar w W (cb + 1) (fun b => b = cb) v qs) (hq : qs.length ≤ 100) => ask1_any B 18 0 (by decide) w (cb + 1) (fun b => b = cb) v qs W h hq HNL.out)
 go_enter Tryz.func14, Tryz.ntmps14
 go_upto_region 3 with fail
 rw [← hcb, ← hw1]
 clear hw1 hcb
 have c3 : w1.cell? ⟨cb, 3, none⟩ = some (.int .i64 c.mru) := by rw [HC.out.cell]; rfl
 have hq1 := HQ1.out _ _ w1 HA0.out (by simp)
 go_wp2_with fail
 refine hq1.mono ?_
 rintro e w2 ⟨rfl, v1, q1, ha1, he1, hn1, hk1⟩
 have HA1 := xhd ha1
 have HE1 := xhd he1
 have HN1 := xhd (show q1.length ≤ 1 from (by simpa using hn1))
 have HC1 := xhd (HC.out.keeps hk1 (fun e => e.2 rfl))
 clear ha1 he1 hn1 hk1 hq1 c3
 have c6 : w2.cell? ⟨cb, 6, none⟩ = some (.int .u32 (c.accm : Int)) := by rw [HC1.out.cell]; rfl
 have hq2 := HQ2.out _ _ w2 HA1.out (by have := HN1.out; omega)
 go_wp2_with fail
 refine hq2.mono ?_
 rintro e w3 ⟨rfl, v2, q2, ha2, he2, hn2, hk2⟩
 have HA2 := xhd ha2
 have HE2 := xhd he2
 have HN2 := xhd (show q2.length ≤ 2 from (by have := HN1.out; omega))
 have HC2 := xhd (HC1.out.keeps hk2 (fun e => e.2 rfl))
 clear ha2 he2 hn2 hk2 hq2 c6
 have c0 : w3.cell? ⟨cb, 0, none⟩ = some (.bool c.server) := by rw [HC2.out.cell]; rfl
 have hq3 := HQ3.out _ _ w3 HA2.out (by have := HN2.out; omega)
 go_wp2_with fail
 refine hq3.mono ?_
 rintro e w4 ⟨rfl, v3, q3, ha3, he3, hn3, hk3⟩
 have HA3 := xhd ha3
 have HE3 := xhd he3
 have HN3 := xhd (show q3.length ≤ 3 from (by have := HN2.out; omega))
 have HC3 := xhd (HC2.out.keeps hk3 (fun e => e.2 rfl))
 clear ha3 he3 hn3 hk3 hq3 c0
 have hq4 := HQ4.out _ _ w4 HA3.out (by have := HN3.out; omega)
 go_wp2_with fail
 refine hq4.mono ?_
 rintro e w5 ⟨rfl, v4, q4, ha4, he4, hn4, hk4⟩
 have HA4 := xhd ha4
 have HE4 := xhd he4
 have HN4 := xhd (show q4.length ≤ 4 from (by have := HN3.out; omega))
 have HC4 := xhd (HC3.out.keeps hk4 (fun e => e.2 rfl))
 clear ha4 he4 hn4 hk4 hq4
 have c4 : w5.cell? ⟨cb, 4, none⟩ = some (.bool c.pfc) := by rw [HC4.out.cell]; rfl
 have hq5 := HQ5.out _ _ w5 HA4.out (by have := HN4.out; omega)
 go_wp2_with fail
 refine hq5.mono ?_
 rintro e w6 ⟨rfl, v5, q5, ha5, he5, hn5, hk5⟩
 have HA5 := xhd ha5
 have HE5 := xhd he5
 have HN5 := xhd (show q5.length ≤ 5 from (by have := HN4.out; omega))
 have HC5 := xhd (HC4.out.keeps hk5 (fun e => e.2 rfl))
 clear ha5 he5 hn5 hk5 hq5 c4
 have c5 : w6.cell? ⟨cb, 5, none⟩ = some (.bool c.acfc) := by rw [HC5.out.cell]; rfl
 have hq6 := HQ6.out _ _ w6 HA5.out (by have := HN5.out; omega)
 go_wp2_with fail
 refine hq6.mono ?_
 rintro e w7 ⟨rfl, v6, q6, ha6, he6, hn6, hk6⟩
 have HA6 := xhd ha6
 have HE6 := xhd he6
 have HN6 := xhd (show q6.length ≤ 6 from (by have := HN5.out; omega))
 have HC6 := xhd (HC5.out.keeps hk6 (fun e => e.2 rfl))
 clear ha6 he6 hn6 hk6 hq6 c5
 have c7 : w7.cell? ⟨cb, 7, none⟩ = some (.int .i64 c.mrru) := by rw [HC6.out.cell]; rfl
 have hq7 := HQ7.out _ _ w7 HA6.out (by have := HN6.out; omega)
 go_wp2_with fail
 refine hq7.mono ?_
 rintro e w8 ⟨rfl, v7, q7, ha7, he7, hn7, hk7⟩
 have HA7 := xhd ha7
 have HE7 := xhd he7
 have HN7 := xhd (show q7.length ≤ 7 from (by have := HN6.out; omega))
 have HC7 := xhd (HC6.out.keeps hk7 (fun e => e.2 rfl))
 clear ha7 he7 hn7 hk7 hq7 c7
 have c8 : w8.cell? ⟨cb, 8, none⟩ = some (.bool c.short) := by rw [HC7.out.cell]; rfl
 have c7 : w8.cell? ⟨cb, 7, none⟩ = some (.int .i64 c.mrru) := by rw [HC7.out.cell]; rfl
 have hlast : ∀ B, (c.short && (c.mrru != 0)) = B → Calls Tryz.prog 51 #[.bool B, .int .i64 18, .int .i64 0, .pointer (some ⟨cb + 1, 0, none⟩)] w8 fun e w' => e = .returned (.tuple #[]) ∧ ∃ v' qs', AVar w w' (cb + 1) (fun b => b = cb) v' qs' ∧ optsOf qs' = optsOf q7 ++ (if c.mrru = 0 then [] else if c.short then [(18, [])] else []) ∧ qs'.length ≤ q7.length + 1 ∧ Keeps (fun i => w.heap.size ≤ i ∧ ¬ i = cb) w8 w' := fun B hB => by
  rw [HL8.out, hB]
  exact HQ8.out B _ _ w8 HA7.out (by have := HN7.out; omega)
 have hLast := xhd hlast
 clear hlast
 have HFIN := xhd (show ∀ q : List (Value × Pure.Opt), optsOf q = optsOf q7 ++ (if c.mrru = 0 then [] else if c.short then [(18, [])] else []) → optsOf q = c.ask m from fun q hq => by
  rw [hq, HE7.out, HE6.out, HE5.out, HE4.out, HE3.out, HE2.out, HE1.out]
  unfold Pure.Cfg.ask
  simp only [List.append_assoc, List.nil_append, List.map_nil, optsOf])
 clear HQ1 HQ2 HQ3 HQ4 HQ5 HQ6 HQ7 HL1 HL2 HL3 HL4 HL5 HL6 HL7
 by_cases hs : c.short = true
 ·rw [hs] at c8
  have h8 := hLast.out (c.mrru != 0) (by rw [hs]; rfl)
  go_wp2_with fail
  refine h8.mono ?_
  rintro e w9 ⟨rfl, v8, q8, ha8, he8, hn8, hk8⟩
  have HR := xhd ha8.row.read
  have HE8 := xhd (HFIN.out q8 he8)
  obtain ⟨A8, c88, rfl⟩ := own_form ha8.row.own
  have l0 : w9.cell? ⟨cb + 1, 0, none⟩ = some (.slice A8 q8.length c88) := by rw [ha8.blk.cell]; rfl
  clear ha8 he8 hn8 hk8 h8
  go_wp2_with fail
  go_ret
  exact ⟨_, q8, rfl, HE8.out, HR.out⟩
 ·have hs : c.short = false := by cases h : c.short; rfl; exact absurd h hs
  rw [hs] at c8
  have h8 := hLast.out false (by rw [hs]; rfl)
  go_wp2_with fail
  refine h8.mono ?_
  rintro e w9 ⟨rfl, v8, q8, ha8, he8, hn8, hk8⟩
  have HR := xhd ha8.row.read
  have HE8 := xhd (HFIN.out q8 he8)
  obtain ⟨A8, c88, rfl⟩ := own_form ha8.row.own
  have l0 : w9.cell? ⟨cb + 1, 0, none⟩ = some (.slice A8 q8.length c88) := by rw [ha8.blk.cell]; rfl
  clear ha8 he8 hn8 hk8 h8
  go_wp2_with fail
  go_ret
  exact ⟨_, q8, rfl, HE8.out, HR.out⟩
end Go.Proofs.YtmgicbckgpdkcaaGreatDoor
