/- A configuration's own options: what they say, and how rules that want a proof judge them. -/
import Derived.Test.YtmgicbckgpdkcaaGreatDoorK26
namespace Go.Proofs.YtmgicbckgpdkcaaGreatDoor
set_option maxRecDepth 100000
set_option maxHeartbeats 16000000
open _root_.Go.Lib renaming hid → xhd
namespace Pure
def Cfg.plain (c : Cfg) : Cfg := { c with server := false }
theorem y6x {x : Nat} (h : x ≤ 1500) : bnum (wide x 2) = x := y3e (by omega)
theorem y4u {x : Nat} (h : x < 4294967296) : bnum (wide x 4) = x := y3e (by omega)
theorem read_1 (v : Vals) (p : Prop) [Decidable p] (x : Nat) (hx : x ≤ 1500) (hv : p → v.mru = x) : List.foldl readOne v (if p then [] else [(1, wide x 2)]) = { v with mru := x } := by
 by_cases h : p
 ·rw [if_pos h, ← hv h]; rfl
 ·rw [if_neg h]
  show readOne v (1, wide x 2) = _
  unfold readOne
  rw [if_pos ⟨rfl, wide_length x 2⟩]
  simp only [y6x hx]
theorem read_2 (v : Vals) (p : Prop) [Decidable p] (x : Nat) (hx : x < 4294967296) (hv : p → v.accm = x) : List.foldl readOne v (if p then [] else [(2, wide x 4)]) = { v with accm := x } := by
 by_cases h : p
 ·rw [if_pos h, ← hv h]; rfl
 ·rw [if_neg h]
  show readOne v (2, wide x 4) = _
  unfold readOne
  rw [if_neg (by simp), if_pos ⟨rfl, wide_length x 4⟩]
  simp only [y4u hx]
theorem read_3 (v : Vals) (b : Bool) (hv : b = false → v.auth = b) : List.foldl readOne v (if b then [(3, proofData)] else []) = { v with auth := b } := by
 cases b
 ·have := hv rfl
  show v = _
  rw [← this]
 ·rfl
theorem read_5 (v : Vals) (p : Prop) [Decidable p] (x : Nat) (hx : x < 4294967296) (hv : p → v.magic = x) : List.foldl readOne v (if p then [] else [(5, wide x 4)]) = { v with magic := x } := by
 by_cases h : p
 ·rw [if_pos h, ← hv h]; rfl
 ·rw [if_neg h]
  show readOne v (5, wide x 4) = _
  unfold readOne
  rw [if_neg (by simp), if_neg (by simp), if_neg (by simp), if_pos ⟨rfl, wide_length x 4⟩]
  simp only [y4u hx]
theorem read_7 (v : Vals) (b : Bool) (hv : b = false → v.pfc = b) : List.foldl readOne v (if b then [(7, [])] else []) = { v with pfc := b } := by
 cases b
 ·have := hv rfl
  show v = _
  rw [← this]
 ·rfl
theorem read_8 (v : Vals) (b : Bool) (hv : b = false → v.acfc = b) : List.foldl readOne v (if b then [(8, [])] else []) = { v with acfc := b } := by
 cases b
 ·have := hv rfl
  show v = _
  rw [← this]
 ·rfl
theorem read_17 (v : Vals) (p : Prop) [Decidable p] (x : Nat) (hx : x ≤ 1500) (hv : p → v.mrru = x) : List.foldl readOne v (if p then [] else [(17, wide x 2)]) = { v with mrru := x } := by
 by_cases h : p
 ·rw [if_pos h, ← hv h]; rfl
 ·rw [if_neg h]
  show readOne v (17, wide x 2) = _
  unfold readOne
  rw [if_neg (by simp), if_neg (by simp), if_neg (by simp), if_neg (by simp), if_neg (by simp), if_neg (by simp), if_pos ⟨rfl, wide_length x 2⟩]
  simp only [y6x hx]
theorem read_18 (v : Vals) (p : Prop) [Decidable p] (b : Bool) (hv : v.short = false) : List.foldl readOne v (if p then [] else if b then [(18, [])] else []) = { v with short := b && !decide p } := by
 by_cases h : p
 ·rw [if_pos h, decide_eq_true h, Bool.not_true, Bool.and_false, ← hv]; rfl
 ·rw [if_neg h, decide_eq_false h, Bool.not_false, Bool.and_true]
  cases b
  ·show v = _
   rw [← hv]
  ·rfl
theorem reads_ask {c : Cfg} (h : c.fine = true) (ha : c.accm < 4294967296) {m : Nat} (hm : m < 4294967296) :
  readVals (c.ask m) = ⟨c.mru.toNat, c.mrru.toNat, c.accm, c.server, c.pfc, c.acfc, c.short && !decide (c.mrru = 0), m⟩ := by
 obtain ⟨h1, h2, h3⟩ := fine_nums h
 unfold readVals Cfg.ask
 simp only [List.foldl_append]
 rw [read_1 _ _ _ (by omega) (fun e => by rw [e]; rfl), read_2 _ _ _ ha (fun e => e.symm), read_3 _ _ (fun e => e.symm), read_5 _ _ _ hm (fun e => e.symm), read_7 _ _ (fun e => e.symm), read_8 _ _ (fun e => e.symm), read_17 _ _ _ (by omega) (fun e => by rw [e]; rfl), read_18 _ _ _ rfl]
theorem ya1 {c : Cfg} {m : Nat} {o : Opt} (h : o ∈ c.ask m) : c.plain.knows o = true := by
 unfold Cfg.knows
 rcases y2j h with ⟨rfl, _⟩ | ⟨rfl, _⟩ | ⟨rfl, _⟩ | ⟨rfl, _⟩ | ⟨rfl, hc⟩ | ⟨rfl, hc⟩ | ⟨rfl, hc⟩ | ⟨rfl, hc⟩
 ·rw [rule_1]; rfl
 ·rw [rule_2]; rfl
 ·rw [rule_3]; rfl
 ·rw [rule_5]; rfl
 ·rw [rule_7, show c.plain.pfc = true from hc]; rfl
 ·rw [rule_8, show c.plain.acfc = true from hc]; rfl
 ·rw [rule_17, if_neg (show ¬ c.plain.mrru = 0 from hc)]; rfl
 ·rw [rule_18, if_neg (show ¬ c.plain.mrru = 0 from hc.1)]; rfl
theorem y48 {c : Cfg} {m : Nat} : ((c.ask m).filter fun o => !c.plain.knows o) = [] := by
 rw [List.filter_eq_nil_iff]
 intro o ho
 rw [ya1 ho]
 simp
theorem y3g {l : List Opt} {a b f : Rule} {o : Opt} {more : List Rule} (ha : a.need = false) (hb : b.need = false) (hm : ∀ r ∈ more, r.need = false) (hl : hasType l f.type = false) (hf : f.need = true) (hr : ruleOf (a :: b :: f :: more) f.type = some f) (ho : f.offers [] = some o) :
  ∀ k, needTo (a :: b :: f :: more) l [] (k + 3) = [o]
 | 0 => by
  have h1 : needTo (a :: b :: f :: more) l [] 1 = [] := by
   unfold needTo
   simp only [List.getElem?_cons_zero]
   rw [if_pos (.inl ha)]
   rfl
  have h2 : needTo (a :: b :: f :: more) l [] 2 = [] := by
   unfold needTo
   simp only [List.getElem?_cons_succ, List.getElem?_cons_zero]
   rw [if_pos (.inl hb)]
   exact h1
  unfold needTo
  simp only [List.getElem?_cons_succ, List.getElem?_cons_zero]
  rw [h2, if_neg (show ¬ (f.need = false ∨ hasType l f.type = true ∨ hasType [] f.type = true) by rw [hf, hl]; simp [hasType]), hr]
  simp only
  rw [if_neg (by simp [hf]), ho]
  rfl
 | k + 1 => by
  have ih := y3g ha hb hm hl hf hr ho k
  rw [show k + 1 + 3 = (k + 3) + 1 by omega]
  unfold needTo
  cases hk : (a :: b :: f :: more)[k + 3]? with
  | none => exact ih
  | some r =>
   dsimp only
   have hr' : r ∈ more := by
    rw [show k + 3 = k + 1 + 1 + 1 by omega, List.getElem?_cons_succ, List.getElem?_cons_succ, List.getElem?_cons_succ] at hk
    exact List.mem_of_getElem? hk
   rw [if_pos (.inl (hm r hr'))]
   exact ih
theorem judge_plain {c : Cfg} (h : c.fine = true) (m : Nat) : judge c.plain.rules (c.ask m) false = if c.server then (2, c.ask m) else (3, [(3, proofData)]) := by
 have hv := verdict_by (rejects := false) (ask_apart c m) (ask_known h c.plain m)
 cases hs : c.server
 ·unfold judge
  rw [y30 c.plain.knows hv, List.take_length, y48, if_neg (by simp)]
  have hno : hasType (c.ask m) 3 = false := by
   unfold hasType
   rw [List.any_eq_false]
   intro o ho he
   rcases y2j ho with ⟨rfl, _⟩ | ⟨rfl, _⟩ | ⟨rfl, hc⟩ | ⟨rfl, _⟩ | ⟨rfl, hc⟩ | ⟨rfl, hc⟩ | ⟨rfl, hc⟩ | ⟨rfl, hc⟩
   ·simp at he
   ·simp at he
   ·rw [hs] at hc; cases hc
   ·simp at he
   ·simp at he
   ·simp at he
   ·simp at he
   ·simp at he
  obtain ⟨more, hmore⟩ : ∃ more, more = [passOf 5 4] ++ (if c.pfc then [passOf 7 0] else []) ++ (if c.acfc then [passOf 8 0] else []) ++ (if c.mrru = 0 then [] else [rangeOf 17, passOf 18 0]) := ⟨_, rfl⟩
  have hrules : c.plain.rules = rangeOf 1 :: passOf 2 4 :: proofRule :: more := by
   rw [hmore]
   unfold Cfg.rules
   show [rangeOf 1, passOf 2 4] ++ [proofRule] ++ [passOf 5 4] ++ (if c.pfc then [passOf 7 0] else []) ++ (if c.acfc then [passOf 8 0] else []) ++ (if c.mrru = 0 then [] else [rangeOf 17, passOf 18 0]) = _
   simp
  have hmn : ∀ r ∈ more, r.need = false := by
   rw [hmore]
   intro r hr
   simp only [List.mem_append, List.mem_cons, List.not_mem_nil, or_false] at hr
   rcases hr with ((hr | hr) | hr) | hr
   ·rw [hr]; rfl
   ·split at hr
    ·rw [List.mem_singleton.1 hr]; rfl
    ·cases hr
   ·split at hr
    ·rw [List.mem_singleton.1 hr]; rfl
    ·cases hr
   ·split at hr
    ·cases hr
    ·simp only [List.mem_cons, List.not_mem_nil, or_false] at hr
     rcases hr with rfl | rfl <;> rfl
  have hn := y3g (l := c.ask m) (a := rangeOf 1) (b := passOf 2 4) (f := proofRule) (o := (3, proofData)) (more := more) rfl rfl hmn hno rfl (by unfold ruleOf; rfl) rfl more.length
  have hlen : c.plain.rules.length = more.length + 3 := by rw [hrules]; simp
  simp only [Bool.false_eq_true, if_false]
  rw [hlen, hrules, hn]
  simp
 ·have hk := judge_by c.plain.knows hv (fun _ r hr hn => by
   obtain ⟨rfl, _⟩ := rules_need hr hn
   refine y8l (o := (3, proofData)) ?_ rfl
   unfold Cfg.ask
   simp [hs])
  rw [hk, if_pos y48]
  rfl
end Pure
open Go.RowKit
theorem reads_few {qs : List (Value × Pure.Opt)} (h : Pure.Fine (y02 qs)) : FewOpts qs := ⟨by have := h.len; simp at this; omega, fun p hp => by
 have := h.odd p.2 (List.mem_map.2 ⟨p, hp, rfl⟩)
 unfold Pure.Opt.odd at this
 omega⟩
theorem ya4 (c : Pure.Cfg) {us : List (Value × Pure.Rule)} (h : y09 us = c.rules) : ∀ p ∈ us, p.2.want.length ≤ 1000 := fun p hp => by
 have h1 : p.2 ∈ c.rules := by rw [← h]; exact List.mem_map.2 ⟨p, hp, rfl⟩
 unfold Pure.Cfg.rules at h1
 simp only [List.mem_append, List.mem_cons, List.not_mem_nil, or_false] at h1
 rcases h1 with ((((h1 | h1) | h1) | h1) | h1) | h1
 ·rcases h1 with h1 | h1 <;> rw [h1] <;> simp [Pure.rangeOf, Pure.passOf]
 ·split at h1
  ·cases h1
  ·rw [List.mem_singleton.1 h1]; decide
 ·rw [h1]; simp [Pure.passOf]
 ·split at h1
  ·rw [List.mem_singleton.1 h1]; simp [Pure.passOf]
  ·cases h1
 ·split at h1
  ·rw [List.mem_singleton.1 h1]; simp [Pure.passOf]
  ·cases h1
 ·split at h1
  ·cases h1
  ·simp only [List.mem_cons, List.not_mem_nil, or_false] at h1
   rcases h1 with h1 | h1 <;> rw [h1] <;> simp [Pure.rangeOf, Pure.passOf]
theorem Read.under {w0 w : World} {v : Value} {ps : List (Value × Pure.Opt)} (h : Read w0 w v ps) : ORow w (fun b => b < w.heap.size) v ps :=
 ⟨(Row.of_own h.own).mono (fun b hb => y0k h.own b hb), fun p hp => (h.rows p hp).mono (fun _ hb => hb.2.2)⟩
theorem vals_made {c : Pure.Cfg} {s : Bool} (h : MadeIs c s 4) {m : Nat} (hm : m < 4294967296) :
  y0u (Pure.readVals (c.ask m)) = .agg #[.int .i64 c.mru, .int .i64 c.mrru, .int .u32 (c.accm : Int), .bool c.server, .bool c.pfc, .bool c.acfc, .bool c.short, .int .u32 (m : Int)] := by
 rw [Pure.reads_ask (h.fine (by decide)) h.accm4 hm]
 have e1 : ((c.mru.toNat : Nat) : Int) = c.mru := by rcases h.mru with e | e <;> rw [e] <;> rfl
 have e2 : ((c.mrru.toNat : Nat) : Int) = c.mrru := by rcases h.mrru with e | e <;> rw [e.1] <;> rfl
 have e3 : (c.short && !decide (c.mrru = 0)) = c.short := by
  rcases h.mrru with e | e
  ·rw [e.2.1]; rfl
  ·rw [e.1]; simp
 show Value.agg #[.int .i64 ((c.mru.toNat : Nat) : Int), .int .i64 ((c.mrru.toNat : Nat) : Int), .int .u32 (c.accm : Int), .bool c.server, .bool c.pfc, .bool c.acfc, .bool (c.short && !decide (c.mrru = 0)), .int .u32 (m : Int)] = _
 rw [e1, e2, e3]
theorem one_opt {qs : List (Value × Pure.Opt)} {o : Pure.Opt} (h : y02 qs = [o]) : ∃ v, qs = [(v, o)] := by
 match qs, h with
 | [(a, p)], h =>
  injection h with h _
  exact ⟨a, by rw [← h]⟩
theorem ya3 (n : Int) (m : Nat) (hm : m < 4294967296) (w : World) (E : Env w) : Calls Tryz.prog 10 #[.int .i64 n, .int .u32 (m : Int)] w fun e w' => e = .returned (.bool true) ∧ Keeps y01 w w' := by
 have HAW := xhd (lawake_any w E)
 clear E
 go_enter Tryz.func10, Tryz.ntmps10
 go_wp2_with fail
 refine HAW.out.mono ?_
 rintro e w1 ⟨rfl, hk1⟩
 have HK1 := xhd hk1
 have HM := xhd (madeC_any n 3 w1)
 clear hk1 HAW
 go_wp2_with fail
 refine HM.out.mono ?_
 rintro e w2 ⟨c, rfl, hc, hk2⟩
 have HC := xhd (show MadeIs c (n % 2 == 1) 4 from hc)
 have HK2 := xhd (HK1.out.trans hk2)
 clear hc hk2 HM HK1
 go_upto_region 4 with fail
 obtain ⟨cb, hcb⟩ : ∃ q, q = w2.heap.size := ⟨_, rfl⟩
 generalize hw3 : w2.alloc _ = w3
 rw [← hcb]
 have HB3 := xhd (show Blk w3 cb 25 (y0g c nmN scS).toArray by rw [← hw3, hcb]; exact Blk.new w2 _ _)
 have HK3 := xhd (show Keeps y01 w w3 by rw [← hw3]; exact HK2.out.alloc _)
 clear hcb hw3 HK2
 have HI := xhd y19
 have HF := xhd (HC.out.fine (by decide))
 have HAS := xhd (lask_any c nmN scS HF.out HC.out.accm4 m hm w3)
 refine wp_region_list ?_
 refine wpList_load_mid rfl 25 (.tmp 5) rfl cb 0 rfl (y0g c nmN scS) _ (fun j v hv => by rw [Nat.zero_add, HB3.out.cell, List.getElem?_toArray]; exact hv) Tryz.underlying25 rfl HI.out ?_
 go_wp2_with fail
 refine HAS.out.mono ?_
 rintro e w5 ⟨v5, qs, rfl, hq, hr⟩
 obtain ⟨A5, c5, rfl⟩ := y07 hr.own
 have HQ := xhd hq
 have HB5 := xhd (HB3.out.keeps (Keeps.new hr.below) (fun e => e))
 have HK5 := xhd (HK3.out.trans (Keeps.new hr.below))
 have HR5 := xhd hr.under
 have HRD := xhd (lread_any _ _ _ w5 hr.under)
 rw [hq, vals_made HC.out hm] at HRD
 clear hq hr HAS HB3 HK3
 go_wp2_with fail
 refine HRD.out.mono ?_
 rintro e w6 ⟨rfl, hk6⟩
 clear HRD
 go_upto_region 6 with fail
 obtain ⟨vb, hvb⟩ : ∃ q, q = w6.heap.size := ⟨_, rfl⟩
 generalize hw7 : w6.alloc _ = w7
 rw [← hvb]
 have hk7 : Keeps y01 w5 w7 := by rw [← hw7]; exact hk6.alloc _
 have HV7 := xhd (show Blk w7 vb 39 #[.int .i64 c.mru, .int .i64 c.mrru, .int .u32 (c.accm : Int), .bool c.server, .bool c.pfc, .bool c.acfc, .bool c.short, .int .u32 (m : Int)] by rw [← hw7, hvb]; exact Blk.new w6 _ _)
 have HB7 := xhd (HB5.out.keeps hk7 (fun e => e))
 have HK7 := xhd (HK5.out.trans hk7)
 have HR7 := xhd (HR5.out.keeps hk7 (fun _ _ e => e))
 have HS7 := xhd hk7.size
 clear hvb hw7 hk6 hk7 HB5 HK5 HR5
 go_cut [8] (fun s wx => s = .bool c.short ∧ w7 = wx)
 case first =>
  have c8 : w7.cell? ⟨cb, 8, none⟩ = some (.bool c.short) := by rw [HB7.out.cell]; rfl
  have c7 : w7.cell? ⟨cb, 7, none⟩ = some (.int .i64 c.mrru) := by rw [HB7.out.cell]; rfl
  cases hsh : c.short
  ·rw [hsh] at c8
   go_wp2_with fail
   go_meet
   exact ⟨by rw [hsh], rfl⟩
  ·rw [hsh] at c8
   have e7 : c.mrru = 1500 := by
    rcases HC.out.mrru with e | e
    ·rw [e.2.1] at hsh; cases hsh
    ·exact e.1
   rw [e7] at c7
   go_wp2_with fail
   go_meet
   exact ⟨by rw [hsh], rfl⟩
 case rest =>
  obtain ⟨rfl, rfl⟩ := hcut
  have a0 : w7.cell? ⟨vb, 0, none⟩ = some (.int .i64 c.mru) := by rw [HV7.out.cell]; rfl
  have a1 : w7.cell? ⟨vb, 1, none⟩ = some (.int .i64 c.mrru) := by rw [HV7.out.cell]; rfl
  have a2 : w7.cell? ⟨vb, 2, none⟩ = some (.int .u32 (c.accm : Int)) := by rw [HV7.out.cell]; rfl
  have a3 : w7.cell? ⟨vb, 3, none⟩ = some (.bool c.server) := by rw [HV7.out.cell]; rfl
  have a4 : w7.cell? ⟨vb, 4, none⟩ = some (.bool c.pfc) := by rw [HV7.out.cell]; rfl
  have a5 : w7.cell? ⟨vb, 5, none⟩ = some (.bool c.acfc) := by rw [HV7.out.cell]; rfl
  have a6 : w7.cell? ⟨vb, 6, none⟩ = some (.bool c.short) := by rw [HV7.out.cell]; rfl
  have a7 : w7.cell? ⟨vb, 7, none⟩ = some (.int .u32 (m : Int)) := by rw [HV7.out.cell]; rfl
  have b0 : w7.cell? ⟨cb, 0, none⟩ = some (.bool c.server) := by rw [HB7.out.cell]; rfl
  have b3 : w7.cell? ⟨cb, 3, none⟩ = some (.int .i64 c.mru) := by rw [HB7.out.cell]; rfl
  have b4 : w7.cell? ⟨cb, 4, none⟩ = some (.bool c.pfc) := by rw [HB7.out.cell]; rfl
  have b5 : w7.cell? ⟨cb, 5, none⟩ = some (.bool c.acfc) := by rw [HB7.out.cell]; rfl
  have b6 : w7.cell? ⟨cb, 6, none⟩ = some (.int .u32 (c.accm : Int)) := by rw [HB7.out.cell]; rfl
  have b7 : w7.cell? ⟨cb, 7, none⟩ = some (.int .i64 c.mrru) := by rw [HB7.out.cell]; rfl
  have e1 : (c.mru != c.mru) = false := bne_self_eq_false _
  have e2 : ((c.accm : Int) != (c.accm : Int)) = false := bne_self_eq_false _
  have e3 : (c.server != c.server) = false := bne_self_eq_false _
  have e4 : ((m : Int) != (m : Int)) = false := bne_self_eq_false _
  have e5 : (c.pfc != c.pfc) = false := bne_self_eq_false _
  have e6 : (c.acfc != c.acfc) = false := bne_self_eq_false _
  have e7 : (c.mrru != c.mrru) = false := bne_self_eq_false _
  have e8 : (c.short != c.short) = false := bne_self_eq_false _
  go_upto_region 9 with fail
  clear a0 a1 a2 a3 a4 a5 a6 a7 b0 b3 b4 b5 b6 b7 e1 e2 e3 e4 e5 e6 e7 e8
  refine wp_region_list ?_
  refine wpList_load_mid rfl 25 (.tmp 5) rfl cb 0 rfl (y0g c nmN scS) _ (fun j v hv => by rw [Nat.zero_add, HB7.out.cell, List.getElem?_toArray]; exact hv) Tryz.underlying25 rfl HI.out ?_
  obtain ⟨db, hdb⟩ : ∃ q, q = w7.heap.size := ⟨_, rfl⟩
  obtain ⟨w8, hw8⟩ : ∃ q, q = World.setRow (w7.alloc (.cells zeroCfg 25)) db (y0g c nmN scS).toArray := ⟨_, rfl⟩
  have hb8 : Blk w8 db 25 (y0g c nmN scS).toArray := by rw [hw8, hdb]; exact (Blk.new _ _ _).rowSet _
  have hk8 : Keeps y01 w7 w8 := by rw [hw8]; exact ((Keeps.refl _ w7).alloc _).rowSet (fun e => absurd e (by omega)) _
  refine Go.Great.wpList_runTo rfl (some 9) rfl _ _ (y7i _ _ _ _ _ _) ?_
  refine wpList_store_row rfl 25 (.tmp 9) (.tmp 82) rfl w7.heap.size _ rfl rfl 25 _ (Blk.new w7 _ _) (by rw [HI.out]; rfl) rfl (by rw [List.all_toArray]; rfl) ?_
  rw [← hdb, ← hw8]
  go_upto_region 10 with fail
  have hn : ¬ db < w7.heap.size := by omega
  have HD9 := xhd (show Blk (w8.setCell ⟨db, 0, none⟩ (.bool false)) db 25 (y0g c.plain nmN scS).toArray from hb8.set 0 (.bool false))
  have HK89 := xhd (hk8.store db 0 (fun e => absurd e hn) (.bool false))
  have fz := hb8.frozen 0
  have cz : w8.cell? ⟨db, 0, none⟩ = some (.bool c.server) := hb8.cell 0
  clear hdb hw8 hb8 hk8 hn
  go_upto_region 11 with fail
  generalize w8.setCell _ _ = w9 at HD9 HK89 ⊢
  clear fz cz
  have HK9 := xhd (HK7.out.trans HK89.out)
  have HB9 := xhd (HB7.out.keeps HK89.out (fun e => e))
  have HR9 := xhd (HR7.out.keeps HK89.out (fun _ _ e => e))
  have HS9 := xhd (Nat.le_trans HS7.out HK89.out.size)
  have HDR := xhd (y7w c.plain nmN scS w9)
  clear HK89 HB7 HK7 HR7 HS7 HV7
  refine wp_region_list ?_
  refine wpList_load_mid rfl 25 (.tmp 9) rfl db 0 rfl (y0g c.plain nmN scS) _ (fun j v hv => by rw [Nat.zero_add, HD9.out.cell, List.getElem?_toArray]; exact hv) Tryz.underlying25 rfl HI.out ?_
  go_wp2_with fail
  refine HDR.out.mono ?_
  rintro e wr ⟨vr, us, rfl, hus, hdr⟩
  obtain ⟨Au, cu, rfl⟩ := y07 hdr.own
  have HKr := xhd (HK9.out.trans hdr.kept)
  have HBr := xhd (HB9.out.keeps hdr.kept (fun e => e))
  have HRr := xhd (HR9.out.keeps hdr.kept (fun _ _ e => e))
  have hJ := y7t _ _ _ _ us qs false wr hdr.row HRr.out (fun b hb => hb.2) (fun b hb => Nat.lt_of_lt_of_le hb (Nat.le_trans HS9.out hdr.kept.size)) (y3n c.plain hus) (ya4 c.plain hus) (reads_few (by rw [HQ.out]; exact Pure.ask_fine c m))
  rw [hus, HQ.out, Pure.judge_plain HF.out] at hJ
  cases hsv : c.server
  ·rw [hsv] at hJ
   have HJ := xhd (show Calls Tryz.prog 50 #[.slice Au us.length cu, .slice A5 qs.length c5, .bool false] wr fun e w' => ∃ A c', ∃ qj : List (Value × Pure.Opt), e = .returned (.tuple #[.int .i64 3, .slice A qj.length c']) ∧ y02 qj = [(3, Pure.proofData)] ∧ Read wr w' (.slice A qj.length c') qj from hJ)
   have HSV := xhd hsv
   clear hus hdr hJ HK9 HB9 HR9 HDR HD9 hsv
   go_wp2_with fail
   refine HJ.out.mono ?_
   rintro e wj ⟨Aj, cj, qj, rfl, hqj, hrj⟩
   have hkj := Keeps.new hrj.below
   obtain ⟨dj, rfl⟩ := one_opt hqj
   obtain ⟨p, o, Ad, cd, t, bs, rfl, _, y0, y1, _, g⟩ := hrj.row.pick 0 (by simp)
   obtain rfl : t = 3 := by
    have h : some (dj, ((3 : Int), Pure.proofData)) = some (.slice Ad bs.length cd, (t, bs)) := g
    injection h with h
    injection h with h1 h2
    injection h2 with h2 _
    exact h2.symm
   rw [Nat.zero_mul, Nat.add_zero] at y0
   rw [show ([(dj, ((3 : Int), Pure.proofData))] : List (Value × Pure.Opt)).length = 1 from rfl]
   have b0 : wj.cell? ⟨cb, 0, none⟩ = some (.bool false) := by rw [(HBr.out.keeps hkj (fun e => e)).cell, ← HSV.out]; rfl
   have HKj := xhd (HKr.out.trans hkj)
   clear hqj hrj hkj HJ HBr HRr HKr y1 g
   go_wp2_with fail
   go_ret
   exact ⟨rfl, HKj.out⟩
  ·rw [hsv] at hJ
   have HJ := xhd (show Calls Tryz.prog 50 #[.slice Au us.length cu, .slice A5 qs.length c5, .bool false] wr fun e w' => ∃ A c', ∃ qj : List (Value × Pure.Opt), e = .returned (.tuple #[.int .i64 2, .slice A qj.length c']) ∧ y02 qj = c.ask m ∧ Read wr w' (.slice A qj.length c') qj from hJ)
   have HSV := xhd hsv
   clear hus hdr hJ HK9 HB9 HR9 HDR HD9 hsv
   go_wp2_with fail
   refine HJ.out.mono ?_
   rintro e wj ⟨Aj, cj, qj, rfl, hqj, hrj⟩
   have hkj := Keeps.new hrj.below
   have HSA := xhd (show Calls Tryz.prog 22 #[.slice Aj qj.length cj, .slice A5 qs.length c5] wj fun e w' => e = .returned (.bool true) ∧ Keeps y01 wj w' from by
    have h := y7u _ _ _ _ qj qs wj hrj.row (HRr.out.keeps hkj (fun _ _ e => e))
    rw [hqj, HQ.out, decide_eq_true rfl] at h
    exact h)
   have b0 : wj.cell? ⟨cb, 0, none⟩ = some (.bool true) := by rw [(HBr.out.keeps hkj (fun e => e)).cell, ← HSV.out]; rfl
   have HKj := xhd (HKr.out.trans hkj)
   clear hqj hrj hkj HJ HBr HRr HKr
   go_wp2_with fail
   refine HSA.out.mono ?_
   rintro e wk ⟨rfl, hk⟩
   have HKk := xhd (HKj.out.trans hk)
   clear b0 hk HSA HKj
   go_wp2_with fail
   go_ret
   exact ⟨rfl, HKk.out⟩
theorem lcpReads_walk (a0 a1 : Int) (w : World) (E : Env w) (_ : (Lit.int .i64 a0).wf = true) (h1 : (Lit.int .u32 a1).wf = true) :
  Calls Tryz.prog 10 #[.int .i64 a0, .int .u32 a1] w fun e w' => e = .returned (.bool true) ∧ Below w.heap.size w w' := by
 obtain ⟨b1, c1⟩ := u32_of_wf h1
 obtain ⟨m, rfl⟩ : ∃ n : Nat, a1 = (n : Int) := ⟨a1.toNat, by omega⟩
 exact (ya3 a0 m (by omega) w E).mono fun _ _ ⟨h, k⟩ => ⟨h, k.to_below⟩
end Go.Proofs.YtmgicbckgpdkcaaGreatDoor
