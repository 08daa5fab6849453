/- Package nego: heed. -/
import Derived.Test.YtjomcffhbaplcaaGreatDoorQ37
namespace Go.Proofs.YtjomcffhbaplcaaGreatDoor
open Go.RowKit
theorem results_tmp_row {P : Program} {fn : Func} {p u : Tmp} {ty : TypeId} (h : fn.results = #[.tmp u, .cell p ty]) (tmps : Array Value) (w : World) (g : Nat) (t : TypeId) (cs : Array Value) (fr : Nat × Nat) (d : TypeDesc)
    (hp : tmps.getD p undef = .pointer (some ⟨g, 0, none⟩)) (hg : w.heap[g]? = some (.cells cs t fr))
    (hu : P.underlying ty = some d) (hd : (match d with | .struct _ | .array _ _ => true | _ => false) = true) (hi : (P.info? ty).map (·.size) = some cs.size) :
    (results fn tmps).run P w = .ok (.tuple #[tmps.getD u undef, .agg cs]) w := by
  have hp' : tmps[p]?.getD undef = .pointer (some ⟨g, 0, none⟩) := by simpa using hp
  simp [results, h, hp', asAddr, run_loadVar_row w g t ty cs fr d hg hu hd hi, Result.andThen]
theorem cause_info : (Tryz.prog.info? 82).map (·.size) = some 5 := by kernel_rfl
/-- Three new blocks, one behind the other. -/
theorem three_new (w : World) (a b c : Array Value) (ta tb tc : TypeId) : ∃ w1, w1 = ((w.alloc (.cells a ta)).alloc (.cells b tb)).alloc (.cells c tc) ∧ Blk w1 w.heap.size ta a ∧ Blk w1 (w.heap.size + 1) tb b ∧ Blk w1 (w.heap.size + 1 + 1) tc c ∧ Keeps nobody w w1 := by
  refine ⟨_, rfl, ((Blk.new w ta a).alloc _).alloc _, ?_, ?_, (((Keeps.refl _ w).alloc _).alloc _).alloc _⟩
  · have h := (Blk.new (w.alloc (.cells a ta)) tb b).alloc (.cells c tc)
    rw [show (w.alloc (.cells a ta)).heap.size = w.heap.size + 1 by simp] at h
    exact h
  · have h := Blk.new ((w.alloc (.cells a ta)).alloc (.cells b tb)) tc c
    rw [show ((w.alloc (.cells a ta)).alloc (.cells b tb)).heap.size = w.heap.size + 1 + 1 by simp] at h
    exact h
/-- What heed answers: the event, and the cause with the answer to a request. -/
def Heeded (w : World) (g : Nat) (R : Nat → Prop) (f : NF) (p : Pure.Pkt) (d : Value) (h : Nat × Pure.Neg × Pure.Reply) (e : Ending) (w' : World) : Prop :=
  ∃ ov, ∃ zo : List (Value × Pure.Opt), ∃ f' R', e = .returned (.tuple #[.int .i64 (h.1 : Int), causeV p d (h.2.2.code : Int) ov]) ∧ ORow w' (fun b => w.heap.size ≤ b ∧ b < w'.heap.size) ov zo ∧ optsOf zo = h.2.2.l ∧ FewOpts zo ∧
    NObj w' g R' f' h.2.1 ∧ f'.gm = f.gm ∧ (∀ b, R' b → R b ∨ w.heap.size ≤ b) ∧ Keeps (only g) w w'
namespace Pure
theorem offers_small {r : Rule} {b : List UInt8} {p : Opt} (h : r.offers b = some p) (hw : r.want.length ≤ 100000) : p.2.length ≤ 100000 := by
  unfold Rule.offers at h
  split at h
  · injection h with h; subst h; dsimp only; rw [wide_length]; omega
  · split at h
    · injection h with h; subst h; exact hw
    · split at h
      · injection h with h; subst h; dsimp only; rw [wide_length]; omega
      · cases h
theorem verdict_small {rules : List Rule} {rejects : Bool} {before : List Opt} {o p : Opt} (h : verdict rules rejects before o = .offer p) (hw : ∀ r ∈ rules, r.want.length ≤ 100000) : p.2.length ≤ 100000 := by
  unfold verdict at h
  split at h
  · cases h
  · rename_i r hr
    have hm : r ∈ rules := List.mem_of_find?_eq_some hr
    split at h
    · cases h
    · split at h
      · cases h
      · split at h
        · cases h
        · rename_i q hq
          split at h
          · cases h
          · injection h with h; subst h; exact offers_small hq (hw r hm)
theorem judgeTo_small {rules : List Rule} {rejects : Bool} {l : List Opt} (hw : ∀ r ∈ rules, r.want.length ≤ 100000) : ∀ k, (judgeTo rules rejects l k).1.length ≤ k ∧ (judgeTo rules rejects l k).2.length ≤ k ∧ (∀ o ∈ (judgeTo rules rejects l k).1, o ∈ l) ∧ ∀ o ∈ (judgeTo rules rejects l k).2, o.2.length ≤ 100000
  | 0 => ⟨Nat.le_refl _, Nat.le_refl _, (by intro o ho; cases ho), (by intro o ho; cases ho)⟩
  | k + 1 => by
    obtain ⟨h1, h2, h3, h4⟩ := judgeTo_small hw k
    unfold judgeTo
    split
    · exact ⟨by omega, by omega, h3, h4⟩
    · rename_i o ho
      split
      · exact ⟨by omega, by omega, h3, h4⟩
      · refine ⟨by simp; omega, by dsimp only; omega, ?_, h4⟩
        intro x hx
        rcases List.mem_append.1 hx with hx | hx
        · exact h3 x hx
        · rw [List.mem_singleton.1 hx]; exact List.mem_of_getElem? ho
      · rename_i p hp
        refine ⟨by dsimp only; omega, by simp; omega, h3, ?_⟩
        intro x hx
        rcases List.mem_append.1 hx with hx | hx
        · exact h4 x hx
        · rw [List.mem_singleton.1 hx]; exact verdict_small hp hw
theorem needTo_small {rules : List Rule} {l nak : List Opt} (hw : ∀ r ∈ rules, r.want.length ≤ 100000) (hn : ∀ o ∈ nak, o.2.length ≤ 100000) : ∀ k, (needTo rules l nak k).length ≤ nak.length + k ∧ ∀ o ∈ needTo rules l nak k, o.2.length ≤ 100000
  | 0 => ⟨Nat.le_refl _, hn⟩
  | k + 1 => by
    obtain ⟨h1, h2⟩ := needTo_small hw hn k
    have hs : (needTo rules l nak k).length ≤ nak.length + (k + 1) ∧ ∀ o ∈ needTo rules l nak k, o.2.length ≤ 100000 := ⟨by omega, h2⟩
    unfold needTo
    split
    · exact hs
    · split
      · exact hs
      · split
        · exact hs
        · rename_i f hf
          split
          · exact hs
          · split
            · exact hs
            · rename_i p hp
              refine ⟨by simp; omega, ?_⟩
              intro x hx
              rcases List.mem_append.1 hx with hx | hx
              · exact h2 x hx
              · rw [List.mem_singleton.1 hx]; exact offers_small hp (hw f (List.mem_of_find?_eq_some hf))
theorem judge_small {rules : List Rule} {l : List Opt} {rejects : Bool} (hr : rules.length ≤ 1000) (hw : ∀ r ∈ rules, r.want.length ≤ 100000) (hl : Fine l) : (judge rules l rejects).2.length ≤ 2000 ∧ ∀ o ∈ (judge rules l rejects).2, o.2.length ≤ 100000 := by
  have hll := hl.len
  have hd : ∀ o ∈ l, o.2.length ≤ 100000 := fun o ho => by have := hl.odd o ho; unfold Opt.odd at this; omega
  obtain ⟨h1, h2, h3, h4⟩ := judgeTo_small (rejects := rejects) (l := l) hw l.length
  obtain ⟨n1, n2⟩ := needTo_small (l := l) hw h4 rules.length
  unfold judge
  dsimp only
  by_cases c1 : (judgeTo rules rejects l l.length).1 ≠ []
  · rw [if_pos c1]; exact ⟨by dsimp only; omega, fun o ho => hd o (h3 o ho)⟩
  · rw [if_neg c1]
    by_cases c2 : rejects = true
    · rw [if_pos c2]
      by_cases c3 : (judgeTo rules rejects l l.length).2 ≠ []
      · rw [if_pos c3]; exact ⟨by dsimp only; omega, h4⟩
      · rw [if_neg c3]; exact ⟨by dsimp only; omega, hd⟩
    · rw [if_neg c2]
      by_cases c3 : needTo rules l (judgeTo rules rejects l l.length).2 rules.length ≠ []
      · rw [if_pos c3]; exact ⟨by dsimp only; omega, n2⟩
      · rw [if_neg c3]; exact ⟨by dsimp only; omega, hd⟩
end Pure
set_option maxRecDepth 100000 in
set_option maxHeartbeats 4000000 in
theorem heed_end (R : Nat → Prop) (g : Nat) (f : NF) (n : Pure.Neg) (pi : Int) (pd : List UInt8) (DA : Option Addr) (dc : Nat) (uv : Value) (w : World) (h : NObj w g R f n) :
    Calls Tryz.prog 42 #[.pointer (some ⟨g, 0, none⟩), pktV ⟨5, pi, pd⟩ (.slice DA pd.length dc), uv] w fun e w' => Heeded w g R f ⟨5, pi, pd⟩ (.slice DA pd.length dc) (10, n, ⟨⟨5, pi, pd⟩, 0, []⟩) e w' := by
  have HI := Lib.hid cause_info
  obtain ⟨w1, hw1, hP, hO, hC, hk1⟩ := three_new w #[.int .i64 5, .int .i64 pi, .slice DA pd.length dc] #[.int .i64 0, .int .i64 0, .slice none 0 0, .int .i64 0, .slice none 0 0] #[.int .i64 5, .int .i64 pi, .slice DA pd.length dc, .int .i64 0, .slice none 0 0] 40 82 82
  obtain ⟨rp, hrp⟩ : ∃ q, q = w.heap.size := ⟨_, rfl⟩
  rw [← hrp] at hP hO hC
  have hgl := h.blk.lt
  have hml := Blk.lt h.mach
  have H1 := Lib.hid (h.keeps hk1 (fun h => h) (fun h => h) (fun _ _ h => h))
  have HP := Lib.hid hP
  have HO := Lib.hid hO
  have HC := Lib.hid hC
  have HK1 := Lib.hid hk1
  have HRL := Lib.hid (show ∀ b, R b → b < rp by rw [hrp]; exact h.lt)
  have HGL := Lib.hid (show g < rp by omega)
  have HML := Lib.hid (show f.gm < rp by omega)
  have HRP := Lib.hid (show w.heap.size = rp from hrp.symm)
  have HKZ0 := Lib.hid (Keeps.refl nobody w1)
  have q0 : w1.cell? ⟨rp, 0, none⟩ = some (.int .i64 5) := by rw [hP.cell]; rfl
  go_enter Tryz.func42, Tryz.ntmps42
  go_upto_region 2 with fail
  rw [← hrp]
  rw [← hw1]
  clear hw1 hP hO hC hk1 hgl hml hrp h
  go_wp2_with fail
  refine wp_region_Z (fun w' => Blk w' (rp + 1 + 1) 82 #[.int .i64 5, .int .i64 pi, .slice DA pd.length dc, .int .i64 0, .slice none 0 0]) 2 3 rfl (by kernel_rfl) HC.out (fun hHeld => ?_)
  have HSW := hHeld
  clear hHeld
  have HK0d := Lib.hid (HKZ0.out.drew)
  refine wpAnyZ_take (i := 0) rfl (by kernel_rfl) (fun _ _ _ h => h) (Or.inl ⟨by rfl, by intro w hSw; have s0 : w.cell? ⟨rp + 1 + 1, 0, none⟩ = some (.int .i64 5) := (by rw [Blk.cell hSw]; rfl); have s1 : w.cell? ⟨rp + 1 + 1, 1, none⟩ = some (.int .i64 pi) := (by rw [Blk.cell hSw]; rfl); have s2 : w.cell? ⟨rp + 1 + 1, 2, none⟩ = some (.slice DA pd.length dc) := (by rw [Blk.cell hSw]; rfl); have s3 : w.cell? ⟨rp + 1 + 1, 3, none⟩ = some (.int .i64 0) := (by rw [Blk.cell hSw]; rfl); have s4 : w.cell? ⟨rp + 1 + 1, 4, none⟩ = some (.slice none 0 0) := (by rw [Blk.cell hSw]; rfl); go_simp; try with_reducible rfl⟩) HSW.out ?_
  simp only [Act.put, List.setIfInBounds_toArray, List.getElem_toArray, List.getElem_cons_zero, List.set_cons_succ, List.set_cons_zero]
  refine wpAnyZ_take (i := 1) rfl (by kernel_rfl) (fun _ _ _ h => h) (Or.inl ⟨by rfl, by intro w hSw; skip; go_simp; try with_reducible rfl⟩) HSW.out ?_
  simp only [Act.put, List.setIfInBounds_toArray, List.getElem_toArray, List.getElem_cons_succ, List.getElem_cons_zero, List.set_cons_succ, List.set_cons_zero]
  have hOz := HO.out
  have y0 : w1.cell? ⟨rp + 1, 0, none⟩ = some (.int .i64 0) := by rw [hOz.cell]; rfl
  have v0 := hOz.frozen 0
  have y1 : w1.cell? ⟨rp + 1, 1, none⟩ = some (.int .i64 0) := by rw [hOz.cell]; rfl
  have v1 := hOz.frozen 1
  have y2 : w1.cell? ⟨rp + 1, 2, none⟩ = some (.slice none 0 0) := by rw [hOz.cell]; rfl
  have v2 := hOz.frozen 2
  have y3 : w1.cell? ⟨rp + 1, 3, none⟩ = some (.int .i64 0) := by rw [hOz.cell]; rfl
  have v3 := hOz.frozen 3
  have y4 : w1.cell? ⟨rp + 1, 4, none⟩ = some (.slice none 0 0) := by rw [hOz.cell]; rfl
  have v4 := hOz.frozen 4
  have HZ := Lib.hid (((((hOz.set 0 (.int .i64 5)).set 1 (.int .i64 pi)).set 2 (.slice DA pd.length dc)).set 3 (.int .i64 0)).set 4 (.slice none 0 0))
  have HKR := Lib.hid (((((((Keeps.refl (only (rp + 1)) w1).put 0 (.int .i64 5)).put 1 (.int .i64 pi)).put 2 (.slice DA pd.length dc)).put 3 (.int .i64 0)).put 4 (.slice none 0 0)).drew)
  clear hOz
  refine wpAnyZ_one (i := 2) (by kernel_rfl) rfl (fun K hK => ?_)
  go_simp
  refine hK.out _ _ (fun h => absurd rfl h) ?_
  clear hK K
  refine wpAnyZ_done (by kernel_rfl) ?_ _
  go_wp2_with fail
  refine bodyPost_ret (results_tmp_row rfl _ _ (rp + 1) 82 _ (0, 0) _ rfl HZ.out Tryz.underlying82 rfl (by rw [HI.out]; rfl)) rfl ?_
  exact ⟨_, [], f, R, rfl, ORow.nil _ _, rfl, ⟨by simp, by simp⟩, (H1.out.keeps HKR.out (fun e => by have e : g = rp + 1 := e; have := HGL.out; omega) (fun e => by have e : f.gm = rp + 1 := e; have := HML.out; omega) (fun b hb e => by have e : b = rp + 1 := e; have := HRL.out b hb; omega)), rfl, fun b hb => .inl hb, (HK1.out.mono (fun _ h => h.elim)).trans' HKR.out (fun i hi hl => by have e : i = rp + 1 := hi; have := HRP.out; omega)⟩
set_option maxRecDepth 100000 in
set_option maxHeartbeats 4000000 in
theorem heed_ended (R : Nat → Prop) (g : Nat) (f : NF) (n : Pure.Neg) (pi : Int) (pd : List UInt8) (DA : Option Addr) (dc : Nat) (uv : Value) (w : World) (h : NObj w g R f n) :
    Calls Tryz.prog 42 #[.pointer (some ⟨g, 0, none⟩), pktV ⟨6, pi, pd⟩ (.slice DA pd.length dc), uv] w fun e w' => Heeded w g R f ⟨6, pi, pd⟩ (.slice DA pd.length dc) (11, n, ⟨⟨6, pi, pd⟩, 0, []⟩) e w' := by
  have HI := Lib.hid cause_info
  obtain ⟨w1, hw1, hP, hO, hC, hk1⟩ := three_new w #[.int .i64 6, .int .i64 pi, .slice DA pd.length dc] #[.int .i64 0, .int .i64 0, .slice none 0 0, .int .i64 0, .slice none 0 0] #[.int .i64 6, .int .i64 pi, .slice DA pd.length dc, .int .i64 0, .slice none 0 0] 40 82 82
  obtain ⟨rp, hrp⟩ : ∃ q, q = w.heap.size := ⟨_, rfl⟩
  rw [← hrp] at hP hO hC
  have hgl := h.blk.lt
  have hml := Blk.lt h.mach
  have H1 := Lib.hid (h.keeps hk1 (fun h => h) (fun h => h) (fun _ _ h => h))
  have HP := Lib.hid hP
  have HO := Lib.hid hO
  have HC := Lib.hid hC
  have HK1 := Lib.hid hk1
  have HRL := Lib.hid (show ∀ b, R b → b < rp by rw [hrp]; exact h.lt)
  have HGL := Lib.hid (show g < rp by omega)
  have HML := Lib.hid (show f.gm < rp by omega)
  have HRP := Lib.hid (show w.heap.size = rp from hrp.symm)
  have HKZ0 := Lib.hid (Keeps.refl nobody w1)
  have q0 : w1.cell? ⟨rp, 0, none⟩ = some (.int .i64 6) := by rw [hP.cell]; rfl
  go_enter Tryz.func42, Tryz.ntmps42
  go_upto_region 2 with fail
  rw [← hrp]
  rw [← hw1]
  clear hw1 hP hO hC hk1 hgl hml hrp h
  go_wp2_with fail
  refine wp_region_Z (fun w' => Blk w' (rp + 1 + 1) 82 #[.int .i64 6, .int .i64 pi, .slice DA pd.length dc, .int .i64 0, .slice none 0 0]) 2 3 rfl (by kernel_rfl) HC.out (fun hHeld => ?_)
  have HSW := hHeld
  clear hHeld
  have HK0d := Lib.hid (HKZ0.out.drew)
  refine wpAnyZ_take (i := 0) rfl (by kernel_rfl) (fun _ _ _ h => h) (Or.inl ⟨by rfl, by intro w hSw; have s0 : w.cell? ⟨rp + 1 + 1, 0, none⟩ = some (.int .i64 6) := (by rw [Blk.cell hSw]; rfl); have s1 : w.cell? ⟨rp + 1 + 1, 1, none⟩ = some (.int .i64 pi) := (by rw [Blk.cell hSw]; rfl); have s2 : w.cell? ⟨rp + 1 + 1, 2, none⟩ = some (.slice DA pd.length dc) := (by rw [Blk.cell hSw]; rfl); have s3 : w.cell? ⟨rp + 1 + 1, 3, none⟩ = some (.int .i64 0) := (by rw [Blk.cell hSw]; rfl); have s4 : w.cell? ⟨rp + 1 + 1, 4, none⟩ = some (.slice none 0 0) := (by rw [Blk.cell hSw]; rfl); go_simp; try with_reducible rfl⟩) HSW.out ?_
  simp only [Act.put, List.setIfInBounds_toArray, List.getElem_toArray, List.getElem_cons_zero, List.set_cons_succ, List.set_cons_zero]
  refine wpAnyZ_take (i := 1) rfl (by kernel_rfl) (fun _ _ _ h => h) (Or.inl ⟨by rfl, by intro w hSw; skip; go_simp; try with_reducible rfl⟩) HSW.out ?_
  simp only [Act.put, List.setIfInBounds_toArray, List.getElem_toArray, List.getElem_cons_succ, List.getElem_cons_zero, List.set_cons_succ, List.set_cons_zero]
  have hOz := HO.out
  have y0 : w1.cell? ⟨rp + 1, 0, none⟩ = some (.int .i64 0) := by rw [hOz.cell]; rfl
  have v0 := hOz.frozen 0
  have y1 : w1.cell? ⟨rp + 1, 1, none⟩ = some (.int .i64 0) := by rw [hOz.cell]; rfl
  have v1 := hOz.frozen 1
  have y2 : w1.cell? ⟨rp + 1, 2, none⟩ = some (.slice none 0 0) := by rw [hOz.cell]; rfl
  have v2 := hOz.frozen 2
  have y3 : w1.cell? ⟨rp + 1, 3, none⟩ = some (.int .i64 0) := by rw [hOz.cell]; rfl
  have v3 := hOz.frozen 3
  have y4 : w1.cell? ⟨rp + 1, 4, none⟩ = some (.slice none 0 0) := by rw [hOz.cell]; rfl
  have v4 := hOz.frozen 4
  have HZ := Lib.hid (((((hOz.set 0 (.int .i64 6)).set 1 (.int .i64 pi)).set 2 (.slice DA pd.length dc)).set 3 (.int .i64 0)).set 4 (.slice none 0 0))
  have HKR := Lib.hid (((((((Keeps.refl (only (rp + 1)) w1).put 0 (.int .i64 6)).put 1 (.int .i64 pi)).put 2 (.slice DA pd.length dc)).put 3 (.int .i64 0)).put 4 (.slice none 0 0)).drew)
  clear hOz
  refine wpAnyZ_one (i := 2) (by kernel_rfl) rfl (fun K hK => ?_)
  go_simp
  refine hK.out _ _ (fun h => absurd rfl h) ?_
  clear hK K
  refine wpAnyZ_done (by kernel_rfl) ?_ _
  go_wp2_with fail
  refine bodyPost_ret (results_tmp_row rfl _ _ (rp + 1) 82 _ (0, 0) _ rfl HZ.out Tryz.underlying82 rfl (by rw [HI.out]; rfl)) rfl ?_
  exact ⟨_, [], f, R, rfl, ORow.nil _ _, rfl, ⟨by simp, by simp⟩, (H1.out.keeps HKR.out (fun e => by have e : g = rp + 1 := e; have := HGL.out; omega) (fun e => by have e : f.gm = rp + 1 := e; have := HML.out; omega) (fun b hb e => by have e : b = rp + 1 := e; have := HRL.out b hb; omega)), rfl, fun b hb => .inl hb, (HK1.out.mono (fun _ h => h.elim)).trans' HKR.out (fun i hi hl => by have e : i = rp + 1 := hi; have := HRP.out; omega)⟩
set_option maxRecDepth 100000 in
set_option maxHeartbeats 4000000 in
theorem heed_unknown (R : Nat → Prop) (g : Nat) (f : NF) (n : Pure.Neg) (pc : Int) (pi : Int) (pd : List UInt8) (DA : Option Addr) (dc : Nat) (uv : Value) (w : World) (h : NObj w g R f n) (hpc : pc < 1 ∨ 7 < pc) :
    Calls Tryz.prog 42 #[.pointer (some ⟨g, 0, none⟩), pktV ⟨pc, pi, pd⟩ (.slice DA pd.length dc), uv] w fun e w' => Heeded w g R f ⟨pc, pi, pd⟩ (.slice DA pd.length dc) (12, n, ⟨⟨pc, pi, pd⟩, 0, []⟩) e w' := by
  have r1 : (pc == 1) = false := by rw [beq_eq_false_iff_ne]; omega
  have r2 : (pc == 2) = false := by rw [beq_eq_false_iff_ne]; omega
  have r3 : (pc == 3) = false := by rw [beq_eq_false_iff_ne]; omega
  have r4 : (pc == 4) = false := by rw [beq_eq_false_iff_ne]; omega
  have r5 : (pc == 5) = false := by rw [beq_eq_false_iff_ne]; omega
  have r6 : (pc == 6) = false := by rw [beq_eq_false_iff_ne]; omega
  have r7 : (pc == 7) = false := by rw [beq_eq_false_iff_ne]; omega
  clear hpc
  have HI := Lib.hid cause_info
  obtain ⟨w1, hw1, hP, hO, hC, hk1⟩ := three_new w #[.int .i64 pc, .int .i64 pi, .slice DA pd.length dc] #[.int .i64 0, .int .i64 0, .slice none 0 0, .int .i64 0, .slice none 0 0] #[.int .i64 pc, .int .i64 pi, .slice DA pd.length dc, .int .i64 0, .slice none 0 0] 40 82 82
  obtain ⟨rp, hrp⟩ : ∃ q, q = w.heap.size := ⟨_, rfl⟩
  rw [← hrp] at hP hO hC
  have hgl := h.blk.lt
  have hml := Blk.lt h.mach
  have H1 := Lib.hid (h.keeps hk1 (fun h => h) (fun h => h) (fun _ _ h => h))
  have HP := Lib.hid hP
  have HO := Lib.hid hO
  have HC := Lib.hid hC
  have HK1 := Lib.hid hk1
  have HRL := Lib.hid (show ∀ b, R b → b < rp by rw [hrp]; exact h.lt)
  have HGL := Lib.hid (show g < rp by omega)
  have HML := Lib.hid (show f.gm < rp by omega)
  have HRP := Lib.hid (show w.heap.size = rp from hrp.symm)
  have HKZ0 := Lib.hid (Keeps.refl nobody w1)
  have q0 : w1.cell? ⟨rp, 0, none⟩ = some (.int .i64 pc) := by rw [hP.cell]; rfl
  go_enter Tryz.func42, Tryz.ntmps42
  go_upto_region 2 with fail
  rw [← hrp]
  rw [← hw1]
  clear hw1 hP hO hC hk1 hgl hml hrp h
  go_wp2_with fail
  refine wp_region_Z (fun w' => Blk w' (rp + 1 + 1) 82 #[.int .i64 pc, .int .i64 pi, .slice DA pd.length dc, .int .i64 0, .slice none 0 0]) 2 3 rfl (by kernel_rfl) HC.out (fun hHeld => ?_)
  have HSW := hHeld
  clear hHeld
  have HK0d := Lib.hid (HKZ0.out.drew)
  refine wpAnyZ_take (i := 0) rfl (by kernel_rfl) (fun _ _ _ h => h) (Or.inl ⟨by rfl, by intro w hSw; have s0 : w.cell? ⟨rp + 1 + 1, 0, none⟩ = some (.int .i64 pc) := (by rw [Blk.cell hSw]; rfl); have s1 : w.cell? ⟨rp + 1 + 1, 1, none⟩ = some (.int .i64 pi) := (by rw [Blk.cell hSw]; rfl); have s2 : w.cell? ⟨rp + 1 + 1, 2, none⟩ = some (.slice DA pd.length dc) := (by rw [Blk.cell hSw]; rfl); have s3 : w.cell? ⟨rp + 1 + 1, 3, none⟩ = some (.int .i64 0) := (by rw [Blk.cell hSw]; rfl); have s4 : w.cell? ⟨rp + 1 + 1, 4, none⟩ = some (.slice none 0 0) := (by rw [Blk.cell hSw]; rfl); go_simp; try with_reducible rfl⟩) HSW.out ?_
  simp only [Act.put, List.setIfInBounds_toArray, List.getElem_toArray, List.getElem_cons_zero, List.set_cons_succ, List.set_cons_zero]
  refine wpAnyZ_take (i := 1) rfl (by kernel_rfl) (fun _ _ _ h => h) (Or.inl ⟨by rfl, by intro w hSw; skip; go_simp; try with_reducible rfl⟩) HSW.out ?_
  simp only [Act.put, List.setIfInBounds_toArray, List.getElem_toArray, List.getElem_cons_succ, List.getElem_cons_zero, List.set_cons_succ, List.set_cons_zero]
  have hOz := HO.out
  have y0 : w1.cell? ⟨rp + 1, 0, none⟩ = some (.int .i64 0) := by rw [hOz.cell]; rfl
  have v0 := hOz.frozen 0
  have y1 : w1.cell? ⟨rp + 1, 1, none⟩ = some (.int .i64 0) := by rw [hOz.cell]; rfl
  have v1 := hOz.frozen 1
  have y2 : w1.cell? ⟨rp + 1, 2, none⟩ = some (.slice none 0 0) := by rw [hOz.cell]; rfl
  have v2 := hOz.frozen 2
  have y3 : w1.cell? ⟨rp + 1, 3, none⟩ = some (.int .i64 0) := by rw [hOz.cell]; rfl
  have v3 := hOz.frozen 3
  have y4 : w1.cell? ⟨rp + 1, 4, none⟩ = some (.slice none 0 0) := by rw [hOz.cell]; rfl
  have v4 := hOz.frozen 4
  have HZ := Lib.hid (((((hOz.set 0 (.int .i64 pc)).set 1 (.int .i64 pi)).set 2 (.slice DA pd.length dc)).set 3 (.int .i64 0)).set 4 (.slice none 0 0))
  have HKR := Lib.hid (((((((Keeps.refl (only (rp + 1)) w1).put 0 (.int .i64 pc)).put 1 (.int .i64 pi)).put 2 (.slice DA pd.length dc)).put 3 (.int .i64 0)).put 4 (.slice none 0 0)).drew)
  clear hOz
  refine wpAnyZ_one (i := 2) (by kernel_rfl) rfl (fun K hK => ?_)
  go_simp
  refine hK.out _ _ (fun h => absurd rfl h) ?_
  clear hK K
  refine wpAnyZ_done (by kernel_rfl) ?_ _
  go_wp2_with fail
  refine bodyPost_ret (results_tmp_row rfl _ _ (rp + 1) 82 _ (0, 0) _ rfl HZ.out Tryz.underlying82 rfl (by rw [HI.out]; rfl)) rfl ?_
  exact ⟨_, [], f, R, rfl, ORow.nil _ _, rfl, ⟨by simp, by simp⟩, (H1.out.keeps HKR.out (fun e => by have e : g = rp + 1 := e; have := HGL.out; omega) (fun e => by have e : f.gm = rp + 1 := e; have := HML.out; omega) (fun b hb e => by have e : b = rp + 1 := e; have := HRL.out b hb; omega)), rfl, fun b hb => .inl hb, (HK1.out.mono (fun _ h => h.elim)).trans' HKR.out (fun i hi hl => by have e : i = rp + 1 := hi; have := HRP.out; omega)⟩
set_option maxRecDepth 100000 in
set_option maxHeartbeats 4000000 in
theorem heed_rejected (R : Nat → Prop) (g : Nat) (f : NF) (n : Pure.Neg) (pi : Int) (b : UInt8) (r : List UInt8) (db doff dc ev : Nat) (uv : Value) (w : World) (h : NObj w g R f n) (hev : ev = if 1 ≤ b.toNat ∧ b.toNat ≤ 7 then 14 else 13) (hb : w.cell? ⟨db, doff, none⟩ = some (.int .u8 (b.toNat : Nat))) :
    Calls Tryz.prog 42 #[.pointer (some ⟨g, 0, none⟩), pktV ⟨7, pi, b :: r⟩ (.slice (some ⟨db, doff, none⟩) (r.length + 1) dc), uv] w fun e w' => Heeded w g R f ⟨7, pi, b :: r⟩ (.slice (some ⟨db, doff, none⟩) (r.length + 1) dc) (ev, n, ⟨⟨7, pi, b :: r⟩, 0, []⟩) e w' := by
  have i1 : (0 : Int) < ((r.length + 1 : Nat) : Int) := by omega
  have HRJ := Lib.hid (fun W : World => (show Calls Tryz.prog 67 #[.int .u8 (b.toNat : Nat)] W fun e w' => e = .returned (.int .i64 (ev : Int)) ∧ W = w' by rw [hev]; exact rejection_any b W))
  clear hev
  have HI := Lib.hid cause_info
  obtain ⟨w1, hw1, hP, hO, hC, hk1⟩ := three_new w #[.int .i64 7, .int .i64 pi, .slice (some ⟨db, doff, none⟩) (r.length + 1) dc] #[.int .i64 0, .int .i64 0, .slice none 0 0, .int .i64 0, .slice none 0 0] #[.int .i64 7, .int .i64 pi, .slice (some ⟨db, doff, none⟩) (r.length + 1) dc, .int .i64 0, .slice none 0 0] 40 82 82
  obtain ⟨rp, hrp⟩ : ∃ q, q = w.heap.size := ⟨_, rfl⟩
  rw [← hrp] at hP hO hC
  have hgl := h.blk.lt
  have hml := Blk.lt h.mach
  have H1 := Lib.hid (h.keeps hk1 (fun h => h) (fun h => h) (fun _ _ h => h))
  have HP := Lib.hid hP
  have HO := Lib.hid hO
  have HC := Lib.hid hC
  have HK1 := Lib.hid hk1
  have HRL := Lib.hid (show ∀ b, R b → b < rp by rw [hrp]; exact h.lt)
  have HGL := Lib.hid (show g < rp by omega)
  have HML := Lib.hid (show f.gm < rp by omega)
  have HRP := Lib.hid (show w.heap.size = rp from hrp.symm)
  have HKZ0 := Lib.hid (Keeps.refl nobody w1)
  have HSB := Lib.hid (show w1.cell? ⟨db, doff, none⟩ = some (.int .u8 (b.toNat : Nat)) from cell_quiet hb hk1)
  have HQ2 := Lib.hid (show w1.cell? ⟨rp, 2, none⟩ = some (.slice (some ⟨db, doff, none⟩) (r.length + 1) dc) by rw [hP.cell]; rfl)
  have q0 : w1.cell? ⟨rp, 0, none⟩ = some (.int .i64 7) := by rw [hP.cell]; rfl
  go_enter Tryz.func42, Tryz.ntmps42
  go_upto_region 2 with fail
  rw [← hrp]
  rw [← hw1]
  clear hw1 hP hO hC hk1 hgl hml hrp h hb
  go_wp2_with fail
  refine wp_region_Z (fun w' => (Blk w' (rp + 1 + 1) 82 #[.int .i64 7, .int .i64 pi, .slice (some ⟨db, doff, none⟩) (r.length + 1) dc, .int .i64 0, .slice none 0 0]) ∧ w'.cell? ⟨rp, 2, none⟩ = some (.slice (some ⟨db, doff, none⟩) (r.length + 1) dc) ∧ w'.cell? ⟨db, doff, none⟩ = some (.int .u8 (b.toNat : Nat))) 7 8 rfl (by kernel_rfl) ⟨HC.out, HQ2.out, HSB.out⟩ (fun hHeld => ?_)
  have HSW := hHeld
  clear hHeld
  have HK0d := Lib.hid (HKZ0.out.drew)
  refine wpAnyZ_take (i := 0) rfl (by kernel_rfl) (fun _ _ _ h => h) (Or.inl ⟨by rfl, by intro w hSw; skip; go_simp; try with_reducible rfl⟩) HSW.out ?_
  simp only [Act.put, List.setIfInBounds_toArray, List.getElem_toArray, List.getElem_cons_zero, List.set_cons_succ, List.set_cons_zero]
  refine wpAnyZ_take (i := 1) rfl (by kernel_rfl) (fun _ _ _ h => h) (Or.inl ⟨by rfl, by intro w hSw; have s2 := hSw.2.1; go_simp; try with_reducible rfl⟩) HSW.out ?_
  simp only [Act.put, List.setIfInBounds_toArray, List.getElem_toArray, List.getElem_cons_succ, List.getElem_cons_zero, List.set_cons_succ, List.set_cons_zero]
  refine wpAnyZ_take (i := 2) rfl (by kernel_rfl) (fun _ _ _ h => h) (Or.inl ⟨by rfl, by intro w hSw; skip; go_simp; try with_reducible rfl⟩) HSW.out ?_
  simp only [Act.put, List.setIfInBounds_toArray, List.getElem_toArray, List.getElem_cons_succ, List.getElem_cons_zero, List.set_cons_succ, List.set_cons_zero]
  refine wpAnyZ_take (i := 3) rfl (by kernel_rfl) (fun _ _ _ h => h) (Or.inl ⟨by rfl, by intro w hSw; have sb := hSw.2.2; go_simp; try with_reducible rfl⟩) HSW.out ?_
  simp only [Act.put, List.setIfInBounds_toArray, List.getElem_toArray, List.getElem_cons_succ, List.getElem_cons_zero, List.set_cons_succ, List.set_cons_zero]
  refine wpAnyZ_take (i := 5) rfl (by kernel_rfl) (fun _ _ _ h => h) (Or.inl ⟨by rfl, by intro w hSw; have s0 : w.cell? ⟨rp + 1 + 1, 0, none⟩ = some (.int .i64 7) := (by rw [Blk.cell hSw.1]; rfl); have s1 : w.cell? ⟨rp + 1 + 1, 1, none⟩ = some (.int .i64 pi) := (by rw [Blk.cell hSw.1]; rfl); have s2 : w.cell? ⟨rp + 1 + 1, 2, none⟩ = some (.slice (some ⟨db, doff, none⟩) (r.length + 1) dc) := (by rw [Blk.cell hSw.1]; rfl); have s3 : w.cell? ⟨rp + 1 + 1, 3, none⟩ = some (.int .i64 0) := (by rw [Blk.cell hSw.1]; rfl); have s4 : w.cell? ⟨rp + 1 + 1, 4, none⟩ = some (.slice none 0 0) := (by rw [Blk.cell hSw.1]; rfl); go_simp; try with_reducible rfl⟩) HSW.out ?_
  simp only [Act.put, List.setIfInBounds_toArray, List.getElem_toArray, List.getElem_cons_succ, List.getElem_cons_zero, List.set_cons_succ, List.set_cons_zero]
  refine wpAnyZ_one (i := 4) (by kernel_rfl) rfl (fun K hK => ?_)
  try rw [if_pos (by rfl)]
  go_simp
  refine (HRJ.out _).mono ?_
  rintro e w2 ⟨rfl, rfl⟩
  refine hK.out _ _ (fun _ => HSW.out) ?_
  clear hK K
  try simp only [Act.put, List.setIfInBounds_toArray, Nat.reduceAdd, List.getElem_toArray, List.getElem_cons_succ, List.getElem_cons_zero, List.set_cons_succ, List.set_cons_zero]
  refine wpAnyZ_take (i := 6) rfl (by kernel_rfl) (fun _ _ _ h => h) (Or.inl ⟨by rfl, by intro w hSw; skip; go_simp; try with_reducible rfl⟩) HSW.out ?_
  simp only [Act.put, List.setIfInBounds_toArray, List.getElem_toArray, List.getElem_cons_succ, List.getElem_cons_zero, List.set_cons_succ, List.set_cons_zero]
  have hOz := HO.out
  have y0 : w1.cell? ⟨rp + 1, 0, none⟩ = some (.int .i64 0) := by rw [hOz.cell]; rfl
  have v0 := hOz.frozen 0
  have y1 : w1.cell? ⟨rp + 1, 1, none⟩ = some (.int .i64 0) := by rw [hOz.cell]; rfl
  have v1 := hOz.frozen 1
  have y2 : w1.cell? ⟨rp + 1, 2, none⟩ = some (.slice none 0 0) := by rw [hOz.cell]; rfl
  have v2 := hOz.frozen 2
  have y3 : w1.cell? ⟨rp + 1, 3, none⟩ = some (.int .i64 0) := by rw [hOz.cell]; rfl
  have v3 := hOz.frozen 3
  have y4 : w1.cell? ⟨rp + 1, 4, none⟩ = some (.slice none 0 0) := by rw [hOz.cell]; rfl
  have v4 := hOz.frozen 4
  have HZ := Lib.hid (((((hOz.set 0 (.int .i64 7)).set 1 (.int .i64 pi)).set 2 (.slice (some ⟨db, doff, none⟩) (r.length + 1) dc)).set 3 (.int .i64 0)).set 4 (.slice none 0 0))
  have HKR := Lib.hid (((((((Keeps.refl (only (rp + 1)) w1).put 0 (.int .i64 7)).put 1 (.int .i64 pi)).put 2 (.slice (some ⟨db, doff, none⟩) (r.length + 1) dc)).put 3 (.int .i64 0)).put 4 (.slice none 0 0)).drew)
  clear hOz
  refine wpAnyZ_one (i := 7) (by kernel_rfl) rfl (fun K hK => ?_)
  go_simp
  refine hK.out _ _ (fun h => absurd rfl h) ?_
  clear hK K
  refine wpAnyZ_done (by kernel_rfl) ?_ _
  go_wp2_with fail
  refine bodyPost_ret (results_tmp_row rfl _ _ (rp + 1) 82 _ (0, 0) _ rfl HZ.out Tryz.underlying82 rfl (by rw [HI.out]; rfl)) rfl ?_
  exact ⟨_, [], f, R, rfl, ORow.nil _ _, rfl, ⟨by simp, by simp⟩, (H1.out.keeps HKR.out (fun e => by have e : g = rp + 1 := e; have := HGL.out; omega) (fun e => by have e : f.gm = rp + 1 := e; have := HML.out; omega) (fun b hb e => by have e : b = rp + 1 := e; have := HRL.out b hb; omega)), rfl, fun b hb => .inl hb, (HK1.out.mono (fun _ h => h.elim)).trans' HKR.out (fun i hi hl => by have e : i = rp + 1 := hi; have := HRP.out; omega)⟩
end Go.Proofs.YtjomcffhbaplcaaGreatDoor
