/- Package nego: a negotiator as it lies; made, own, begin, terminated, returned. -/
import Derived.Test.YteajofcdiankiaaQ22
import Derived.Test.YteajofcdiankiaaQ17
import Derived.Test.YteajofcdiankiaaQ29
import Derived.Test.YteajofcdiankiaaQ30
namespace Go.Proofs.Yteajofcdiankiaa
open Go.RowKit
/-- What the fields of a negotiator hold. -/
structure NF where
  gm : Nat
  rules : Value
  tries : Nat
  first : Value
  request : Value
  aid : Nat
  aopts : Value
  aopen : Bool
  id : Nat
  naks : Nat
  mine : Value
  given : Value
  dropped : Nat
abbrev NF.list (f : NF) : List Value := [.pointer (some ⟨f.gm, 0, none⟩), f.rules, .int .i64 (f.tries : Int), f.first, f.request, .int .i64 (f.aid : Int), f.aopts, .bool f.aopen, .int .i64 (f.id : Int), .int .i64 (f.naks : Int), f.mine, f.given, .int .i64 (f.dropped : Int)]
/-- The negotiator's block. -/
def NBlk (w : World) (g : Nat) (f : NF) : Prop := Blk w g 82 f.list.toArray
theorem NBlk.cell {w : World} {g : Nat} {f : NF} (h : NBlk w g f) (j : Nat) : w.cell? ⟨g, j, none⟩ = f.list[j]? := by
  have : Blk w g 82 f.list.toArray := h
  rw [this.cell, List.getElem?_toArray]
theorem NBlk.frozen {w : World} {g : Nat} {f : NF} (h : NBlk w g f) (j : Nat) : w.frozen? ⟨g, j, none⟩ = false := Blk.frozen h j
theorem NBlk.keeps {S : Nat → Prop} {w w' : World} {g : Nat} {f : NF} (h : NBlk w g f) (k : Keeps S w w') (hs : ¬ S g) : NBlk w' g f := Blk.keeps h k hs
theorem NBlk.lt {w : World} {g : Nat} {f : NF} (h : NBlk w g f) : g < w.heap.size := Blk.lt h
theorem Keeps.put {a w : World} {g : Nat} (h : Keeps (only g) a w) (i : Nat) (u : Value) : Keeps (only g) a (w.setCell ⟨g, i, none⟩ u) := h.store g i (fun _ => only_self g) u
theorem pkt_info : (Try.prog.info? 51).map (·.size) = some 3 := by kernel_rfl
theorem nmade_any (g : Nat) (f : NF) (w : World) (h : NBlk w g f) : Calls Try.prog 44 #[.pointer (some ⟨g, 0, none⟩)] w fun e w' => e = .returned (.bool true) ∧ w = w' := by
  have c0 : w.cell? ⟨g, 0, none⟩ = some (.pointer (some ⟨f.gm, 0, none⟩)) := h.cell 0
  clear h
  go_enter Try.func44, Try.ntmps44
  go_wp2_with fail
  go_ret
  exact ⟨rfl, rfl⟩
set_option maxHeartbeats 2000000 in
theorem own_as (g : Nat) (f : NF) (code : Int) (A : Option Addr) (n c id' : Nat) (w : World) (h : NBlk w g f) (hid : f.id < 256) (hid' : id' = (f.id + 1) % 256) :
    Calls Try.prog 65 #[.pointer (some ⟨g, 0, none⟩), .int .i64 code, .slice A n c] w fun e w' => e = .returned (.agg #[.int .i64 code, .int .i64 (id' : Int), .slice A n c]) ∧ NBlk w' g { f with id := id' } ∧ Keeps (only g) w w' := by
  have hgl := h.lt
  have HI := Lib.hid pkt_info
  obtain ⟨r, hr⟩ : ∃ r, r = w.heap.size := ⟨_, rfl⟩
  go_enter Try.func65, Try.ntmps65
  go_upto_region 1 with fail
  rw [← hr]
  generalize hw1 : w.alloc _ = w1
  have hk1 : Keeps nobody w w1 := by rw [← hw1]; exact (Keeps.refl _ w).alloc _
  have hB : Blk w1 r 51 #[.int .i64 0, .int .i64 0, .slice none 0 0] := by rw [← hw1, hr]; exact Blk.new w _ _
  have h1 : Blk w1 g 82 f.list.toArray := h.keeps hk1 (fun h => h)
  have h2 := h1.set 8 (.int .i64 (id' : Int))
  have HB2 := Lib.hid (hB.far (p := ⟨g, 8, none⟩) (by show r ≠ g; omega) (.int .i64 (id' : Int)))
  have HK2 := Lib.hid (show Keeps (only g) w (w1.setCell ⟨g, 8, none⟩ (.int .i64 (id' : Int))) from (hk1.mono (fun _ h => h.elim)).put 8 _)
  have c8 : w1.cell? ⟨g, 8, none⟩ = some (.int .i64 (f.id : Int)) := by rw [h1.cell]; rfl
  have f8 := h1.frozen 8
  have e1 : wrap64 ((f.id : Int) + 1) = ((f.id + 1 : Nat) : Int) := by rw [IntWalk.wrap64_in _ (by omega)]; omega
  have e2 : ((f.id + 1 : Nat) : Int).tmod 256 = (id' : Int) := by rw [hid', Int.tmod_eq_emod_of_nonneg (by omega)]; omega
  have e3 : ((f.id : Int) + 1).tmod 256 = (id' : Int) := by rw [hid', Int.tmod_eq_emod_of_nonneg (by omega)]; omega
  have HN := Lib.hid (show NBlk (w1.setCell ⟨g, 8, none⟩ (.int .i64 (id' : Int))) g { f with id := id' } from h2)
  have d8 : (w1.setCell ⟨g, 8, none⟩ (.int .i64 (id' : Int))).cell? ⟨g, 8, none⟩ = some (.int .i64 (id' : Int)) := by rw [HN.out.cell]; rfl
  have HR := Lib.hid hr
  clear hw1 hk1 h h1 h2 hB hr hid'
  go_upto_region 2 with fail
  generalize hw2 : w1.setCell _ _ = w2 at *
  have hB2 := HB2.out
  have o0 : w2.cell? ⟨r, 0, none⟩ = some (.int .i64 0) := by rw [hB2.cell]; rfl
  have o1 : w2.cell? ⟨r, 1, none⟩ = some (.int .i64 0) := by rw [hB2.cell]; rfl
  have o2 : w2.cell? ⟨r, 2, none⟩ = some (.slice none 0 0) := by rw [hB2.cell]; rfl
  have g0 := hB2.frozen 0
  have g1 := hB2.frozen 1
  have g2 := hB2.frozen 2
  have HZ := Lib.hid (((hB2.set 0 (.int .i64 code)).set 1 (.int .i64 (id' : Int))).set 2 (.slice A n c))
  have KS := ((((Keeps.refl (only r) w2).put 0 (.int .i64 code)).put 1 (.int .i64 (id' : Int))).put 2 (.slice A n c))
  have HKS := Lib.hid (show Keeps (only g) w _ from HK2.out.trans' KS (fun i hi hl => by have e : i = r := hi; have := HR.out; omega))
  have HNS := Lib.hid (HN.out.keeps KS (fun e => by have e : g = r := e; have := HR.out; omega))
  clear hw2 hB2 KS c8 f8 e1 e2 e3
  go_wp2_with fail
  refine bodyPost_ret (results_row1 rfl _ _ r 51 _ (0, 0) _ rfl HZ.out Try.underlying51 rfl (by rw [HI.out]; rfl)) rfl ?_
  exact ⟨rfl, HNS.out, HKS.out⟩
set_option maxHeartbeats 2000000 in
theorem begin_any (F : Nat → Prop) (g : Nat) (f : NF) (zs : List (Value × Pure.Opt)) (w : World) (h : NBlk w g f) (hx : ORow w F f.first zs) (hfx : FewOpts zs) :
    Calls Try.prog 43 #[.pointer (some ⟨g, 0, none⟩)] w fun e w' => e = .returned (.tuple #[]) ∧ ∃ u, ∃ qs : List (Value × Pure.Opt), optsOf qs = optsOf zs ∧ ORow w' (fun b => w.heap.size ≤ b) u qs ∧ NBlk w' g { f with request := u, naks := 0 } ∧ Keeps (only g) w w' := by
  have HCP := Lib.hid (copies_any F f.first zs w hx hfx.len hfx.data)
  have H := Lib.hid h
  have hgl := h.lt
  obtain ⟨X, cx, hX, _⟩ := hx.form
  have c3 : w.cell? ⟨g, 3, none⟩ = some f.first := h.cell 3
  rw [hX] at HCP c3
  clear h hx hfx
  go_enter Try.func43, Try.ntmps43
  go_wp2_with fail
  refine HCP.out.mono ?_
  rintro e w1 ⟨u, qs, rfl, hqs, hrd⟩
  obtain ⟨A, c, rfl⟩ := own_form hrd.own
  have hk1 : Keeps nobody w w1 := Keeps.new hrd.below
  have h1 : Blk w1 g 82 f.list.toArray := H.out.keeps hk1 (fun h => h)
  have HQS := Lib.hid hqs
  have c4 : w1.cell? ⟨g, 4, none⟩ = some f.request := by rw [h1.cell]; rfl
  have f4 := h1.frozen 4
  have h2 : Blk (w1.setCell ⟨g, 4, none⟩ (.slice A qs.length c)) g 82 ({ f with request := .slice A qs.length c } : NF).list.toArray := h1.set 4 (.slice A qs.length c)
  have HK2 := Lib.hid (show Keeps (only g) w (w1.setCell ⟨g, 4, none⟩ (.slice A qs.length c)) from (hk1.mono (fun _ h => h.elim)).put 4 _)
  have HR2 := Lib.hid (hrd.row.keeps ((Keeps.refl (only g) w1).put 4 (.slice A qs.length c)) (fun b hb e => by have e : b = g := e; omega))
  have d9 : (w1.setCell ⟨g, 4, none⟩ (.slice A qs.length c)).cell? ⟨g, 9, none⟩ = some (.int .i64 (f.naks : Int)) := by rw [h2.cell]; rfl
  have g9 := h2.frozen 9
  have HN := Lib.hid (show NBlk ((w1.setCell ⟨g, 4, none⟩ (.slice A qs.length c)).setCell ⟨g, 9, none⟩ (.int .i64 0)) g { f with request := .slice A qs.length c, naks := 0 } from h2.set 9 (.int .i64 0))
  have HK3 := Lib.hid (HK2.out.put 9 (.int .i64 0))
  have HR3 := Lib.hid (HR2.out.keeps ((Keeps.refl (only g) (w1.setCell ⟨g, 4, none⟩ (.slice A qs.length c))).put 9 (.int .i64 0)) (fun b hb e => by have e : b = g := e; omega))
  clear hqs hrd hk1 h1 h2 HR2 HK2 c3 HCP H
  go_wp2_with fail
  go_end0
  exact ⟨rfl, _, qs, HQS.out, HR3.out, HN.out, HK3.out⟩
end Go.Proofs.Yteajofcdiankiaa
/- Package nego: terminated, returned, ask. -/
namespace Go.Proofs.Yteajofcdiankiaa
open Go.RowKit
/-- What led to actions, handed by value. -/
abbrev causeV (p : Pure.Pkt) (d : Value) (code : Int) (ov : Value) : Value := .agg #[.int .i64 p.code, .int .i64 p.id, d, .int .i64 code, ov]
set_option maxHeartbeats 2000000 in
theorem terminated_req (g : Nat) (f : NF) (p : Pure.Pkt) (d : Value) (code : Int) (ov : Value) (w : World) (h : NBlk w g f) (hp : p.code = 5) :
    Calls Try.prog 66 #[.pointer (some ⟨g, 0, none⟩), causeV p d code ov] w fun e w' => e = .returned (.agg #[.int .i64 6, .int .i64 p.id, .slice none 0 0]) ∧ NBlk w' g f ∧ Keeps (only g) w w' := by
  have HI := Lib.hid pkt_info
  obtain ⟨rc, hrc⟩ : ∃ r, r = w.heap.size := ⟨_, rfl⟩
  obtain ⟨pc, pi, pd⟩ := p
  dsimp only at hp ⊢
  subst hp
  have hgl := h.lt
  go_enter Try.func66, Try.ntmps66
  go_upto_region 1 with fail
  rw [← hrc]
  generalize hw1 : (w.alloc _).alloc _ = w1
  have hk1 : Keeps nobody w w1 := by rw [← hw1]; exact ((Keeps.refl _ w).alloc _).alloc _
  have hC : Blk w1 rc 87 #[.int .i64 5, .int .i64 pi, d, .int .i64 code, ov] := by rw [← hw1, hrc]; exact (Blk.new w _ _).alloc _
  have hO : Blk w1 (rc + 1) 51 #[.int .i64 0, .int .i64 0, .slice none 0 0] := by
    rw [← hw1, show rc + 1 = (w.alloc (.cells #[.int .i64 5, .int .i64 pi, d, .int .i64 code, ov] 87)).heap.size by rw [hrc]; simp]
    exact Blk.new _ _ _
  have c0 : w1.cell? ⟨rc, 0, none⟩ = some (.int .i64 5) := by rw [hC.cell]; rfl
  have c1 : w1.cell? ⟨rc, 1, none⟩ = some (.int .i64 pi) := by rw [hC.cell]; rfl
  have o0 : w1.cell? ⟨rc + 1, 0, none⟩ = some (.int .i64 0) := by rw [hO.cell]; rfl
  have o1 : w1.cell? ⟨rc + 1, 1, none⟩ = some (.int .i64 0) := by rw [hO.cell]; rfl
  have o2 : w1.cell? ⟨rc + 1, 2, none⟩ = some (.slice none 0 0) := by rw [hO.cell]; rfl
  have g0 := hO.frozen 0
  have g1 := hO.frozen 1
  have g2 := hO.frozen 2
  have HZ := Lib.hid (((hO.set 0 (.int .i64 6)).set 1 (.int .i64 pi)).set 2 (.slice none 0 0))
  have KR := (((Keeps.refl (only (rc + 1)) w1).put 0 (.int .i64 6)).put 1 (.int .i64 pi)).put 2 (.slice none 0 0)
  have HN := Lib.hid ((h.keeps hk1 (fun h => h)).keeps KR (fun e => by have e : g = rc + 1 := e; omega))
  have HK := Lib.hid (show Keeps (only g) w _ from (hk1.mono (fun _ h => h.elim)).trans' KR (fun i hi hl => by have e : i = rc + 1 := hi; omega))
  clear hw1 hk1 hC hO KR h hrc hgl
  go_wp2_with fail
  refine bodyPost_ret (results_row1 rfl _ _ (rc + 1) 51 _ (0, 0) _ rfl HZ.out Try.underlying51 rfl (by rw [HI.out]; rfl)) rfl ?_
  exact ⟨rfl, HN.out, HK.out⟩
set_option maxHeartbeats 2000000 in
theorem terminated_own (g : Nat) (f : NF) (p : Pure.Pkt) (d : Value) (code : Int) (ov : Value) (id' : Nat) (w : World) (h : NBlk w g f) (hid : f.id < 256) (hid' : id' = (f.id + 1) % 256) (hp : p.code ≠ 5) :
    Calls Try.prog 66 #[.pointer (some ⟨g, 0, none⟩), causeV p d code ov] w fun e w' => e = .returned (.agg #[.int .i64 6, .int .i64 (id' : Int), .slice none 0 0]) ∧ NBlk w' g { f with id := id' } ∧ Keeps (only g) w w' := by
  have HI := Lib.hid pkt_info
  obtain ⟨rc, hrc⟩ : ∃ r, r = w.heap.size := ⟨_, rfl⟩
  obtain ⟨pc, pi, pd⟩ := p
  dsimp only at hp ⊢
  have q5 : (pc == 5) = false := by rw [beq_eq_false_iff_ne]; exact hp
  have hgl := h.lt
  go_enter Try.func66, Try.ntmps66
  go_upto_region 1 with fail
  rw [← hrc]
  generalize hw1 : (w.alloc _).alloc _ = w1
  have hk1 : Keeps nobody w w1 := by rw [← hw1]; exact ((Keeps.refl _ w).alloc _).alloc _
  have hC : Blk w1 rc 87 #[.int .i64 pc, .int .i64 pi, d, .int .i64 code, ov] := by rw [← hw1, hrc]; exact (Blk.new w _ _).alloc _
  have hO : Blk w1 (rc + 1) 51 #[.int .i64 0, .int .i64 0, .slice none 0 0] := by
    rw [← hw1, show rc + 1 = (w.alloc (.cells #[.int .i64 pc, .int .i64 pi, d, .int .i64 code, ov] 87)).heap.size by rw [hrc]; simp]
    exact Blk.new _ _ _
  have HOW := Lib.hid (own_as g f 6 none 0 0 id' w1 (h.keeps hk1 (fun h => h)) hid hid')
  have c0 : w1.cell? ⟨rc, 0, none⟩ = some (.int .i64 pc) := by rw [hC.cell]; rfl
  have HO := Lib.hid hO
  have HK1 := Lib.hid hk1
  have HRC := Lib.hid hrc
  have HGL := Lib.hid hgl
  clear hw1 hk1 hC hO h hid hid' hp hrc hgl
  go_wp2_with fail
  refine HOW.out.mono ?_
  rintro e w2 ⟨rfl, hn2, hk2⟩
  have hO := HO.out.keeps hk2 (fun e => by have e : rc + 1 = g := e; have := HRC.out; have := HGL.out; omega)
  have o0 : w2.cell? ⟨rc + 1, 0, none⟩ = some (.int .i64 0) := by rw [hO.cell]; rfl
  have o1 : w2.cell? ⟨rc + 1, 1, none⟩ = some (.int .i64 0) := by rw [hO.cell]; rfl
  have o2 : w2.cell? ⟨rc + 1, 2, none⟩ = some (.slice none 0 0) := by rw [hO.cell]; rfl
  have g0 := hO.frozen 0
  have g1 := hO.frozen 1
  have g2 := hO.frozen 2
  have HZ := Lib.hid (((hO.set 0 (.int .i64 6)).set 1 (.int .i64 (id' : Int))).set 2 (.slice none 0 0))
  have KR := (((Keeps.refl (only (rc + 1)) w2).put 0 (.int .i64 6)).put 1 (.int .i64 (id' : Int))).put 2 (.slice none 0 0)
  have HN := Lib.hid (hn2.keeps KR (fun e => by have e : g = rc + 1 := e; have := HRC.out; have := HGL.out; omega))
  have HK := Lib.hid (show Keeps (only g) w _ from ((HK1.out.mono (fun _ h => h.elim)).trans hk2).trans' KR (fun i hi hl => by have e : i = rc + 1 := hi; have := HRC.out; omega))
  clear hO KR hn2 hk2 c0
  go_wp2_with fail
  refine bodyPost_ret (results_row1 rfl _ _ (rc + 1) 51 _ (0, 0) _ rfl HZ.out Try.underlying51 rfl (by rw [HI.out]; rfl)) rfl ?_
  exact ⟨rfl, HN.out, HK.out⟩
theorem returned_any (F : Nat → Prop) (v : Value) (p : Pure.Pkt) (w : World) (hF : ∀ b, F b → b < w.heap.size) (hr : Row w F 1 v p.data.length (u8s p.data)) :
    Calls Try.prog 67 #[pktV p v] w fun e w' => ∃ A c, e = .returned (.slice A ((Pure.encode p).2.take 1496).length c) ∧ Row w' (fun b => w.heap.size ≤ b) 1 (.slice A ((Pure.encode p).2.take 1496).length c) ((Pure.encode p).2.take 1496).length (u8s ((Pure.encode p).2.take 1496)) ∧ Keeps nobody w w' := by
  have hk0 := (Keeps.refl nobody w).alloc (.cells #[.int .i64 p.code, .int .i64 p.id, v] 51)
  have HE := Lib.hid (encode_any F v p (w.alloc (.cells #[.int .i64 p.code, .int .i64 p.id, v] 51)) (fun b hb => Nat.lt_of_lt_of_le (hF b hb) hk0.size) (hr.keeps hk0 (fun _ _ h => h)))
  have HK0 := Lib.hid hk0
  obtain ⟨A0, c0, rfl, _⟩ := hr.form
  obtain ⟨L, hL⟩ : ∃ L, L = (Pure.encode p).2 := ⟨_, rfl⟩
  rw [← hL] at HE ⊢
  clear hF hr hk0 hL
  by_cases hl : L.length ≤ 1496
  · have ht : L.take 1496 = L := List.take_of_length_le hl
    rw [ht]
    have e1 : min (L.length : Int) 1496 = (L.length : Int) := by omega
    have i3 : ¬ (1496 : Int) < (L.length : Int) := by omega
    have i4 : (L.length : Int) ≤ 1496 := by omega
    clear ht
    go_enter Try.func67, Try.ntmps67
    go_wp2_with fail
    refine HE.out.mono ?_
    rintro e w1 ⟨u, rfl, hu, hb⟩
    obtain ⟨A, c, rfl⟩ := own_form hu
    have hrow := (Row.of_own hu).mono (G := fun b => w.heap.size ≤ b) (fun b hb => Nat.le_trans HK0.out.size (ownsRow_ge hu b hb))
    have hcl : L.length ≤ c := by
      obtain ⟨_, _, A', c', e', hc', _⟩ := hrow
      injection e' with _ _ e3
      omega
    have HR := Lib.hid hrow
    have HK := Lib.hid (HK0.out.trans (Keeps.new hb))
    have i5 : (L.length : Int) ≤ (c : Int) := by omega
    clear hu hb HE hrow
    go_wp2_with fail
    go_ret
    exact ⟨A, c, rfl, HR.out, HK.out⟩
  · have i3 : (1496 : Int) < (L.length : Int) := by omega
    have e1 : min (L.length : Int) 1496 = 1496 := by omega
    have i4 : ¬ (L.length : Int) ≤ 1496 := by omega
    have hlt : (L.take 1496).length = 1496 := by rw [List.length_take]; omega
    rw [hlt]
    have HLT := Lib.hid hlt
    clear hlt
    go_enter Try.func67, Try.ntmps67
    go_wp2_with fail
    refine HE.out.mono ?_
    rintro e w1 ⟨u, rfl, hu, hb⟩
    obtain ⟨A, c, rfl⟩ := own_form hu
    have hrow := (Row.of_own hu).mono (G := fun b => w.heap.size ≤ b) (fun b hb => Nat.le_trans HK0.out.size (ownsRow_ge hu b hb))
    have hcl : L.length ≤ c := by
      obtain ⟨_, _, A', c', e', hc', _⟩ := hrow
      injection e' with _ _ e3
      omega
    have HR := Lib.hid (show Row w1 (fun b => w.heap.size ≤ b) 1 (.slice A 1496 c) 1496 (u8s (L.take 1496)) by rw [u8s_take]; exact hrow.take1 1496 (by omega))
    have HK := Lib.hid (HK0.out.trans (Keeps.new hb))
    have i5 : (1496 : Int) ≤ (c : Int) := by omega
    clear hu hb HE hrow
    go_wp2_with fail
    go_ret
    exact ⟨A, c, rfl, HR.out, HK.out⟩
end Go.Proofs.Yteajofcdiankiaa
