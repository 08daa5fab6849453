/- The document's Decode of a packet. -/
import Derived.Test.YtaalbjbocbagcaaDoorPktA
import Derived.Test.YtaalbjbocbagcaaDoorCopy
import Derived.Test.YtaalbjbocbagcaaDoorCut
import Derived.Test.YtaalbjbocbagcaaDoorRowSet
import Derived.Laws.Rows
namespace Go.Proofs.YtaalbjbocbagcaaDoor
open Go.RowKit
theorem results_row_tmp {P : Program} {fn : Func} {p u : Tmp} {ty : TypeId} (h : fn.results = #[.cell p ty, .tmp u]) (tmps : Array Value) (w : World) (g : Nat) (t : TypeId) (cs : Array Value) (fr : Nat × Nat) (d : TypeDesc)
    (hp : tmps.getD p undef = .pointer (some ⟨g, 0, none⟩)) (hg : w.heap[g]? = some (.cells cs t fr))
    (hu : P.underlying ty = some d) (hd : (match d with | .struct _ | .array _ _ => true | _ => false) = true) (hi : (P.info? ty).map (·.size) = some cs.size) :
    (results fn tmps).run P w = .ok (.tuple #[.agg cs, tmps.getD u undef]) w := by
  have hp' : tmps[p]?.getD undef = .pointer (some ⟨g, 0, none⟩) := by simpa using hp
  simp [results, h, Sem.run_bind, hp', asAddr, run_loadVar_row w g t ty cs fr d hg hu hd hi, Result.andThen]
theorem cell_quiet {w w' : World} {b off : Nat} {u : Value} (h : w.cell? ⟨b, off, none⟩ = some u) (k : Keeps nobody w w') : w'.cell? ⟨b, off, none⟩ = some u :=
  (World.cell?_of_block (w := w) (a := ⟨b, off, none⟩) (k.block b (cell_lt h) (fun x => x))).trans h
theorem pkt_info : (Tryd.prog.info? 28).map (·.size) = some 3 := by kernel_rfl
set_option maxRecDepth 100000 in
set_option maxHeartbeats 4000000 in
theorem docdecode_any (F : Nat → Prop) (x : Value) (bs : List UInt8) (w : World) (hF : ∀ b, F b → b < w.heap.size) (hr : Row w F 1 x bs.length (u8s bs)) :
    Calls Tryd.prog 15 #[x] w fun e w' => ∃ u, e = .returned (.tuple #[pktV (Pure.decode bs).2 u, .int .i64 (((Pure.decode bs).1 : Nat) : Int)]) ∧ Row w' (fun b => w.heap.size ≤ b) 1 u (Pure.decode bs).2.data.length (u8s (Pure.decode bs).2.data) ∧ Below w.heap.size w w' := by
  obtain ⟨A, cA, rfl, hc⟩ := hr.form
  have hml := hr.2.1
  unfold maxLen at hml
  have HR := Lib.hid hr
  have HF := Lib.hid hF
  clear hr hF
  have HI := Lib.hid pkt_info
  obtain ⟨g, hg⟩ : ∃ g, g = w.heap.size := ⟨_, rfl⟩
  go_enter Tryd.func15, Tryd.ntmps15
  go_upto_region 1 with fail
  rw [← hg]
  generalize hw1 : w.alloc _ = w1
  have hB : Blk w1 g 28 #[.int .i64 0, .int .i64 0, .slice none 0 0] := by rw [← hw1, hg]; exact Blk.new w _ _
  have HB := Lib.hid hB
  have HK := Lib.hid (show Keeps nobody w w1 by rw [← hw1]; exact (Keeps.refl _ w).alloc _)
  have HG := Lib.hid hg
  clear hw1 hg
  have cz0 : w1.cell? ⟨g, 0, none⟩ = some (.int .i64 0) := by rw [hB.cell]; rfl
  have cz1 : w1.cell? ⟨g, 1, none⟩ = some (.int .i64 0) := by rw [hB.cell]; rfl
  have cz2 : w1.cell? ⟨g, 2, none⟩ = some (.slice none 0 0) := by rw [hB.cell]; rfl
  have fz0 := hB.frozen 0
  have fz1 := hB.frozen 1
  have fz2 := hB.frozen 2
  have hs := ((hB.set 0 (.int .i64 0)).set 1 (.int .i64 0)).set 2 (.slice none 0 0)
  have hks := ((HK.out.store g 0 (fun h => by have := HG.out; omega) (.int .i64 0)).store g 1 (fun h => by have := HG.out; omega) (.int .i64 0)).store g 2 (fun h => by have := HG.out; omega) (.slice none 0 0)
  have HZS := Lib.hid hs
  have HKS := Lib.hid hks
  clear hB hs hks
  by_cases h4 : bs.length < 4
  · have hd := Pure.decode_short h4
    have HD := Lib.hid hd
    have d0 : decide ((bs.length : Int) < 4) = true := decide_eq_true (by omega)
    clear hd
    go_wp2
    refine bodyPost_ret (results_row_tmp rfl _ _ g 28 _ (0, 0) _ rfl HZS.out Tryd.underlying28 rfl (by rw [HI.out]; rfl)) rfl ?_
    exact ⟨.slice none 0 0, by rw [HD.out]; rfl, by rw [HD.out]; exact Row.nil _ _ _, HKS.out.to_below⟩
  · have d0 : decide ((bs.length : Int) < 4) = false := decide_eq_false (by omega)
    obtain ⟨bx, ox, rfl, hFb, hcx⟩ := (HR.out.keeps HK.out (fun _ _ h => h)).cellAt (by omega)
    have b0 := hcx 0 _ (u8s_at bs 0 (by omega))
    have b1 := hcx 1 _ (u8s_at bs 1 (by omega))
    have b2 := hcx 2 _ (u8s_at bs 2 (by omega))
    have b3 := hcx 3 _ (u8s_at bs 3 (by omega))
    have hst : Pure.stated bs = (bs.getD 2 0).toNat * 256 + (bs.getD 3 0).toNat := rfl
    have dform := fun h => Pure.decode_form h4 h
    have dcut := fun h h' => Pure.decode_cut h4 h h'
    have dlong := fun h h' h'' => Pure.decode_long h4 h h' h''
    have dok := fun h h' h'' => Pure.decode_ok h4 h h' h''
    have l2 := (bs.getD 2 0).toNat_lt
    have l3 := (bs.getD 3 0).toNat_lt
    have l0 := (bs.getD 0 0).toNat_lt
    have l1 := (bs.getD 1 0).toNat_lt
    obtain ⟨B0, hB0⟩ : ∃ b, b = (bs.getD 0 0).toNat := ⟨_, rfl⟩
    obtain ⟨B1, hB1⟩ : ∃ b, b = (bs.getD 1 0).toNat := ⟨_, rfl⟩
    obtain ⟨B2, hB2⟩ : ∃ b, b = (bs.getD 2 0).toNat := ⟨_, rfl⟩
    obtain ⟨B3, hB3⟩ : ∃ b, b = (bs.getD 3 0).toNat := ⟨_, rfl⟩
    obtain ⟨n, hn⟩ : ∃ n, n = Pure.stated bs := ⟨_, rfl⟩
    rw [← hB2, ← hB3, ← hn] at hst
    rw [← hB0] at b0 l0 dok
    rw [← hB1] at b1 l1 dok
    rw [← hB2] at b2 l2
    rw [← hB3] at b3 l3
    rw [← hn] at dform dcut dlong dok
    have eor : bits .or .i64 ((B2 : Int) * 256) (B3 : Int) = (n : Int) := by
      have h := i64_or_nat (B2 * 256) B3 (by omega) (by omega)
      rw [show B2 * 256 ||| B3 = n by rw [hst, show (256 : Nat) = 2 ^ 8 by rfl, ← Nat.shiftLeft_eq, Nat.shiftLeft_add_eq_or_of_lt (show B3 < 2 ^ 8 by omega)]] at h
      simpa using h
    have hn2 : n < 65536 := by omega
    have DFORM := Lib.hid dform
    have DCUT := Lib.hid dcut
    have DLONG := Lib.hid dlong
    have DOK := Lib.hid dok
    have p2 : (2 : Int) < (bs.length : Int) := by omega
    have p3 : (3 : Int) < (bs.length : Int) := by omega
    have p0 : (0 : Int) < (bs.length : Int) := by omega
    have p1 : (1 : Int) < (bs.length : Int) := by omega
    clear hcx hB0 hB1 hB2 hB3 hn hst dform dcut dlong dok
    go_wp2_with fail
    go_quiet (fail)
    obtain ⟨w2, hw2⟩ : ∃ w2, w2 = w1.drewN nq := ⟨_, rfl⟩
    rw [← hw2]
    have hk2 := Keeps.of_drewN hw2
    have hB2 := HB.out.keeps hk2 (fun x => x)
    have HK2 := Lib.hid (HK.out.trans hk2)
    have c0 := cell_quiet b0 hk2
    have c1 := cell_quiet b1 hk2
    have z0 : w2.cell? ⟨g, 0, none⟩ = some (.int .i64 0) := by rw [hB2.cell]; rfl
    have z1 : w2.cell? ⟨g, 1, none⟩ = some (.int .i64 0) := by rw [hB2.cell]; rfl
    have z2 : w2.cell? ⟨g, 2, none⟩ = some (.slice none 0 0) := by rw [hB2.cell]; rfl
    have y0 := hB2.frozen 0
    have y1 := hB2.frozen 1
    have y2 := hB2.frozen 2
    have HZS2 := Lib.hid (((hB2.set 0 (.int .i64 0)).set 1 (.int .i64 0)).set 2 (.slice none 0 0))
    have HKS2 := Lib.hid (((HK2.out.store g 0 (fun h => by have := HG.out; omega) (.int .i64 0)).store g 1 (fun h => by have := HG.out; omega) (.int .i64 0)).store g 2 (fun h => by have := HG.out; omega) (.slice none 0 0))
    have HB2 := Lib.hid hB2
    have hgx : bx ≠ g := by have := HF.out bx hFb; have := HG.out; omega
    clear hw2 hk2 hB2 b0 b1 b2 b3 cz0 cz1 cz2 fz0 fz1 fz2 HZS HKS HB HK eor
    by_cases h5 : n < 4
    · have HD := Lib.hid (DFORM.out h5)
      have d1 : decide ((n : Int) < 4) = true := decide_eq_true (by omega)
      clear DFORM DCUT DLONG DOK
      go_wp2
      refine bodyPost_ret (results_row_tmp rfl _ _ g 28 _ (0, 0) _ rfl HZS2.out Tryd.underlying28 rfl (by rw [HI.out]; rfl)) rfl ?_
      exact ⟨.slice none 0 0, by rw [HD.out]; rfl, by rw [HD.out]; exact Row.nil _ _ _, HKS2.out.to_below⟩
    have d1 : decide ((n : Int) < 4) = false := decide_eq_false (by omega)
    by_cases h6 : bs.length < n
    · have HD := Lib.hid (DCUT.out h5 h6)
      have d2 : decide ((bs.length : Int) < (n : Int)) = true := decide_eq_true (by omega)
      have d3 : decide (bs.length < n) = true := decide_eq_true h6
      clear DFORM DCUT DLONG DOK
      go_wp2
      refine bodyPost_ret (results_row_tmp rfl _ _ g 28 _ (0, 0) _ rfl HZS2.out Tryd.underlying28 rfl (by rw [HI.out]; rfl)) rfl ?_
      exact ⟨.slice none 0 0, by rw [HD.out]; rfl, by rw [HD.out]; exact Row.nil _ _ _, HKS2.out.to_below⟩
    have d2 : decide ((bs.length : Int) < (n : Int)) = false := decide_eq_false (by omega)
    have d3 : decide (bs.length < n) = false := decide_eq_false h6
    by_cases h7 : 1500 < n
    · have HD := Lib.hid (DLONG.out h5 h6 h7)
      have d4 : decide ((1500 : Int) < (n : Int)) = true := decide_eq_true (by omega)
      clear DFORM DCUT DLONG DOK
      go_wp2
      refine bodyPost_ret (results_row_tmp rfl _ _ g 28 _ (0, 0) _ rfl HZS2.out Tryd.underlying28 rfl (by rw [HI.out]; rfl)) rfl ?_
      exact ⟨.slice none 0 0, by rw [HD.out]; rfl, by rw [HD.out]; exact Row.nil _ _ _, HKS2.out.to_below⟩
    have d4 : decide ((1500 : Int) < (n : Int)) = false := decide_eq_false (by omega)
    have HD := Lib.hid (DOK.out h5 h6 h7)
    have hn4 : 4 ≤ n := by omega
    have hnb : n ≤ bs.length := by omega
    have v0 : IntKind.i64.wrap (B0 : Int) = (B0 : Int) := IntWalk.i64_in _ (by omega)
    have v1 : IntKind.i64.wrap (B1 : Int) = (B1 : Int) := IntWalk.i64_in _ (by omega)
    have r0 : 0 < bs.length := by omega
    have r1 : 1 < bs.length := by omega
    have r4 : 4 ≤ bs.length := by omega
    have q0 : (4 : Int) ≤ (n : Int) := by omega
    have q1 : (n : Int) ≤ (bs.length : Int) := by omega
    have q2 : (n : Int) ≤ (cA : Int) := by omega
    clear DFORM DCUT DLONG DOK z0 z1 z2 y0 y1 y2 HZS2 HKS2
    go_upto_region 10 with fail
    refine wp_region_Z (fun w' => w'.cell? ⟨bx, ox, none⟩ = some (.int .u8 B0) ∧ w'.cell? ⟨bx, ox + 1, none⟩ = some (.int .u8 B1)) 14 15 rfl (by kernel_rfl) ⟨c0, c1⟩ (fun hHeld => ?_)
    refine wpAnyZ_take (i := 0) rfl (by kernel_rfl) (fun _ _ _ h => h) (Or.inl ⟨by rfl, by intro w hSw; obtain ⟨s0, s1⟩ := hSw; go_simp; try with_reducible rfl⟩) hHeld.out ?_
    simp only [Act.put, List.setIfInBounds_toArray, Nat.reduceAdd, List.getElem_toArray, List.getElem_cons_succ, List.getElem_cons_zero, List.set_cons_succ, List.set_cons_zero]
    refine wpAnyZ_take (i := 1) rfl (by kernel_rfl) (fun _ _ _ h => h) (Or.inl ⟨by rfl, by intro w hSw; obtain ⟨s0, s1⟩ := hSw; go_simp; try with_reducible rfl⟩) hHeld.out ?_
    simp only [Act.put, List.setIfInBounds_toArray, Nat.reduceAdd, List.getElem_toArray, List.getElem_cons_succ, List.getElem_cons_zero, List.set_cons_succ, List.set_cons_zero]
    refine wpAnyZ_take (i := 2) rfl (by kernel_rfl) (fun _ _ _ h => h) (Or.inl ⟨by rfl, by intro w hSw; obtain ⟨s0, s1⟩ := hSw; go_simp; try with_reducible rfl⟩) hHeld.out ?_
    simp only [Act.put, List.setIfInBounds_toArray, Nat.reduceAdd, List.getElem_toArray, List.getElem_cons_succ, List.getElem_cons_zero, List.set_cons_succ, List.set_cons_zero]
    refine wpAnyZ_take (i := 3) rfl (by kernel_rfl) (fun _ _ _ h => h) (Or.inl ⟨by rfl, by intro w hSw; obtain ⟨s0, s1⟩ := hSw; go_simp; try with_reducible rfl⟩) hHeld.out ?_
    simp only [Act.put, List.setIfInBounds_toArray, Nat.reduceAdd, List.getElem_toArray, List.getElem_cons_succ, List.getElem_cons_zero, List.set_cons_succ, List.set_cons_zero]
    refine wpAnyZ_take (i := 4) rfl (by kernel_rfl) (fun _ _ _ h => h) (Or.inl ⟨by rfl, by intro w hSw; obtain ⟨s0, s1⟩ := hSw; go_simp; try with_reducible rfl⟩) hHeld.out ?_
    simp only [Act.put, List.setIfInBounds_toArray, Nat.reduceAdd, List.getElem_toArray, List.getElem_cons_succ, List.getElem_cons_zero, List.set_cons_succ, List.set_cons_zero]
    refine wpAnyZ_take (i := 5) rfl (by kernel_rfl) (fun _ _ _ h => h) (Or.inl ⟨by rfl, by intro w hSw; obtain ⟨s0, s1⟩ := hSw; go_simp; try with_reducible rfl⟩) hHeld.out ?_
    simp only [Act.put, List.setIfInBounds_toArray, Nat.reduceAdd, List.getElem_toArray, List.getElem_cons_succ, List.getElem_cons_zero, List.set_cons_succ, List.set_cons_zero]
    refine wpAnyZ_take (i := 6) rfl (by kernel_rfl) (fun _ _ _ h => h) (Or.inl ⟨by rfl, by intro w hSw; obtain ⟨s0, s1⟩ := hSw; go_simp; try with_reducible rfl⟩) hHeld.out ?_
    simp only [Act.put, List.setIfInBounds_toArray, Nat.reduceAdd, List.getElem_toArray, List.getElem_cons_succ, List.getElem_cons_zero, List.set_cons_succ, List.set_cons_zero]
    refine wpAnyZ_take (i := 7) rfl (by kernel_rfl) (fun _ _ _ h => h) (Or.inl ⟨by rfl, by intro w hSw; obtain ⟨s0, s1⟩ := hSw; go_simp; try with_reducible rfl⟩) hHeld.out ?_
    simp only [Act.put, List.setIfInBounds_toArray, Nat.reduceAdd, List.getElem_toArray, List.getElem_cons_succ, List.getElem_cons_zero, List.set_cons_succ, List.set_cons_zero]
    refine wpAnyZ_take (i := 8) rfl (by kernel_rfl) (fun _ _ _ h => h) (Or.inl ⟨by rfl, by intro w hSw; obtain ⟨s0, s1⟩ := hSw; go_simp; try with_reducible rfl⟩) hHeld.out ?_
    simp only [Act.put, List.setIfInBounds_toArray, Nat.reduceAdd, List.getElem_toArray, List.getElem_cons_succ, List.getElem_cons_zero, List.set_cons_succ, List.set_cons_zero]
    refine wpAnyZ_take (i := 9) rfl (by kernel_rfl) (fun _ _ _ h => h) (Or.inl ⟨by rfl, by intro w hSw; obtain ⟨s0, s1⟩ := hSw; go_simp; try with_reducible rfl⟩) hHeld.out ?_
    simp only [Act.put, List.setIfInBounds_toArray, Nat.reduceAdd, List.getElem_toArray, List.getElem_cons_succ, List.getElem_cons_zero, List.set_cons_succ, List.set_cons_zero]
    refine wpAnyZ_take (i := 10) (v := cutV (some ⟨bx, ox, none⟩) cA 4 (n - 4)) rfl (by kernel_rfl) (fun _ _ _ h => h) (Or.inl ⟨by rfl, by intro w hSw; obtain ⟨s0, s1⟩ := hSw; go_simp; exact cut_value' _ cA 4 (n - 4)⟩) hHeld.out ?_
    simp only [Act.put, List.setIfInBounds_toArray, Nat.reduceAdd, List.getElem_toArray, List.getElem_cons_succ, List.getElem_cons_zero, List.set_cons_succ, List.set_cons_zero]
    refine wpAnyZ_one (i := 11) (by kernel_rfl) rfl (fun K hK => ?_)
    go_simp
    have hdl : ((bs.drop 4).take (n - 4)).length = n - 4 := by rw [List.length_take, List.length_drop]; omega
    refine (copy_any F (cutV (some ⟨bx, ox, none⟩) cA 4 (n - 4)) ((bs.drop 4).take (n - 4)) w2.drew (by
      have h := ((HR.out.keeps HK2.out (fun _ _ h => h)).cutV 4 (n - 4) (by omega)).keeps (Keeps.refl nobody _).drew (fun _ _ h => h)
      rw [hdl]
      exact h) (fun b hb => Nat.lt_of_lt_of_le (HF.out b hb) HK2.out.size) (by rw [hdl]; omega)).mono ?_
    rintro e w3 ⟨u, rfl, hu, hb3⟩
    have hk3 : Keeps nobody w2 w3 := Keeps.new ⟨hb3.os, hb3.tape, hb3.output, hb3.size, hb3.block⟩
    have hu : w3.ownsRow w2.heap.size 5 1 u ((bs.drop 4).take (n - 4)).length (u8s ((bs.drop 4).take (n - 4))) := hu
    have HH3 := Lib.hid (And.intro (cell_quiet hHeld.out.1 (w := w2) hk3) (cell_quiet hHeld.out.2 (w := w2) hk3))
    refine hK.out _ _ (fun _ => HH3.out) ?_
    clear hK K hHeld
    obtain ⟨A3, c3, rfl⟩ := own_form hu
    have HU3 := Lib.hid (Row.of_own hu)
    have hge := fun b hb => ownsRow_ge hu b hb
    have HGE := Lib.hid hge
    have HB3 := Lib.hid (HB2.out.keeps hk3 (fun x => x))
    have HBL := Lib.hid HB2.out.lt
    have HK3 := Lib.hid (HK2.out.trans hk3)
    clear hu hb3 hk3 HB2 hge
    refine wpAnyZ_take (i := 12) rfl (by kernel_rfl) (fun _ _ _ h => h) (Or.inl ⟨by rfl, by intro w hSw; go_simp; try with_reducible rfl⟩) HH3.out ?_
    simp only [Act.put, List.setIfInBounds_toArray, Nat.reduceAdd, List.getElem_toArray, List.getElem_cons_succ, List.getElem_cons_zero, List.set_cons_succ, List.set_cons_zero]
    refine wpAnyZ_one (i := 13) (by kernel_rfl) rfl (fun K hK => ?_)
    rw [if_pos (by rfl)]
    refine wp_store_row 28 (.tmp 2) (.tmp 45) rfl g _ rfl rfl 28 _ HB3.out (by rw [HI.out]; rfl) rfl (by simp [Value.oneCell']) ?_
    obtain ⟨w4, hw4⟩ : ∃ w4, w4 = w3.setRow g #[.int .i64 (B0 : Int), .int .i64 (B1 : Int), .slice A3 (n - 4) c3] := ⟨_, rfl⟩
    have hb4 : Blk w4 g 28 #[.int .i64 (B0 : Int), .int .i64 (B1 : Int), .slice A3 (n - 4) c3] := by rw [hw4]; exact Blk.rowSet HB3.out _
    have hkg : Keeps (only g) w3 w4 := by rw [hw4]; exact (Keeps.refl (only g) w3).rowSet (fun _ => rfl) _
    have hk4 : Keeps nobody w w4 := by rw [hw4]; exact HK3.out.rowSet (fun h => by have := HG.out; omega) _
    have hgw : w.heap.size ≤ g := by have := HG.out; omega
    have hu4 : Row w4 (fun b => w.heap.size ≤ b) 1 (.slice A3 (n - 4) c3) (n - 4) (u8s ((bs.drop 4).take (n - 4))) := by
      have h := (HU3.out.keeps hkg (fun b hb hs => by have h1 := HGE.out b hb; have h2 : b = g := hs; have h3 := HBL.out; omega)).mono (G := fun b => w.heap.size ≤ b) (fun b hb => Nat.le_trans HK2.out.size (HGE.out b hb))
      rw [hdl] at h
      exact h
    have HU4 := Lib.hid hu4
    have HB4 := Lib.hid hb4
    have HK4 := Lib.hid hk4
    have s4 : w4.cell? ⟨bx, ox, none⟩ = some (.int .u8 B0) ∧ w4.cell? ⟨bx, ox + 1, none⟩ = some (.int .u8 B1) :=
      ⟨(World.cell?_of_block (w := w3) (a := ⟨bx, ox, none⟩) (hkg.block bx (cell_lt HH3.out.1) (fun h => hgx h))).trans HH3.out.1, (World.cell?_of_block (w := w3) (a := ⟨bx, ox + 1, none⟩) (hkg.block bx (cell_lt HH3.out.2) (fun h => hgx h))).trans HH3.out.2⟩
    have HS4 := Lib.hid s4
    refine hK.out _ _ (fun _ => ?_) ?_
    · rw [← hw4]; exact HS4.out
    rw [← hw4]
    simp only [Act.put]
    clear hK K hw4 hb4 hkg hk4 hu4 s4
    refine wpAnyZ_one (i := 14) (by kernel_rfl) rfl (fun K hK => ?_)
    go_simp
    refine hK.out _ _ (fun _ => HS4.out) ?_
    clear hK K
    refine wpAnyZ_done (by kernel_rfl) ?_ _
    go_wp2_with fail
    refine bodyPost_ret (results_row_tmp rfl _ _ g 28 _ (0, 0) _ rfl HB4.out Tryd.underlying28 rfl (by rw [HI.out]; rfl)) rfl ?_
    refine ⟨.slice A3 (n - 4) c3, by rw [HD.out]; rfl, ?_, HK4.out.to_below⟩
    rw [HD.out]
    show Row w4 _ 1 _ ((bs.drop 4).take (n - 4)).length (u8s ((bs.drop 4).take (n - 4)))
    rw [hdl]
    exact HU4.out
end Go.Proofs.YtaalbjbocbagcaaDoor
