/- Package packet's reader: option. -/
import Derived.Test.YtjomcffhbaplcaaGreatDoorQ32
namespace Go.Proofs.YtjomcffhbaplcaaGreatDoor
open Go.RowKit
namespace Pure
theorem told_option (b : List UInt8) (h : 2 ≤ b.length) : told 2 1 b = (b.getD 1 0).toNat := by
  match b, h with
  | a :: b :: l, _ => simp [told, num]
theorem next_option {b : List UInt8} : nextErr 2 1 b = 0 ↔ ¬ (b.length < 2 ∨ (b.getD 1 0).toNat < 2 ∨ b.length < (b.getD 1 0).toNat) := by
  unfold nextErr
  by_cases h1 : b.length < 2
  · rw [if_pos h1]
    exact ⟨fun h => by omega, fun h => absurd (Or.inl h1) h⟩
  · rw [if_neg h1, told_option b (by omega)]
    generalize (b.getD 1 0).toNat = n
    split
    · exact ⟨fun h => by omega, fun h => by omega⟩
    · split
      · exact ⟨fun h => by omega, fun h => by omega⟩
      · exact ⟨fun h => by omega, fun h => rfl⟩
theorem next_ways (size len : Nat) (b : List UInt8) : nextErr size len b = 0 ∨ nextErr size len b = 2 ∨ nextErr size len b = 4 := by
  unfold nextErr
  split
  · exact .inr (.inl rfl)
  · split
    · exact .inr (.inr rfl)
    · split
      · exact .inr (.inl rfl)
      · exact .inl rfl
end Pure
theorem opt_size : (Tryz.prog.info? 54).map (·.size) = some 2 := by kernel_rfl
set_option maxRecDepth 100000 in
set_option maxHeartbeats 4000000 in
theorem option_bad (F : Nat → Prop) (g : Nat) (bs : List UInt8) (w : World) (hrd : Rd w F g bs) (hF : ∀ b, F b → b ≠ g) (h0 : Pure.nextErr 2 1 bs ≠ 0) :
    Calls Tryz.prog 109 #[.pointer (some ⟨g, 0, none⟩)] w fun e w' => ∃ b, e = .returned (.tuple #[optV (.slice none 0 0, (0, [])), .iface 162 (.pointer (some ⟨b, 0, none⟩))]) ∧ ErrIs w' (.iface 162 (.pointer (some ⟨b, 0, none⟩))) 4 ∧ Keeps (only g) w w' := by
  have hgl : g < w.heap.size := by obtain ⟨v, hb, _⟩ := hrd; exact hb.lt
  have HI := Lib.hid opt_size
  obtain ⟨p, hp⟩ : ∃ p, p = w.heap.size := ⟨_, rfl⟩
  go_enter Tryz.func109, Tryz.ntmps109
  go_upto_region 1 with fail
  rw [← hp]
  generalize hw1 : w.alloc _ = w1
  have hB : Blk w1 p 54 #[.int .i64 0, .slice none 0 0] := by rw [← hw1, hp]; exact Blk.new w _ _
  have HK := Lib.hid (show Keeps nobody w w1 by rw [← hw1]; exact (Keeps.refl _ w).alloc _)
  have HG := Lib.hid hp
  have HN := Lib.hid (next_any F g 2 1 bs w1 (hrd.keeps HK.out (fun h => h) (fun _ _ h => h)) hF (by omega) (by omega) (by omega) (by omega))
  have HB := Lib.hid hB
  clear hw1 hp hB hrd hF
  go_wp2_with fail
  refine HN.out.mono ?_
  rintro e w2 ⟨a, b, u, rfl, hu, hk2, hok⟩
  have hgp : p ≠ g := by have := HG.out; omega
  have HB2 := Lib.hid (HB.out.keeps hk2 (fun h => hgp h))
  have HK2 := Lib.hid ((HK.out.mono (T := only g) (fun i h => h.elim)).trans hk2)
  have HIs := Lib.hid (is_any u (Pure.nextErr 2 1 bs) 2 w2 hu (by omega))
  obtain ⟨fb, rfl⟩ := err_form hu h0
  rcases (Pure.next_ways 2 1 bs).resolve_left h0 with h2 | h4
  · rw [h2] at HIs
    have HIs := Lib.hid (show _ from HIs.out)
    rw [show decide (2 = 2) = true from rfl] at HIs
    have HO := Lib.hid (fun s => of_any s 4 w2 (by omega))
    clear hu hok hk2 HN
    go_wp2_with fail
    refine HIs.out.mono ?_
    rintro e w3 ⟨rfl, rfl⟩
    go_wp2_with fail
    refine (HO.out _).mono ?_
    rintro e w3 ⟨u, rfl, hu, hb3⟩
    have hk3 := Keeps.new hb3
    obtain ⟨fb, rfl⟩ := err_form hu (by omega)
    have HU := Lib.hid hu
    have HB3 := Lib.hid (HB2.out.keeps hk3 (fun h => h))
    have HK3 := Lib.hid (HK2.out.trans (hk3.mono (T := only g) (fun i h => h.elim)))
    clear hu hk3 hb3 HO
    have z0 : w3.cell? ⟨p, 0, none⟩ = some (.int .i64 0) := by rw [HB3.out.cell]; rfl
    have z1 : w3.cell? ⟨p, 1, none⟩ = some (.slice none 0 0) := by rw [HB3.out.cell]; rfl
    have y0 := HB3.out.frozen 0
    have y1 := HB3.out.frozen 1
    have HZS := Lib.hid ((HB3.out.set 0 (.int .i64 0)).set 1 (.slice none 0 0))
    have HKS := Lib.hid ((HK3.out.store p 0 (fun h => by have := HG.out; omega) (.int .i64 0)).store p 1 (fun h => by have := HG.out; omega) (.slice none 0 0))
    have HKF := Lib.hid (((Keeps.refl (only p) w3).store p 0 (fun _ => rfl) (.int .i64 0)).store p 1 (fun _ => rfl) (.slice none 0 0))
    have HZ := Lib.hid (show ∀ n : Int, n ≠ 0 → w3.cell? ⟨p, 1, none⟩ ≠ some (.int .i64 n) from fun n _ e => by
      rw [z1] at e
      injection e with e
      cases e)
    go_wp2
    refine bodyPost_ret (results_row_tmp rfl _ _ p 54 _ (0, 0) _ rfl HZS.out Tryz.underlying54 rfl (by rw [HI.out]; rfl)) rfl ?_
    exact ⟨_, rfl, HU.out.far HKF.out HZ.out, HKS.out⟩
  · rw [h4] at HIs hu
    rw [show decide (4 = 2) = false from rfl] at HIs
    have HU := Lib.hid hu
    clear hu hok hk2 HN
    have z0 : w2.cell? ⟨p, 0, none⟩ = some (.int .i64 0) := by rw [HB2.out.cell]; rfl
    have z1 : w2.cell? ⟨p, 1, none⟩ = some (.slice none 0 0) := by rw [HB2.out.cell]; rfl
    have y0 := HB2.out.frozen 0
    have y1 := HB2.out.frozen 1
    have HZS := Lib.hid ((HB2.out.set 0 (.int .i64 0)).set 1 (.slice none 0 0))
    have HKS := Lib.hid ((HK2.out.store p 0 (fun h => by have := HG.out; omega) (.int .i64 0)).store p 1 (fun h => by have := HG.out; omega) (.slice none 0 0))
    have HKF := Lib.hid (((Keeps.refl (only p) w2).store p 0 (fun _ => rfl) (.int .i64 0)).store p 1 (fun _ => rfl) (.slice none 0 0))
    have HZ := Lib.hid (show ∀ n : Int, n ≠ 0 → w2.cell? ⟨p, 1, none⟩ ≠ some (.int .i64 n) from fun n _ e => by
      rw [z1] at e
      injection e with e
      cases e)
    go_wp2_with fail
    refine HIs.out.mono ?_
    rintro e w3 ⟨rfl, rfl⟩
    go_wp2
    refine bodyPost_ret (results_row_tmp rfl _ _ p 54 _ (0, 0) _ rfl HZS.out Tryz.underlying54 rfl (by rw [HI.out]; rfl)) rfl ?_
    exact ⟨_, rfl, HU.out.far HKF.out HZ.out, HKS.out⟩
set_option maxRecDepth 100000 in
set_option maxHeartbeats 4000000 in
theorem option_ok (F : Nat → Prop) (g n B0 : Nat) (bs : List UInt8) (w : World) (hrd : Rd w F g bs) (hF : ∀ b, F b → b ≠ g) (hFl : ∀ b, F b → b < w.heap.size) (h0 : Pure.nextErr 2 1 bs = 0) (hn : n = (bs.getD 1 0).toNat) (hB0 : B0 = (bs.getD 0 0).toNat) :
    Calls Tryz.prog 109 #[.pointer (some ⟨g, 0, none⟩)] w fun e w' => ∃ A c, e = .returned (.tuple #[.agg #[.int .i64 B0, .slice A ((bs.drop 2).take (n - 2)).length c], .nilIface]) ∧
      w'.ownsRow w.heap.size 5 1 (.slice A ((bs.drop 2).take (n - 2)).length c) ((bs.drop 2).take (n - 2)).length (u8s ((bs.drop 2).take (n - 2))) ∧ Rd w' F g (bs.drop n) ∧ Keeps (only g) w w' := by
  obtain ⟨D, hD⟩ : ∃ D, D = (bs.drop 2).take (n - 2) := ⟨_, rfl⟩
  rw [← hD]
  have HFl := Lib.hid hFl
  clear hFl
  have hgl : g < w.heap.size := by obtain ⟨v, hb, _⟩ := hrd; exact hb.lt
  have HI := Lib.hid opt_size
  obtain ⟨p, hp⟩ : ∃ p, p = w.heap.size := ⟨_, rfl⟩
  go_enter Tryz.func109, Tryz.ntmps109
  go_upto_region 1 with fail
  rw [← hp]
  generalize hw1 : w.alloc _ = w1
  have hB : Blk w1 p 54 #[.int .i64 0, .slice none 0 0] := by rw [← hw1, hp]; exact Blk.new w _ _
  have HK := Lib.hid (show Keeps nobody w w1 by rw [← hw1]; exact (Keeps.refl _ w).alloc _)
  have HG := Lib.hid hp
  have HN := Lib.hid (next_any F g 2 1 bs w1 (hrd.keeps HK.out (fun h => h) (fun _ _ h => h)) hF (by omega) (by omega) (by omega) (by omega))
  have HB := Lib.hid hB
  clear hw1 hp hB hrd hF
  go_wp2_with fail
  refine HN.out.mono ?_
  rintro e w2 ⟨a, b, u, rfl, hu, hk2, hok⟩
  have hgp : p ≠ g := by have := HG.out; omega
  have HB2 := Lib.hid (HB.out.keeps hk2 (fun h => hgp h))
  have HK2 := Lib.hid ((HK.out.mono (T := only g) (fun i h => h.elim)).trans hk2)
  have HIs := Lib.hid (is_any u 0 2 w2 (by rw [← h0]; exact hu) (by omega))
  rw [show decide (0 = 2) = false from rfl] at HIs
  obtain rfl := err_nil (by rw [← h0]; exact hu)
  obtain ⟨ha, hb, hrd2⟩ := hok h0
  have hno := Pure.next_option.1 h0
  have n2 : 2 ≤ bs.length := by omega
  rw [Pure.told_option bs n2, ← hn] at hb hrd2
  rw [← hn] at hno
  rw [← hD] at hb
  have hdl : D.length = n - 2 := by rw [hD, List.length_take, List.length_drop]; omega
  have hnb := (bs.getD 1 0).toNat_lt
  have HD2 := Lib.hid (show D.length ≤ 255 by omega)
  rw [← hdl] at hb
  obtain ⟨A, cA, rfl, _⟩ := ha.form
  obtain ⟨B, cB, rfl, _⟩ := hb.form
  have HBR := Lib.hid hb
  have HRd := Lib.hid hrd2
  obtain ⟨bx, ox, rfl, hFb, hcx⟩ := ha.cellAt (by omega)
  have b0 := hcx 0 _ (u8s_at (bs.take 2) 0 (by rw [List.length_take]; omega))
  rw [Pure.getD_take _ _ _ (by omega), Nat.add_zero, ← hB0] at b0
  have l0 := (bs.getD 0 0).toNat_lt
  rw [← hB0] at l0
  have v0 : IntKind.i64.wrap (B0 : Int) = (B0 : Int) := IntWalk.i64_in _ (by omega)
  have hpx : bx ≠ p := fun e => by have h1 := HFl.out bx hFb; have h2 := HG.out; omega
  have hpb : p < w2.heap.size := HB2.out.lt
  clear ha hb hu hok hk2 HN hrd2 hno n2 hdl hD hn hB0 hcx h0 hnb
  go_wp2_with fail
  refine HIs.out.mono ?_
  rintro e w3 ⟨rfl, rfl⟩
  go_upto_region 6 with fail
  refine wp_region_Z (fun w' => w'.cell? ⟨bx, ox, none⟩ = some (.int .u8 B0)) 8 9 rfl (by kernel_rfl) b0 (fun hHeld => ?_)
  refine wpAnyZ_take (i := 0) rfl (by kernel_rfl) (fun _ _ _ h => h) (Or.inl ⟨by rfl, by intro w hSw; go_simp; try with_reducible rfl⟩) hHeld.out ?_
  simp only [Act.put, List.setIfInBounds_toArray, List.getElem_toArray, List.getElem_cons_zero, List.set_cons_succ, List.set_cons_zero]
  refine wpAnyZ_take (i := 1) rfl (by kernel_rfl) (fun _ _ _ h => h) (Or.inl ⟨by rfl, by intro w hSw; go_simp; try with_reducible rfl⟩) hHeld.out ?_
  simp only [Act.put, List.setIfInBounds_toArray, List.getElem_toArray, List.getElem_cons_succ, List.getElem_cons_zero, List.set_cons_succ, List.set_cons_zero]
  refine wpAnyZ_take (i := 2) rfl (by kernel_rfl) (fun _ _ _ h => h) (Or.inl ⟨by rfl, by intro w hSw; go_simp; try with_reducible rfl⟩) hHeld.out ?_
  simp only [Act.put, List.setIfInBounds_toArray, List.getElem_toArray, List.getElem_cons_succ, List.getElem_cons_zero, List.set_cons_succ, List.set_cons_zero]
  refine wpAnyZ_take (i := 3) rfl (by kernel_rfl) (fun _ _ _ h => h) (Or.inl ⟨by rfl, by intro w hSw; go_simp; try with_reducible rfl⟩) hHeld.out ?_
  simp only [Act.put, List.setIfInBounds_toArray, List.getElem_toArray, List.getElem_cons_succ, List.getElem_cons_zero, List.set_cons_succ, List.set_cons_zero]
  refine wpAnyZ_take (i := 4) rfl (by kernel_rfl) (fun _ _ _ h => h) (Or.inl ⟨by rfl, by intro w hSw; go_simp; try with_reducible rfl⟩) hHeld.out ?_
  simp only [Act.put, List.setIfInBounds_toArray, List.getElem_toArray, List.getElem_cons_succ, List.getElem_cons_zero, List.set_cons_succ, List.set_cons_zero]
  refine wpAnyZ_one (i := 5) (by kernel_rfl) rfl (fun K hK => ?_)
  go_simp
  have hwd : Keeps nobody w2 w2.drew := (Keeps.refl _ w2).drew
  refine (bclone_any F (.slice B D.length cB) D.length D w2.drew (HBR.out.keeps hwd (fun _ _ h => h)) (by have := HD2.out; omega)).mono ?_
  rintro e w3 ⟨u, rfl, hu, hb3⟩
  have hk3 : Keeps nobody w2 w3 := Keeps.new ⟨hb3.os, hb3.tape, hb3.output, hb3.size, hb3.block⟩
  have hu : w3.ownsRow w2.heap.size 5 1 u D.length (u8s D) := hu
  have HH3 := Lib.hid (cell_quiet hHeld.out (w := w2) hk3)
  refine hK.out _ _ (fun _ => HH3.out) ?_
  clear hK K hHeld
  obtain ⟨A3, c3, rfl⟩ := own_form hu
  have HU3 := Lib.hid hu
  have HB3 := Lib.hid (HB2.out.keeps hk3 (fun x => x))
  have HK3 := Lib.hid (HK2.out.trans (hk3.mono (T := only g) (fun i h => h.elim)))
  have HRd3 := Lib.hid (HRd.out.keeps hk3 (fun h => h) (fun _ _ h => h))
  clear hu hb3 hk3 hwd
  refine wpAnyZ_take (i := 6) rfl (by kernel_rfl) (fun _ _ _ h => h) (Or.inl ⟨by rfl, by intro w hSw; go_simp; try with_reducible rfl⟩) HH3.out ?_
  simp only [Act.put, List.setIfInBounds_toArray, List.getElem_toArray, List.getElem_cons_succ, List.getElem_cons_zero, List.set_cons_succ, List.set_cons_zero]
  refine wpAnyZ_one (i := 7) (by kernel_rfl) rfl (fun K hK => ?_)
  rw [if_pos (by rfl)]
  refine wp_store_row 54 (.tmp 2) (.tmp 28) rfl p _ rfl rfl 54 _ HB3.out (by rw [HI.out]; rfl) rfl (by simp [Value.oneCell']) ?_
  obtain ⟨w4, hw4⟩ : ∃ w4, w4 = w3.setRow p #[.int .i64 (B0 : Int), .slice A3 D.length c3] := ⟨_, rfl⟩
  have hb4 : Blk w4 p 54 #[.int .i64 (B0 : Int), .slice A3 D.length c3] := by rw [hw4]; exact Blk.rowSet HB3.out _
  have hkg : Keeps (only p) w3 w4 := by rw [hw4]; exact (Keeps.refl (only p) w3).rowSet (fun _ => rfl) _
  have hk4 : Keeps (only g) w w4 := by rw [hw4]; exact HK3.out.rowSet (fun h => by have := HG.out; omega) _
  have HU4 := Lib.hid (ownsRow_base (base' := w.heap.size) (ownsRow_keeps HU3.out hkg (fun b hb hs => by have h1 := ownsRow_ge HU3.out b hb; have h2 : b = p := hs; omega)) HK2.out.size)
  have HRd4 := Lib.hid (HRd3.out.keeps hkg (fun h => hgp h.symm) (fun b hb hs => by have h1 := HFl.out b hb; have h2 : b = p := hs; have := HG.out; omega))
  have HB4 := Lib.hid hb4
  have HK4 := Lib.hid hk4
  have s4 : w4.cell? ⟨bx, ox, none⟩ = some (.int .u8 B0) :=
    (World.cell?_of_block (w := w3) (a := ⟨bx, ox, none⟩) (hkg.block bx (cell_lt HH3.out) (fun h => hpx h))).trans HH3.out
  have HS4 := Lib.hid s4
  refine hK.out _ _ (fun _ => ?_) ?_
  · rw [← hw4]; exact HS4.out
  rw [← hw4]
  simp only [Act.put]
  clear hK K hw4 hb4 hkg hk4 s4
  refine wpAnyZ_one (i := 8) (by kernel_rfl) rfl (fun K hK => ?_)
  go_simp
  refine hK.out _ _ (fun _ => HS4.out) ?_
  clear hK K
  refine wpAnyZ_done (by kernel_rfl) ?_ _
  go_wp2_with fail
  refine bodyPost_ret (results_row_tmp rfl _ _ p 54 _ (0, 0) _ rfl HB4.out Tryz.underlying54 rfl (by rw [HI.out]; rfl)) rfl ?_
  exact ⟨A3, c3, rfl, HU4.out, HRd4.out, HK4.out⟩
end Go.Proofs.YtjomcffhbaplcaaGreatDoor
/- Package packet's reader: options. -/
namespace Go.Proofs.YtjomcffhbaplcaaGreatDoor
open Go.RowKit
/-- Options that the program read out of its reader in block g. -/
structure Took (w0 w : World) (g : Nat) (v : Value) (ps : List (Value × Pure.Opt)) : Prop where
  own : w.ownsRow w0.heap.size 54 2 v ps.length (optCells ps)
  rows : ∀ p ∈ ps, Row w (fun b => w0.heap.size ≤ b ∧ v.ownBlock ≠ some b ∧ b < w.heap.size) 1 p.1 p.2.2.length (u8s p.2.2)
  keeps : Keeps (only g) w0 w
theorem split_bad {rest : List UInt8} {acc : List Pure.Opt} (hne : rest ≠ []) (h32 : acc.length ≠ 32) (h : Pure.nextErr 2 1 rest ≠ 0) : Pure.splitFrom rest acc = (4, []) :=
  Pure.splitFrom_bad hne h32 (Decidable.byContradiction fun hh => h (Pure.next_option.2 hh))
set_option maxRecDepth 100000 in
set_option maxHeartbeats 4000000 in
theorem readoptions_any (F : Nat → Prop) (g : Nat) (bs : List UInt8) (w : World) (hrd : Rd w F g bs) (hF : ∀ b, F b → b ≠ g) (hFl : ∀ b, F b → b < w.heap.size) :
    Calls Tryz.prog 101 #[.pointer (some ⟨g, 0, none⟩)] w fun e w' => ∃ u v ps, e = .returned (.tuple #[u, v]) ∧ ErrIs w' v (Pure.split bs).1 ∧ optsOf ps = (Pure.split bs).2 ∧ ORow w' (fun b => w.heap.size ≤ b) u ps ∧ Keeps (only g) w w' := by
  have hgl : g < w.heap.size := by obtain ⟨v, hb, _⟩ := hrd; exact hb.lt
  have HF := Lib.hid hF
  have HFl := Lib.hid hFl
  have HR0 := Lib.hid hrd
  clear hF hFl hrd
  obtain ⟨i0, hi0, hz0, hz1, hz2⟩ := info_parts opt_info
  have HI := Lib.hid (And.intro hi0 (And.intro hz0 (And.intro hz1 hz2)))
  clear hi0 hz0 hz1 hz2
  go_enter Tryz.func101, Tryz.ntmps101
  go_wp2_with fail
  go_loopw [4] (fun v wr => ∃ (rest : List UInt8) (ps : List (Value × Pure.Opt)), Rd wr F g rest ∧ Pure.split bs = Pure.splitFrom rest (optsOf ps) ∧ ps.length ≤ 32 ∧ Took w wr g v ps) (fun _ wr => match wr.cell? ⟨g, 0, none⟩ with | some (.slice _ n _) => n | _ => 0)
  case atStart => exact ⟨bs, [], HR0.out, rfl, by simp, ⟨World.ownsRow_nil _ _ _ _, by simp, Keeps.refl _ _⟩⟩
  case round =>
    obtain ⟨rest, ps, hrr, hsp, hp32, hrd⟩ := hrel
    obtain ⟨A2, c2, rfl⟩ := own_form hrd.own
    have HRR := Lib.hid hrr
    have HSP := Lib.hid hsp
    have HRD := Lib.hid hrd
    have hlo : (optsOf ps).length = ps.length := by simp
    obtain ⟨vr, hbr, hrow⟩ := hrr
    obtain ⟨X, cX, rfl, hcX⟩ := hrow.form
    have q0 : wr.cell? ⟨g, 0, none⟩ = some (.slice X rest.length cX) := by rw [hbr.cell]; rfl
    have hm := hrow.2.1
    unfold maxLen at hm
    clear hrow hbr
    by_cases hne : 0 < rest.length
    · have hnil : rest ≠ [] := List.length_pos_iff.1 hne
      have g0 : decide ((0 : Int) < (rest.length : Int)) = true := decide_eq_true (by omega)
      have g0' : decide (0 < rest.length) = true := decide_eq_true hne
      by_cases h32 : ps.length = 32
      · have HS := Lib.hid (hsp.trans (Pure.splitFrom_full hnil (by rw [hlo]; exact h32)))
        have g1 : ((ps.length : Int) == 32) = true := by rw [h32]; rfl
        have HO := Lib.hid (fun s => of_any s 3 wr (by omega))
        clear hsp hrd hlo
        go_wp2_with fail
        refine (HO.out _).mono ?_
        rintro e w3 ⟨u, rfl, hu, hb3⟩
        have HU := Lib.hid hu
        have HK3 := Lib.hid (HRD.out.keeps.trans ((Keeps.new hb3).mono (T := only g) (fun i h => h.elim)))
        clear hu hb3 HO
        go_wp2
        go_ret2
        exact ⟨_, _, [], rfl, by rw [HS.out]; exact HU.out, by rw [HS.out]; rfl, ORow.nil _ _, HK3.out⟩
      have g1 : ((ps.length : Int) == 32) = false := by rw [beq_eq_false_iff_ne]; omega
      have hFw : ∀ b, F b → b < wr.heap.size := fun b hb => Nat.lt_of_lt_of_le (HFl.out b hb) hrd.keeps.size
      by_cases h0 : Pure.nextErr 2 1 rest = 0
      · obtain ⟨B0, hB0⟩ : ∃ b, b = (rest.getD 0 0).toNat := ⟨_, rfl⟩
        obtain ⟨n, hn⟩ : ∃ b, b = (rest.getD 1 0).toNat := ⟨_, rfl⟩
        have HO := Lib.hid (option_ok F g n B0 rest wr HRR.out HF.out hFw h0 hn hB0)
        have hgo := hsp.trans (Pure.splitFrom_step (acc := optsOf ps) hnil (by rw [hlo]; exact h32) (Pure.next_option.1 h0))
        have hno := Pure.next_option.1 h0
        rw [← hn, ← hB0] at hgo
        rw [← hn] at hno
        obtain ⟨D, hD⟩ : ∃ D, D = (rest.drop 2).take (n - 2) := ⟨_, rfl⟩
        rw [← hD] at HO hgo
        have HGO := Lib.hid hgo
        have HN := Lib.hid (show (rest.drop n).length + 2 ≤ rest.length by rw [List.length_drop]; omega)
        have hdl : D.length ≤ 255 := by
          have h1 := (rest.getD 1 0).toNat_lt
          rw [hD, List.length_take]; omega
        clear hsp hrd hlo hFw hB0 hgo hno hD h0 hn
        go_wp2_with fail
        refine HO.out.mono ?_
        rintro e w3 ⟨A3, c3, rfl, hu, hrd3, hk3⟩
        have HU := Lib.hid hu
        have HR3 := Lib.hid hrd3
        have HK3 := Lib.hid hk3
        clear hu hrd3 hk3 HO
        go_upto_region 8 with fail
        obtain ⟨r, hr⟩ : ∃ r, r = w3.heap.size := ⟨_, rfl⟩
        rw [← hr]
        generalize hw4 : w3.alloc _ = w4
        have hb4 : Blk w4 r 54 #[.int .i64 (B0 : Int), .slice A3 D.length c3] := by rw [← hw4, hr]; exact Blk.new w3 _ _
        have hk4 : Keeps nobody w3 w4 := by rw [← hw4]; exact (Keeps.refl _ w3).alloc _
        have c0 : w4.cell? ⟨r, 0, none⟩ = some (.int .i64 (B0 : Int)) := by rw [hb4.cell]; rfl
        have c1 : w4.cell? ⟨r, 1, none⟩ = some (.slice A3 D.length c3) := by rw [hb4.cell]; rfl
        have HB4 := Lib.hid hb4
        have HK4 := Lib.hid hk4
        clear hw4 hb4 hk4 hr
        go_wp2_with (at_builtin; refine stopHere ?_)
        unfold Hid
        obtain ⟨wb, hwb⟩ : ∃ wb, wb = w4.alloc (.cells (optCells [(.slice A3 D.length c3, ((B0 : Int), D))]).toArray 54) := ⟨_, rfl⟩
        have hwb' : w4.alloc (.cells #[.int .i64 (B0 : Int), .slice A3 D.length c3] 54) = wb := hwb.symm
        rw [hwb']
        have hkb : Keeps nobody w4 wb := by rw [hwb]; exact (Keeps.refl _ w4).alloc _
        have hbb : Blk wb w4.heap.size 54 (optCells [(.slice A3 D.length c3, ((B0 : Int), D))]).toArray := by rw [hwb]; exact Blk.new w4 _ _
        have hrb : Row wb (fun b => b = w4.heap.size) 2 (.slice (some ⟨w4.heap.size, 0, none⟩) 1 1) 1 (optCells [(.slice A3 D.length c3, ((B0 : Int), D))]) :=
          Row.block (F := fun b => b = w4.heap.size) (n := 1) (c := 1) (size := 2) hbb rfl rfl (by unfold maxLen; omega) (Nat.le_refl _)
        have hk3b : Keeps nobody w3 wb := HK4.out.trans hkb
        have hkr : Keeps (only g) wr wb := HK3.out.trans (hk3b.mono (fun i h => h.elim))
        have hownb : wb.ownsRow w.heap.size 54 2 (.slice A2 ps.length c2) ps.length (optCells ps) := ownsRow_keeps HRD.out.own hkr (fun b hb h => by have h1 := ownsRow_ge HRD.out.own b hb; have h2 : b = g := h; omega)
        have hub : wb.ownsRow wr.heap.size 5 1 (.slice A3 D.length c3) D.length (u8s D) := ownsRow_keeps HU.out hk3b (fun _ _ h => h)
        have hKb : Keeps (only g) w wb := HRD.out.keeps.trans hkr
        have hone : ∀ p ∈ ([(.slice A3 D.length c3, ((B0 : Int), D))] : List (Value × Pure.Opt)), p.1.oneCell' = true := by
          intro p hp
          simp at hp
          subst hp
          rfl
        clear hwb hwb'
        refine wpList_append_row rfl (.tmp 25) (.tmp 27) _ rfl w.heap.size 54 i0 _ 2 32 Tryz.underlying22 HI.out.1 HI.out.2.1 HI.out.2.2.1 HI.out.2.2.2 rfl (by omega) (.slice A2 ps.length c2) _ (optCells ps) rfl hownb _ _ 1 (optCells [(.slice A3 D.length c3, ((B0 : Int), D))]) rfl hrb (optCells_one _ hone) (by unfold maxLen; omega) (by omega) hKb.size ?_
        intro v3 w5 hown5 hg5 hat5
        have hcat : optCells ps ++ optCells [(.slice A3 D.length c3, ((B0 : Int), D))] = optCells (ps ++ [(.slice A3 D.length c3, ((B0 : Int), D))]) := by simp [optCells]
        rw [hcat] at hown5
        have hkw : Keeps (fun b => (Value.slice A2 ps.length c2).ownBlock = some b) wb w5 := (Keeps.refl _ wb).grown hg5 (fun k hk _ => hk)
        have hge : ∀ b, (Value.slice A2 ps.length c2).ownBlock = some b → w.heap.size ≤ b := fun b hb => ownsRow_ge hownb b hb
        have hK5 : Keeps (only g) w w5 := hKb.grown hg5 (fun k hk h => absurd (hge k hk) (by omega))
        have hwrs : w.heap.size ≤ wr.heap.size := HRD.out.keeps.size
        have hwrb : wr.heap.size ≤ wb.heap.size := hkr.size
        have htook : Took w w5 g v3 (ps ++ [(.slice A3 D.length c3, ((B0 : Int), D))]) := by
          refine ⟨by rw [List.length_append]; exact hown5, fun p hp => ?_, hK5⟩
          rcases List.mem_append.1 hp with hp | hp
          · have h1 := ((HRD.out.rows p hp).keeps hkr (fun b hb h => by have h2 : b = g := h; omega)).keeps hkw (fun b hb => hb.2.1)
            refine h1.mono (fun b hb => ⟨hb.1, ?_, by have := hkw.size; omega⟩)
            rcases hat5 with e | e
            · rw [e]; exact hb.2.1
            · rw [e]; intro h; injection h with h; omega
          · simp at hp
            subst hp
            have h1 := (Row.of_own hub).keeps hkw (fun b hb hs => by
              have h2 := ownsRow_ge hub b hb
              have h3 := ownsRow_lt HRD.out.own b hs
              omega)
            refine h1.mono (fun b hb => ⟨by have := ownsRow_ge hub b hb; omega, ?_, by have := ownsRow_lt hub b hb; have := hkw.size; omega⟩)
            have h2 := ownsRow_ge hub b hb
            rcases hat5 with e | e
            · rw [e]; intro h; have := ownsRow_lt HRD.out.own b h; omega
            · rw [e]; intro h; injection h with h; have := ownsRow_lt hub b hb; omega
        have hrd5 : Rd w5 F g (rest.drop n) := (HR3.out.keeps hk3b (fun h => h) (fun _ _ h => h)).keeps hkw (fun h => by have := hge g h; omega) (fun b hb hs => by have h1 := HFl.out b hb; have h2 := hge b hs; omega)
        have HT5 := Lib.hid htook
        have HR5 := Lib.hid hrd5
        have HSP5 := Lib.hid (show Pure.split bs = Pure.splitFrom (rest.drop n) (optsOf (ps ++ [(.slice A3 D.length c3, ((B0 : Int), D))])) by rw [HGO.out]; simp [optsOf])
        obtain ⟨A4, c4, rfl⟩ := own_form hown5
        obtain ⟨v5, hb5, hr5⟩ := hrd5
        obtain ⟨X5, cX5, rfl, _⟩ := hr5.form
        have q5 : w5.cell? ⟨g, 0, none⟩ = some (.slice X5 (rest.drop n).length cX5) := by rw [hb5.cell]; rfl
        have Q0 := Lib.hid q0
        have Q5 := Lib.hid q5
        clear hown5 hg5 hat5 hcat hkw hge hK5 htook hrb hbb hub hownb hKb hone hkb hkr hk3b c0 c1 hwrs hwrb hr5 hb5 q5 q0
        go_wp2_with fail
        go_roundw
        case rel => exact ⟨rest.drop n, _, HR5.out, HSP5.out, by rw [List.length_append]; simp only [List.length_cons, List.length_nil]; omega, HT5.out⟩
        case measure => rw [Q5.out, Q0.out]; have := HN.out; simp only; omega
      · have HS := Lib.hid (hsp.trans (split_bad hnil (by rw [hlo]; exact h32) h0))
        have HO := Lib.hid (option_bad F g rest wr HRR.out HF.out h0)
        clear hsp hrd hlo hFw h0
        go_wp2_with fail
        refine HO.out.mono ?_
        rintro e w3 ⟨fb, rfl, hu, hk3⟩
        have HU := Lib.hid hu
        have HUe := Lib.hid (fun (o : Obj) => hu.keeps ((Keeps.refl nobody w3).alloc o) (fun _ h => h))
        have HK3 := Lib.hid (HRD.out.keeps.trans hk3)
        clear hu hk3 HO
        go_wp2
        go_ret2
        exact ⟨_, _, [], rfl, by rw [HS.out]; exact HUe.out _, by rw [HS.out]; rfl, ORow.nil _ _, HK3.out.alloc _⟩
    · have hz : rest = [] := List.eq_nil_of_length_eq_zero (by omega)
      subst hz
      have HS := Lib.hid (show Pure.split bs = (0, optsOf ps) from hsp.trans (Pure.splitFrom_nil _))
      clear hsp hrd hlo hne
      go_wp2
      go_ret2
      exact ⟨_, .nilIface, ps, rfl, by rw [HS.out]; exact .inl ⟨rfl, rfl⟩, by rw [HS.out], ⟨(Row.of_own HRD.out.own).mono (fun b hb => ownsRow_ge HRD.out.own b hb), fun p hp => (HRD.out.rows p hp).mono (fun b hb => hb.1)⟩, HRD.out.keeps⟩
end Go.Proofs.YtjomcffhbaplcaaGreatDoor
/- Package packet: Split. -/
namespace Go.Proofs.YtjomcffhbaplcaaGreatDoor
open Go.RowKit
set_option maxRecDepth 100000 in
set_option maxHeartbeats 4000000 in
theorem split_any (F : Nat → Prop) (x : Value) (bs : List UInt8) (w : World) (hg : Handle w) (hF : ∀ b, F b → b < w.heap.size) (hr : Row w F 1 x bs.length (u8s bs)) :
    Calls Tryz.prog 79 #[x] w fun e w' => ∃ u ps, e = .returned (.tuple #[u, .int .i64 (((Pure.split bs).1 : Nat) : Int)]) ∧ optsOf ps = (Pure.split bs).2 ∧ ORow w' (fun b => w.heap.size ≤ b) u ps ∧ Below w.heap.size w w' := by
  obtain ⟨A, cA, rfl, hc⟩ := hr.form
  have HR := Lib.hid hr
  have HF := Lib.hid hF
  have HH := Lib.hid hg
  clear hr hF hg
  have HP0 := readoptions_any F
  obtain ⟨dd, hdd⟩ : ∃ d, d = Pure.split bs := ⟨_, rfl⟩
  have HP := fun g w => HP0 g bs w
  rw [← hdd] at HP ⊢
  obtain ⟨k, D⟩ := dd
  have HP := Lib.hid HP
  clear hdd HP0
  go_enter Tryz.func79, Tryz.ntmps79
  go_upto_region 2 with fail
  obtain ⟨q, hq⟩ : ∃ q, q = w.heap.size := ⟨_, rfl⟩
  rw [← hq]
  generalize hw2 : w.alloc _ = w2
  have hrd : Rd w2 F q bs := by rw [← hw2, hq]; exact Rd.new HR.out
  have hk2 : Keeps nobody w w2 := by rw [← hw2]; exact (Keeps.refl _ w).alloc _
  have HQ := Lib.hid hq
  have HK2 := Lib.hid hk2
  have HPW := Lib.hid (HP.out q w2 hrd (fun b hb => by have := HF.out b hb; omega) (fun b hb => Nat.lt_of_lt_of_le (HF.out b hb) hk2.size))
  clear hw2 hrd hk2 hq HP
  go_wp2_with fail
  refine HPW.out.mono ?_
  rintro e w3 ⟨u, v, ps, rfl, hv, hps, hu, hk3⟩
  obtain ⟨A3, c3, rfl, _⟩ := hu.form
  have HB3 := Lib.hid (Below.keeps HK2.out.to_below hk3 HK2.out.size (fun i h => by have h : i = q := h; have := HQ.out; omega))
  have HN := Lib.hid (number_any v k w3 (HH.out.below HB3.out) hv)
  have HU := Lib.hid hu
  have HPS := Lib.hid hps
  clear hu hv hk3 hps HPW
  go_wp2_with fail
  refine HN.out.mono ?_
  rintro e w4 ⟨rfl, hb4⟩
  have hk4 := Keeps.new hb4
  have HU4 := Lib.hid ((HU.out.keeps hk4 (fun _ _ h => h)).mono (G := fun b => w.heap.size ≤ b) (fun b hb => Nat.le_trans HK2.out.size hb))
  have HB4 := Lib.hid (Below.quiet HB3.out hk4 HB3.out.size)
  clear hk4 hb4 HN
  go_wp2
  go_ret2
  exact ⟨_, ps, rfl, HPS.out, HU4.out, HB4.out⟩
end Go.Proofs.YtjomcffhbaplcaaGreatDoor
