/- Package nego: Tick. -/
import Derived.Test.YtjomcffhbaplcaaGreatDoorQ35
namespace Go.Proofs.YtjomcffhbaplcaaGreatDoor
open Go.RowKit
namespace Pure
theorem tick_acts {m : Mach} (h : m.Good) : m.tick.1 = [] ∨ ∃ a, (a = 3 ∨ a = 6 ∨ a = 9) ∧ m.tick.1 = [a] := by
  by_cases hl : m.left = 0
  · rw [tick_stops hl]; exact .inl rfl
  · rcases tick_ways h (by omega) with ⟨h1, h2⟩ | ⟨h1, h2, a, n, ha, _, _, _, h3⟩ | ⟨h1, h2, n, _, _, h3⟩
    · rw [h2]; exact .inl rfl
    · rw [h3]; exact .inr ⟨a, by omega, rfl⟩
    · rw [h3]; exact .inr ⟨3, by omega, rfl⟩
theorem tick_plain {m : Mach} (h : m.Good) : ∀ a ∈ m.tick.1, a ≠ 7 ∧ a ≠ 8 ∧ a ≠ 11 := by
  intro x hx
  rcases tick_acts h with e | ⟨a, ha, e⟩
  · rw [e] at hx; cases hx
  · rw [e] at hx
    have := List.mem_singleton.1 hx
    omega
theorem tick_few {m : Mach} (h : m.Good) : m.tick.1.length ≤ 100 := by
  rcases tick_acts h with e | ⟨a, ha, e⟩ <;> rw [e] <;> simp
end Pure
set_option maxRecDepth 100000 in
set_option maxHeartbeats 8000000 in
theorem tick_any (g : Nat) (R : Nat → Prop) (f : NF) (n : Pure.Neg) (w : World) (h : NObj w g R f n) (hnk : n.naks ≤ 1000) :
    Calls Tryz.prog 20 #[.pointer (some ⟨g, 0, none⟩)] w fun r w' => ∃ v, r = .returned v ∧ Outs w w' v n.tick.2 ∧ Becomes w w' g R f n.tick.1 := by
  have HI := Lib.hid out_info
  have hgl := h.blk.lt
  have hml := Blk.lt h.mach
  have HAE := Lib.hid (show n.tick = ({ n with m := n.m.tick.2 } : Pure.Neg).acts n.m.tick.1 none from rfl)
  obtain ⟨ro, hro⟩ : ∃ q, q = w.heap.size := ⟨_, rfl⟩
  rw [HAE.out]
  have HPL0 := Lib.hid (Pure.tick_plain h.well.good)
  have HMA0 := Lib.hid (fun (W : World) (hW : NObj W g R f n) => prog_tick_any f.gm n.m W hW.mach hW.well.good hW.well.tries hW.well.timeout)
  have HGD := Lib.hid (Pure.tick_good h.well.good)
  have HFW0 := Lib.hid (Pure.tick_few h.well.good)
  obtain ⟨l, hl⟩ : ∃ l, l = n.m.tick.1 := ⟨_, rfl⟩
  obtain ⟨m', hm'⟩ : ∃ m', m' = n.m.tick.2 := ⟨_, rfl⟩
  rw [← hl] at HPL0 HFW0 HMA0 ⊢
  rw [← hm'] at HMA0 HGD ⊢
  clear hl hm'
  have HNK := Lib.hid hnk
  clear hnk
  go_enter Tryz.func20, Tryz.ntmps20
  go_upto_region 1 with fail
  rw [← hro]
  generalize hw1 : w.alloc _ = w1
  have hk1 : Keeps nobody w w1 := by rw [← hw1]; exact (Keeps.refl _ w).alloc _
  have HRO1 := Lib.hid (show Blk w1 ro 37 #[.slice none 0 0, .bool false, .bool false, .bool false, .bool false] by rw [← hw1, hro]; exact Blk.new w _ _)
  have H1 := Lib.hid (h.keeps hk1 (fun h => h) (fun h => h) (fun _ _ h => h))
  have HK1 := Lib.hid hk1
  have HMD := Lib.hid (nmade_any g f w1 H1.out.blk)
  have HRG := Lib.hid (show ro ≠ g by omega)
  have HRM := Lib.hid (show ro ≠ f.gm by omega)
  have HR0 := Lib.hid (show w.heap.size ≤ ro by omega)
  have HNR := Lib.hid (show ¬ R ro from fun e => by have := h.lt ro e; omega)
  have HSUB := Lib.hid (show ∀ b, R b → R b ∨ w.heap.size ≤ b from fun b hb => .inl hb)
  have c0 : w1.cell? ⟨g, 0, none⟩ = some (.pointer (some ⟨f.gm, 0, none⟩)) := H1.out.blk.cell 0
  have HMA := Lib.hid (HMA0.out w1 H1.out)
  clear hw1 hk1 hro hgl hml h HMA0
  go_wp2_with fail
  refine HMD.out.mono ?_
  rintro e' w' ⟨rfl, rfl⟩
  go_wp2_with fail
  refine HMA.out.mono ?_
  rintro e' w4 ⟨LA, lc, rfl, hrow4, hm4, hk4⟩
  have HN4 := Lib.hid (H1.out.machine (m' := m') hk4 hm4 HGD.out.1 HGD.out.2.1 HGD.out.2.2)
  have HROW := Lib.hid (HRO1.out.keeps hk4 (fun e => HRM.out e))
  have HKW := Lib.hid (show Keeps (fun b => b = g ∨ b = f.gm) w w4 from (HK1.out.mono (fun _ h => h.elim)).trans (hk4.mono (fun b e => .inr e)))
  have HRL := Lib.hid (show ro < w4.heap.size from HROW.out.lt)
  have HPF := Lib.hid (perform_none g 0 _ _ n m' l w4 w1 HN4.out HPL0.out HFW0.out HNK.out H1.out.blk.lt LA lc hrow4)
  clear hrow4 hm4 hk4 HMA HRO1 c0
  go_wp2_with fail
  refine HPF.out.mono ?_
  rintro e' w5 ⟨v, rfl, hout, hbec⟩
  have hRo : Blk w5 ro 37 #[.slice none 0 0, .bool false, .bool false, .bool false, .bool false] := by
    obtain ⟨_, _, _, _, _, hk⟩ := hbec
    exact HROW.out.keeps hk (fun e => by rcases e with e | e; exact HRG.out e; exact HRM.out e)
  have hfar := fun w'' (k : Keeps (only ro) w5 w'') => (hout.far k HRL.out).since HKW.out.size
  have hcl := fun w'' (k : Keeps (only ro) w5 w'') => hbec.close (f := f) rfl HSUB.out HKW.out k HR0.out HRL.out (fun e => HRG.out e.symm) (fun e => HRM.out e.symm) HNR.out
  obtain ⟨sv, ps, rfl, hprow, hpk, hfw⟩ := hout
  obtain ⟨A6, c6, rfl, _⟩ := hprow.form
  skip
  have z0 : w5.cell? ⟨ro, 0, none⟩ = some (.slice none 0 0) := by rw [hRo.cell]; rfl
  have z1 : w5.cell? ⟨ro, 1, none⟩ = some (.bool false) := by rw [hRo.cell]; rfl
  have z2 : w5.cell? ⟨ro, 2, none⟩ = some (.bool false) := by rw [hRo.cell]; rfl
  have z3 : w5.cell? ⟨ro, 3, none⟩ = some (.bool false) := by rw [hRo.cell]; rfl
  have z4 : w5.cell? ⟨ro, 4, none⟩ = some (.bool false) := by rw [hRo.cell]; rfl
  have f0 := hRo.frozen 0
  have f1 := hRo.frozen 1
  have f2 := hRo.frozen 2
  have f3 := hRo.frozen 3
  have f4 := hRo.frozen 4
  obtain ⟨O1, hO1⟩ : ∃ b, b = (Pure.Neg.acts { n with m := m' } l none).2.up := ⟨_, rfl⟩
  obtain ⟨O2, hO2⟩ : ∃ b, b = (Pure.Neg.acts { n with m := m' } l none).2.down := ⟨_, rfl⟩
  obtain ⟨O3, hO3⟩ : ∃ b, b = (Pure.Neg.acts { n with m := m' } l none).2.start := ⟨_, rfl⟩
  obtain ⟨O4, hO4⟩ : ∃ b, b = (Pure.Neg.acts { n with m := m' } l none).2.done := ⟨_, rfl⟩
  rw [← hO1, ← hO2, ← hO3, ← hO4] at hfar ⊢
  have HZ := Lib.hid (((((hRo.set 0 (.slice A6 ps.length c6)).set 1 (.bool O1)).set 2 (.bool O2)).set 3 (.bool O3)).set 4 (.bool O4))
  have KR := (((((Keeps.refl (only ro) w5).put 0 (.slice A6 ps.length c6)).put 1 (.bool O1)).put 2 (.bool O2)).put 3 (.bool O3)).put 4 (.bool O4)
  have HFAR := Lib.hid (hfar _ KR)
  have HCL := Lib.hid (hcl _ KR)
  clear hRo hfar hcl hprow hpk hfw KR hO1 hO2 hO3 hO4 hbec HPF
  go_wp2_with fail
  refine bodyPost_ret (results_row1 rfl _ _ ro 37 _ (0, 0) _ rfl HZ.out Tryz.underlying37 rfl (by rw [HI.out]; rfl)) rfl ?_
  exact ⟨_, rfl, HFAR.out, HCL.out⟩
end Go.Proofs.YtjomcffhbaplcaaGreatDoor
