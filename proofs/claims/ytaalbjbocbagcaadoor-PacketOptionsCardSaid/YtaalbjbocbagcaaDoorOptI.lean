/- Package packet's reader: options. -/
import Derived.Test.YtaalbjbocbagcaaDoorOptH
namespace Go.Proofs.YtaalbjbocbagcaaDoor
open Go.RowKit
/-- Options that the program read out of its reader in block g. -/
structure Took (w0 w : World) (g : Nat) (v : Value) (ps : List (Value × Pure.Opt)) : Prop where
  own : w.ownsRow w0.heap.size 36 2 v ps.length (optCells ps)
  rows : ∀ p ∈ ps, Row w (fun b => w0.heap.size ≤ b ∧ v.ownBlock ≠ some b ∧ b < w.heap.size) 1 p.1 p.2.2.length (u8s p.2.2)
  keeps : Keeps (only g) w0 w
theorem split_bad {rest : List UInt8} {acc : List Pure.Opt} (hne : rest ≠ []) (h32 : acc.length ≠ 32) (h : Pure.nextErr 2 1 rest ≠ 0) : Pure.splitFrom rest acc = (4, []) :=
  Pure.splitFrom_bad hne h32 (Decidable.byContradiction fun hh => h (Pure.next_option.2 hh))
set_option maxRecDepth 100000 in
set_option maxHeartbeats 4000000 in
theorem readoptions_any (F : Nat → Prop) (g : Nat) (bs : List UInt8) (w : World) (hrd : Rd w F g bs) (hF : ∀ b, F b → b ≠ g) (hFl : ∀ b, F b → b < w.heap.size) :
    Calls Tryd.prog 26 #[.pointer (some ⟨g, 0, none⟩)] w fun e w' => ∃ u v ps, e = .returned (.tuple #[u, v]) ∧ ErrIs w' v (Pure.split bs).1 ∧ optsOf ps = (Pure.split bs).2 ∧ ORow w' (fun b => w.heap.size ≤ b) u ps ∧ Keeps (only g) w w' := by
  have hgl : g < w.heap.size := by obtain ⟨v, hb, _⟩ := hrd; exact hb.lt
  have HF := Lib.hid hF
  have HFl := Lib.hid hFl
  have HR0 := Lib.hid hrd
  clear hF hFl hrd
  obtain ⟨i0, hi0, hz0, hz1, hz2⟩ := info_parts opt_info
  have HI := Lib.hid (And.intro hi0 (And.intro hz0 (And.intro hz1 hz2)))
  clear hi0 hz0 hz1 hz2
  go_enter Tryd.func26, Tryd.ntmps26
  go_wp2_with fail
  go_loopw [4] (fun v wr => ∃ (rest : List UInt8) (ps : List (Value × Pure.Opt)), Rd wr F g rest ∧ Pure.split bs = Pure.splitFrom rest (optsOf ps) ∧ ps.length ≤ 32 ∧ Took w wr g v ps) (fun _ wr => match wr.cell? ⟨g, 0, none⟩ with | some (.slice _ n _) => n | _ => 0)
  case atStart => exact ⟨bs, [], HR0.out, rfl, by simp, ⟨World.ownsRow_nil _ _ _ _, by simp, Keeps.refl _ _⟩⟩
  case round =>
    obtain ⟨rest, ps, hrr, hsp, hp32, hrd⟩ := hrel
    obtain ⟨A2, c2, rfl⟩ := own_form hrd.own
    have HRR := Lib.hid hrr
    have HSP := Lib.hid hsp
    have HRD := Lib.hid hrd
    have hlo : (optsOf ps).length = ps.length := by simp
    obtain ⟨vr, hbr, hrow⟩ := hrr
    obtain ⟨X, cX, rfl, hcX⟩ := hrow.form
    have q0 : wr.cell? ⟨g, 0, none⟩ = some (.slice X rest.length cX) := by rw [hbr.cell]; rfl
    have hm := hrow.2.1
    unfold maxLen at hm
    clear hrow hbr
    by_cases hne : 0 < rest.length
    · have hnil : rest ≠ [] := List.length_pos_iff.1 hne
      have g0 : decide ((0 : Int) < (rest.length : Int)) = true := decide_eq_true (by omega)
      have g0' : decide (0 < rest.length) = true := decide_eq_true hne
      by_cases h32 : ps.length = 32
      · have HS := Lib.hid (hsp.trans (Pure.splitFrom_full hnil (by rw [hlo]; exact h32)))
        have g1 : ((ps.length : Int) == 32) = true := by rw [h32]; rfl
        have HO := Lib.hid (fun s => of_any s 3 wr (by omega))
        clear hsp hrd hlo
        go_wp2_with fail
        refine (HO.out _).mono ?_
        rintro e w3 ⟨u, rfl, hu, hb3⟩
        have HU := Lib.hid hu
        have HK3 := Lib.hid (HRD.out.keeps.trans ((Keeps.new hb3).mono (T := only g) (fun i h => h.elim)))
        clear hu hb3 HO
        go_wp2
        go_ret2
        exact ⟨_, _, [], rfl, by rw [HS.out]; exact HU.out, by rw [HS.out]; rfl, ORow.nil _ _, HK3.out⟩
      have g1 : ((ps.length : Int) == 32) = false := by rw [beq_eq_false_iff_ne]; omega
      have hFw : ∀ b, F b → b < wr.heap.size := fun b hb => Nat.lt_of_lt_of_le (HFl.out b hb) hrd.keeps.size
      by_cases h0 : Pure.nextErr 2 1 rest = 0
      · obtain ⟨B0, hB0⟩ : ∃ b, b = (rest.getD 0 0).toNat := ⟨_, rfl⟩
        obtain ⟨n, hn⟩ : ∃ b, b = (rest.getD 1 0).toNat := ⟨_, rfl⟩
        have HO := Lib.hid (option_ok F g n B0 rest wr HRR.out HF.out hFw h0 hn hB0)
        have hgo := hsp.trans (Pure.splitFrom_step (acc := optsOf ps) hnil (by rw [hlo]; exact h32) (Pure.next_option.1 h0))
        have hno := Pure.next_option.1 h0
        rw [← hn, ← hB0] at hgo
        rw [← hn] at hno
        obtain ⟨D, hD⟩ : ∃ D, D = (rest.drop 2).take (n - 2) := ⟨_, rfl⟩
        rw [← hD] at HO hgo
        have HGO := Lib.hid hgo
        have HN := Lib.hid (show (rest.drop n).length + 2 ≤ rest.length by rw [List.length_drop]; omega)
        have hdl : D.length ≤ 255 := by
          have h1 := (rest.getD 1 0).toNat_lt
          rw [hD, List.length_take]; omega
        clear hsp hrd hlo hFw hB0 hgo hno hD h0 hn
        go_wp2_with fail
        refine HO.out.mono ?_
        rintro e w3 ⟨A3, c3, rfl, hu, hrd3, hk3⟩
        have HU := Lib.hid hu
        have HR3 := Lib.hid hrd3
        have HK3 := Lib.hid hk3
        clear hu hrd3 hk3 HO
        go_upto_region 8 with fail
        obtain ⟨r, hr⟩ : ∃ r, r = w3.heap.size := ⟨_, rfl⟩
        rw [← hr]
        generalize hw4 : w3.alloc _ = w4
        have hb4 : Blk w4 r 36 #[.int .i64 (B0 : Int), .slice A3 D.length c3] := by rw [← hw4, hr]; exact Blk.new w3 _ _
        have hk4 : Keeps nobody w3 w4 := by rw [← hw4]; exact (Keeps.refl _ w3).alloc _
        have c0 : w4.cell? ⟨r, 0, none⟩ = some (.int .i64 (B0 : Int)) := by rw [hb4.cell]; rfl
        have c1 : w4.cell? ⟨r, 1, none⟩ = some (.slice A3 D.length c3) := by rw [hb4.cell]; rfl
        have HB4 := Lib.hid hb4
        have HK4 := Lib.hid hk4
        clear hw4 hb4 hk4 hr
        go_wp2_with (at_builtin; refine stopHere ?_)
        unfold Hid
        obtain ⟨wb, hwb⟩ : ∃ wb, wb = w4.alloc (.cells (optCells [(.slice A3 D.length c3, ((B0 : Int), D))]).toArray 36) := ⟨_, rfl⟩
        have hwb' : w4.alloc (.cells #[.int .i64 (B0 : Int), .slice A3 D.length c3] 36) = wb := hwb.symm
        rw [hwb']
        have hkb : Keeps nobody w4 wb := by rw [hwb]; exact (Keeps.refl _ w4).alloc _
        have hbb : Blk wb w4.heap.size 36 (optCells [(.slice A3 D.length c3, ((B0 : Int), D))]).toArray := by rw [hwb]; exact Blk.new w4 _ _
        have hrb : Row wb (fun b => b = w4.heap.size) 2 (.slice (some ⟨w4.heap.size, 0, none⟩) 1 1) 1 (optCells [(.slice A3 D.length c3, ((B0 : Int), D))]) :=
          Row.block (F := fun b => b = w4.heap.size) (n := 1) (c := 1) (size := 2) hbb rfl rfl (by unfold maxLen; omega) (Nat.le_refl _)
        have hk3b : Keeps nobody w3 wb := HK4.out.trans hkb
        have hkr : Keeps (only g) wr wb := HK3.out.trans (hk3b.mono (fun i h => h.elim))
        have hownb : wb.ownsRow w.heap.size 36 2 (.slice A2 ps.length c2) ps.length (optCells ps) := ownsRow_keeps HRD.out.own hkr (fun b hb h => by have h1 := ownsRow_ge HRD.out.own b hb; have h2 : b = g := h; omega)
        have hub : wb.ownsRow wr.heap.size 5 1 (.slice A3 D.length c3) D.length (u8s D) := ownsRow_keeps HU.out hk3b (fun _ _ h => h)
        have hKb : Keeps (only g) w wb := HRD.out.keeps.trans hkr
        have hone : ∀ p ∈ ([(.slice A3 D.length c3, ((B0 : Int), D))] : List (Value × Pure.Opt)), p.1.oneCell' = true := by
          intro p hp
          simp at hp
          subst hp
          rfl
        clear hwb hwb'
        refine wpList_append_row rfl (.tmp 25) (.tmp 27) _ rfl w.heap.size 36 i0 _ 2 32 Tryd.underlying29 HI.out.1 HI.out.2.1 HI.out.2.2.1 HI.out.2.2.2 rfl (by omega) (.slice A2 ps.length c2) _ (optCells ps) rfl hownb _ _ 1 (optCells [(.slice A3 D.length c3, ((B0 : Int), D))]) rfl hrb (optCells_one _ hone) (by unfold maxLen; omega) (by omega) hKb.size ?_
        intro v3 w5 hown5 hg5 hat5
        have hcat : optCells ps ++ optCells [(.slice A3 D.length c3, ((B0 : Int), D))] = optCells (ps ++ [(.slice A3 D.length c3, ((B0 : Int), D))]) := by simp [optCells]
        rw [hcat] at hown5
        have hkw : Keeps (fun b => (Value.slice A2 ps.length c2).ownBlock = some b) wb w5 := (Keeps.refl _ wb).grown hg5 (fun k hk _ => hk)
        have hge : ∀ b, (Value.slice A2 ps.length c2).ownBlock = some b → w.heap.size ≤ b := fun b hb => ownsRow_ge hownb b hb
        have hK5 : Keeps (only g) w w5 := hKb.grown hg5 (fun k hk h => absurd (hge k hk) (by omega))
        have hwrs : w.heap.size ≤ wr.heap.size := HRD.out.keeps.size
        have hwrb : wr.heap.size ≤ wb.heap.size := hkr.size
        have htook : Took w w5 g v3 (ps ++ [(.slice A3 D.length c3, ((B0 : Int), D))]) := by
          refine ⟨by rw [List.length_append]; exact hown5, fun p hp => ?_, hK5⟩
          rcases List.mem_append.1 hp with hp | hp
          · have h1 := ((HRD.out.rows p hp).keeps hkr (fun b hb h => by have h2 : b = g := h; omega)).keeps hkw (fun b hb => hb.2.1)
            refine h1.mono (fun b hb => ⟨hb.1, ?_, by have := hkw.size; omega⟩)
            rcases hat5 with e | e
            · rw [e]; exact hb.2.1
            · rw [e]; intro h; injection h with h; omega
          · simp at hp
            subst hp
            have h1 := (Row.of_own hub).keeps hkw (fun b hb hs => by
              have h2 := ownsRow_ge hub b hb
              have h3 := ownsRow_lt HRD.out.own b hs
              omega)
            refine h1.mono (fun b hb => ⟨by have := ownsRow_ge hub b hb; omega, ?_, by have := ownsRow_lt hub b hb; have := hkw.size; omega⟩)
            have h2 := ownsRow_ge hub b hb
            rcases hat5 with e | e
            · rw [e]; intro h; have := ownsRow_lt HRD.out.own b h; omega
            · rw [e]; intro h; injection h with h; have := ownsRow_lt hub b hb; omega
        have hrd5 : Rd w5 F g (rest.drop n) := (HR3.out.keeps hk3b (fun h => h) (fun _ _ h => h)).keeps hkw (fun h => by have := hge g h; omega) (fun b hb hs => by have h1 := HFl.out b hb; have h2 := hge b hs; omega)
        have HT5 := Lib.hid htook
        have HR5 := Lib.hid hrd5
        have HSP5 := Lib.hid (show Pure.split bs = Pure.splitFrom (rest.drop n) (optsOf (ps ++ [(.slice A3 D.length c3, ((B0 : Int), D))])) by rw [HGO.out]; simp [optsOf])
        obtain ⟨A4, c4, rfl⟩ := own_form hown5
        obtain ⟨v5, hb5, hr5⟩ := hrd5
        obtain ⟨X5, cX5, rfl, _⟩ := hr5.form
        have q5 : w5.cell? ⟨g, 0, none⟩ = some (.slice X5 (rest.drop n).length cX5) := by rw [hb5.cell]; rfl
        have Q0 := Lib.hid q0
        have Q5 := Lib.hid q5
        clear hown5 hg5 hat5 hcat hkw hge hK5 htook hrb hbb hub hownb hKb hone hkb hkr hk3b c0 c1 hwrs hwrb hr5 hb5 q5 q0
        go_wp2_with fail
        go_roundw
        case rel => exact ⟨rest.drop n, _, HR5.out, HSP5.out, by rw [List.length_append]; simp only [List.length_cons, List.length_nil]; omega, HT5.out⟩
        case measure => rw [Q5.out, Q0.out]; have := HN.out; simp only; omega
      · have HS := Lib.hid (hsp.trans (split_bad hnil (by rw [hlo]; exact h32) h0))
        have HO := Lib.hid (option_bad F g rest wr HRR.out HF.out h0)
        clear hsp hrd hlo hFw h0
        go_wp2_with fail
        refine HO.out.mono ?_
        rintro e w3 ⟨fb, rfl, hu, hk3⟩
        have HU := Lib.hid hu
        have HUe := Lib.hid (fun (o : Obj) => hu.keeps ((Keeps.refl nobody w3).alloc o) (fun _ h => h))
        have HK3 := Lib.hid (HRD.out.keeps.trans hk3)
        clear hu hk3 HO
        go_wp2
        go_ret2
        exact ⟨_, _, [], rfl, by rw [HS.out]; exact HUe.out _, by rw [HS.out]; rfl, ORow.nil _ _, HK3.out.alloc _⟩
    · have hz : rest = [] := List.eq_nil_of_length_eq_zero (by omega)
      subst hz
      have HS := Lib.hid (show Pure.split bs = (0, optsOf ps) from hsp.trans (Pure.splitFrom_nil _))
      clear hsp hrd hlo hne
      go_wp2
      go_ret2
      exact ⟨_, .nilIface, ps, rfl, by rw [HS.out]; exact .inl ⟨rfl, rfl⟩, by rw [HS.out], ⟨(Row.of_own HRD.out.own).mono (fun b hb => ownsRow_ge HRD.out.own b hb), fun p hp => (HRD.out.rows p hp).mono (fun b hb => hb.1)⟩, HRD.out.keeps⟩
end Go.Proofs.YtaalbjbocbagcaaDoor
