/- Contracts of NewReader and of the reader's Bytes. -/
import Derived.Test.YtkpagfeglpfhkaaBitsR
namespace Go.Proofs.Ytkpagfeglpfhkaa
open Go.RowKit

theorem newReader_any (F : Nat → Prop) (x : Value) (high : Bool) (bs : List UInt8) (w : World) (hr : Row w F 1 x bs.length (u8s bs)) (hn : bs.length ≤ 140737488355328) :
    Calls Try.prog 19 #[x, .bool high] w fun e w' => ∃ g v, e = .returned (.pointer (some ⟨g, 0, none⟩)) ∧ w.heap.size ≤ g ∧ RObj w' g v high bs 0 ∧
      (∀ b, v.ownBlock = some b → w.heap.size ≤ b) ∧ Below w.heap.size w w' := by
  have HC := Lib.hid (clone_any F x bs.length bs w hr hn)
  obtain ⟨_, _, A, c, rfl, _⟩ := hr
  go_enter Try.func19, Try.ntmps19
  go_wp2_with (first
   | (go_at_call 59; refine HC.out.mono ?_; rintro e w1 ⟨v, rfl, hown, hb⟩; obtain ⟨A1, c1, rfl⟩ := own_form hown)
   | (go_at_call 55; refine (placeOf_any _ _).mono ?_; rintro e w' ⟨rfl, rfl⟩))
  go_ret
  refine ⟨w1.heap.size + 1, _, rfl, by have := hb.size; omega, ⟨?_, ?_, by omega, hn⟩, fun b h => ownsRow_ge hown b h, ?_⟩
  · have := Blk.new (w1.alloc (.cells #[] 83)) 72 #[.slice A1 bs.length c1, .int .i64 0, placeV high]
    simpa using this
  · exact ((ownsRow_base hown (Nat.zero_le _)).alloc _).alloc _
  · exact (hb.alloc hb.size _).alloc (by simp; have := hb.size; omega) _

set_option maxHeartbeats 400000 in
theorem rbytes_ok (g : Nat) (v : Value) (high : Bool) (bs : List UInt8) (at_ n : Nat) (w : World) (h : RObj w g v high bs at_) (hn : (at_ + 7) / 8 + n ≤ bs.length) :
    Calls Try.prog 30 #[.pointer (some ⟨g, 0, none⟩), .int .i64 n] w fun e w' => ∃ u, e = .returned (.tuple #[u, .bool true]) ∧
      RObj w' g v high bs (((at_ + 7) / 8 + n) * 8) ∧ w'.ownsRow w.heap.size 5 1 u n (u8s ((bs.drop ((at_ + 7) / 8)).take n)) ∧ Keeps (only g) w w' := by
  have HM := Lib.hid (rmade_any g high v (.int .i64 at_) w h.blk)
  have HA := Lib.hid (ralign_any g v high bs at_ w h)
  have l2 := h.len
  clear h
  obtain ⟨S, hS⟩ : ∃ S, S = (at_ + 7) / 8 := ⟨_, rfl⟩
  rw [← hS] at HA hn ⊢
  clear hS
  go_enter Try.func30, Try.ntmps30
  go_upto_region 4 with (first
   | (go_at_call 60; refine HM.out.mono ?_; rintro e w' ⟨rfl, rfl⟩)
   | (go_at_call 28; refine HA.out.mono ?_; rintro e w1 ⟨rfl, h1, k1⟩))
  have HL := Lib.hid (left_any g v high bs _ w1 h1)
  rw [show (((S * 8 : Nat)) : Int) = (S : Int) * 8 by simp] at HL
  have l1 := h1.le
  clear HA HM
  have H1 := Lib.hid h1
  have K1 := Lib.hid k1
  clear h1 k1
  have hle : ¬ ((bs.length : Int) * 8 - (S : Int) * 8) / 8 < n := by omega
  have hdv : 0 ≤ ((bs.length : Int) * 8 - (S : Int) * 8) := by omega
  go_upto_region 6 with (go_at_call 21; refine HL.out.mono ?_; rintro e w' ⟨rfl, nl, rfl⟩)
  have h2 := H1.out.drewN nl
  obtain ⟨A, c, rfl⟩ := own_form h2.own
  have hb := h2.blk
  have c0 : (w1.drewN nl).cell? ⟨g, 0, none⟩ = some (.slice A bs.length c) := by rw [hb.cell]; rfl
  have c1 : (w1.drewN nl).cell? ⟨g, 1, none⟩ = some (.int .i64 ((S : Int) * 8)) := by rw [hb.cell]; rfl
  have f1 : (w1.drewN nl).frozen? ⟨g, 1, none⟩ = false := hb.frozen 1
  have HB := Lib.hid hb
  clear hb hle hdv HL
  go_upto_region 8 with fail
  have hcap : bs.length ≤ c := by
    obtain ⟨_, _, A', c', e, h, _⟩ := Row.of_own H1.out.own
    injection e with _ _ e; omega
  have hlo : (S : Int) ≤ (S : Int) + n := by omega
  have hhi : (S : Int) + n ≤ c := by omega
  have hg : Row ((w1.drewN nl).setCell ⟨g, 1, none⟩ (.int .i64 ((S : Int) * 8 + n * 8))) (fun b => (Value.slice A bs.length c).ownBlock = some b) 1 (.slice A bs.length c) bs.length (u8s bs) :=
    (Row.of_own H1.out.own).keeps (S := only g) (((Keeps.refl _ w1).drewN nl).store g 1 (fun _ => only_self g) _) (fun b hb e => by
      have e : b = g := e
      subst e
      exact ownsRow_ne H1.out.own H1.out.blk (by decide) hb)
  have HG := Lib.hid hg
  clear hg
  have em : ((u8s bs).drop S).take n = u8s ((bs.drop S).take n) := by simp [u8s]
  have EM := Lib.hid em
  clear em
  have hn40 : n ≤ 140737488355328 := by omega
  have en : ((bs.drop S).take n).length = n := by simp; omega
  have EN := Lib.hid en
  clear en
  have hkk : Keeps (only g) w ((w1.drewN nl).setCell ⟨g, 1, none⟩ (.int .i64 ((S : Int) * 8 + n * 8))) := K1.out.trans (((Keeps.refl _ w1).drewN nl).store g 1 (fun _ => only_self g) _)
  have HKK := Lib.hid hkk
  clear hkk
  have hfin : ∀ w2, Below (((w1.drewN nl).setCell ⟨g, 1, none⟩ (.int .i64 ((S : Int) * 8 + n * 8))).heap.size) ((w1.drewN nl).setCell ⟨g, 1, none⟩ (.int .i64 ((S : Int) * 8 + n * 8))) w2 →
      RObj w2 g (.slice A bs.length c) high bs ((S + n) * 8) ∧ Keeps (only g) w w2 := by
    intro w2 hb2
    refine ⟨⟨?_, ?_, by omega, l2⟩, HKK.out.trans ((Keeps.of_below hb2).mono (fun _ h => h.elim))⟩
    · have hx := (HB.out.set 1 (.int .i64 ((S : Int) * 8 + n * 8))).below hb2 (by simpa [World.setCell] using HB.out.lt)
      have e : ((S : Int) * 8 + n * 8) = (((S + n) * 8 : Nat) : Int) := by omega
      rw [e] at hx
      simpa using hx
    · exact ownsRow_keeps H1.out.own ((((Keeps.refl _ w1).drewN nl).store g 1 (fun _ => only_self g) _).trans ((Keeps.of_below hb2).mono (fun _ h => h.elim)))
        (fun b hb e => by
          have e : b = g := e
          subst e
          exact ownsRow_ne H1.out.own H1.out.blk (by decide) hb)
  have HF := Lib.hid hfin
  clear hfin
  go_wp2_with (go_at_call 59; refine stopHere ?_)
  all_goals unfold Hid
  · have hrow := HG.out.cutEnd n (by omega)
    have hcs : c = S := by assumption
    rw [hcs, EM.out] at hrow
    refine (clone_any _ _ n _ _ hrow hn40).mono ?_
    rintro e w2 ⟨v2, rfl, hown2, hb2⟩
    clear hcs
    have HO2 := Lib.hid hown2
    have HB2 := Lib.hid hb2
    clear hown2 hb2
    go_wp2
    go_ret2
    exact ⟨v2, rfl, (HF.out _ HB2.out).1, ownsRow_base HO2.out (HKK.out.size), (HF.out _ HB2.out).2⟩
  · have hrow := HG.out.cut1 S n (by omega)
    rw [EM.out] at hrow
    refine (clone_any _ _ n _ _ hrow hn40).mono ?_
    rintro e w2 ⟨v2, rfl, hown2, hb2⟩
    have HO2 := Lib.hid hown2
    have HB2 := Lib.hid hb2
    clear hown2 hb2
    go_wp2
    go_ret2
    exact ⟨v2, rfl, (HF.out _ HB2.out).1, ownsRow_base HO2.out (HKK.out.size), (HF.out _ HB2.out).2⟩

theorem rbytes_no (g : Nat) (v : Value) (high : Bool) (bs : List UInt8) (at_ : Nat) (n : Int) (w : World) (h : RObj w g v high bs at_) (hn : n < 0 ∨ (bs.length : Int) < ((at_ + 7) / 8 : Nat) + n) :
    Calls Try.prog 30 #[.pointer (some ⟨g, 0, none⟩), .int .i64 n] w fun e w' => e = .returned (.tuple #[.slice none 0 0, .bool false]) ∧
      RObj w' g v high bs ((at_ + 7) / 8 * 8) ∧ Keeps (only g) w w' := by
  have HM := Lib.hid (rmade_any g high v (.int .i64 at_) w h.blk)
  have HA := Lib.hid (ralign_any g v high bs at_ w h)
  have l2 := h.len
  clear h
  obtain ⟨S, hS⟩ : ∃ S, S = (at_ + 7) / 8 := ⟨_, rfl⟩
  rw [← hS] at HA hn ⊢
  clear hS
  go_enter Try.func30, Try.ntmps30
  go_upto_region 4 with (first
   | (go_at_call 60; refine HM.out.mono ?_; rintro e w' ⟨rfl, rfl⟩)
   | (go_at_call 28; refine HA.out.mono ?_; rintro e w1 ⟨rfl, h1, k1⟩))
  have HL := Lib.hid (left_any g v high bs _ w1 h1)
  have l1 := h1.le
  have H1 := Lib.hid h1
  have K1 := Lib.hid k1
  clear h1 k1 HA HM
  rw [show (((S * 8 : Nat)) : Int) = (S : Int) * 8 by simp] at HL
  have hdv : 0 ≤ ((bs.length : Int) * 8 - (S : Int) * 8) := by omega
  by_cases hneg : n < 0
  · clear hn
    go_wp2
    go_ret2
    exact ⟨rfl, H1.out, K1.out⟩
  · have hle : ((bs.length : Int) * 8 - (S : Int) * 8) / 8 < n := by omega
    clear hn
    go_wp2_with (go_at_call 21; refine HL.out.mono ?_; rintro e w' ⟨rfl, nl, rfl⟩)
    go_ret2
    exact ⟨rfl, H1.out.drewN nl, K1.out.drewN nl⟩
end Go.Proofs.Ytkpagfeglpfhkaa
