/- Package packet's reader: take. -/
import Derived.Test.YtaalbjbocbagcaaDoorFault
import Derived.Test.YtaalbjbocbagcaaDoorBase
import Derived.Test.YtaalbjbocbagcaaDoorCut
namespace Go.Proofs.YtaalbjbocbagcaaDoor
open Go.RowKit
/-- A reader in block g whose rest is these bytes. -/
def Rd (w : World) (F : Nat → Prop) (g : Nat) (l : List UInt8) : Prop := ∃ v, Blk w g 57 #[v] ∧ Row w F 1 v l.length (u8s l)
theorem Rd.keeps {S F : Nat → Prop} {w w' : World} {g : Nat} {l : List UInt8} (h : Rd w F g l) (k : Keeps S w w') (hg : ¬ S g) (hs : ∀ b, F b → ¬ S b) : Rd w' F g l := by
  obtain ⟨v, hb, hr⟩ := h
  exact ⟨v, hb.keeps k hg, hr.keeps k hs⟩
theorem take_short (F : Nat → Prop) (g n : Nat) (l : List UInt8) (w : World) (hrd : Rd w F g l) (h : l.length < n) (hn : n ≤ 100000) :
    Calls Tryd.prog 44 #[.pointer (some ⟨g, 0, none⟩), .int .i64 n] w fun e w' => ∃ u, e = .returned (.tuple #[.slice none 0 0, u]) ∧ ErrIs w' u 2 ∧ Keeps nobody w w' := by
  obtain ⟨v, hb, hr⟩ := hrd
  obtain ⟨A, c, rfl, hc⟩ := hr.form
  have hm := hr.2.1
  unfold maxLen at hm
  have c0 : w.cell? ⟨g, 0, none⟩ = some (.slice A l.length c) := by rw [hb.cell]; rfl
  have d0 : decide (l.length < n) = true := decide_eq_true h
  have HO := Lib.hid (fun s => of_any s 2 w (by omega))
  clear hb hr h
  go_enter Tryd.func44, Tryd.ntmps44
  go_wp2_with fail
  refine (HO.out _).mono ?_
  rintro e w1 ⟨u, rfl, hu, hb1⟩
  have HU := Lib.hid hu
  have HB1 := Lib.hid (Keeps.new hb1)
  clear hu hb1 HO c0
  go_wp2
  go_ret2
  exact ⟨u, rfl, HU.out, HB1.out⟩
theorem take_ok (F : Nat → Prop) (g n : Nat) (l : List UInt8) (w : World) (hrd : Rd w F g l) (hF : ∀ b, F b → b ≠ g) (h : n ≤ l.length) :
    Calls Tryd.prog 44 #[.pointer (some ⟨g, 0, none⟩), .int .i64 n] w fun e w' => ∃ v, e = .returned (.tuple #[v, .nilIface]) ∧ Row w' F 1 v n (u8s (l.take n)) ∧ Rd w' F g (l.drop n) ∧ Keeps (only g) w w' := by
  obtain ⟨v, hb, hr⟩ := hrd
  obtain ⟨A, c, rfl, hc⟩ := hr.form
  have hm := hr.2.1
  unfold maxLen at hm
  have c0 : w.cell? ⟨g, 0, none⟩ = some (.slice A l.length c) := by rw [hb.cell]; rfl
  have f0 := hb.frozen 0
  have d0 : decide (l.length < n) = false := decide_eq_false (by omega)
  have q1 : (n : Int) ≤ (l.length : Int) := by omega
  have q2 : (n : Int) ≤ (c : Int) := by omega
  have q3 : n ≤ c := by omega
  have HR := Lib.hid hr
  have HB := Lib.hid hb
  have HF := Lib.hid hF
  clear hb hr hF
  go_enter Tryd.func44, Tryd.ntmps44
  go_wp2_with fail
  all_goals
    go_ret2
    have hk := (Keeps.refl (only g) w).store g 0 (fun _ => rfl)
    have ht := HR.out.take1 n (by omega)
    have hcut := HR.out.cutV n (l.length - n) (by omega)
    rw [List.take_of_length_le (by simp)] at hcut
    unfold cutV at hcut
    by_cases hcn : c = n
    · rw [if_pos hcn] at hcut
      subst hcn
      refine ⟨_, rfl, ht.keeps (hk _) HF.out, ⟨_, HB.out.set 0 _, ?_⟩, hk _⟩
      rw [List.length_drop]
      first | exact hcut.keeps (hk _) HF.out | exact absurd rfl h
    · rw [if_neg hcn] at hcut
      refine ⟨_, rfl, ?_, ⟨_, HB.out.set 0 _, ?_⟩, hk _⟩
      · first | exact ht.keeps (hk _) HF.out | exact absurd h hcn
      · rw [List.length_drop]
        first | exact hcut.keeps (hk _) HF.out | exact absurd h hcn
end Go.Proofs.YtaalbjbocbagcaaDoor
