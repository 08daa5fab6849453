/- des: the maker of the mixing function; the keys of the rounds. -/
import Derived.Test.YtmelphlgpnmopaaEncM
import Derived.Test.YtmelphlgpnmopaaEncU
import Derived.Test.YtmelphlgpnmopaaRowSet
import Derived.Laws.Rows
import Derived.Laws.EntriesVeiled
namespace Go.Proofs.Ytmelphlgpnmopaa
open Go.RowKit
set_option maxHeartbeats 2000000 in
theorem mixer_any (w : World) :
    Calls Try.prog 12 #[] w fun e w' => ∃ f, e = .returned f ∧ Mixes w' f ∧ Keeps nobody w w' := by
  have hmf : ∀ (fn : Fn) (first cap : Array Value) (w : World), (Instr.makeFunc fn first cap).run Try.prog w = .ok (.func fn first cap) w := fun _ _ _ _ => rfl
  go_enter Try.func12, Try.ntmps12
  go_wp2_with fail
  refine (expansionTable_any _).mono ?_
  rintro e w1 ⟨u1, rfl, hr1, hk1⟩
  have HK1 := Lib.hid hk1
  have HP1 := Lib.hid (picker_any _ 32 u1 Pure.expand w1 hr1)
  clear hr1 hk1
  go_wp2_with fail
  refine HP1.out.mono ?_
  rintro e w2 ⟨fe, rfl, hp2, hk2⟩
  obtain ⟨ea, eb, eu, rfl, _, _, _⟩ := id hp2
  have HK2 := Lib.hid (HK1.out.trans hk2)
  have HE2 := Lib.hid hp2
  clear hp2 hk2 HP1 HK1
  go_wp2_with fail
  refine (mixTable_any _).mono ?_
  rintro e w3 ⟨u3, rfl, hr3, hk3⟩
  have HK3 := Lib.hid (HK2.out.trans hk3)
  have HE3 := Lib.hid (HE2.out.keeps hk3)
  have HP3 := Lib.hid (picker_any _ 32 u3 Pure.desP w3 hr3)
  clear hr3 hk3 HK2 HE2
  go_wp2_with fail
  refine HP3.out.mono ?_
  rintro e w4 ⟨fp, rfl, hp4, hk4⟩
  obtain ⟨pa, pb, pu, rfl, _, _, _⟩ := id hp4
  have HK4 := Lib.hid (HK3.out.trans hk4)
  have HE4 := Lib.hid (HE3.out.keeps hk4)
  have HP4 := Lib.hid hp4
  clear hp4 hk4 HP3 HK3 HE3
  go_wp2_with fail
  go_ret
  have h7 := ((Keeps.refl nobody w4).alloc (.cells #[.func (.func 30) #[] #[.pointer (some ⟨ea, 0, none⟩), .pointer (some ⟨eb, 0, none⟩)]] 40)).alloc (.cells #[.func (.func 30) #[] #[.pointer (some ⟨pa, 0, none⟩), .pointer (some ⟨pb, 0, none⟩)]] 40)
  refine ⟨_, rfl, ⟨_, _, _, _, rfl, ?_, ?_, HP4.out.keeps h7, HE4.out.keeps h7⟩, HK4.out.trans h7⟩
  · simp
  · simp
/-- The values of numbers of 64 bits. -/
abbrev u64s (l : List Nat) : List Value := l.map fun (b : Nat) => Value.int .u64 (b : Int)
theorem u64s_set (l : List Nat) (j x : Nat) : (u64s l).toArray.setIfInBounds j (.int .u64 (x : Int)) = (u64s (l.set j x)).toArray := by
  apply Array.toList_inj.1
  simp [List.map_set]
theorem words16_info : (Try.prog.info? 45).map (·.size) = some 16 := by kernel_rfl
theorem range_at (f : Nat → Nat) (n k : Nat) (h : k < n) : ((List.range n).map f).getD k 0 = f k := by
  rw [List.getD_eq_getElem?_getD, List.getElem?_map, List.getElem?_range h]; rfl
/-- A row of numbers by their law. -/
theorem nums_of (f : Nat → Nat) (n : Nat) : ∃ T : List Nat, T.length = n ∧ ∀ k, k < n → T.getD k 0 = f k :=
  ⟨(List.range n).map f, by rw [List.length_map, List.length_range], fun k h => range_at f n k h⟩
theorem set_more (F : List Nat) (n k : Nat) (hF : F.length = n) (hk : k < n) : (F.take k ++ List.replicate (n - k) 0).set k (F.getD k 0) = F.take (k + 1) ++ List.replicate (n - (k + 1)) 0 := by
  subst hF
  have e : F.length - k = (F.length - (k + 1)) + 1 := by omega
  rw [take_snoc F 0 k hk, e, List.replicate_succ, List.set_append_right _ _ (by rw [List.length_take]; omega), List.length_take, Nat.min_eq_left (by omega), Nat.sub_self, List.set_cons_zero, List.append_assoc]
  rfl
theorem pc2_within : ∀ k < 48, 1 ≤ Pure.desPc2.getD k 0 ∧ Pure.desPc2.getD k 0 ≤ 56 := by decide +kernel
theorem start_key (K : List Bool) : Pure.val (Pure.pick K keyPicks) / 2 ^ 28 = Pure.val (Pure.desStart K []).c ∧ Pure.val (Pure.pick K keyPicks) % 2 ^ 28 = Pure.val (Pure.desStart K []).d := by
  have e : Pure.pick K keyPicks = Pure.pick K (Pure.desHalf false) ++ Pure.pick K (Pure.desHalf true) := Pure.pick_append K _ _
  have hl : (Pure.pick K (Pure.desHalf true)).length = 28 := by rw [Pure.pick_length]; rfl
  have hlt := Pure.val_lt (Pure.pick K (Pure.desHalf true))
  rw [hl] at hlt
  have hc : (Pure.desStart K []).c = Pure.pick K (Pure.desHalf false) := rfl
  have hd : (Pure.desStart K []).d = Pure.pick K (Pure.desHalf true) := rfl
  rw [e, Pure.val_append, hl, hc, hd]
  generalize Pure.val (Pure.pick K (Pure.desHalf false)) = x
  generalize Pure.val (Pure.pick K (Pure.desHalf true)) = y at hlt ⊢
  omega
theorem by_range (n : Nat) : 1 ≤ Pure.desBy n ∧ Pure.desBy n ≤ 2 := by unfold Pure.desBy; split <;> omega
end Go.Proofs.Ytmelphlgpnmopaa
