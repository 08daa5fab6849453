/- Package packet's reader: take. -/
import Derived.OwnWalk
import Derived.Lib.IfaceEq
import Derived.Test.YtmgicbckgpdkcaaGreatDoorC17
namespace Go.Proofs.YtmgicbckgpdkcaaGreatDoor
set_option maxRecDepth 100000
set_option maxHeartbeats 4000000
open _root_.Go.Lib renaming hid → xhd
open List renaming setIfInBounds_toArray → xqA, getElem_toArray → xqB, getElem_cons_succ → xqC, getElem_cons_zero → xqD, set_cons_succ → xqE, set_cons_zero → xqF
open Go.RowKit
def Rd (w : World) (F : Nat → Prop) (g : Nat) (l : List UInt8) : Prop := ∃ v, Blk w g 304 #[v] ∧ Row w F 1 v l.length (u8s l)
theorem Rd.keeps {S F : Nat → Prop} {w w' : World} {g : Nat} {l : List UInt8} (h : Rd w F g l) (k : Keeps S w w') (hg : ¬ S g) (hs : ∀ b, F b → ¬ S b) : Rd w' F g l := by
 obtain ⟨v, hb, hr⟩ := h
 exact ⟨v, hb.keeps k hg, hr.keeps k hs⟩
theorem ybq (F : Nat → Prop) (g n : Nat) (l : List UInt8) (w : World) (hrd : Rd w F g l) (h : l.length < n) (_ : n ≤ 100000) :
  Calls Tryz.prog 247 #[.pointer (some ⟨g, 0, none⟩), .int .i64 n] w fun e w' => ∃ u, e = .returned (.tuple #[.slice none 0 0, u]) ∧ y1z w' u 2 ∧ Keeps y01 w w' := by
 obtain ⟨v, hb, hr⟩ := hrd
 obtain ⟨A, c, rfl, hc⟩ := hr.form
 have hm := hr.2.1
 unfold maxLen at hm
 have c0 : w.cell? ⟨g, 0, none⟩ = some (.slice A l.length c) := by rw [hb.cell]; rfl
 have d0 : decide (l.length < n) = true := decide_eq_true h
 have HO := xhd (fun s => y7e s 2 w (by omega))
 clear hb hr h
 go_enter Tryz.func247, Tryz.ntmps247
 go_wp2_with fail
 refine (HO.out _).mono ?_
 rintro e w1 ⟨u, rfl, hu, hb1⟩
 have HU := xhd hu
 have HB1 := xhd (Keeps.new hb1)
 clear hu hb1 HO c0
 go_wp2
 go_ret2
 exact ⟨u, rfl, HU.out, HB1.out⟩
theorem take_ok (F : Nat → Prop) (g n : Nat) (l : List UInt8) (w : World) (hrd : Rd w F g l) (hF : ∀ b, F b → b ≠ g) (h : n ≤ l.length) :
  Calls Tryz.prog 247 #[.pointer (some ⟨g, 0, none⟩), .int .i64 n] w fun e w' => ∃ v, e = .returned (.tuple #[v, .nilIface]) ∧ Row w' F 1 v n (u8s (l.take n)) ∧ Rd w' F g (l.drop n) ∧ Keeps (only g) w w' := by
 obtain ⟨v, hb, hr⟩ := hrd
 obtain ⟨A, c, rfl, hc⟩ := hr.form
 have hm := hr.2.1
 unfold maxLen at hm
 have c0 : w.cell? ⟨g, 0, none⟩ = some (.slice A l.length c) := by rw [hb.cell]; rfl
 have f0 := hb.frozen 0
 have d0 : decide (l.length < n) = false := decide_eq_false (by omega)
 have q1 : (n : Int) ≤ (l.length : Int) := by omega
 have q2 : (n : Int) ≤ (c : Int) := by omega
 have q3 : n ≤ c := by omega
 have HR := xhd hr
 have HB := xhd hb
 have HF := xhd hF
 clear hb hr hF
 go_enter Tryz.func247, Tryz.ntmps247
 go_wp2_with fail
 all_goals
  go_ret2
  have hk := (Keeps.refl (only g) w).store g 0 (fun _ => rfl)
  have ht := HR.out.take1 n (by omega)
  have hcut := HR.out.cutV n (l.length - n) (by omega)
  rw [List.take_of_length_le (by simp)] at hcut
  unfold cutV at hcut
  by_cases hcn : c = n
  ·rw [if_pos hcn] at hcut
   subst hcn
   refine ⟨_, rfl, ht.keeps (hk _) HF.out, ⟨_, HB.out.set 0 _, ?_⟩, hk _⟩
   rw [List.length_drop]
   first | exact hcut.keeps (hk _) HF.out | exact absurd rfl h
  ·rw [if_neg hcn] at hcut
   refine ⟨_, rfl, ?_, ⟨_, HB.out.set 0 _, ?_⟩, hk _⟩
   ·first | exact ht.keeps (hk _) HF.out | exact absurd h hcn
   ·rw [List.length_drop]
    first | exact hcut.keeps (hk _) HF.out | exact absurd h hcn
namespace Pure
def num (l : List UInt8) : Nat := l.foldl (fun n x => n * 256 + x.toNat) 0
theorem num_snoc (l : List UInt8) (x : UInt8) : num (l ++ [x]) = num l * 256 + x.toNat := by simp [num]
theorem num_lt : ∀ (l : List UInt8), l.length ≤ 2 → num l < 65536
 | [], _ => by decide
 | [a], _ => by have := a.toNat_lt; simp [num]; omega
 | [a, b], _ => by have := a.toNat_lt; have := b.toNat_lt; simp [num]; omega
 | _ :: _ :: _ :: _, h => by simp at h
def told (size len : Nat) (l : List UInt8) : Nat := num ((l.take size).drop (size - len))
def nextErr (size len : Nat) (l : List UInt8) : Nat := if l.length < size then 2 else if told size len l < size then 4 else if l.length < told size len l then 2 else 0
end Pure
theorem pnum_any (F : Nat → Prop) (x : Value) (n : Nat) (l : List UInt8) (w : World) (hr : Row w F 1 x n (u8s l)) (hl : l.length ≤ 2) :
  Calls Tryz.prog 60 #[x] w fun e w' => e = .returned (.int .i64 (Pure.num l : Nat)) ∧ w = w' := by
 obtain ⟨A, c, rfl, hc⟩ := hr.form
 have hn : n = l.length := by have := hr.1; simp at this; omega
 subst hn
 have HR := xhd hr
 have HT := xhd (fun (k : Nat) (h : k ≤ l.length) => Pure.num_lt (l.take k) (by rw [List.length_take]; omega))
 clear hr
 go_enter Tryz.func60, Tryz.ntmps60
 go_wp2_with fail
 go_loopw [3, 8] (fun v i wr => ∃ k : Nat, k ≤ l.length ∧ i = .int .i64 (k : Int) ∧ v = .int .i64 (Pure.num (l.take k) : Nat) ∧ wr = w) (fun _ i _ => l.length - (intOf i).toNat)
 case atStart => exact ⟨0, by omega, rfl, rfl, rfl⟩
 case round =>
  obtain ⟨k, hk, rfl, rfl, rfl⟩ := hrel
  by_cases hkl : k < l.length
  ·have i0 : (0 : Int) ≤ (k : Int) := by omega
   have i1 : (k : Int) < (l.length : Int) := by omega
   obtain ⟨b, off, rfl, _, hcx⟩ := HR.out.cellAt (by omega)
   have b0 := hcx k _ (y3t l k hkl)
   have hx := (l.getD k 0).toNat_lt
   have hN := HT.out k hk
   have hsn : Pure.num (l.take (k + 1)) = Pure.num (l.take k) * 256 + (l.getD k 0).toNat := by
    rw [List.take_succ_eq_append_getElem hkl, Pure.num_snoc]
    simp [List.getD_eq_getElem?_getD, hkl]
   have hM := HT.out (k + 1) (by omega)
   obtain ⟨N, hN'⟩ : ∃ N, N = Pure.num (l.take k) := ⟨_, rfl⟩
   obtain ⟨M, hM'⟩ : ∃ N, N = Pure.num (l.take (k + 1)) := ⟨_, rfl⟩
   obtain ⟨X, hX⟩ : ∃ N, N = (l.getD k 0).toNat := ⟨_, rfl⟩
   rw [← hN', ← hM', ← hX] at hsn
   rw [← hN'] at hN ⊢
   rw [← hM'] at hM
   rw [← hX] at b0 hx
   have hN4 : N < 256 := by omega
   have eor : bits .or .i64 ((N : Int) * 256) (X : Int) = (M : Int) := by
    have h := yb1 (N * 256) X (by omega) (by omega)
    rw [show N * 256 ||| X = M by rw [hsn, show (256 : Nat) = 2 ^ 8 by rfl, ← Nat.shiftLeft_eq, Nat.shiftLeft_add_eq_or_of_lt (show X < 2 ^ 8 by omega)]] at h
    simpa using h
   have HM := xhd hM'
   clear hcx hN' hM' hX hsn hN hM
   go_wp2_with fail
   go_roundw
   case rel => exact ⟨k + 1, by omega, by go_num, by rw [← HM.out], trivial⟩
   case measure => simp [intOf]; omega
  ·have hkk : k = l.length := by omega
   have HE := xhd (show Pure.num (l.take k) = Pure.num l by rw [hkk, List.take_length])
   subst hkk
   clear hkl hk
   go_wp2
   go_ret
   exact ⟨by rw [← HE.out]; rfl, rfl⟩
theorem next_any (F : Nat → Prop) (g size len : Nat) (l : List UInt8) (w : World) (hrd : Rd w F g l) (hF : ∀ b, F b → b ≠ g) (hs : size ≤ 4) (h1 : 0 < len) (h2 : len ≤ 2) (h3 : len ≤ size) :
  Calls Tryz.prog 246 #[.pointer (some ⟨g, 0, none⟩), .int .i64 size, .int .i64 len] w fun e w' => ∃ a b u, e = .returned (.tuple #[a, b, u]) ∧ y1z w' u (Pure.nextErr size len l) ∧ Keeps (only g) w w' ∧
   (Pure.nextErr size len l = 0 → Row w' F 1 a size (u8s (l.take size)) ∧ Row w' F 1 b (Pure.told size len l - size) (u8s ((l.drop size).take (Pure.told size len l - size))) ∧ Rd w' F g (l.drop (Pure.told size len l))) := by
 by_cases hls : l.length < size
 ·have HE := xhd (show Pure.nextErr size len l = 2 from if_pos hls)
  have HT := xhd (ybq F g size l w hrd hls (by omega))
  clear hrd hF
  go_enter Tryz.func246, Tryz.ntmps246
  go_wp2_with fail
  refine HT.out.mono ?_
  rintro e w1 ⟨u, rfl, hu, hk⟩
  obtain ⟨b, rfl, hu2⟩ : ∃ b, u = .iface 229 (.pointer (some ⟨b, 0, none⟩)) ∧ y1z w1 u 2 := by
   rcases hu with ⟨_, h⟩ | ⟨h1, b, h2, h3⟩
   ·cases h
   ·exact ⟨b, h2, .inr ⟨h1, b, h2, h3⟩⟩
  have HU := xhd hu2
  have HK := xhd (hk.mono (T := only g) (fun i h => h.elim))
  clear hu hu2 hk HT
  go_wp2
  go_ret3
  exact ⟨_, _, _, rfl, by rw [HE.out]; exact HU.out, HK.out, fun h => absurd (HE.out.symm.trans h) (by omega)⟩
 ·have HNE : ∀ k, Pure.nextErr size len l = k ↔ (if Pure.told size len l < size then 2 + 2 else if l.length < Pure.told size len l then 2 else 0) = k := fun k => by unfold Pure.nextErr; rw [if_neg hls]
  have HT := xhd (take_ok F g size l w hrd hF (by omega))
  have HF := xhd hF
  have hlt := xhd (show Pure.told size len l < 65536 from Pure.num_lt _ (by rw [List.length_drop, List.length_take]; omega))
  obtain ⟨st, hst⟩ : ∃ st, st = Pure.told size len l := ⟨_, rfl⟩
  rw [← hst] at HNE hlt ⊢
  have HST := xhd hst
  have HNE := xhd HNE
  clear hst
  obtain ⟨q, hq⟩ : ∃ q, q = size - len := ⟨_, rfl⟩
  have eq : (size : Int) - (len : Int) = (q : Int) := by omega
  have q1 : (q : Int) ≤ (size : Int) := by omega
  have qz : size - q = len := by omega
  have QS := xhd (show q + len ≤ size by omega)
  have HQ := xhd hq
  clear hrd hF hq
  go_enter Tryz.func246, Tryz.ntmps246
  go_wp2_with fail
  refine HT.out.mono ?_
  rintro e w1 ⟨v, rfl, hv, hrd1, hk⟩
  obtain ⟨A, c, rfl, hc⟩ := hv.form
  have HV := xhd hv
  have HRD := xhd hrd1
  have HK := xhd hk
  have qc : (q : Int) ≤ (c : Int) := by omega
  have htd : Pure.told size len l = Pure.num ((l.take size).drop q) := by rw [HQ.out]; rfl
  have HN := xhd (show Calls Tryz.prog 60 #[cutV A c q len] w1 fun e w' => e = .returned (.int .i64 (st : Nat)) ∧ w1 = w' by
   have h := pnum_any F (cutV A c q len) len ((l.take size).drop q) w1 (by
    have h := hv.cutV q len (by omega)
    rwa [List.take_of_length_le (by rw [List.length_drop, List.length_take]; omega)] at h) (by rw [List.length_drop, List.length_take]; omega)
   rw [HST.out, htd]
   exact h)
  clear hv hrd1 hk HT htd
  have hst2 := hlt.out
  go_upto_region 4 with fail
  go_cut [9] (fun s wx => s = .int .i64 (st : Nat) ∧ w1 = wx)
  case first =>
   by_cases hcq : c = q
   ·subst hcq
    unfold cutV at HN
    rw [if_pos rfl] at HN
    go_wp2_with fail
    refine HN.out.mono ?_
    rintro e w2 ⟨rfl, rfl⟩
    go_wp2
    go_meet
    exact ⟨rfl, rfl⟩
   ·unfold cutV at HN
    rw [if_neg hcq] at HN
    go_wp2_with fail
    refine HN.out.mono ?_
    rintro e w2 ⟨rfl, rfl⟩
    go_wp2
    go_meet
    exact ⟨rfl, rfl⟩
  case rest =>
   obtain ⟨rfl, rfl⟩ := hcut
   clear HN
   by_cases h1 : st < size
   ·have HE := xhd ((HNE.out 4).2 (if_pos h1))
    have HO := xhd (fun s => y7e s 4 w1 (by omega))
    have d0 : decide (st < size) = true := decide_eq_true h1
    clear HNE
    go_wp2_with fail
    refine (HO.out _).mono ?_
    rintro e w2 ⟨u, rfl, hu, hb⟩
    have HU := xhd hu
    have HK2 := xhd (HK.out.trans ((Keeps.new hb).mono (fun i h => h.elim)))
    clear hu hb HO
    go_wp2
    go_ret3
    exact ⟨_, _, _, rfl, by rw [HE.out]; exact HU.out, HK2.out, fun h => absurd (HE.out.symm.trans h) (by omega)⟩
   ·have d0 : decide (st < size) = false := decide_eq_false h1
    obtain ⟨m, hm⟩ : ∃ m, m = st - size := ⟨_, rfl⟩
    have em : (st : Int) - (size : Int) = (m : Int) := by omega
    have em2 : st - size = m := hm.symm
    have hml : (m : Int) ≤ 65536 := by omega
    have HM := xhd hm
    by_cases h2 : l.length < st
    ·have HE := xhd ((HNE.out 2).2 (by rw [if_neg h1, if_pos h2]))
     have HT2 := xhd (ybq F g m (l.drop size) w1 HRD.out (by rw [List.length_drop]; omega) (by omega))
     clear HNE hm
     go_wp2_with fail
     refine HT2.out.mono ?_
     rintro e w2 ⟨u, rfl, hu, hk2⟩
     obtain ⟨b, rfl, hu2⟩ : ∃ b, u = .iface 229 (.pointer (some ⟨b, 0, none⟩)) ∧ y1z w2 u 2 := by
      rcases hu with ⟨_, h⟩ | ⟨h1, b, h2, h3⟩
      ·cases h
      ·exact ⟨b, h2, .inr ⟨h1, b, h2, h3⟩⟩
     have HU := xhd hu2
     have HK2 := xhd (HK.out.trans (hk2.mono (T := only g) (fun i h => h.elim)))
     clear hu hu2 hk2 HT2
     go_wp2
     go_ret3
     exact ⟨_, _, _, rfl, by rw [HE.out]; exact HU.out, HK2.out, fun h => absurd (HE.out.symm.trans h) (by omega)⟩
    ·have HE := xhd ((HNE.out 0).2 (by rw [if_neg h1, if_neg h2]))
     have HT2 := xhd (take_ok F g m (l.drop size) w1 HRD.out HF.out (by rw [List.length_drop]; omega))
     have HDD := xhd (show (l.drop size).drop m = l.drop st by rw [List.drop_drop]; congr 1; omega)
     clear HNE hm
     go_wp2_with fail
     refine HT2.out.mono ?_
     rintro e w2 ⟨v2, rfl, hv2, hrd2, hk2⟩
     obtain ⟨A2, c2, rfl, _⟩ := hv2.form
     have HV2 := xhd hv2
     rw [HDD.out] at hrd2
     have HRD2 := xhd hrd2
     have HK2 := xhd (HK.out.trans hk2)
     have HVk := xhd (HV.out.keeps hk2 HF.out)
     clear hv2 hrd2 hk2 HT2
     go_wp2
     go_ret3
     exact ⟨_, _, _, rfl, by rw [HE.out]; exact .inl ⟨rfl, rfl⟩, HK2.out, fun _ => ⟨HVk.out, by first | exact HV2.out | (rw [← HM.out]; exact HV2.out), HRD2.out⟩⟩
namespace Pure
theorem getD_take (b : List UInt8) (n i : Nat) (h : i < n) : (b.take n).getD i 0 = b.getD i 0 := by
 simp [List.getD_eq_getElem?_getD, h]
end Pure
theorem err_form {w : World} {v : Value} {k : Nat} (h : y1z w v k) (hk : k ≠ 0) : ∃ b, v = .iface 229 (.pointer (some ⟨b, 0, none⟩)) := by
 rcases h with ⟨_, h⟩ | ⟨_, b, h, _⟩
 ·exact absurd h hk
 ·exact ⟨b, h⟩
theorem err_nil {w : World} {v : Value} (h : y1z w v 0) : v = .nilIface := by
 rcases h with ⟨h, _⟩ | ⟨h, _⟩
 ·exact h
 ·exact absurd rfl h
theorem y1z.far {w w' : World} {v : Value} {k p : Nat} (h : y1z w v k) (hk : Keeps (only p) w w') (hz : ∀ n : Int, n ≠ 0 → w.cell? ⟨p, 1, none⟩ ≠ some (.int .i64 n)) : y1z w' v k := by
 rcases h with h | ⟨h1, b, h2, h3⟩
 ·exact .inl h
 ·have hb : b ≠ p := fun e => hz k (by omega) (e ▸ h3)
  exact .inr ⟨h1, b, h2, (World.cell?_of_block (w := w) (a := ⟨b, 1, none⟩) (hk.block b (y0x h3) (fun e => hb e))).trans h3⟩
theorem Rd.new {F : Nat → Prop} {v : Value} {l : List UInt8} {w : World} (hr : Row w F 1 v l.length (u8s l)) : Rd (w.alloc (.cells #[v] 304)) F w.heap.size l :=
 ⟨v, Blk.new w _ _, hr.keeps (Keeps.refl y01 w |>.alloc _) (fun _ _ h => h)⟩
open Go.RowKit Go.Extern.Stop Go.Stop Go.Extern
theorem unwrap_any (b k : Nat) (w : World) (h : w.cell? ⟨b, 1, none⟩ = some (.int .i64 k)) :
  Calls Tryz.prog 269 #[.pointer (some ⟨b, 0, none⟩)] w fun e w' => e = .returned (.iface 33 (.int .i64 k)) ∧ w = w' := by
 go_enter Tryz.func269, Tryz.ntmps269
 go_wp2
 go_ret
 exact ⟨rfl, rfl⟩
theorem is_typeOf (v : Value) (w : World) : (ReflectliteType.typeOf #[.iface 33 v]).run Tryz.prog w = .ok (.iface 258 (.agg #[.pointer (some ⟨hB, 33, none⟩)])) w := by kernel_rfl
theorem is_comp (w : World) : ((ReflectliteType.method fun t => do Go.Extern.Rtype.noPackHeld "Comparable" t; (fun a => Value.bool a.comparable) <$> typeInfo t) #[.agg #[.pointer (some ⟨hB, 33, none⟩)]]).run Tryz.prog w = .ok (.bool true) w := by kernel_rfl
theorem is_mComp (n : Nat) (v : Value) (w : World) : (Go.method (n + 1) 258 (.agg #[v]) "Comparable").run Tryz.prog w = .ok (272, .agg #[v]) w := by kernel_rfl
theorem is_mUnwrap (n : Nat) (v : Value) (w : World) : (Go.method (n + 1) 229 v "Unwrap").run Tryz.prog w = .ok (269, v) w := by kernel_rfl
theorem is_noIsF (v : Value) (xT : TypeId) (w : World) : (Instr.typeAssert (.iface 229 v) xT 260 true).run Tryz.prog w = .ok (.tuple #[.nilIface, .bool false]) w := run_typeAssert_lacksB Tryz.underlying260 (by kernel_rfl) (by kernel_rfl) v xT w
theorem is_hasF (v : Value) (xT : TypeId) (w : World) : (Instr.typeAssert (.iface 229 v) xT 263 true).run Tryz.prog w = .ok (.tuple #[.iface 229 v, .bool true]) w := run_typeAssert_hasB Tryz.underlying263 (by kernel_rfl) v xT w
theorem is_noIsE (v : Value) (xT : TypeId) (w : World) : (Instr.typeAssert (.iface 33 v) xT 260 true).run Tryz.prog w = .ok (.tuple #[.nilIface, .bool false]) w := run_typeAssert_lacksB Tryz.underlying260 (by kernel_rfl) (by kernel_rfl) v xT w
theorem is_noUnE (v : Value) (xT : TypeId) (w : World) : (Instr.typeAssert (.iface 33 v) xT 263 true).run Tryz.prog w = .ok (.tuple #[.nilIface, .bool false]) w := run_typeAssert_lacksB Tryz.underlying263 (by kernel_rfl) (by kernel_rfl) v xT w
theorem is_noUnsE (v : Value) (xT : TypeId) (w : World) : (Instr.typeAssert (.iface 33 v) xT 265 true).run Tryz.prog w = .ok (.tuple #[.nilIface, .bool false]) w := run_typeAssert_lacksB Tryz.underlying265 (by kernel_rfl) (by kernel_rfl) v xT w
theorem is_nil (n : Int) (w : World) : Calls Tryz.prog 132 #[.nilIface, .iface 33 (.int .i64 n)] w fun e w' => e = .returned (.bool false) ∧ w = w' := by
 have hn := run_eql_iface_nil_left (P := Tryz.prog) w 33 (.int .i64 n) Tryz.underlying158
 go_enter Tryz.func132, Tryz.ntmps132
 go_wp2
 go_ret
 exact ⟨rfl, rfl⟩
theorem is_inner (b k : Nat) (n : Nat) (w : World) (h : w.cell? ⟨b, 1, none⟩ = some (.int .i64 k)) :
  Calls Tryz.prog 173 #[.iface 229 (.pointer (some ⟨b, 0, none⟩)), .iface 33 (.int .i64 n), .bool true] w fun e w' => e = .returned (.bool (decide (k = n))) ∧ w = w' := by
 have k4 := is_mUnwrap
 have k5 := is_noIsF
 have k6 := is_hasF
 have k7 := is_noIsE
 have k8 := is_noUnE
 have k9 := is_noUnsE
 have hty := run_eql_iface_types (P := Tryz.prog) 229 33 (.pointer (some ⟨b, 0, none⟩)) (.int .i64 n) Tryz.underlying158 (by decide) w
 have heq := Lib.run_eql_iface_int (P := Tryz.prog) w (t := 158) (tx := 33) (k := .i64) (q := .i64) (k : Int) (n : Int) Tryz.underlying158 (by kernel_rfl) Tryz.underlying33
 have HU := xhd (unwrap_any b k w h)
 clear h
 by_cases hkn : k = n
 ·rw [show ((k : Int) == (n : Int)) = true by rw [beq_iff_eq]; omega] at heq
  have HD := xhd (decide_eq_true hkn)
  clear hkn
  go_enter Tryz.func173, Tryz.ntmps173
  go_wp2_with fail
  refine wp_loop_rounds 2 ?_
  rw [rounds_succ]
  go_wp2_with fail
  refine HU.out.mono ?_
  rintro e w' ⟨rfl, rfl⟩
  go_wp2_with fail
  rw [rounds_succ]
  go_wp2_with fail
  go_ret
  exact ⟨by rw [HD.out]; rfl, rfl⟩
 ·rw [show ((k : Int) == (n : Int)) = false by rw [beq_eq_false_iff_ne]; omega] at heq
  have HD := xhd (decide_eq_false hkn)
  clear hkn
  go_enter Tryz.func173, Tryz.ntmps173
  go_wp2_with fail
  refine wp_loop_rounds 2 ?_
  rw [rounds_succ]
  go_wp2_with fail
  refine HU.out.mono ?_
  rintro e w' ⟨rfl, rfl⟩
  go_wp2_with fail
  rw [rounds_succ]
  go_wp2_with fail
  go_ret
  exact ⟨by rw [HD.out]; rfl, rfl⟩
theorem is_fault (b k : Nat) (n : Nat) (w : World) (h : w.cell? ⟨b, 1, none⟩ = some (.int .i64 k)) :
  Calls Tryz.prog 132 #[.iface 229 (.pointer (some ⟨b, 0, none⟩)), .iface 33 (.int .i64 n)] w fun e w' => e = .returned (.bool (decide (k = n))) ∧ w = w' := by
 have h1 := @run_callFunc_extern Tryz.prog 172 _ ReflectliteType.typeOf Tryz.func172 (by kernel_rfl) (by kernel_rfl) (by kernel_rfl) (by kernel_rfl)
 have h2 := @run_callFunc_extern Tryz.prog 272 _ (ReflectliteType.method fun t => do Go.Extern.Rtype.noPackHeld "Comparable" t; pure (.bool (← typeInfo t).comparable)) Tryz.func272 (by kernel_rfl) (by kernel_rfl) (by kernel_rfl) (by kernel_rfl)
 have k1 := is_typeOf
 have k2 := is_comp
 have k3 := is_mComp
 have HI := xhd (is_inner b k n w h)
 obtain ⟨r, hr⟩ : ∃ r, r = decide (k = n) := ⟨_, rfl⟩
 rw [← hr] at HI ⊢
 clear h hr
 go_enter Tryz.func132, Tryz.ntmps132
 go_wp2_with fail
 refine HI.out.mono ?_
 rintro e w' ⟨rfl, rfl⟩
 go_wp2
 go_ret
 exact ⟨rfl, rfl⟩
theorem is_any (v : Value) (k n : Nat) (w : World) (h : y1z w v k) (hn : n ≠ 0) : Calls Tryz.prog 132 #[v, .iface 33 (.int .i64 n)] w fun e w' => e = .returned (.bool (decide (k = n))) ∧ w = w' := by
 rcases h with ⟨rfl, rfl⟩ | ⟨h1, b, rfl, h3⟩
 ·rw [decide_eq_false (fun h => hn h.symm)]
  exact is_nil n w
 ·exact is_fault b k n w h3
namespace Pure
theorem told_option (b : List UInt8) (h : 2 ≤ b.length) : told 2 1 b = (b.getD 1 0).toNat := by
 match b, h with
 | a :: b :: l, _ => simp [told, num]
theorem next_option {b : List UInt8} : nextErr 2 1 b = 0 ↔ ¬ (b.length < 2 ∨ (b.getD 1 0).toNat < 2 ∨ b.length < (b.getD 1 0).toNat) := by
 unfold nextErr
 by_cases h1 : b.length < 2
 ·rw [if_pos h1]
  exact ⟨fun h => by omega, fun h => absurd (Or.inl h1) h⟩
 ·rw [if_neg h1, told_option b (by omega)]
  generalize (b.getD 1 0).toNat = n
  split
  ·exact ⟨fun h => by omega, fun h => by omega⟩
  ·split
   ·exact ⟨fun h => by omega, fun h => by omega⟩
   ·exact ⟨fun h => by omega, fun h => rfl⟩
theorem next_ways (size len : Nat) (b : List UInt8) : nextErr size len b = 0 ∨ nextErr size len b = 2 ∨ nextErr size len b = 4 := by
 unfold nextErr
 split
 ·exact .inr (.inl rfl)
 ·split
  ·exact .inr (.inr rfl)
  ·split
   ·exact .inr (.inl rfl)
   ·exact .inl rfl
end Pure
theorem opt_size : (Tryz.prog.info? 31).map (·.size) = some 2 := by kernel_rfl
theorem option_bad (F : Nat → Prop) (g : Nat) (bs : List UInt8) (w : World) (hrd : Rd w F g bs) (hF : ∀ b, F b → b ≠ g) (h0 : Pure.nextErr 2 1 bs ≠ 0) :
  Calls Tryz.prog 243 #[.pointer (some ⟨g, 0, none⟩)] w fun e w' => ∃ b, e = .returned (.tuple #[optV (.slice none 0 0, (0, [])), .iface 229 (.pointer (some ⟨b, 0, none⟩))]) ∧ y1z w' (.iface 229 (.pointer (some ⟨b, 0, none⟩))) 4 ∧ Keeps (only g) w w' := by
 have hgl : g < w.heap.size := by obtain ⟨v, hb, _⟩ := hrd; exact hb.lt
 have HI := xhd opt_size
 obtain ⟨p, hp⟩ : ∃ p, p = w.heap.size := ⟨_, rfl⟩
 go_enter Tryz.func243, Tryz.ntmps243
 go_upto_region 1 with fail
 rw [← hp]
 generalize hw1 : w.alloc _ = w1
 have hB : Blk w1 p 31 #[.int .i64 0, .slice none 0 0] := by rw [← hw1, hp]; exact Blk.new w _ _
 have HK := xhd (show Keeps y01 w w1 by rw [← hw1]; exact (Keeps.refl _ w).alloc _)
 have HG := xhd hp
 have HN := xhd (next_any F g 2 1 bs w1 (hrd.keeps HK.out (fun h => h) (fun _ _ h => h)) hF (by omega) (by omega) (by omega) (by omega))
 have HB := xhd hB
 clear hw1 hp hB hrd hF
 go_wp2_with fail
 refine HN.out.mono ?_
 rintro e w2 ⟨a, b, u, rfl, hu, hk2, hok⟩
 have hgp : p ≠ g := by have := HG.out; omega
 have HB2 := xhd (HB.out.keeps hk2 (fun h => hgp h))
 have HK2 := xhd ((HK.out.mono (T := only g) (fun i h => h.elim)).trans hk2)
 have HIs := xhd (is_any u (Pure.nextErr 2 1 bs) 2 w2 hu (by omega))
 obtain ⟨fb, rfl⟩ := err_form hu h0
 rcases (Pure.next_ways 2 1 bs).resolve_left h0 with h2 | h4
 ·rw [h2] at HIs
  have HIs := xhd (show _ from HIs.out)
  rw [show decide (2 = 2) = true from rfl] at HIs
  have HO := xhd (fun s => y7e s 4 w2 (by omega))
  clear hu hok hk2 HN
  go_wp2_with fail
  refine HIs.out.mono ?_
  rintro e w3 ⟨rfl, rfl⟩
  go_wp2_with fail
  refine (HO.out _).mono ?_
  rintro e w3 ⟨u, rfl, hu, hb3⟩
  have hk3 := Keeps.new hb3
  obtain ⟨fb, rfl⟩ := err_form hu (by omega)
  have HU := xhd hu
  have HB3 := xhd (HB2.out.keeps hk3 (fun h => h))
  have HK3 := xhd (HK2.out.trans (hk3.mono (T := only g) (fun i h => h.elim)))
  clear hu hk3 hb3 HO
  have z0 : w3.cell? ⟨p, 0, none⟩ = some (.int .i64 0) := by rw [HB3.out.cell]; rfl
  have z1 : w3.cell? ⟨p, 1, none⟩ = some (.slice none 0 0) := by rw [HB3.out.cell]; rfl
  have y0 := HB3.out.frozen 0
  have y1 := HB3.out.frozen 1
  have HZS := xhd ((HB3.out.set 0 (.int .i64 0)).set 1 (.slice none 0 0))
  have HKS := xhd ((HK3.out.store p 0 (fun h => by have := HG.out; omega) (.int .i64 0)).store p 1 (fun h => by have := HG.out; omega) (.slice none 0 0))
  have HKF := xhd (((Keeps.refl (only p) w3).store p 0 (fun _ => rfl) (.int .i64 0)).store p 1 (fun _ => rfl) (.slice none 0 0))
  have HZ := xhd (show ∀ n : Int, n ≠ 0 → w3.cell? ⟨p, 1, none⟩ ≠ some (.int .i64 n) from fun n _ e => by
   rw [z1] at e
   injection e with e
   cases e)
  go_wp2
  refine bodyPost_ret (y4y rfl _ _ p 31 _ (0, 0) _ rfl HZS.out Tryz.underlying31 rfl (by rw [HI.out]; rfl)) rfl ?_
  exact ⟨_, rfl, HU.out.far HKF.out HZ.out, HKS.out⟩
 ·rw [h4] at HIs hu
  rw [show decide (4 = 2) = false from rfl] at HIs
  have HU := xhd hu
  clear hu hok hk2 HN
  have z0 : w2.cell? ⟨p, 0, none⟩ = some (.int .i64 0) := by rw [HB2.out.cell]; rfl
  have z1 : w2.cell? ⟨p, 1, none⟩ = some (.slice none 0 0) := by rw [HB2.out.cell]; rfl
  have y0 := HB2.out.frozen 0
  have y1 := HB2.out.frozen 1
  have HZS := xhd ((HB2.out.set 0 (.int .i64 0)).set 1 (.slice none 0 0))
  have HKS := xhd ((HK2.out.store p 0 (fun h => by have := HG.out; omega) (.int .i64 0)).store p 1 (fun h => by have := HG.out; omega) (.slice none 0 0))
  have HKF := xhd (((Keeps.refl (only p) w2).store p 0 (fun _ => rfl) (.int .i64 0)).store p 1 (fun _ => rfl) (.slice none 0 0))
  have HZ := xhd (show ∀ n : Int, n ≠ 0 → w2.cell? ⟨p, 1, none⟩ ≠ some (.int .i64 n) from fun n _ e => by
   rw [z1] at e
   injection e with e
   cases e)
  go_wp2_with fail
  refine HIs.out.mono ?_
  rintro e w3 ⟨rfl, rfl⟩
  go_wp2
  refine bodyPost_ret (y4y rfl _ _ p 31 _ (0, 0) _ rfl HZS.out Tryz.underlying31 rfl (by rw [HI.out]; rfl)) rfl ?_
  exact ⟨_, rfl, HU.out.far HKF.out HZ.out, HKS.out⟩
theorem option_ok (F : Nat → Prop) (g n B0 : Nat) (bs : List UInt8) (w : World) (hrd : Rd w F g bs) (hF : ∀ b, F b → b ≠ g) (hFl : ∀ b, F b → b < w.heap.size) (h0 : Pure.nextErr 2 1 bs = 0) (hn : n = (bs.getD 1 0).toNat) (hB0 : B0 = (bs.getD 0 0).toNat) :
  Calls Tryz.prog 243 #[.pointer (some ⟨g, 0, none⟩)] w fun e w' => ∃ A c, e = .returned (.tuple #[.agg #[.int .i64 B0, .slice A ((bs.drop 2).take (n - 2)).length c], .nilIface]) ∧
   w'.ownsRow w.heap.size 5 1 (.slice A ((bs.drop 2).take (n - 2)).length c) ((bs.drop 2).take (n - 2)).length (u8s ((bs.drop 2).take (n - 2))) ∧ Rd w' F g (bs.drop n) ∧ Keeps (only g) w w' := by
 obtain ⟨D, hD⟩ : ∃ D, D = (bs.drop 2).take (n - 2) := ⟨_, rfl⟩
 rw [← hD]
 have HFl := xhd hFl
 clear hFl
 have hgl : g < w.heap.size := by obtain ⟨v, hb, _⟩ := hrd; exact hb.lt
 have HI := xhd opt_size
 obtain ⟨p, hp⟩ : ∃ p, p = w.heap.size := ⟨_, rfl⟩
 go_enter Tryz.func243, Tryz.ntmps243
 go_upto_region 1 with fail
 rw [← hp]
 generalize hw1 : w.alloc _ = w1
 have hB : Blk w1 p 31 #[.int .i64 0, .slice none 0 0] := by rw [← hw1, hp]; exact Blk.new w _ _
 have HK := xhd (show Keeps y01 w w1 by rw [← hw1]; exact (Keeps.refl _ w).alloc _)
 have HG := xhd hp
 have HN := xhd (next_any F g 2 1 bs w1 (hrd.keeps HK.out (fun h => h) (fun _ _ h => h)) hF (by omega) (by omega) (by omega) (by omega))
 have HB := xhd hB
 clear hw1 hp hB hrd hF
 go_wp2_with fail
 refine HN.out.mono ?_
 rintro e w2 ⟨a, b, u, rfl, hu, hk2, hok⟩
 have hgp : p ≠ g := by have := HG.out; omega
 have HB2 := xhd (HB.out.keeps hk2 (fun h => hgp h))
 have HK2 := xhd ((HK.out.mono (T := only g) (fun i h => h.elim)).trans hk2)
 have HIs := xhd (is_any u 0 2 w2 (by rw [← h0]; exact hu) (by omega))
 rw [show decide (0 = 2) = false from rfl] at HIs
 obtain rfl := err_nil (by rw [← h0]; exact hu)
 obtain ⟨ha, hb, hrd2⟩ := hok h0
 have hno := Pure.next_option.1 h0
 have n2 : 2 ≤ bs.length := by omega
 rw [Pure.told_option bs n2, ← hn] at hb hrd2
 rw [← hn] at hno
 rw [← hD] at hb
 have hdl : D.length = n - 2 := by rw [hD, List.length_take, List.length_drop]; omega
 have hnb := (bs.getD 1 0).toNat_lt
 have HD2 := xhd (show D.length ≤ 255 by omega)
 rw [← hdl] at hb
 obtain ⟨A, cA, rfl, _⟩ := ha.form
 obtain ⟨B, cB, rfl, _⟩ := hb.form
 have HBR := xhd hb
 have HRd := xhd hrd2
 obtain ⟨bx, ox, rfl, hFb, hcx⟩ := ha.cellAt (by omega)
 have b0 := hcx 0 _ (y3t (bs.take 2) 0 (by rw [List.length_take]; omega))
 rw [Pure.getD_take _ _ _ (by omega), Nat.add_zero, ← hB0] at b0
 have l0 := (bs.getD 0 0).toNat_lt
 rw [← hB0] at l0
 have v0 : IntKind.i64.wrap (B0 : Int) = (B0 : Int) := IntWalk.i64_in _ (by omega)
 have hpx : bx ≠ p := fun e => by have h1 := HFl.out bx hFb; have h2 := HG.out; omega
 have hpb : p < w2.heap.size := HB2.out.lt
 clear ha hb hu hok hk2 HN hrd2 hno n2 hdl hD hn hB0 hcx h0 hnb
 go_wp2_with fail
 refine HIs.out.mono ?_
 rintro e w3 ⟨rfl, rfl⟩
 go_upto_region 6 with fail
 refine y0b (fun w' => w'.cell? ⟨bx, ox, none⟩ = some (.int .u8 B0)) 8 9 rfl (by kernel_rfl) b0 (fun hHeld => ?_)
 refine y00 (i := 0) rfl (by kernel_rfl) (fun _ _ _ h => h) (Or.inl ⟨by rfl, by intro w hSw; go_simp; try with_reducible rfl⟩) hHeld.out ?_
 simp only [Act.put, xqA, xqB, xqD, xqE, xqF]
 refine y00 (i := 1) rfl (by kernel_rfl) (fun _ _ _ h => h) (Or.inl ⟨by rfl, by intro w hSw; go_simp; try with_reducible rfl⟩) hHeld.out ?_
 simp only [Act.put, xqA, xqB, xqC, xqD, xqE, xqF]
 refine y00 (i := 2) rfl (by kernel_rfl) (fun _ _ _ h => h) (Or.inl ⟨by rfl, by intro w hSw; go_simp; try with_reducible rfl⟩) hHeld.out ?_
 simp only [Act.put, xqA, xqB, xqC, xqD, xqE, xqF]
 refine y00 (i := 3) rfl (by kernel_rfl) (fun _ _ _ h => h) (Or.inl ⟨by rfl, by intro w hSw; go_simp; try with_reducible rfl⟩) hHeld.out ?_
 simp only [Act.put, xqA, xqB, xqC, xqD, xqE, xqF]
 refine y00 (i := 4) rfl (by kernel_rfl) (fun _ _ _ h => h) (Or.inl ⟨by rfl, by intro w hSw; go_simp; try with_reducible rfl⟩) hHeld.out ?_
 simp only [Act.put, xqA, xqB, xqC, xqD, xqE, xqF]
 refine y03 (i := 5) (by kernel_rfl) rfl (fun K hK => ?_)
 go_simp
 have hwd : Keeps y01 w2 w2.drew := (Keeps.refl _ w2).drew
 refine (y2g F (.slice B D.length cB) D.length D w2.drew (HBR.out.keeps hwd (fun _ _ h => h)) (by have := HD2.out; omega)).mono ?_
 rintro e w3 ⟨u, rfl, hu, hb3⟩
 have hk3 : Keeps y01 w2 w3 := Keeps.new ⟨hb3.os, hb3.tape, hb3.output, hb3.size, hb3.block⟩
 have hu : w3.ownsRow w2.heap.size 5 1 u D.length (u8s D) := hu
 have HH3 := xhd (y04 hHeld.out (w := w2) hk3)
 refine hK.out _ _ (fun _ => HH3.out) ?_
 clear hK K hHeld
 obtain ⟨A3, c3, rfl⟩ := y0c hu
 have HU3 := xhd hu
 have HB3 := xhd (HB2.out.keeps hk3 (fun x => x))
 have HK3 := xhd (HK2.out.trans (hk3.mono (T := only g) (fun i h => h.elim)))
 have HRd3 := xhd (HRd.out.keeps hk3 (fun h => h) (fun _ _ h => h))
 clear hu hb3 hk3 hwd
 refine y00 (i := 6) rfl (by kernel_rfl) (fun _ _ _ h => h) (Or.inl ⟨by rfl, by intro w hSw; go_simp; try with_reducible rfl⟩) HH3.out ?_
 simp only [Act.put, xqA, xqB, xqC, xqD, xqE, xqF]
 refine y03 (i := 7) (by kernel_rfl) rfl (fun K hK => ?_)
 rw [if_pos (by rfl)]
 refine wp_store_row 31 (.tmp 2) (.tmp 28) rfl p _ rfl rfl 31 _ HB3.out (by rw [HI.out]; rfl) rfl (by simp [Value.oneCell']) ?_
 obtain ⟨w4, hw4⟩ : ∃ w4, w4 = w3.setRow p #[.int .i64 (B0 : Int), .slice A3 D.length c3] := ⟨_, rfl⟩
 have hb4 : Blk w4 p 31 #[.int .i64 (B0 : Int), .slice A3 D.length c3] := by rw [hw4]; exact Blk.rowSet HB3.out _
 have hkg : Keeps (only p) w3 w4 := by rw [hw4]; exact (Keeps.refl (only p) w3).rowSet (fun _ => rfl) _
 have hk4 : Keeps (only g) w w4 := by rw [hw4]; exact HK3.out.rowSet (fun h => by have := HG.out; omega) _
 have HU4 := xhd (y3r (base' := w.heap.size) (y0o HU3.out hkg (fun b hb hs => by have h1 := y0f HU3.out b hb; have h2 : b = p := hs; omega)) HK2.out.size)
 have HRd4 := xhd (HRd3.out.keeps hkg (fun h => hgp h.symm) (fun b hb hs => by have h1 := HFl.out b hb; have h2 : b = p := hs; have := HG.out; omega))
 have HB4 := xhd hb4
 have HK4 := xhd hk4
 have s4 : w4.cell? ⟨bx, ox, none⟩ = some (.int .u8 B0) :=
  (World.cell?_of_block (w := w3) (a := ⟨bx, ox, none⟩) (hkg.block bx (y0x HH3.out) (fun h => hpx h))).trans HH3.out
 have HS4 := xhd s4
 refine hK.out _ _ (fun _ => ?_) ?_
 ·rw [← hw4]; exact HS4.out
 rw [← hw4]
 simp only [Act.put]
 clear hK K hw4 hb4 hkg hk4 s4
 refine y03 (i := 8) (by kernel_rfl) rfl (fun K hK => ?_)
 go_simp
 refine hK.out _ _ (fun _ => HS4.out) ?_
 clear hK K
 refine y09 (by kernel_rfl) ?_ _
 go_wp2_with fail
 refine bodyPost_ret (y4y rfl _ _ p 31 _ (0, 0) _ rfl HB4.out Tryz.underlying31 rfl (by rw [HI.out]; rfl)) rfl ?_
 exact ⟨A3, c3, rfl, HU4.out, HRd4.out, HK4.out⟩
structure Took (w0 w : World) (g : Nat) (v : Value) (ps : List (Value × Pure.Opt)) : Prop where
 own : w.ownsRow w0.heap.size 31 2 v ps.length (y0i ps)
 rows : ∀ p ∈ ps, Row w (fun b => w0.heap.size ≤ b ∧ v.ownBlock ≠ some b ∧ b < w.heap.size) 1 p.1 p.2.2.length (u8s p.2.2)
 keeps : Keeps (only g) w0 w
theorem split_bad {rest : List UInt8} {acc : List Pure.Opt} (hne : rest ≠ []) (h32 : acc.length ≠ 32) (h : Pure.nextErr 2 1 rest ≠ 0) : Pure.splitFrom rest acc = (4, []) :=
 Pure.splitFrom_bad hne h32 (Decidable.byContradiction fun hh => h (Pure.next_option.2 hh))
theorem ybm (F : Nat → Prop) (g : Nat) (bs : List UInt8) (w : World) (hrd : Rd w F g bs) (hF : ∀ b, F b → b ≠ g) (hFl : ∀ b, F b → b < w.heap.size) :
  Calls Tryz.prog 232 #[.pointer (some ⟨g, 0, none⟩)] w fun e w' => ∃ u v ps, e = .returned (.tuple #[u, v]) ∧ y1z w' v (Pure.split bs).1 ∧ y02 ps = (Pure.split bs).2 ∧ ORow w' (fun b => w.heap.size ≤ b) u ps ∧ Keeps (only g) w w' := by
 have hgl : g < w.heap.size := by obtain ⟨v, hb, _⟩ := hrd; exact hb.lt
 have HF := xhd hF
 have HFl := xhd hFl
 have HR0 := xhd hrd
 clear hF hFl hrd
 obtain ⟨i0, hi0, hz0, hz1, hz2⟩ := info_parts y6b
 have HI := xhd (And.intro hi0 (And.intro hz0 (And.intro hz1 hz2)))
 clear hi0 hz0 hz1 hz2
 go_enter Tryz.func232, Tryz.ntmps232
 go_wp2_with fail
 go_loopw [4] (fun v wr => ∃ (rest : List UInt8) (ps : List (Value × Pure.Opt)), Rd wr F g rest ∧ Pure.split bs = Pure.splitFrom rest (y02 ps) ∧ ps.length ≤ 32 ∧ Took w wr g v ps) (fun _ wr => match wr.cell? ⟨g, 0, none⟩ with | some (.slice _ n _) => n | _ => 0)
 case atStart => exact ⟨bs, [], HR0.out, rfl, by simp, ⟨World.ownsRow_nil _ _ _ _, by simp, Keeps.refl _ _⟩⟩
 case round =>
  obtain ⟨rest, ps, hrr, hsp, hp32, hrd⟩ := hrel
  obtain ⟨A2, c2, rfl⟩ := y0c hrd.own
  have HRR := xhd hrr
  have HSP := xhd hsp
  have HRD := xhd hrd
  have hlo : (y02 ps).length = ps.length := by simp
  obtain ⟨vr, hbr, hrow⟩ := hrr
  obtain ⟨X, cX, rfl, hcX⟩ := hrow.form
  have q0 : wr.cell? ⟨g, 0, none⟩ = some (.slice X rest.length cX) := by rw [hbr.cell]; rfl
  have hm := hrow.2.1
  unfold maxLen at hm
  clear hrow hbr
  by_cases hne : 0 < rest.length
  ·have hnil : rest ≠ [] := List.length_pos_iff.1 hne
   have g0 : decide ((0 : Int) < (rest.length : Int)) = true := decide_eq_true (by omega)
   have g0' : decide (0 < rest.length) = true := decide_eq_true hne
   by_cases h32 : ps.length = 32
   ·have HS := xhd (hsp.trans (Pure.splitFrom_full hnil (by rw [hlo]; exact h32)))
    have g1 : ((ps.length : Int) == 32) = true := by rw [h32]; rfl
    have HO := xhd (fun s => y7e s 3 wr (by omega))
    clear hsp hrd hlo
    go_wp2_with fail
    refine (HO.out _).mono ?_
    rintro e w3 ⟨u, rfl, hu, hb3⟩
    have HU := xhd hu
    have HK3 := xhd (HRD.out.keeps.trans ((Keeps.new hb3).mono (T := only g) (fun i h => h.elim)))
    clear hu hb3 HO
    go_wp2
    go_ret2
    exact ⟨_, _, [], rfl, by rw [HS.out]; exact HU.out, by rw [HS.out]; rfl, ORow.nil _ _, HK3.out⟩
   have g1 : ((ps.length : Int) == 32) = false := by rw [beq_eq_false_iff_ne]; omega
   have hFw : ∀ b, F b → b < wr.heap.size := fun b hb => Nat.lt_of_lt_of_le (HFl.out b hb) hrd.keeps.size
   by_cases h0 : Pure.nextErr 2 1 rest = 0
   ·obtain ⟨B0, hB0⟩ : ∃ b, b = (rest.getD 0 0).toNat := ⟨_, rfl⟩
    obtain ⟨n, hn⟩ : ∃ b, b = (rest.getD 1 0).toNat := ⟨_, rfl⟩
    have HO := xhd (option_ok F g n B0 rest wr HRR.out HF.out hFw h0 hn hB0)
    have hgo := hsp.trans (Pure.splitFrom_step (acc := y02 ps) hnil (by rw [hlo]; exact h32) (Pure.next_option.1 h0))
    have hno := Pure.next_option.1 h0
    rw [← hn, ← hB0] at hgo
    rw [← hn] at hno
    obtain ⟨D, hD⟩ : ∃ D, D = (rest.drop 2).take (n - 2) := ⟨_, rfl⟩
    rw [← hD] at HO hgo
    have HGO := xhd hgo
    have HN := xhd (show (rest.drop n).length + 2 ≤ rest.length by rw [List.length_drop]; omega)
    have hdl : D.length ≤ 255 := by
     have h1 := (rest.getD 1 0).toNat_lt
     rw [hD, List.length_take]; omega
    clear hsp hrd hlo hFw hB0 hgo hno hD h0 hn
    go_wp2_with fail
    refine HO.out.mono ?_
    rintro e w3 ⟨A3, c3, rfl, hu, hrd3, hk3⟩
    have HU := xhd hu
    have HR3 := xhd hrd3
    have HK3 := xhd hk3
    clear hu hrd3 hk3 HO
    go_upto_region 8 with fail
    obtain ⟨r, hr⟩ : ∃ r, r = w3.heap.size := ⟨_, rfl⟩
    rw [← hr]
    generalize hw4 : w3.alloc _ = w4
    have hb4 : Blk w4 r 31 #[.int .i64 (B0 : Int), .slice A3 D.length c3] := by rw [← hw4, hr]; exact Blk.new w3 _ _
    have hk4 : Keeps y01 w3 w4 := by rw [← hw4]; exact (Keeps.refl _ w3).alloc _
    have c0 : w4.cell? ⟨r, 0, none⟩ = some (.int .i64 (B0 : Int)) := by rw [hb4.cell]; rfl
    have c1 : w4.cell? ⟨r, 1, none⟩ = some (.slice A3 D.length c3) := by rw [hb4.cell]; rfl
    have HB4 := xhd hb4
    have HK4 := xhd hk4
    clear hw4 hb4 hk4 hr
    go_wp2_with (at_builtin; refine y0t ?_)
    unfold Hid
    obtain ⟨wb, hwb⟩ : ∃ wb, wb = w4.alloc (.cells (y0i [(.slice A3 D.length c3, ((B0 : Int), D))]).toArray 31) := ⟨_, rfl⟩
    have hwb' : w4.alloc (.cells #[.int .i64 (B0 : Int), .slice A3 D.length c3] 31) = wb := hwb.symm
    rw [hwb']
    have hkb : Keeps y01 w4 wb := by rw [hwb]; exact (Keeps.refl _ w4).alloc _
    have hbb : Blk wb w4.heap.size 31 (y0i [(.slice A3 D.length c3, ((B0 : Int), D))]).toArray := by rw [hwb]; exact Blk.new w4 _ _
    have hrb : Row wb (fun b => b = w4.heap.size) 2 (.slice (some ⟨w4.heap.size, 0, none⟩) 1 1) 1 (y0i [(.slice A3 D.length c3, ((B0 : Int), D))]) :=
     Row.block (F := fun b => b = w4.heap.size) (n := 1) (c := 1) (size := 2) hbb rfl rfl (by unfold maxLen; omega) (Nat.le_refl _)
    have hk3b : Keeps y01 w3 wb := HK4.out.trans hkb
    have hkr : Keeps (only g) wr wb := HK3.out.trans (hk3b.mono (fun i h => h.elim))
    have hownb : wb.ownsRow w.heap.size 31 2 (.slice A2 ps.length c2) ps.length (y0i ps) := y0o HRD.out.own hkr (fun b hb h => by have h1 := y0f HRD.out.own b hb; have h2 : b = g := h; omega)
    have hub : wb.ownsRow wr.heap.size 5 1 (.slice A3 D.length c3) D.length (u8s D) := y0o HU.out hk3b (fun _ _ h => h)
    have hKb : Keeps (only g) w wb := HRD.out.keeps.trans hkr
    have hone : ∀ p ∈ ([(.slice A3 D.length c3, ((B0 : Int), D))] : List (Value × Pure.Opt)), p.1.oneCell' = true := by
     intro p hp
     simp at hp
     subst hp
     rfl
    clear hwb hwb'
    refine y1a rfl (.tmp 25) (.tmp 27) _ rfl w.heap.size 31 i0 _ 2 32 Tryz.underlying27 HI.out.1 HI.out.2.1 HI.out.2.2.1 HI.out.2.2.2 rfl (by omega) (.slice A2 ps.length c2) _ (y0i ps) rfl hownb _ _ 1 (y0i [(.slice A3 D.length c3, ((B0 : Int), D))]) rfl hrb (y4v _ hone) (by unfold maxLen; omega) (by omega) hKb.size ?_
    intro v3 w5 hown5 hg5 hat5
    have hcat : y0i ps ++ y0i [(.slice A3 D.length c3, ((B0 : Int), D))] = y0i (ps ++ [(.slice A3 D.length c3, ((B0 : Int), D))]) := by simp [y0i]
    rw [hcat] at hown5
    have hkw : Keeps (fun b => (Value.slice A2 ps.length c2).ownBlock = some b) wb w5 := (Keeps.refl _ wb).grown hg5 (fun k hk _ => hk)
    have hge : ∀ b, (Value.slice A2 ps.length c2).ownBlock = some b → w.heap.size ≤ b := fun b hb => y0f hownb b hb
    have hK5 : Keeps (only g) w w5 := hKb.grown hg5 (fun k hk h => absurd (hge k hk) (by omega))
    have hwrs : w.heap.size ≤ wr.heap.size := HRD.out.keeps.size
    have hwrb : wr.heap.size ≤ wb.heap.size := hkr.size
    have htook : Took w w5 g v3 (ps ++ [(.slice A3 D.length c3, ((B0 : Int), D))]) := by
     refine ⟨by rw [List.length_append]; exact hown5, fun p hp => ?_, hK5⟩
     rcases List.mem_append.1 hp with hp | hp
     ·have h1 := ((HRD.out.rows p hp).keeps hkr (fun b hb h => by have h2 : b = g := h; omega)).keeps hkw (fun b hb => hb.2.1)
      refine h1.mono (fun b hb => ⟨hb.1, ?_, by have := hkw.size; omega⟩)
      rcases hat5 with e | e
      ·rw [e]; exact hb.2.1
      ·rw [e]; intro h; injection h with h; omega
     ·simp at hp
      subst hp
      have h1 := (Row.of_own hub).keeps hkw (fun b hb hs => by
       have h2 := y0f hub b hb
       have h3 := y12 HRD.out.own b hs
       omega)
      refine h1.mono (fun b hb => ⟨by have := y0f hub b hb; omega, ?_, by have := y12 hub b hb; have := hkw.size; omega⟩)
      have h2 := y0f hub b hb
      rcases hat5 with e | e
      ·rw [e]; intro h; have := y12 HRD.out.own b h; omega
      ·rw [e]; intro h; injection h with h; have := y12 hub b hb; omega
    have hrd5 : Rd w5 F g (rest.drop n) := (HR3.out.keeps hk3b (fun h => h) (fun _ _ h => h)).keeps hkw (fun h => by have := hge g h; omega) (fun b hb hs => by have h1 := HFl.out b hb; have h2 := hge b hs; omega)
    have HT5 := xhd htook
    have HR5 := xhd hrd5
    have HSP5 := xhd (show Pure.split bs = Pure.splitFrom (rest.drop n) (y02 (ps ++ [(.slice A3 D.length c3, ((B0 : Int), D))])) by rw [HGO.out]; simp [y02])
    obtain ⟨A4, c4, rfl⟩ := y0c hown5
    obtain ⟨v5, hb5, hr5⟩ := hrd5
    obtain ⟨X5, cX5, rfl, _⟩ := hr5.form
    have q5 : w5.cell? ⟨g, 0, none⟩ = some (.slice X5 (rest.drop n).length cX5) := by rw [hb5.cell]; rfl
    have Q0 := xhd q0
    have Q5 := xhd q5
    clear hown5 hg5 hat5 hcat hkw hge hK5 htook hrb hbb hub hownb hKb hone hkb hkr hk3b c0 c1 hwrs hwrb hr5 hb5 q5 q0
    go_wp2_with fail
    go_roundw
    case rel => exact ⟨rest.drop n, _, HR5.out, HSP5.out, by rw [List.length_append]; simp only [List.length_cons, List.length_nil]; omega, HT5.out⟩
    case measure => rw [Q5.out, Q0.out]; have := HN.out; simp only; omega
   ·have HS := xhd (hsp.trans (split_bad hnil (by rw [hlo]; exact h32) h0))
    have HO := xhd (option_bad F g rest wr HRR.out HF.out h0)
    clear hsp hrd hlo hFw h0
    go_wp2_with fail
    refine HO.out.mono ?_
    rintro e w3 ⟨fb, rfl, hu, hk3⟩
    have HU := xhd hu
    have HUe := xhd (fun (o : Obj) => hu.keeps ((Keeps.refl y01 w3).alloc o) (fun _ h => h))
    have HK3 := xhd (HRD.out.keeps.trans hk3)
    clear hu hk3 HO
    go_wp2
    go_ret2
    exact ⟨_, _, [], rfl, by rw [HS.out]; exact HUe.out _, by rw [HS.out]; rfl, ORow.nil _ _, HK3.out.alloc _⟩
  ·have hz : rest = [] := List.eq_nil_of_length_eq_zero (by omega)
   subst hz
   have HS := xhd (show Pure.split bs = (0, y02 ps) from hsp.trans (Pure.splitFrom_nil _))
   clear hsp hrd hlo hne
   go_wp2
   go_ret2
   exact ⟨_, .nilIface, ps, rfl, by rw [HS.out]; exact .inl ⟨rfl, rfl⟩, by rw [HS.out], ⟨(Row.of_own HRD.out.own).mono (fun b hb => y0f HRD.out.own b hb), fun p hp => (HRD.out.rows p hp).mono (fun b hb => hb.1)⟩, HRD.out.keeps⟩
theorem split_any (F : Nat → Prop) (x : Value) (bs : List UInt8) (w : World) (hg : y17 w) (hF : ∀ b, F b → b < w.heap.size) (hr : Row w F 1 x bs.length (u8s bs)) :
  Calls Tryz.prog 197 #[x] w fun e w' => ∃ u ps, e = .returned (.tuple #[u, .int .i64 (((Pure.split bs).1 : Nat) : Int)]) ∧ y02 ps = (Pure.split bs).2 ∧ ORow w' (fun b => w.heap.size ≤ b) u ps ∧ Below w.heap.size w w' := by
 obtain ⟨A, cA, rfl, hc⟩ := hr.form
 have HR := xhd hr
 have HF := xhd hF
 have HH := xhd hg
 clear hr hF hg
 have HP0 := ybm F
 obtain ⟨dd, hdd⟩ : ∃ d, d = Pure.split bs := ⟨_, rfl⟩
 have HP := fun g w => HP0 g bs w
 rw [← hdd] at HP ⊢
 obtain ⟨k, D⟩ := dd
 have HP := xhd HP
 clear hdd HP0
 go_enter Tryz.func197, Tryz.ntmps197
 go_upto_region 2 with fail
 obtain ⟨q, hq⟩ : ∃ q, q = w.heap.size := ⟨_, rfl⟩
 rw [← hq]
 generalize hw2 : w.alloc _ = w2
 have hrd : Rd w2 F q bs := by rw [← hw2, hq]; exact Rd.new HR.out
 have hk2 : Keeps y01 w w2 := by rw [← hw2]; exact (Keeps.refl _ w).alloc _
 have HQ := xhd hq
 have HK2 := xhd hk2
 have HPW := xhd (HP.out q w2 hrd (fun b hb => by have := HF.out b hb; omega) (fun b hb => Nat.lt_of_lt_of_le (HF.out b hb) hk2.size))
 clear hw2 hrd hk2 hq HP
 go_wp2_with fail
 refine HPW.out.mono ?_
 rintro e w3 ⟨u, v, ps, rfl, hv, hps, hu, hk3⟩
 obtain ⟨A3, c3, rfl, _⟩ := hu.form
 have HB3 := xhd (Below.keeps HK2.out.to_below hk3 HK2.out.size (fun i h => by have h : i = q := h; have := HQ.out; omega))
 have HN := xhd (ybh v k w3 (HH.out.below HB3.out) hv)
 have HU := xhd hu
 have HPS := xhd hps
 clear hu hv hk3 hps HPW
 go_wp2_with fail
 refine HN.out.mono ?_
 rintro e w4 ⟨rfl, hb4⟩
 have hk4 := Keeps.new hb4
 have HU4 := xhd ((HU.out.keeps hk4 (fun _ _ h => h)).mono (G := fun b => w.heap.size ≤ b) (fun b hb => Nat.le_trans HK2.out.size hb))
 have HB4 := xhd (Below.quiet HB3.out hk4 HB3.out.size)
 clear hk4 hb4 HN
 go_wp2
 go_ret2
 exact ⟨_, ps, rfl, HPS.out, HU4.out, HB4.out⟩
def ErrDrop (w : World) (v : Value) : Prop := ∃ b : Nat, ∃ k : Int, v = .iface 218 (.pointer (some ⟨b, 0, none⟩)) ∧ w.cell? ⟨b, 0, none⟩ = some (.int .i64 k)
def y2a (w : World) (e : Ending) (w' : World) (bad : Prop) (l : List Pure.Opt) : Prop :=
 (bad ∧ ∃ v, e = .returned (.tuple #[.slice none 0 0, v]) ∧ ErrDrop w' v ∧ Keeps y01 w w') ∨
 (¬ bad ∧ ∃ u, ∃ zs : List (Value × Pure.Opt), e = .returned (.tuple #[u, .nilIface]) ∧ y02 zs = l ∧ ORow w' (fun b => w.heap.size ≤ b ∧ b < w'.heap.size) u zs ∧ Keeps y01 w w')
theorem y2a.none (w w' : World) (bad : Prop) (h : ¬ bad) (k : Keeps y01 w w') : y2a w (.returned (.tuple #[.slice Option.none 0 0, .nilIface])) w' bad [] :=
 .inr ⟨h, _, [], rfl, rfl, ORow.nil _ _, k⟩
theorem y2a.since {w0 w w' : World} {e : Ending} {bad bad' : Prop} {l : List Pure.Opt} (h : y2a w e w' bad l) (k : Keeps y01 w0 w) (hb : bad ↔ bad') : y2a w0 e w' bad' l := by
 rcases h with ⟨h1, v, h2, h3, h4⟩ | ⟨h1, u, zs, h2, h3, h4, h5⟩
 ·exact .inl ⟨hb.1 h1, v, h2, h3, k.trans h4⟩
 ·exact .inr ⟨fun x => h1 (hb.2 x), u, zs, h2, h3, h4.mono (fun b hb => ⟨Nat.le_trans k.size hb.1, hb.2⟩), k.trans h5⟩
theorem y2a.keeps {w w' : World} {e : Ending} {bad : Prop} {l : List Pure.Opt} (h : y2a w e w' bad l) : Keeps y01 w w' := by
 rcases h with ⟨_, v, _, _, h⟩ | ⟨_, u, zs, _, _, _, h⟩ <;> exact h
theorem y2a.returned {w w' : World} {e : Ending} {bad : Prop} {l : List Pure.Opt} (h : y2a w e w' bad l) : ∃ a b, e = .returned (.tuple #[a, b]) := by
 rcases h with ⟨_, v, h2, _⟩ | ⟨_, u, zs, h2, _⟩
 ·exact ⟨_, _, h2⟩
 ·exact ⟨_, _, h2⟩
theorem ybg (F : Nat → Prop) (x : Value) (bs : List UInt8) (w : World) (hg : y17 w) (hF : ∀ b, F b → b < w.heap.size) (hr : Row w F 1 x bs.length (u8s bs)) :
  Calls Tryz.prog 170 #[x] w fun e w' => y2a w e w' ((Pure.split bs).1 ≠ 0) (Pure.split bs).2 := by
 obtain ⟨A, cA, rfl, _⟩ := hr.form
 have HS := xhd (split_any F _ bs w hg hF hr)
 clear hr hF hg
 by_cases hk : (Pure.split bs).1 = 0
 ·have HK0 := xhd hk
  have HS := xhd (show Calls Tryz.prog 197 #[.slice A bs.length cA] w fun e w' => ∃ u ps, e = .returned (.tuple #[u, .int .i64 0]) ∧ y02 ps = (Pure.split bs).2 ∧ ORow w' (fun b => w.heap.size ≤ b) u ps ∧ Below w.heap.size w w' by
   have h := HS.out
   rw [hk] at h
   exact h)
  clear hk
  go_enter Tryz.func170, Tryz.ntmps170
  go_wp2_with fail
  refine HS.out.mono ?_
  rintro e w1 ⟨u, ps, rfl, hps, hu, hb⟩
  obtain ⟨A3, c3, rfl, _⟩ := hu.form
  have HU := xhd hu.strong
  have HPS := xhd hps
  have HKW := xhd (Keeps.new hb)
  clear hps hu hb HS
  go_wp2_with fail
  go_ret2
  exact .inr ⟨fun h => h HK0.out, _, ps, rfl, HPS.out, HU.out, HKW.out⟩
 ·have HK0 := xhd hk
  obtain ⟨k, hkk⟩ : ∃ k, k = (Pure.split bs).1 := ⟨_, rfl⟩
  rw [← hkk] at HS hk
  have q : (((k : Nat) : Int) == 0) = false := by rw [beq_eq_false_iff_ne]; omega
  clear hkk hk
  go_enter Tryz.func170, Tryz.ntmps170
  go_wp2_with fail
  refine HS.out.mono ?_
  rintro e w1 ⟨u, ps, rfl, hps, hu, hb⟩
  obtain ⟨A3, c3, rfl, _⟩ := hu.form
  have HKW := xhd (show Keeps y01 w (w1.alloc (.cells #[.int .i64 (k : Int)] 220)) from (Keeps.new hb).alloc _)
  have HC := xhd (y63 w1 (.int .i64 (k : Int)) 220)
  clear hps hu hb HS
  go_wp2_with fail
  go_ret2
  exact .inl ⟨HK0.out, _, rfl, ⟨_, _, rfl, HC.out⟩, HKW.out⟩
theorem amid_step (others l : List Pure.Opt) (k : Nat) (o : Pure.Opt) (h : l[k]? = some o) : Pure.amid (l.take (k + 1)) others = (Pure.amid (l.take k) others && others.any fun q => decide (o = q)) := by
 unfold Pure.amid
 rw [Pure.take_snoc l k o h, List.all_append]
 simp
theorem amid_not (others l : List Pure.Opt) (k : Nat) (o : Pure.Opt) (h : l[k]? = some o) (hn : (others.any fun q => decide (o = q)) = false) : Pure.amid l others = false := by
 unfold Pure.amid
 rw [List.all_eq_false]
 exact ⟨o, List.mem_of_getElem? h, by rw [hn]; simp⟩
theorem within_any (F G : Nat → Prop) (x y : Value) (ps qs : List (Value × Pure.Opt)) (w : World) (hx : ORow w F x ps) (hy : ORow w G y qs) :
  Calls Tryz.prog 199 #[x, y] w fun e w' => e = .returned (.bool (Pure.amid (y02 ps) (y02 qs))) ∧ Keeps y01 w w' := by
 obtain ⟨X, cx, rfl, _⟩ := hx.form
 obtain ⟨Y, cy, rfl, _⟩ := hy.form
 have hm := hx.out.2.1
 unfold maxLen at hm
 have HX := xhd hx
 have HY := xhd hy
 clear hx hy
 go_enter Tryz.func199, Tryz.ntmps199
 go_wp2_with fail
 go_loopw [9] (fun i wr => ∃ k : Nat, k ≤ ps.length ∧ i = .int .i64 (k : Int) ∧ Pure.amid ((y02 ps).take k) (y02 qs) = true ∧ Keeps y01 w wr) (fun i _ => ps.length - (intOf i).toNat)
 case atStart => exact ⟨0, by omega, rfl, rfl, Keeps.refl _ _⟩
 case round =>
  obtain ⟨k, hk, rfl, hT, hK⟩ := hrel
  have HT := xhd hT
  have HK := xhd hK
  by_cases hkl : k < ps.length
  ·have i0 : (0 : Int) ≤ (k : Int) := by omega
   have i1 : (k : Int) < (ps.length : Int) := by omega
   have d1 : decide ((k : Int) < (ps.length : Int)) = true := decide_eq_true (by omega)
   have d2 : decide (k < ps.length) = true := decide_eq_true hkl
   obtain ⟨bx, ox, A1, c1, t, D, rfl, hFb, x0, x1, hra, hpa⟩ := (HX.out.keeps hK (fun _ _ h => h)).pick k hkl
   have hok : (y02 ps)[k]? = some (t, D) := by rw [List.getElem?_map, hpa]; rfl
   have HOK := xhd hok
   have hkb : Keeps y01 wr (wr.alloc (.cells #[.int .i64 t, .slice A1 D.length c1] 31)) := (Keeps.refl _ wr).alloc _
   have HKb := xhd (hK.trans hkb)
   have HHA := xhd (has_any G F (.slice Y qs.length cy) qs (.slice A1 D.length c1, (t, D)) _ (HY.out.keeps (hK.trans hkb) (fun _ _ h => h)) (hra.keeps hkb (fun _ _ h => h)))
   obtain ⟨r, hr⟩ : ∃ r, r = (y02 qs).any fun z => decide ((t, D) = z) := ⟨_, rfl⟩
   have HHA := xhd (show Calls Tryz.prog 235 #[.slice Y qs.length cy, optV (.slice A1 D.length c1, (t, D))] (wr.alloc (.cells #[.int .i64 t, .slice A1 D.length c1] 31)) fun e w' => e = .returned (.bool r) ∧ Keeps y01 (wr.alloc (.cells #[.int .i64 t, .slice A1 D.length c1] 31)) w' from by rw [hr]; exact HHA.out)
   have HR := xhd hr
   clear hT hK hra hpa hok hr hkb
   go_wp2_with fail
   refine HHA.out.mono ?_
   rintro e w1 ⟨rfl, hk1⟩
   have HK1 := xhd (HKb.out.trans hk1)
   clear HHA hk1 x0 x1
   cases r
   ·go_wp2_with fail
    go_ret
    exact ⟨by rw [amid_not (y02 qs) (y02 ps) k (t, D) HOK.out HR.out.symm]; rfl, HK1.out⟩
   ·have HT2 := xhd (show Pure.amid ((y02 ps).take (k + 1)) (y02 qs) = true by rw [amid_step _ _ k (t, D) HOK.out, HT.out, ← HR.out]; rfl)
    clear HT
    go_wp2_with fail
    go_roundw
    case rel => exact ⟨k + 1, by omega, by go_num, HT2.out, HK1.out⟩
    case measure => simp [intOf]; omega
  ·have hkk : k = ps.length := by omega
   have HN := xhd (show Pure.amid (y02 ps) (y02 qs) = true by
    have h := HT.out
    rwa [List.take_of_length_le (by simp; omega)] at h)
   subst hkk
   clear hkl hk hT HT hK
   go_wp2
   go_ret
   exact ⟨by rw [HN.out]; rfl, HK.out⟩
theorem yej (b : UInt8) (w : World) : Calls Tryz.prog 175 #[.int .u8 (b.toNat : Nat)] w fun e w' => e = .returned (.int .i64 ((if 1 ≤ b.toNat ∧ b.toNat ≤ 7 then 14 else 13 : Nat) : Int)) ∧ w = w' := by
 have hb := b.toNat_lt
 obtain ⟨k, hk⟩ : ∃ k, k = b.toNat := ⟨_, rfl⟩
 rw [← hk] at hb ⊢
 clear hk
 by_cases h1 : 1 ≤ k
 ·by_cases h7 : k ≤ 7
  ·skip
   go_enter Tryz.func175, Tryz.ntmps175
   go_wp2
   go_ret
   exact ⟨rfl, rfl⟩
  ·skip
   go_enter Tryz.func175, Tryz.ntmps175
   go_wp2
   go_ret
   exact ⟨rfl, rfl⟩
 ·skip
  go_enter Tryz.func175, Tryz.ntmps175
  go_wp2
  go_ret
  exact ⟨rfl, rfl⟩
end Go.Proofs.YtmgicbckgpdkcaaGreatDoor
