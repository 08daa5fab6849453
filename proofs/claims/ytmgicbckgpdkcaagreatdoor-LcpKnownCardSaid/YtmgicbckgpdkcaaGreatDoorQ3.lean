/- A secret's letters are what the model decodes; what may be decoded has units. Nothing of the program. -/
import Derived.Test.YtmgicbckgpdkcaaGreatDoorQ2
import Derived.Lib.ValidLaws
import Derived.Test.YtmgicbckgpdkcaaGreatDoorRows
import Derived.Test.YtmgicbckgpdkcaaGreatDoorQ1
import Derived.Ground.NamesProg
import Derived.Shelf.Unicode.ValidAny
import Derived.Lib.SlBytesConst
import Derived.Lib.OthersKept
namespace Go.Proofs.YtmgicbckgpdkcaaGreatDoor
set_option maxRecDepth 100000
set_option maxHeartbeats 4000000
open Lib renaming hid → xhd
open Go Go.Lib
theorem letter_dec (l : List UInt8) : decodeL l = if (Pure.letter l).2 = 0 then (65533, 1) else Pure.letter l := by
 have h0 := (l.getD 0 0).toNat_lt
 have h1 := (l.getD 1 0).toNat_lt
 have h2 := (l.getD 2 0).toNat_lt
 have h3 := (l.getD 3 0).toNat_lt
 rw [decodeL_N]
 unfold Pure.letter Pure.follows Pure.six decodeN
 simp only [Bool.and_eq_true, decide_eq_true_eq, beq_iff_eq]
 generalize (l.getD 0 0).toNat = b0 at *
 generalize (l.getD 1 0).toNat = b1 at *
 generalize (l.getD 2 0).toNat = b2 at *
 generalize (l.getD 3 0).toNat = b3 at *
 generalize l.length = n at *
 by_cases c1 : b0 < 128
 ·simp [c1]
 by_cases c2 : b0 < 224
 ·by_cases c3 : 194 ≤ b0
  ·rw [if_neg c1, if_neg c1, if_pos (show 194 ≤ b0 ∧ b0 ≤ 223 by omega)]
   by_cases c4 : 1 < n ∧ b1 / 64 = 2
   ·rw [if_pos (show b0 / 32 = 6 ∧ 1 < n ∧ b1 / 64 = 2 from ⟨by omega, c4⟩), if_pos c4, if_pos (by omega)]
    simp
   ·rw [if_neg (fun h => c4 h.2), if_neg c4, if_neg (by omega), if_neg (by omega)]
    simp
  ·rw [if_neg c1, if_neg c1, if_neg (show ¬ (194 ≤ b0 ∧ b0 ≤ 223) by omega), if_neg (show ¬ (224 ≤ b0 ∧ b0 ≤ 239) by omega), if_neg (show ¬ (240 ≤ b0 ∧ b0 ≤ 244) by omega)]
   by_cases c4 : b0 / 32 = 6 ∧ 1 < n ∧ b1 / 64 = 2
   ·rw [if_pos c4, if_neg (by omega)]
    simp
   ·rw [if_neg c4, if_neg (by omega), if_neg (by omega)]
    simp
 by_cases c3 : b0 < 240
 ·rw [if_neg c1, if_neg c1, if_neg (show ¬ (194 ≤ b0 ∧ b0 ≤ 223) by omega), if_pos (show (224 ≤ b0 ∧ b0 ≤ 239) by omega), if_neg (by omega)]
  by_cases c4 : (1 < n ∧ b1 / 64 = 2) ∧ 2 < n ∧ b2 / 64 = 2
  ·rw [if_pos (show b0 / 16 = 14 ∧ (1 < n ∧ b1 / 64 = 2) ∧ 2 < n ∧ b2 / 64 = 2 from ⟨by omega, c4⟩), if_pos c4]
   by_cases c5 : 2048 ≤ b0 % 16 * 4096 + b1 % 64 * 64 + b2 % 64 ∧ ¬ (55296 ≤ b0 % 16 * 4096 + b1 % 64 * 64 + b2 % 64 ∧ b0 % 16 * 4096 + b1 % 64 * 64 + b2 % 64 ≤ 57343)
   ·rw [if_pos c5, if_pos (by omega)]
    simp
   ·rw [if_neg c5, if_neg (by omega)]
    simp
  ·rw [if_neg (fun h => c4 h.2), if_neg c4, if_neg (by omega)]
   simp
 ·rw [if_neg c1, if_neg c1, if_neg (show ¬ (194 ≤ b0 ∧ b0 ≤ 223) by omega), if_neg (show ¬ (224 ≤ b0 ∧ b0 ≤ 239) by omega), if_neg (by omega), if_neg (by omega)]
  by_cases c6 : b0 ≤ 244
  ·rw [if_pos (show (240 ≤ b0 ∧ b0 ≤ 244) by omega)]
   by_cases c4 : ((1 < n ∧ b1 / 64 = 2) ∧ 2 < n ∧ b2 / 64 = 2) ∧ 3 < n ∧ b3 / 64 = 2
   ·rw [if_pos (show b0 / 8 = 30 ∧ (1 < n ∧ b1 / 64 = 2) ∧ (2 < n ∧ b2 / 64 = 2) ∧ 3 < n ∧ b3 / 64 = 2 from ⟨by omega, c4.1.1, c4.1.2, c4.2⟩), if_pos c4]
    by_cases c5 : 65536 ≤ b0 % 8 * 262144 + b1 % 64 * 4096 + b2 % 64 * 64 + b3 % 64 ∧ b0 % 8 * 262144 + b1 % 64 * 4096 + b2 % 64 * 64 + b3 % 64 ≤ 1114111
    ·rw [if_pos c5, if_pos (by omega)]
     simp
    ·rw [if_neg c5, if_neg (by omega)]
     simp
   ·rw [if_neg (fun h => c4 ⟨⟨h.2.1, h.2.2.1⟩, h.2.2.2⟩), if_neg c4]
    simp
  ·rw [if_neg (show ¬ (240 ≤ b0 ∧ b0 ≤ 244) by omega)]
   split
   ·rw [if_neg (by omega)]
    simp
   ·simp
theorem letter_not (l : List UInt8) (_ : (Pure.letter l).2 ≠ 0) : ¬ ((Pure.letter l).1 = 65533 ∧ (Pure.letter l).2 = 1) := by
 unfold Pure.letter
 simp only
 repeat' split
 all_goals first | (rintro ⟨h1, h2⟩; simp only at h1 h2; omega) | (rintro ⟨h1, h2⟩; simp at h2)
theorem letter_good' (l : List UInt8) (h : (Pure.letter l).2 ≠ 0) : decodeL l = Pure.letter l := by
 rw [letter_dec, if_neg h]
theorem valid_units : ∀ (k : Nat) (l acc : List UInt8), l.length ≤ k → (Pure.unitsFrom l acc).isSome = validD l
 | 0, l, acc, hk => by
  have : l = [] := List.eq_nil_of_length_eq_zero (by omega)
  subst this; rfl
 | k + 1, l, acc, hk => by
  by_cases hne : l = []
  ·subst hne; rfl
  ·rw [validD_step l hne, letter_dec]
   by_cases h : (Pure.letter l).2 = 0
   ·rw [if_pos h, if_pos ⟨rfl, rfl⟩, Pure.unitsFrom_bad acc hne h]; rfl
   ·rw [if_neg h, if_neg (letter_not l h), Pure.unitsFrom_step acc hne h]
    have h0 : 0 < l.length := List.length_pos_iff.2 hne
    exact valid_units k _ _ (by rw [List.length_drop]; omega)
theorem units_valid (l : List UInt8) : (Pure.units l).isSome = validD l := valid_units l.length l [] (Nat.le_refl _)
open Go.Shelf Go.RowKit
def validRen : Go.Shelf.Ren := ⟨fun | 196 => 179 | 259 => 206 | n => n, fun | 9 => 9 | 4 => 4 | 3 => 3 | 5 => 5 | 12 => 12 | 119 => 280 | 0 => 0 | 46 => 48 | 139 => 283 | 138 => 282 | 53 => 243 | n => n, fun | 3 => 2 | 4 => 3 | n => n⟩
theorem validLays : Go.Proofs.Lays.n196 Tryz.prog validRen := {
 mixed := by kernel_rfl
 f196 := Tryz.func179.trans (congrArg some (by kernel_rfl))
 f259 := Tryz.func206.trans (congrArg some (by kernel_rfl))
 t0 := Tryz.underlying0
 a0 := Tryz.isAgg0
 z0 := Tryz.sizeOf0
 v0 := Tryz.zeroValue0
 t3 := Tryz.underlying3
 a3 := Tryz.isAgg3
 z3 := Tryz.sizeOf3
 v3 := Tryz.zeroValue3
 t4 := Tryz.underlying4
 a4 := Tryz.isAgg4
 z4 := Tryz.sizeOf4
 v4 := Tryz.zeroValue4
 t5 := Tryz.underlying5
 a5 := Tryz.isAgg5
 z5 := Tryz.sizeOf5
 v5 := Tryz.zeroValue5
 t9 := Tryz.underlying9
 a9 := Tryz.isAgg9
 z9 := Tryz.sizeOf9
 v9 := Tryz.zeroValue9
 t12 := Tryz.underlying12
 a12 := Tryz.isAgg12
 z12 := Tryz.sizeOf12
 v12 := Tryz.zeroValue12
 t46 := Tryz.underlying48
 a46 := Tryz.isAgg48
 z46 := Tryz.sizeOf48
 v46 := Tryz.zeroValue48
 t53 := Tryz.underlying243
 a53 := Tryz.isAgg243
 z53 := Tryz.sizeOf243
 v53 := Tryz.zeroValue243
 t119 := Tryz.underlying280
 a119 := Tryz.isAgg280
 z119 := Tryz.sizeOf280
 t138 := Tryz.underlying282
 a138 := Tryz.isAgg282
 z138 := Tryz.sizeOf282
 v138 := Tryz.zeroValue282
 t139 := Tryz.underlying283
 a139 := Tryz.isAgg283
 z139 := Tryz.sizeOf283
 v139 := Tryz.zeroValue283
 g3 := by kernel_rfl
 g4 := by kernel_rfl }
def Tabs (w : World) : Prop := Lib.Utf8Tabs 2 3 w
theorem Tabs.keeps {S : Nat → Prop} {w w' : World} (h : Tabs w) (k : Keeps S w w') (h1 : ¬ S 2) (h2 : ¬ S 3) : Tabs w' := by
 have one : ∀ g o u, ¬ S g → w.cell? ⟨g, o, none⟩ = some u → w'.cell? ⟨g, o, none⟩ = some u := fun g o u hS hc =>
  (World.cell?_of_block (w := w) (a := ⟨g, o, none⟩) (k.block g (cell_lt hc) hS)).trans hc
 exact ⟨fun c hc => one _ _ _ h1 (h.1 c hc), fun i hi => ⟨one _ _ _ h2 (h.2 i hi).1, one _ _ _ h2 (h.2 i hi).2⟩⟩
theorem Tabs.below {w w' : World} (h : Tabs w) (k : Below w.heap.size w w') : Tabs w' := h.keeps (Keeps.new k) (fun h => h) (fun h => h)
theorem valid_any (s : ByteArray) (l : List UInt8) (hl : s.data.toList = l) (hsz : l.length ≤ 1000000) (w : World) (hT : Tabs w) :
  Calls Tryz.prog 179 #[.string s] w fun e w' => e = .returned (.bool (Pure.units l).isSome) ∧ Below w.heap.size w w' := by
 rw [units_valid, ← hl]
 have hs : s.size = l.length := by rw [← hl]; simp
 exact Any.utf8_ValidString validLays s w (by omega) hT
open Go.RowKit Go.Extern.Stop Go.Stop Go.Extern
noncomputable abbrev asVal (b : Nat) : Array Value := #[.pointer (some ⟨hB, 231, none⟩), .pointer (some ⟨b, 0, none⟩), .int .u64 150]
noncomputable abbrev asW2 (w : World) (t : Addr) : World := (w.alloc (.cells #[.pointer (some t)] 231)).alloc (.cells (asVal w.heap.size) 272)
noncomputable abbrev asW3 (w : World) (t : Addr) : World := (asW2 w t).alloc (.cells (asVal w.heap.size) 272)
noncomputable abbrev asW4 (w : World) (t e : Addr) : World := (asW3 w t).alloc (.cells #[.pointer (some e)] 229)
theorem as_below4 (w : World) (t e : Addr) : Below w.heap.size w (asW4 w t e) :=
 ((((Below.refl w.heap.size w).alloc (Nat.le_refl _) _).alloc (by simp) _).alloc (by simp; omega) _).alloc (by simp; omega) _
theorem as_fault (e t : Addr) (old : Value) (w : World) (hg : Handle w) (ht : w.cell? t = some old) (hf : w.frozen? t = false) :
  Calls Tryz.prog 178 #[.iface 229 (.pointer (some e)), .iface 231 (.pointer (some t))] w fun ev w' => ev = .returned (.bool true) ∧
   w' = (asW4 w t e).setCell t (.pointer (some e)) := by
 have h1 := @run_callFunc_extern Tryz.prog 202 _ (fun args => ReflectliteValue.unpack (args.getD 0 (.tuple #[]))) Tryz.func202 (by kernel_rfl) (by kernel_rfl) (by kernel_rfl) (by kernel_rfl)
 have h2 := @run_callFunc_extern Tryz.prog 203 _ (ReflectliteValue.methodAny (ReflectliteValue.valueError "reflectlite.Value.Type" 0) (fun t _ _ _ => ReflectliteType.toType t)) Tryz.func203 (by kernel_rfl) (by kernel_rfl) (by kernel_rfl) (by kernel_rfl)
 have h3 := @run_callFunc_extern Tryz.prog 204 _ (ReflectliteValue.method (ReflectliteValue.valueError "reflectlite.Value.IsNil" 0) ReflectliteValue.isNil) Tryz.func204 (by kernel_rfl) (by kernel_rfl) (by kernel_rfl) (by kernel_rfl)
 have h4 := @run_callFunc_extern Tryz.prog 262 _ (ReflectliteType.abiMethod fun t => do pure (.int .u8 (← Rtype.kind t))) Tryz.func262 (by kernel_rfl) (by kernel_rfl) (by kernel_rfl) (by kernel_rfl)
 have h5 := @run_callFunc_extern Tryz.prog 273 _ (ReflectliteType.method ReflectliteType.elem) Tryz.func273 (by kernel_rfl) (by kernel_rfl) (by kernel_rfl) (by kernel_rfl)
 have h6 := @run_callFunc_extern Tryz.prog 274 _ (ReflectliteType.relation "Implements" ReflectliteType.implements_) Tryz.func274 (by kernel_rfl) (by kernel_rfl) (by kernel_rfl) (by kernel_rfl)
 have h7 := @run_callFunc_extern Tryz.prog 172 _ ReflectliteType.typeOf Tryz.func172 (by kernel_rfl) (by kernel_rfl) (by kernel_rfl) (by kernel_rfl)
 have h8 := @run_callFunc_extern Tryz.prog 271 _ (ReflectliteType.relation "AssignableTo" ReflectliteType.assignableTo) Tryz.func271 (by kernel_rfl) (by kernel_rfl) (by kernel_rfl) (by kernel_rfl)
 have h9 := @run_callFunc_extern Tryz.prog 237 _ (ReflectliteValue.method (ReflectliteValue.valueError "reflectlite.Value.Elem" 0) ReflectliteValue.elem) Tryz.func237 (by kernel_rfl) (by kernel_rfl) (by kernel_rfl) (by kernel_rfl)
 have h10 := @run_callFunc_extern Tryz.prog 238 _ ReflectliteValue.set Tryz.func238 (by kernel_rfl) (by kernel_rfl) (by kernel_rfl) (by kernel_rfl)
 have k1 := as_unpackT
 have k2 := as_typeT
 have k3 := as_mKind
 have k4 := as_mElem
 have k5 := as_mImpl
 have k6 := as_mAssign
 have k7 := as_kindT
 have k8 := as_kindE
 have k9 := as_elemT
 have k10 := as_implE
 have k11 := as_typeOfE
 have k12 := as_assignE
 have k13 := as_unpackE
 have hlt := hg.lt
 have htl : t.block < w.heap.size := by
  rcases Nat.lt_or_ge t.block w.heap.size with h | h
  ·exact h
  ·simp [World.cell?, Array.getElem?_eq_none h] at ht
 have g2 : (asW2 w t).cell? ⟨1, 0, none⟩ = some (.iface 258 (.agg #[.pointer (some ⟨hB, 158, none⟩)])) := by
  rw [World.cell?_alloc_lt _ _ ⟨1, 0, none⟩ (by simp <;> omega), World.cell?_alloc_lt _ _ ⟨1, 0, none⟩ hlt]; exact hg
 have n1 := as_isNil ⟨w.heap.size, 0, none⟩ t (asW2 w t) (by simp)
 have n2 := as_elemV ⟨w.heap.size, 0, none⟩ t (asW3 w t) (by rw [World.cell?_alloc_lt _ _ ⟨w.heap.size, 0, none⟩ (by simp; omega)]; simp)
 have n3 := as_set t ⟨w.heap.size + 1 + 1 + 1, 0, none⟩ e old (asW4 w t e)
  (by rw [World.cell?_alloc_at _ _ _ _ (by simp)]; rfl)
  (by rw [World.cell?_alloc_lt _ _ t (by simp; omega), World.cell?_alloc_lt _ _ t (by simp; omega), World.cell?_alloc_lt _ _ t (by simp; omega), World.cell?_alloc_lt _ _ t htl]; exact ht)
  (by rw [World.frozen?_alloc_old _ _ t (by simp; omega), World.frozen?_alloc_old _ _ t (by simp; omega), World.frozen?_alloc_old _ _ t (by simp; omega), World.frozen?_alloc_old _ _ t (Nat.ne_of_lt htl)]; exact hf)
 clear hg ht hf
 go_enter Tryz.func178, Tryz.ntmps178
 go_wp2
 refine wp_loop_rounds 1 ?_
 rw [rounds_succ]
 go_wp2
 go_ret
 exact ⟨rfl, rfl⟩
open Go.RowKit
def ErrIs (w : World) (v : Value) (k : Nat) : Prop :=
 (v = .nilIface ∧ k = 0) ∨ (k ≠ 0 ∧ ∃ b, v = .iface 229 (.pointer (some ⟨b, 0, none⟩)) ∧ w.cell? ⟨b, 1, none⟩ = some (.int .i64 k))
theorem ErrIs.keeps {S : Nat → Prop} {w w' : World} {v : Value} {k : Nat} (h : ErrIs w v k) (hk : Keeps S w w') (hS : ∀ b, ¬ S b) : ErrIs w' v k := by
 rcases h with h | ⟨h1, b, h2, h3⟩
 ·exact .inl h
 ·exact .inr ⟨h1, b, h2, (World.cell?_of_block (w := w) (a := ⟨b, 1, none⟩) (hk.block b (cell_lt h3) (hS b))).trans h3⟩
theorem of_any (s : ByteArray) (k : Nat) (w : World) (hk : k ≠ 0) : Calls Tryz.prog 180 #[.string s, .int .i64 k] w fun e w' => ∃ v, e = .returned v ∧ ErrIs w' v k ∧ Below w.heap.size w w' := by
 go_enter Tryz.func180, Tryz.ntmps180
 go_wp2
 go_ret
 exact ⟨_, rfl, .inr ⟨hk, w.heap.size, rfl, by simp⟩, (Below.refl _ _).alloc (Nat.le_refl _) _⟩
theorem number_any (v : Value) (k : Nat) (w : World) (hg : Handle w) (h : ErrIs w v k) : Calls Tryz.prog 148 #[v] w fun e w' => e = .returned (.int .i64 k) ∧ Below w.heap.size w w' := by
 have B1 := xhd ((Below.refl w.heap.size w).alloc (Nat.le_refl _) (.cells #[.pointer none] 229))
 rcases h with ⟨rfl, rfl⟩ | ⟨h1, b, rfl, h3⟩
 ·have HA := xhd as_nil
  clear hg
  go_enter Tryz.func148, Tryz.ntmps148
  go_wp2_with fail
  refine (HA.out _ _).mono ?_
  rintro e w1 ⟨rfl, rfl⟩
  go_wp2
  go_ret
  exact ⟨rfl, B1.out⟩
 ·have hb := cell_lt h3
  have hg1 : Handle (w.alloc (.cells #[.pointer none] 229)) := hg.below ((Below.refl w.heap.size w).alloc (Nat.le_refl _) _)
  have HA := xhd (as_fault ⟨b, 0, none⟩ ⟨w.heap.size, 0, none⟩ (.pointer none) _ hg1 (by simp) (by simp))
  have k4 := as_below4 (w.alloc (.cells #[.pointer none] 229)) ⟨w.heap.size, 0, none⟩ ⟨b, 0, none⟩
  obtain ⟨W, hW⟩ : ∃ W, W = asW4 (w.alloc (.cells #[.pointer none] 229)) ⟨w.heap.size, 0, none⟩ ⟨b, 0, none⟩ := ⟨_, rfl⟩
  rw [← hW] at HA k4
  have hsz : (w.alloc (.cells #[.pointer none] 229)).heap.size = w.heap.size + 1 := by simp
  have hblk : Blk W w.heap.size 229 #[.pointer none] := (Blk.new w 229 #[.pointer none]).below k4 (by omega)
  have c0 : (W.setCell ⟨w.heap.size, 0, none⟩ (.pointer (some ⟨b, 0, none⟩))).cell? ⟨w.heap.size, 0, none⟩ = some (.pointer (some ⟨b, 0, none⟩)) := by
   rw [(hblk.set 0 _).cell]; rfl
  have hk : Keeps nobody w (W.setCell ⟨w.heap.size, 0, none⟩ (.pointer (some ⟨b, 0, none⟩))) :=
   ((Keeps.new ((B1.out).trans (k4.mono (by simp)))).store w.heap.size 0 (fun h => absurd h (by omega)) _)
  have c1 := (World.cell?_of_block (w := w) (a := ⟨b, 1, none⟩) (hk.block b hb (fun h => h))).trans h3
  have K := xhd hk
  clear hg hg1 k4 hW hsz hblk hk h3
  go_enter Tryz.func148, Tryz.ntmps148
  go_wp2_with fail
  refine HA.out.mono ?_
  rintro e w1 ⟨rfl, rfl⟩
  go_wp2
  go_ret
  exact ⟨rfl, K.out.to_below⟩
section
variable {w0 wr : World}
end
theorem own_quiet {w w' : World} {base n : Nat} {u : Value} {l : List UInt8} (h : w.ownsRow base 5 1 u n (u8s l)) (k : Keeps nobody w w') : w'.ownsRow base 5 1 u n (u8s l) := ownsRow_keeps h k (fun _ _ h => h)
theorem iter_apart {w : World} {g p base n : Nat} {s : ByteArray} {e : TypeId} {v : Value} {xs : List Value} (hk : w.heap[g]? = some (.stringIter s p)) (h : w.ownsRow base e 1 v n xs) : v.ownBlock ≠ some g := by
 rcases h.2 with ⟨rfl, _⟩ | ⟨g', cap, cur, rfl, _, hh, _⟩
 ·simp [Value.ownBlock]
 ·intro he
  have : g' = g := by simpa [Value.ownBlock] using he
  subst this
  rw [hk] at hh
  injection hh with hh
  cases hh
theorem keeps_iterAt (w : World) (g : Nat) (s : ByteArray) (p : Nat) : Keeps (only g) w (w.iterAt g s p) :=
 ⟨rfl, rfl, rfl, by rw [Lib.iterAt_size]; exact Nat.le_refl _, fun k _ hk => Lib.iterAt_other w g k s p hk⟩
theorem own_iterAt {w : World} {g p p' base n : Nat} {s : ByteArray} {e : TypeId} {v : Value} {xs : List Value} (hk : w.heap[g]? = some (.stringIter s p)) (h : w.ownsRow base e 1 v n xs) : (w.iterAt g s p').ownsRow base e 1 v n xs :=
 ownsRow_keeps h (keeps_iterAt w g s p') (fun k hv hg => by have hg : k = g := hg; subst hg; exact iter_apart hk h hv)
def UnitsOk (w0 : World) (l : List UInt8) (e : Ending) (w' : World) : Prop :=
 ∃ v x us, e = .returned (.tuple #[v, x]) ∧ ErrIs w' x (Pure.secret l).1 ∧ ((Pure.secret l).1 = 0 → w'.ownsRow w0.heap.size 100 1 v us.length (u16s us) ∧ Pure.low us = (Pure.secret l).2 ∧ us.length ≤ 256) ∧ Below w0.heap.size w0 w'
theorem unitsOf_any (s : ByteArray) (l : List UInt8) (hl : s.data.toList = l) (hsz : l.length ≤ 1000000) (w : World) (hT : Tabs w) :
  Calls Tryz.prog 149 #[.string s] w (UnitsOk w l) := by
 have hs : s.size = l.length := by rw [← hl]; simp
 have HV := xhd (valid_any s l hl hsz w hT)
 have HL := xhd hl
 clear hl hT
 obtain ⟨U, hU⟩ : ∃ U, U = Pure.units l := ⟨_, rfl⟩
 rw [← hU] at HV
 have HU := xhd hU
 clear hU
 cases U with
 | none =>
  have hsec := Pure.secret_none HU.out.symm
  have HSEC := xhd hsec
  clear hsec
  go_enter Tryz.func149, Tryz.ntmps149
  go_wp2_with fail
  refine HV.out.mono ?_
  rintro e w1 ⟨rfl, hb1⟩
  have H1 := xhd hb1
  clear hb1 HV
  go_wp2_with fail
  refine (of_any _ 4 _ (by omega)).mono ?_
  rintro e w2 ⟨v, rfl, he2, hb2⟩
  have HE2 := xhd he2
  have H2 := xhd (H1.out.trans (hb2.mono H1.out.size))
  clear he2 hb2
  go_wp2_with fail
  go_ret2
  refine ⟨_, _, [], rfl, ?_, fun h => ?_, H2.out⟩
  ·rw [HSEC.out]; exact HE2.out
  ·rw [HSEC.out] at h; cases h
 | some u =>
  go_enter Tryz.func149, Tryz.ntmps149
  go_wp2_with fail
  refine HV.out.mono ?_
  rintro e w1 ⟨rfl, hb1⟩
  have H1 := xhd hb1
  have hgs := hb1.size
  clear hb1 HV
  go_wp2_with fail
  have hlen := fun k acc (h : Pure.unitsFrom (l.drop k) acc = some u) => Pure.unitsFrom_length _ _ acc u (Nat.le_refl _) h
  have HLEN := xhd hlen
  have hit : (w1.iter s 0).heap[w1.heap.size]? = some (.stringIter s 0) := World.iter_heap w1 s 0
  have hi1 : Below w.heap.size w (w1.iter s 0) := H1.out.alloc H1.out.size _
  obtain ⟨g, hg⟩ : ∃ g, g = w1.heap.size := ⟨_, rfl⟩
  rw [← hg] at hit hgs
  obtain ⟨w2, hw2⟩ : ∃ w2, w2 = w1.iter s 0 := ⟨_, rfl⟩
  rw [← hw2] at hit hi1
  have HI := xhd hit
  have HB := xhd hi1
  clear hit hi1 hlen
  rw [← hg, ← hw2]
  clear hg hw2 H1
  have H0 := HU.out
  go_loopw [4] (fun v wr => ∃ (k : Nat) (us : List Nat), k ≤ l.length ∧ wr.heap[g]? = some (.stringIter s k) ∧ wr.ownsRow w.heap.size 100 1 v us.length (u16s us) ∧ us.length ≤ 256 ∧ Pure.unitsFrom (l.drop k) (Pure.low us) = some u ∧ Below w.heap.size w wr) (fun _ wr => l.length - wr.iterPos g)
  case atStart => exact ⟨0, [], by omega, HI.out, World.ownsRow_nil _ _ _ _, by simp, H0.symm, HB.out⟩
  case round =>
   obtain ⟨k, us, hk, hit, hW, hus, hR, hK⟩ := hrel
   obtain ⟨A2, c2, rfl⟩ := own_form hW
   have hmu : wr.iterPos g = k := by simp [World.iterPos, hit]
   have HIT := xhd hit
   have HW := xhd hW
   have HR := xhd hR
   have HK := xhd hK
   have HMU := xhd hmu
   clear hit hW hR hK hmu H0 HI HB
   by_cases hkl : k < l.length
   ·have hne : l.drop k ≠ [] := by
     intro e
     have := congrArg List.length e
     rw [List.length_drop] at this
     simp at this
     omega
    have hz : (Pure.letter (l.drop k)).2 ≠ 0 := by
     intro h
     have := HR.out
     rw [Pure.unitsFrom_bad _ hne h] at this
     cases this
    have hdec : Utf8.decode s k = Pure.letter (l.drop k) := by
     rw [← letter_good' _ hz, ← HL.out, Lib.decodeL_drop]
    have hstep := Pure.unitsFrom_step (Pure.low us) hne hz
    obtain ⟨z1, z2⟩ := Pure.letter_size (l.drop k) hne
    have hn := Pure.letter_num (l.drop k)
    rw [List.length_drop] at z1
    rw [List.drop_drop] at hstep
    have hnext : ∀ ty, (Instr.next (.pointer (some ⟨g, 0, none⟩)) true ty).run Tryz.prog wr = _ := fun ty => Lib.run_next_any_at wr g s k ty HIT.out (by omega)
    rw [hdec] at hnext
    obtain ⟨n, hn'⟩ : ∃ n, n = (Pure.letter (l.drop k)).1 := ⟨_, rfl⟩
    obtain ⟨z, hz'⟩ : ∃ z, z = (Pure.letter (l.drop k)).2 := ⟨_, rfl⟩
    rw [← hn'] at hn hstep hnext
    rw [← hz'] at z1 z2 hz hstep hnext
    have hR2 := hstep.symm.trans HR.out
    rw [← Pure.low_unit16, ← Pure.low_append] at hR2
    have HR2 := xhd hR2
    have hit1 := Lib.iterAt_heap wr g s k (k + z) HIT.out
    have hW1 := own_iterAt (p' := k + z) HIT.out HW.out
    have hb1 := Lib.below_iterAt HK.out hgs s (k + z)
    obtain ⟨w3, hw3⟩ : ∃ w3, w3 = wr.iterAt g s (k + z) := ⟨_, rfl⟩
    rw [← hw3] at hnext hit1 hW1 hb1
    have HIT1 := xhd hit1
    have HW1 := xhd hW1
    have HB1 := xhd hb1
    have HNL := xhd (Pure.unit16_length n)
    clear hR2 hit1 hW1 hb1 hw3 hdec hstep hn' hz' HR HIT HW HK hne
    go_wp2_with fail
    refine (unitsOfOne_any n hn w3).mono ?_
    rintro e w4 ⟨v4, rfl, hr4, hb4⟩
    have HIT4 := xhd ((hb4.block _ (Array.getElem?_eq_some_iff.1 HIT1.out).1).trans HIT1.out)
    have HW4 := xhd (ownsRow_keeps HW1.out (Keeps.new hb4) (fun _ _ h => h))
    have HB4 := xhd (HB1.out.trans (hb4.mono HB1.out.size))
    have HR4 := xhd hr4
    clear hr4 hb4 hnext HIT1 HW1 HB1
    go_wp2_with (at_builtin; refine stopHere ?_)
    unfold Hid
    have hnl := HNL.out
    refine wp_append_u16 rfl (.tmp 16) (.tmp 18) rfl w.heap.size (.slice A2 us.length c2) us.length us rfl rfl HW4.out _ _ (Pure.unit16 n) rfl HR4.out (by omega) HB4.out.size ?_
    intro v5 w5 hown5 hg5 hat5
    have HB5 := xhd (show Below w.heap.size w w5 from HB4.out.grown hg5 HB4.out.size (fun k hk => ownsRow_ge HW4.out k hk))
    have HIT5 := xhd ((hg5.block _ (Array.getElem?_eq_some_iff.1 HIT4.out).1 (fun h => iter_apart HIT4.out HW4.out h.symm)).trans HIT4.out)
    obtain ⟨A5, c5, rfl⟩ := own_form hown5
    obtain ⟨vs, hvs⟩ : ∃ vs, vs = us ++ Pure.unit16 n := ⟨_, rfl⟩
    rw [← hvs] at hown5 HR2 ⊢
    have hvl : us.length < vs.length ∧ vs.length ≤ us.length + 2 := by rw [hvs, List.length_append]; omega
    have HO5 := xhd hown5
    clear hown5 hg5 hat5 hvs HNL hnl HR4 HW4 HIT4 HB4
    by_cases hbig : 256 < vs.length
    ·have d0 : decide ((256 : Int) < (vs.length : Int)) = true := decide_eq_true (by omega)
     have hl2 := HLEN.out _ _ HR2.out
     rw [Pure.low_length] at hl2
     have HSEC := xhd (Pure.secret_long HU.out.symm (by omega))
     clear hl2
     go_wp2_with fail
     refine (of_any _ 3 _ (by omega)).mono ?_
     rintro e w6 ⟨v6, rfl, he6, hb6⟩
     have HE6 := xhd he6
     have H6 := xhd (HB5.out.trans (hb6.mono HB5.out.size))
     clear he6 hb6
     go_wp2_with fail
     go_ret2
     refine ⟨_, _, [], rfl, ?_, fun h => ?_, H6.out⟩
     ·rw [HSEC.out]; exact HE6.out
     ·rw [HSEC.out] at h; cases h
    ·have d0 : decide ((256 : Int) < (vs.length : Int)) = false := decide_eq_false (by omega)
     go_wp2_with fail
     go_roundw
     case rel => exact ⟨k + z, vs, by omega, HIT5.out, HO5.out, by omega, HR2.out, HB5.out⟩
     case measure =>
      have e2 : w5.iterPos g = k + z := by simp [World.iterPos, HIT5.out]
      rw [HMU.out, e2]
      omega
   ·have hkk : k = l.length := by omega
    subst hkk
    have hnext : ∀ ty, (Instr.next (.pointer (some ⟨g, 0, none⟩)) true ty).run Tryz.prog wr = _ := fun ty => Lib.run_next_end_at wr g s l.length ty HIT.out (by omega)
    have hend := HR.out
    rw [List.drop_length, Pure.unitsFrom_nil] at hend
    injection hend with hend
    have hsec : Pure.secret l = (0, Pure.low us) := by
     rw [Pure.secret_some HU.out.symm (by rw [← hend, Pure.low_length]; omega), hend]
    have HSEC := xhd hsec
    clear hend hsec HR
    go_wp2_with fail
    go_ret2
    refine ⟨_, _, us, rfl, ?_, fun _ => ⟨HW.out, ?_, hus⟩, HK.out⟩
    ·rw [HSEC.out]; exact .inl ⟨rfl, rfl⟩
    ·rw [HSEC.out]
end Go.Proofs.YtmgicbckgpdkcaaGreatDoor
