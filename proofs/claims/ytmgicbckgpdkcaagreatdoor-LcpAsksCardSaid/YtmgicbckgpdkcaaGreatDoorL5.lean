/- errors.As of a *api.Fault at a **api.Fault: true, and the target is set. -/
import Derived.Lib.SlBytesConst
import Derived.Lib.OthersKept
import Derived.Laws.BitsAllLaws
import Derived.Test.YtmgicbckgpdkcaaGreatDoorL4
namespace Go.Proofs.YtmgicbckgpdkcaaGreatDoor
set_option maxRecDepth 100000
set_option maxHeartbeats 4000000
open _root_.Go.Lib renaming hid → xhd
open Go.RowKit Go.Extern.Stop Go.Stop Go.Extern
noncomputable abbrev asVal (b : Nat) : Array Value := #[.pointer (some ⟨hB, 231, none⟩), .pointer (some ⟨b, 0, none⟩), .int .u64 150]
noncomputable abbrev asW2 (w : World) (t : Addr) : World := (w.alloc (.cells #[.pointer (some t)] 231)).alloc (.cells (asVal w.heap.size) 272)
noncomputable abbrev asW3 (w : World) (t : Addr) : World := (asW2 w t).alloc (.cells (asVal w.heap.size) 272)
noncomputable abbrev asW4 (w : World) (t e : Addr) : World := (asW3 w t).alloc (.cells #[.pointer (some e)] 229)
theorem as_below4 (w : World) (t e : Addr) : Below w.heap.size w (asW4 w t e) :=
 ((((Below.refl w.heap.size w).alloc (Nat.le_refl _) _).alloc (by simp) _).alloc (by simp; omega) _).alloc (by simp; omega) _
theorem as_fault (e t : Addr) (old : Value) (w : World) (hg : y14 w) (ht : w.cell? t = some old) (hf : w.frozen? t = false) :
  Calls Tryz.prog 178 #[.iface 229 (.pointer (some e)), .iface 231 (.pointer (some t))] w fun ev w' => ev = .returned (.bool true) ∧
   w' = (asW4 w t e).setCell t (.pointer (some e)) := by
 have h1 := @run_callFunc_extern Tryz.prog 202 _ (fun args => ReflectliteValue.unpack (args.getD 0 (.tuple #[]))) Tryz.func202 (by kernel_rfl) (by kernel_rfl) (by kernel_rfl) (by kernel_rfl)
 have h2 := @run_callFunc_extern Tryz.prog 203 _ (ReflectliteValue.methodAny (ReflectliteValue.valueError "reflectlite.Value.Type" 0) (fun t _ _ _ => ReflectliteType.toType t)) Tryz.func203 (by kernel_rfl) (by kernel_rfl) (by kernel_rfl) (by kernel_rfl)
 have h3 := @run_callFunc_extern Tryz.prog 204 _ (ReflectliteValue.method (ReflectliteValue.valueError "reflectlite.Value.IsNil" 0) ReflectliteValue.isNil) Tryz.func204 (by kernel_rfl) (by kernel_rfl) (by kernel_rfl) (by kernel_rfl)
 have h4 := @run_callFunc_extern Tryz.prog 262 _ (ReflectliteType.abiMethod fun t => do pure (.int .u8 (← Rtype.kind t))) Tryz.func262 (by kernel_rfl) (by kernel_rfl) (by kernel_rfl) (by kernel_rfl)
 have h5 := @run_callFunc_extern Tryz.prog 273 _ (ReflectliteType.method ReflectliteType.elem) Tryz.func273 (by kernel_rfl) (by kernel_rfl) (by kernel_rfl) (by kernel_rfl)
 have h6 := @run_callFunc_extern Tryz.prog 274 _ (ReflectliteType.relation "Implements" ReflectliteType.implements_) Tryz.func274 (by kernel_rfl) (by kernel_rfl) (by kernel_rfl) (by kernel_rfl)
 have h7 := @run_callFunc_extern Tryz.prog 172 _ ReflectliteType.typeOf Tryz.func172 (by kernel_rfl) (by kernel_rfl) (by kernel_rfl) (by kernel_rfl)
 have h8 := @run_callFunc_extern Tryz.prog 271 _ (ReflectliteType.relation "AssignableTo" ReflectliteType.assignableTo) Tryz.func271 (by kernel_rfl) (by kernel_rfl) (by kernel_rfl) (by kernel_rfl)
 have h9 := @run_callFunc_extern Tryz.prog 237 _ (ReflectliteValue.method (ReflectliteValue.valueError "reflectlite.Value.Elem" 0) ReflectliteValue.elem) Tryz.func237 (by kernel_rfl) (by kernel_rfl) (by kernel_rfl) (by kernel_rfl)
 have h10 := @run_callFunc_extern Tryz.prog 238 _ ReflectliteValue.set Tryz.func238 (by kernel_rfl) (by kernel_rfl) (by kernel_rfl) (by kernel_rfl)
 have k1 := as_unpackT
 have k2 := as_typeT
 have k3 := as_mKind
 have k4 := as_mElem
 have k5 := as_mImpl
 have k6 := as_mAssign
 have k7 := as_kindT
 have k8 := as_kindE
 have k9 := as_elemT
 have k10 := as_implE
 have k11 := as_typeOfE
 have k12 := as_assignE
 have k13 := as_unpackE
 have hlt := hg.lt
 have htl : t.block < w.heap.size := by
  rcases Nat.lt_or_ge t.block w.heap.size with h | h
  ·exact h
  ·simp [World.cell?, Array.getElem?_eq_none h] at ht
 have g2 : (asW2 w t).cell? ⟨1, 0, none⟩ = some (.iface 258 (.agg #[.pointer (some ⟨hB, 158, none⟩)])) := by
  rw [World.cell?_alloc_lt _ _ ⟨1, 0, none⟩ (by simp <;> omega), World.cell?_alloc_lt _ _ ⟨1, 0, none⟩ hlt]; exact hg
 have n1 := as_isNil ⟨w.heap.size, 0, none⟩ t (asW2 w t) (by simp)
 have n2 := as_elemV ⟨w.heap.size, 0, none⟩ t (asW3 w t) (by rw [World.cell?_alloc_lt _ _ ⟨w.heap.size, 0, none⟩ (by simp; omega)]; simp)
 have n3 := as_set t ⟨w.heap.size + 1 + 1 + 1, 0, none⟩ e old (asW4 w t e)
  (by rw [World.cell?_alloc_at _ _ _ _ (by simp)]; rfl)
  (by rw [World.cell?_alloc_lt _ _ t (by simp; omega), World.cell?_alloc_lt _ _ t (by simp; omega), World.cell?_alloc_lt _ _ t (by simp; omega), World.cell?_alloc_lt _ _ t htl]; exact ht)
  (by rw [World.frozen?_alloc_old _ _ t (by simp; omega), World.frozen?_alloc_old _ _ t (by simp; omega), World.frozen?_alloc_old _ _ t (by simp; omega), World.frozen?_alloc_old _ _ t (Nat.ne_of_lt htl)]; exact hf)
 clear hg ht hf
 go_enter Tryz.func178, Tryz.ntmps178
 go_wp2
 refine wp_loop_rounds 1 ?_
 rw [rounds_succ]
 go_wp2
 go_ret
 exact ⟨rfl, rfl⟩
open Go.RowKit
def y1p (w : World) (v : Value) (k : Nat) : Prop :=
 (v = .nilIface ∧ k = 0) ∨ (k ≠ 0 ∧ ∃ b, v = .iface 229 (.pointer (some ⟨b, 0, none⟩)) ∧ w.cell? ⟨b, 1, none⟩ = some (.int .i64 k))
theorem y1p.keeps {S : Nat → Prop} {w w' : World} {v : Value} {k : Nat} (h : y1p w v k) (hk : Keeps S w w') (hS : ∀ b, ¬ S b) : y1p w' v k := by
 rcases h with h | ⟨h1, b, h2, h3⟩
 ·exact .inl h
 ·exact .inr ⟨h1, b, h2, (World.cell?_of_block (w := w) (a := ⟨b, 1, none⟩) (hk.block b (y0l h3) (hS b))).trans h3⟩
theorem of_any (s : ByteArray) (k : Nat) (w : World) (hk : k ≠ 0) : Calls Tryz.prog 180 #[.string s, .int .i64 k] w fun e w' => ∃ v, e = .returned v ∧ y1p w' v k ∧ Below w.heap.size w w' := by
 go_enter Tryz.func180, Tryz.ntmps180
 go_wp2
 go_ret
 exact ⟨_, rfl, .inr ⟨hk, w.heap.size, rfl, by simp⟩, (Below.refl _ _).alloc (Nat.le_refl _) _⟩
theorem number_any (v : Value) (k : Nat) (w : World) (hg : y14 w) (h : y1p w v k) : Calls Tryz.prog 148 #[v] w fun e w' => e = .returned (.int .i64 k) ∧ Below w.heap.size w w' := by
 have B1 := xhd ((Below.refl w.heap.size w).alloc (Nat.le_refl _) (.cells #[.pointer none] 229))
 rcases h with ⟨rfl, rfl⟩ | ⟨h1, b, rfl, h3⟩
 ·have HA := xhd as_nil
  clear hg
  go_enter Tryz.func148, Tryz.ntmps148
  go_wp2_with fail
  refine (HA.out _ _).mono ?_
  rintro e w1 ⟨rfl, rfl⟩
  go_wp2
  go_ret
  exact ⟨rfl, B1.out⟩
 ·have hb := y0l h3
  have hg1 : y14 (w.alloc (.cells #[.pointer none] 229)) := hg.below ((Below.refl w.heap.size w).alloc (Nat.le_refl _) _)
  have HA := xhd (as_fault ⟨b, 0, none⟩ ⟨w.heap.size, 0, none⟩ (.pointer none) _ hg1 (by simp) (by simp))
  have k4 := as_below4 (w.alloc (.cells #[.pointer none] 229)) ⟨w.heap.size, 0, none⟩ ⟨b, 0, none⟩
  obtain ⟨W, hW⟩ : ∃ W, W = asW4 (w.alloc (.cells #[.pointer none] 229)) ⟨w.heap.size, 0, none⟩ ⟨b, 0, none⟩ := ⟨_, rfl⟩
  rw [← hW] at HA k4
  have hsz : (w.alloc (.cells #[.pointer none] 229)).heap.size = w.heap.size + 1 := by simp
  have hblk : Blk W w.heap.size 229 #[.pointer none] := (Blk.new w 229 #[.pointer none]).below k4 (by omega)
  have c0 : (W.setCell ⟨w.heap.size, 0, none⟩ (.pointer (some ⟨b, 0, none⟩))).cell? ⟨w.heap.size, 0, none⟩ = some (.pointer (some ⟨b, 0, none⟩)) := by
   rw [(hblk.set 0 _).cell]; rfl
  have hk : Keeps y01 w (W.setCell ⟨w.heap.size, 0, none⟩ (.pointer (some ⟨b, 0, none⟩))) :=
   ((Keeps.new ((B1.out).trans (k4.mono (by simp)))).store w.heap.size 0 (fun h => absurd h (by omega)) _)
  have c1 := (World.cell?_of_block (w := w) (a := ⟨b, 1, none⟩) (hk.block b hb (fun h => h))).trans h3
  have K := xhd hk
  clear hg hg1 k4 hW hsz hblk hk h3
  go_enter Tryz.func148, Tryz.ntmps148
  go_wp2_with fail
  refine HA.out.mono ?_
  rintro e w1 ⟨rfl, rfl⟩
  go_wp2
  go_ret
  exact ⟨rfl, K.out.to_below⟩
theorem copy_any (F : Nat → Prop) (x : Value) (bs : List UInt8) (w : World) (hr : Row w F 1 x bs.length (u8s bs)) (hF : ∀ b, F b → b < w.heap.size) (hl : bs.length ≤ 100000000000000) :
  Calls Tryz.prog 83 #[x] w fun e w' => ∃ u, e = .returned u ∧ w'.ownsRow w.heap.size 5 1 u bs.length (u8s bs) ∧ Below w.heap.size w w' := by
 obtain ⟨A, c, rfl, hc⟩ := hr.form
 have hm := hr.2.1
 unfold maxLen at hm
 have HR := xhd hr
 have HF := xhd hF
 clear hr hF
 obtain ⟨i0, hi0, hz0, hz1, hz2⟩ := info_parts y1w
 have I := xhd (And.intro hi0 (And.intro hz0 (And.intro hz1 hz2)))
 clear hi0 hz0 hz1 hz2
 go_enter Tryz.func83, Tryz.ntmps83
 go_wp2_with fail
 go_loopw [3, 4] (fun u i wr => ∃ k : Nat, k ≤ bs.length ∧ i = .int .i64 k ∧ wr.ownsRow w.heap.size 5 1 u k (u8s (bs.take k)) ∧ Below w.heap.size w wr) (fun _ i _ => bs.length - (intOf i).toNat)
 case atStart => exact ⟨0, by omega, rfl, ⟨by simp, .inl ⟨rfl, rfl⟩⟩, Below.refl _ _⟩
 case round =>
  obtain ⟨k, hk, rfl, hown, hb⟩ := hrel
  have O := xhd hown
  have B := xhd hb
  clear hown hb
  by_cases hlt : k < bs.length
  ·obtain ⟨b, off, rfl, hbF, hcell⟩ := (HR.out.keeps (Keeps.new B.out) (fun _ _ h => h)).cellAt (by omega)
   have cb := hcell k _ (y28 bs k hlt)
   obtain ⟨X, hX⟩ : ∃ X : Nat, X = (bs.getD k 0).toNat := ⟨_, rfl⟩
   have hX2 : X < 256 := by rw [hX]; exact (bs.getD k 0).toNat_lt
   rw [← hX] at cb
   have HXX := xhd hX
   have hi0 : (0 : Int) ≤ (k : Int) := by omega
   have hi1 : (k : Int) < (bs.length : Int) := by omega
   have hrow1 : Row (wr.alloc (.cells #[.int .u8 X] 5)) (fun _ => True) 1 (.slice (some ⟨wr.heap.size, 0, none⟩) 1 1) 1 [.int .u8 X] :=
    Row.block (Blk.new wr 5 #[.int .u8 X]) trivial rfl (by simp [maxLen]) (Nat.le_refl _)
   have HRow := xhd hrow1
   have hsz := B.out.size
   clear hX hcell hrow1
   go_wp2_with (at_builtin; refine y0d ?_)
   unfold Hid
   obtain ⟨hi0', hz0, hz1, hz2⟩ := I.out
   refine y0r rfl (.tmp 11) (.tmp 16) _ rfl w.heap.size 5 i0 _ 1 1 Tryz.underlying29 hi0' hz0 hz1 hz2 rfl (by omega) u3 k (u8s (bs.take k))
    rfl (O.out.alloc _) _ _ 1 [.int .u8 X] rfl HRow.out (by simp [Value.oneCell']) (by simp only [maxLen]; omega) (by omega) (by simp; omega) ?_
   intro v3 w3 hown3 hg3 hat3
   have hown3' : w3.ownsRow w.heap.size 5 1 v3 (k + 1) (u8s (bs.take (k + 1))) := by
    have e1 : u8s (bs.take k) ++ [.int .u8 X] = u8s (bs.take (k + 1)) := by
     rw [List.take_succ_eq_append_getElem hlt]
     have := HXX.out
     rw [List.getD_eq_getElem?_getD, List.getElem?_eq_getElem hlt] at this
     rw [this]
     simp only [List.map_append, List.map_cons, List.map_nil, Option.getD_some]
    rw [← e1]
    exact hown3
   have hb3 := Below.grown (B.out.alloc hsz (.cells #[.int .u8 X] 5)) hg3 (by simp; omega) (fun q hq => (y06 O.out q hq))
   have O3 := xhd hown3'
   have B3 := xhd hb3
   clear hown3 hown3' hg3 hat3 hb3 hi0' hz0 hz1 hz2 cb
   go_wp2
   go_roundw
   case rel => exact ⟨k + 1, by omega, by go_num, O3.out, B3.out⟩
   case measure => simp [intOf]; omega
  ·have hk' : k = bs.length := by omega
   have e : bs.take k = bs := by rw [hk', List.take_length]
   rw [e, hk'] at O
   clear e hk'
   go_wp2
   go_ret
   exact ⟨_, rfl, O.out, B.out⟩
section
variable {w0 wr : World}
end
theorem y3i {w w' : World} {base n : Nat} {u : Value} {l : List UInt8} (h : w.ownsRow base 5 1 u n (u8s l)) (k : Keeps y01 w w') : w'.ownsRow base 5 1 u n (u8s l) := y0g h k (fun _ _ h => h)
theorem y4w {w : World} {g p base n : Nat} {s : ByteArray} {e : TypeId} {v : Value} {xs : List Value} (hk : w.heap[g]? = some (.stringIter s p)) (h : w.ownsRow base e 1 v n xs) : v.ownBlock ≠ some g := by
 rcases h.2 with ⟨rfl, _⟩ | ⟨g', cap, cur, rfl, _, hh, _⟩
 ·simp [Value.ownBlock]
 ·intro he
  have : g' = g := by simpa [Value.ownBlock] using he
  subst this
  rw [hk] at hh
  injection hh with hh
  cases hh
theorem y7u (w : World) (g : Nat) (s : ByteArray) (p : Nat) : Keeps (only g) w (w.iterAt g s p) :=
 ⟨rfl, rfl, rfl, by rw [Lib.iterAt_size]; exact Nat.le_refl _, fun k _ hk => Lib.iterAt_other w g k s p hk⟩
theorem own_iterAt {w : World} {g p p' base n : Nat} {s : ByteArray} {e : TypeId} {v : Value} {xs : List Value} (hk : w.heap[g]? = some (.stringIter s p)) (h : w.ownsRow base e 1 v n xs) : (w.iterAt g s p').ownsRow base e 1 v n xs :=
 y0g h (y7u w g s p') (fun k hv hg => by have hg : k = g := hg; subst hg; exact y4w hk h hv)
def UnitsOk (w0 : World) (l : List UInt8) (e : Ending) (w' : World) : Prop :=
 ∃ v x us, e = .returned (.tuple #[v, x]) ∧ y1p w' x (Pure.secret l).1 ∧ ((Pure.secret l).1 = 0 → w'.ownsRow w0.heap.size 100 1 v us.length (u16s us) ∧ Pure.low us = (Pure.secret l).2 ∧ us.length ≤ 256) ∧ Below w0.heap.size w0 w'
theorem y9x (s : ByteArray) (l : List UInt8) (hl : s.data.toList = l) (hsz : l.length ≤ 1000000) (w : World) (hT : Tabs w) :
  Calls Tryz.prog 149 #[.string s] w (UnitsOk w l) := by
 have hs : s.size = l.length := by rw [← hl]; simp
 have HV := xhd (valid_any s l hl hsz w hT)
 have HL := xhd hl
 clear hl hT
 obtain ⟨U, hU⟩ : ∃ U, U = Pure.units l := ⟨_, rfl⟩
 rw [← hU] at HV
 have HU := xhd hU
 clear hU
 cases U with
 | none =>
  have hsec := Pure.secret_none HU.out.symm
  have HSEC := xhd hsec
  clear hsec
  go_enter Tryz.func149, Tryz.ntmps149
  go_wp2_with fail
  refine HV.out.mono ?_
  rintro e w1 ⟨rfl, hb1⟩
  have H1 := xhd hb1
  clear hb1 HV
  go_wp2_with fail
  refine (of_any _ 4 _ (by omega)).mono ?_
  rintro e w2 ⟨v, rfl, he2, hb2⟩
  have HE2 := xhd he2
  have H2 := xhd (H1.out.trans (hb2.mono H1.out.size))
  clear he2 hb2
  go_wp2_with fail
  go_ret2
  refine ⟨_, _, [], rfl, ?_, fun h => ?_, H2.out⟩
  ·rw [HSEC.out]; exact HE2.out
  ·rw [HSEC.out] at h; cases h
 | some u =>
  go_enter Tryz.func149, Tryz.ntmps149
  go_wp2_with fail
  refine HV.out.mono ?_
  rintro e w1 ⟨rfl, hb1⟩
  have H1 := xhd hb1
  have hgs := hb1.size
  clear hb1 HV
  go_wp2_with fail
  have hlen := fun k acc (h : Pure.unitsFrom (l.drop k) acc = some u) => Pure.unitsFrom_length _ _ acc u (Nat.le_refl _) h
  have HLEN := xhd hlen
  have hit : (w1.iter s 0).heap[w1.heap.size]? = some (.stringIter s 0) := World.iter_heap w1 s 0
  have hi1 : Below w.heap.size w (w1.iter s 0) := H1.out.alloc H1.out.size _
  obtain ⟨g, hg⟩ : ∃ g, g = w1.heap.size := ⟨_, rfl⟩
  rw [← hg] at hit hgs
  obtain ⟨w2, hw2⟩ : ∃ w2, w2 = w1.iter s 0 := ⟨_, rfl⟩
  rw [← hw2] at hit hi1
  have HI := xhd hit
  have HB := xhd hi1
  clear hit hi1 hlen
  rw [← hg, ← hw2]
  clear hg hw2 H1
  have H0 := HU.out
  go_loopw [4] (fun v wr => ∃ (k : Nat) (us : List Nat), k ≤ l.length ∧ wr.heap[g]? = some (.stringIter s k) ∧ wr.ownsRow w.heap.size 100 1 v us.length (u16s us) ∧ us.length ≤ 256 ∧ Pure.unitsFrom (l.drop k) (Pure.low us) = some u ∧ Below w.heap.size w wr) (fun _ wr => l.length - wr.iterPos g)
  case atStart => exact ⟨0, [], by omega, HI.out, World.ownsRow_nil _ _ _ _, by simp, H0.symm, HB.out⟩
  case round =>
   obtain ⟨k, us, hk, hit, hW, hus, hR, hK⟩ := hrel
   obtain ⟨A2, c2, rfl⟩ := y04 hW
   have hmu : wr.iterPos g = k := by simp [World.iterPos, hit]
   have HIT := xhd hit
   have HW := xhd hW
   have HR := xhd hR
   have HK := xhd hK
   have HMU := xhd hmu
   clear hit hW hR hK hmu H0 HI HB
   by_cases hkl : k < l.length
   ·have hne : l.drop k ≠ [] := by
     intro e
     have := congrArg List.length e
     rw [List.length_drop] at this
     simp at this
     omega
    have hz : (Pure.letter (l.drop k)).2 ≠ 0 := by
     intro h
     have := HR.out
     rw [Pure.unitsFrom_bad _ hne h] at this
     cases this
    have hdec : Utf8.decode s k = Pure.letter (l.drop k) := by
     rw [← y7v _ hz, ← HL.out, Lib.decodeL_drop]
    have hstep := Pure.unitsFrom_step (Pure.low us) hne hz
    obtain ⟨z1, z2⟩ := Pure.letter_size (l.drop k) hne
    have hn := Pure.letter_num (l.drop k)
    rw [List.length_drop] at z1
    rw [List.drop_drop] at hstep
    have hnext : ∀ ty, (Instr.next (.pointer (some ⟨g, 0, none⟩)) true ty).run Tryz.prog wr = _ := fun ty => Lib.run_next_any_at wr g s k ty HIT.out (by omega)
    rw [hdec] at hnext
    obtain ⟨n, hn'⟩ : ∃ n, n = (Pure.letter (l.drop k)).1 := ⟨_, rfl⟩
    obtain ⟨z, hz'⟩ : ∃ z, z = (Pure.letter (l.drop k)).2 := ⟨_, rfl⟩
    rw [← hn'] at hn hstep hnext
    rw [← hz'] at z1 z2 hz hstep hnext
    have hR2 := hstep.symm.trans HR.out
    rw [← Pure.low_unit16, ← Pure.low_append] at hR2
    have HR2 := xhd hR2
    have hit1 := Lib.iterAt_heap wr g s k (k + z) HIT.out
    have hW1 := own_iterAt (p' := k + z) HIT.out HW.out
    have hb1 := Lib.below_iterAt HK.out hgs s (k + z)
    obtain ⟨w3, hw3⟩ : ∃ w3, w3 = wr.iterAt g s (k + z) := ⟨_, rfl⟩
    rw [← hw3] at hnext hit1 hW1 hb1
    have HIT1 := xhd hit1
    have HW1 := xhd hW1
    have HB1 := xhd hb1
    have HNL := xhd (Pure.unit16_length n)
    clear hR2 hit1 hW1 hb1 hw3 hdec hstep hn' hz' HR HIT HW HK hne
    go_wp2_with fail
    refine (y6g n hn w3).mono ?_
    rintro e w4 ⟨v4, rfl, hr4, hb4⟩
    have HIT4 := xhd ((hb4.block _ (Array.getElem?_eq_some_iff.1 HIT1.out).1).trans HIT1.out)
    have HW4 := xhd (y0g HW1.out (Keeps.new hb4) (fun _ _ h => h))
    have HB4 := xhd (HB1.out.trans (hb4.mono HB1.out.size))
    have HR4 := xhd hr4
    clear hr4 hb4 hnext HIT1 HW1 HB1
    go_wp2_with (at_builtin; refine y0d ?_)
    unfold Hid
    have hnl := HNL.out
    refine y7j rfl (.tmp 16) (.tmp 18) rfl w.heap.size (.slice A2 us.length c2) us.length us rfl rfl HW4.out _ _ (Pure.unit16 n) rfl HR4.out (by omega) HB4.out.size ?_
    intro v5 w5 hown5 hg5 hat5
    have HB5 := xhd (show Below w.heap.size w w5 from HB4.out.grown hg5 HB4.out.size (fun k hk => y06 HW4.out k hk))
    have HIT5 := xhd ((hg5.block _ (Array.getElem?_eq_some_iff.1 HIT4.out).1 (fun h => y4w HIT4.out HW4.out h.symm)).trans HIT4.out)
    obtain ⟨A5, c5, rfl⟩ := y04 hown5
    obtain ⟨vs, hvs⟩ : ∃ vs, vs = us ++ Pure.unit16 n := ⟨_, rfl⟩
    rw [← hvs] at hown5 HR2 ⊢
    have hvl : us.length < vs.length ∧ vs.length ≤ us.length + 2 := by rw [hvs, List.length_append]; omega
    have HO5 := xhd hown5
    clear hown5 hg5 hat5 hvs HNL hnl HR4 HW4 HIT4 HB4
    by_cases hbig : 256 < vs.length
    ·have d0 : decide ((256 : Int) < (vs.length : Int)) = true := decide_eq_true (by omega)
     have hl2 := HLEN.out _ _ HR2.out
     rw [Pure.low_length] at hl2
     have HSEC := xhd (Pure.secret_long HU.out.symm (by omega))
     clear hl2
     go_wp2_with fail
     refine (of_any _ 3 _ (by omega)).mono ?_
     rintro e w6 ⟨v6, rfl, he6, hb6⟩
     have HE6 := xhd he6
     have H6 := xhd (HB5.out.trans (hb6.mono HB5.out.size))
     clear he6 hb6
     go_wp2_with fail
     go_ret2
     refine ⟨_, _, [], rfl, ?_, fun h => ?_, H6.out⟩
     ·rw [HSEC.out]; exact HE6.out
     ·rw [HSEC.out] at h; cases h
    ·have d0 : decide ((256 : Int) < (vs.length : Int)) = false := decide_eq_false (by omega)
     go_wp2_with fail
     go_roundw
     case rel => exact ⟨k + z, vs, by omega, HIT5.out, HO5.out, by omega, HR2.out, HB5.out⟩
     case measure =>
      have e2 : w5.iterPos g = k + z := by simp [World.iterPos, HIT5.out]
      rw [HMU.out, e2]
      omega
   ·have hkk : k = l.length := by omega
    subst hkk
    have hnext : ∀ ty, (Instr.next (.pointer (some ⟨g, 0, none⟩)) true ty).run Tryz.prog wr = _ := fun ty => Lib.run_next_end_at wr g s l.length ty HIT.out (by omega)
    have hend := HR.out
    rw [List.drop_length, Pure.unitsFrom_nil] at hend
    injection hend with hend
    have hsec : Pure.secret l = (0, Pure.low us) := by
     rw [Pure.secret_some HU.out.symm (by rw [← hend, Pure.low_length]; omega), hend]
    have HSEC := xhd hsec
    clear hend hsec HR
    go_wp2_with fail
    go_ret2
    refine ⟨_, _, us, rfl, ?_, fun _ => ⟨HW.out, ?_, hus⟩, HK.out⟩
    ·rw [HSEC.out]; exact .inl ⟨rfl, rfl⟩
    ·rw [HSEC.out]
abbrev ints (l : List Nat) : List Value := l.map fun (b : Nat) => Value.int .i64 (b : Int)
theorem ints_at (l : List Nat) (j : Nat) (h : j < l.length) : (ints l)[j]? = some (.int .i64 ((l.getD j 0 : Nat) : Int)) := by
 rw [List.getElem?_map, List.getElem?_eq_getElem h, List.getD_eq_getElem?_getD, List.getElem?_eq_getElem h]; rfl
theorem int_info : (Tryz.prog.info? 3).map (fun i => (i.zero, i.size, i.bytes)) = some (some (.int .i64 0), 1, 8) := by kernel_rfl
theorem irow_new (w : World) (l : List Nat) (cs : Array Value) (n : Nat) (hc : cs = (ints l).toArray) (hn : n = l.length) (hl : l.length ≤ 100000) : Row (w.alloc (.cells cs 3)) (fun b => b = w.heap.size) 1 (.slice (some ⟨w.heap.size, 0, none⟩) n n) l.length (ints l) := by
 subst hc hn
 exact Row.block (Blk.new w 3 (ints l).toArray) rfl (by simp) (by unfold maxLen; omega) (Nat.le_refl _)
theorem take_snoc {α : Type} (l : List α) (d : α) (k : Nat) (h : k < l.length) : l.take (k + 1) = l.take k ++ [l.getD k d] := by
 rw [List.getD_eq_getElem?_getD, List.getElem?_eq_getElem h]
 exact (List.take_append_getElem h).symm
section
variable {w : World} {ops : Array Oper} {rest : List Oper} {o : Oper} {a : Act} {Q : Exit → Act → World → Prop}
theorem made_bytes (n : Nat) : madeCells (Value.int .u8 0).cells (n * 1) = (u8s (List.replicate n 0)).toArray := by
 rw [show (Value.int .u8 0).cells = #[.int .u8 0] from rfl]
 apply Array.ext_getElem?
 intro i
 simp only [madeCells, Nat.mul_one]
 by_cases h : i < n
 ·simp [h, Nat.mod_one]
 ·simp [h]
theorem y6h (hg : o.guard = none) (l c : Operand) (hop : o.op = Op.makeSlice 29 l c) (n : Nat) (kl kc : IntKind) (hl : a.eval l = .int kl (n : Int)) (hc : a.eval c = .int kc (n : Int)) (hn : n ≤ 1000000)
  (hK : ∀ w', Blk w' w.heap.size 5 (u8s (List.replicate n 0)).toArray → Keeps y01 w w' → w'.heap.size = w.heap.size + 1 → wpList Tryz.prog ops Q rest (a.put o.dst (.slice (some ⟨w.heap.size, 0, none⟩) n n)) w') :
  wpList Tryz.prog ops Q (o :: rest) a w := by
 obtain ⟨i0, hi0, hz0, hz1, hz2⟩ := info_parts y1w
 refine wpList_plain hg fun K hK' => ?_
 have hrun := run_make (P := Tryz.prog) w 29 5 i0 _ Tryz.underlying29 hi0 hz0 kl kc n n (by omega) (by omega) (by rw [hz2]; omega) (by omega)
 rw [hz1, Int.toNat_natCast, made_bytes] at hrun
 obtain ⟨w', hw'⟩ : ∃ w', w' = w.alloc (.cells (u8s (List.replicate n 0)).toArray 5) := ⟨_, rfl⟩
 rw [← hw'] at hrun
 unfold Oper.wp
 simp [execOp, hop, hl, hc, hrun, Result.andThen]
 exact hK' _ _ (hK w' (by rw [hw']; exact Blk.new w _ _) (by rw [hw']; exact (Keeps.refl _ w).alloc _) (by rw [hw']; simp))
end
section
variable {P : Program} {ops : Array Oper} {Q : Exit → Act → World → Prop} {md : Region.Mode} {S : World → Prop} {z : Nat}
def y11 (P : Program) (md : Region.Mode) (ops : Array Oper) (Q : Exit → Act → World → Prop) (S : World → Prop) (z : Nat) : Nat → Array Bool → Act → World → Prop
 | 0, listed, a, w => Region.ready md ops listed = [] ∧ Q .normal a w
 | fuel + 1, listed, a, w =>
  (Region.ready md ops listed = [] → Q .normal a w) ∧
  ∀ i ∈ Region.ready md ops listed, wpOp P ops Q i (fun a' w' => (i ≠ z → S w') ∧ y11 P md ops Q S z fuel (listed.setIfInBounds i true) a' w') a w
theorem y37 : ∀ (fuel : Nat) (listed : Array Bool) (a : Act) (w : World), y11 P md ops Q S z fuel listed a w → wpAny P md ops Q fuel listed a w
 | 0, _, _, _, h => h
 | fuel + 1, _, _, _, h => ⟨h.1, fun i hi => wpOp_mono (fun a' w' h' => y37 fuel _ a' w' h'.2) (h.2 i hi)⟩
inductive Waits (md : Region.Mode) (ops : Array Oper) (z : Nat) : Nat → Prop
 | one {o : Oper} {e : Edge} (ho : ops[z]? = some o) (he : e ∈ o.after) (hb : Region.binds md e = true) : Waits md ops z e.on
 | more {k : Nat} {o : Oper} {e : Edge} (h : Waits md ops z k) (ho : ops[k]? = some o) (he : e ∈ o.after) (hb : Region.binds md e = true) : Waits md ops z e.on
def y68 (md : Region.Mode) : List Edge → Array Bool → Array Bool
 | [], r => r
 | e :: es, r => y68 md es (if Region.binds md e = true then r.setIfInBounds e.on true else r)
def y3m (md : Region.Mode) (ops : Array Oper) : Nat → Array Bool → Array Bool
 | 0, r => r
 | k + 1, r => y3m md ops k (if r.getD k false = true then (match ops[k]? with | some o => y68 md o.after.toList r | none => r) else r)
def y2b (md : Region.Mode) (ops : Array Oper) (z i : Nat) : Bool := (y3m md ops ops.size ((Array.replicate ops.size false).setIfInBounds z true)).getD i false && i != z
theorem y2t {r : Array Bool} {i j : Nat} (h : (r.setIfInBounds i true).getD j false = true) : j = i ∨ r.getD j false = true := by
 by_cases hij : i = j
 ·exact .inl hij.symm
 ·rw [getD_set_ne false hij] at h
  exact .inr h
theorem y3a {z : Nat} (hz : ∀ e, Region.binds md e = true → (∃ k o, ops[k]? = some o ∧ e ∈ o.after ∧ (k = z ∨ Waits md ops z k)) → Waits md ops z e.on) :
  ∀ (es : List Edge) (r : Array Bool), (∀ e ∈ es, ∃ k o, ops[k]? = some o ∧ e ∈ o.after ∧ (k = z ∨ Waits md ops z k)) → (∀ j, r.getD j false = true → j = z ∨ Waits md ops z j) →
   ∀ j, (y68 md es r).getD j false = true → j = z ∨ Waits md ops z j
 | [], _, _, hr => hr
 | e :: es, r, he, hr => by
  refine y3a hz es _ (fun e' h' => he e' (by simp [h'])) (fun j hj => ?_)
  split at hj
  ·rename_i hb
   rcases y2t hj with rfl | hj
   ·exact .inr (hz e hb (he e (by simp)))
   ·exact hr j hj
  ·exact hr j hj
theorem y7h {z : Nat} (e : Edge) (hb : Region.binds md e = true) (h : ∃ k o, ops[k]? = some o ∧ e ∈ o.after ∧ (k = z ∨ Waits md ops z k)) : Waits md ops z e.on := by
 obtain ⟨k, o, ho, he, rfl | hk⟩ := h
 ·exact .one ho he hb
 ·exact .more hk ho he hb
theorem y2q {z : Nat} : ∀ (k : Nat) (r : Array Bool), (∀ j, r.getD j false = true → j = z ∨ Waits md ops z j) → ∀ j, (y3m md ops k r).getD j false = true → j = z ∨ Waits md ops z j
 | 0, _, hr => hr
 | k + 1, r, hr => by
  refine y2q k _ (fun j hj => ?_)
  split at hj
  ·rename_i hk
   cases ho : ops[k]? with
   | none => rw [ho] at hj; exact hr j hj
   | some o =>
    rw [ho] at hj
    exact y3a (fun e hb h => y7h e hb h) o.after.toList r (fun e he => ⟨k, o, ho, by simpa using he, hr k hk⟩) hr j hj
  ·exact hr j hj
theorem rep_false (n j : Nat) : (Array.replicate n false).getD j false = false := by
 rw [Array.getD_eq_getD_getElem?, Array.getElem?_replicate]
 split <;> rfl
theorem y3z {z i : Nat} (h : y2b md ops z i = true) : Waits md ops z i := by
 unfold y2b at h
 simp only [Bool.and_eq_true, bne_iff_ne, ne_eq] at h
 rcases y2q (md := md) (ops := ops) (z := z) ops.size _ (fun j hj => by
  rcases y2t hj with rfl | hj
  ·exact .inl rfl
  ·rw [rep_false] at hj
   cases hj) i h.1 with h1 | h1
 ·exact absurd h1 h.2
 ·exact h1
def y2k (md : Region.Mode) (ops : Array Oper) (listed : Array Bool) : Prop :=
 ∀ (j : Nat) (o : Oper), ops[j]? = some o → listed.getD j false = true → ∀ e ∈ o.after, Region.binds md e = true → listed.getD e.on false = true
def y3t (md : Region.Mode) (ops : Array Oper) (listed : Array Bool) : Bool :=
 (List.range ops.size).all fun j => !listed.getD j false || match ops[j]? with
  | none => true
  | some o => o.after.all fun e => !Region.binds md e || listed.getD e.on false
theorem closed_of {listed : Array Bool} (h : y3t md ops listed = true) : y2k md ops listed := by
 intro j o ho hl e he hb
 simp only [y3t, List.all_eq_true, List.mem_range] at h
 have := h j (Array.getElem?_eq_some_iff.1 ho).1
 rw [hl, ho] at this
 simp only [Bool.not_true, Bool.false_or] at this
 have := Array.all_eq_true'.1 this e he
 rw [hb] at this
 simpa using this
theorem y2k.set {listed : Array Bool} (h : y2k md ops listed) {i : Nat} (hr : i ∈ Region.ready md ops listed) : y2k md ops (listed.setIfInBounds i true) := by
 intro j o ho hl e he hb
 by_cases hij : i = j
 ·subst hij
  obtain ⟨_, o', ho', hall⟩ := mem_ready.1 hr
  rw [ho] at ho'
  injection ho' with ho'
  subst ho'
  exact getD_set_true (hall e he hb)
 ·rw [getD_set_ne false hij] at hl
  exact getD_set_true (h j o ho hl e he hb)
theorem y85 {listed : Array Bool} (hc : y2k md ops listed) {z i : Nat} (h : Waits md ops z i) (hz : ∀ o, ops[z]? = some o → ∀ e ∈ o.after, Region.binds md e = true → listed.getD e.on false = true) : listed.getD i false = true := by
 induction h with
 | one ho he hb => exact hz _ ho _ he hb
 | more _ ho he hb ih => exact hc _ _ ho ih _ he hb
theorem y3p {i : Nat} {listed : Array Bool} (hc : y2k md ops listed) (h : y2b md ops z i = true) (hi : listed.getD i true = false) (hs : i < listed.size) : z ∉ Region.ready md ops listed := by
 intro hz
 obtain ⟨_, o, ho, hall⟩ := mem_ready.1 hz
 have h1 := y85 hc (y3z h) (fun o' ho' e he hb => by
  rw [ho] at ho'
  injection ho' with ho'
  subst ho'
  exact hall e he hb)
 simp [hs] at h1 hi
 rw [hi] at h1
 cases h1
theorem y86 {i : Nat} {oi : Oper} {v : Value} (hi : ops[i]? = some oi) (hsel : ∀ (j : Nat) (o : Oper) cs b, ops[j]? = some o → o.op ≠ .select cs b)
  (hQ : ∀ c a w, Q (.panic c) (a.put oi.dst v) w → Q (.panic c) a w) (hz : y2b md ops z i = true) :
  ∀ (fuel : Nat) (listed : Array Bool) (a : Act) (w : World),
   (∀ j oj, ops[j]? = some oj → j ≠ i → listed.getD j true = false → (∀ e ∈ oj.after, Region.binds md e = true → e.on ≠ i) → oi.apart ops oj = true) →
   y2k md ops listed → i < listed.size → i ∈ Region.ready md ops listed → YieldsIf P ops S oi v a → S w →
   y11 P md ops Q S z fuel (listed.setIfInBounds i true) (a.put oi.dst v) w → y11 P md ops Q S z (fuel + 1) listed a w := by
 intro fuel
 induction fuel with
 | zero =>
  intro listed a w _ _ _ hr hy hS H
  refine ⟨fun h => (by rw [h] at hr; cases hr), fun j hj => ?_⟩
  by_cases hji : j = i
  ·subst hji; exact hy.wpOp hi hS ⟨fun _ => hS, H⟩
  ·have := ready_mono hj hji
   rw [H.1] at this
   cases this
 | succ fuel ih =>
  intro listed a w hfree hcl hsz hr hy hS H
  refine ⟨fun h => (by rw [h] at hr; cases hr), fun j hj => ?_⟩
  by_cases hji : j = i
  ·subst hji; exact hy.wpOp hi hS ⟨fun _ => hS, H⟩
  ·have hjz : j ≠ z := fun e => y3p hcl hz (mem_ready.1 hr).1 hsz (e ▸ hj)
   have h1 := H.2 j (ready_mono hj hji)
   obtain ⟨hjun, oj, hoj, hall⟩ := mem_ready.1 hj
   have hnot : ∀ e ∈ oj.after, Region.binds md e = true → e.on ≠ i := fun e he hb heq => by
    have h1 := hall e he hb
    have h0 := (mem_ready.1 hr).1
    rw [heq] at h1
    simp [hsz] at h0 h1
    rw [h0] at h1
    cases h1
   have h2 := wpOp_putIf hoj (hfree j oj hoj hji hjun hnot) (fun cs b => hsel i oi cs b hi) (fun cs b => hsel j oj cs b hoj) hQ hy h1
   have hfree' : ∀ k ok, ops[k]? = some ok → k ≠ i → (listed.setIfInBounds j true).getD k true = false →
     (∀ e ∈ ok.after, Region.binds md e = true → e.on ≠ i) → oi.apart ops ok = true := fun k ok hk hki hun hno => by
    refine hfree k ok hk hki ?_ hno
    by_cases hjk : j = k
    ·subst hjk; exact hjun
    ·rw [getD_set_ne true hjk] at hun; exact hun
   refine wpOp_mono (fun a' w' h3 => ⟨fun _ => h3.2.1 hjz, ih (listed.setIfInBounds j true) a' w' hfree' (hcl.set hj) (by simpa using hsz) (ready_mono hr (Ne.symm hji)) h3.1 (h3.2.1 hjz) ?_⟩) h2
   rw [Array.setIfInBounds_comm _ _ hji]
   exact h3.2.2
theorem y00 {i : Nat} {oi : Oper} {v : Value} {fuel : Nat} {listed : Array Bool} {a : Act} {w : World} (hi : ops[i]? = some oi)
  (hc : (Region.noSelect ops && Region.free md ops listed i && (Region.ready md ops listed).contains i && y2b md ops z i && decide (i < listed.size) && y3t md ops listed) = true)
  (hQ : ∀ c a w, Q (.panic c) (a.put oi.dst v) w → Q (.panic c) a w) (hy : YieldsIf P ops S oi v a) (hS : S w)
  (h : y11 P md ops Q S z fuel (listed.setIfInBounds i true) (a.put oi.dst v) w) : y11 P md ops Q S z (fuel + 1) listed a w := by
 simp only [Bool.and_eq_true, decide_eq_true_eq] at hc
 obtain ⟨⟨⟨⟨⟨h1, h2⟩, h3⟩, h4⟩, h5⟩, h6⟩ := hc
 exact y86 hi (Region.noSelect_spec h1) hQ h4 fuel listed a w (Region.free_spec hi h2) (closed_of h6) h5 (by simpa using h3) hy hS h
theorem y05 {i : Nat} {o : Oper} {fuel : Nat} {listed : Array Bool} {a : Act} {w : World} (hr : Region.ready md ops listed = [i]) (ho : ops[i]? = some o)
  (h : ∀ K' : Act → World → Prop, Shut (∀ a w, (i ≠ z → S w) → y11 P md ops Q S z fuel (listed.setIfInBounds i true) a w → K' a w) →
   if Region.wanted o (yielded ops a.tmps) = true then Oper.wp P o a w K' Q else K' (a.put o.dst undef) w) : y11 P md ops Q S z (fuel + 1) listed a w :=
 ⟨fun h0 => (by rw [h0] at hr; cases hr), fun j hj => by
  rw [hr] at hj
  obtain rfl : j = i := by simpa using hj
  exact wpOp_step ho (fun K' hK => h K' (fun a w hS hW => hK a w ⟨hS, hW⟩))⟩
def y1q (size : Nat) : Nat → Array Bool
 | 0 => Array.replicate size false
 | n + 1 => (y1q size n).setIfInBounds n true
theorem y0t {n size : Nat} {oi : Oper} {v : Value} {fuel : Nat} {a : Act} {w : World} (hi : ops[n]? = some oi)
  (hc : (Region.noSelect ops && Region.free md ops (y1q size n) n && (Region.ready md ops (y1q size n)).contains n && y2b md ops z n && decide (n < (y1q size n).size) && y3t md ops (y1q size n)) = true)
  (hQ : ∀ c a w, Q (.panic c) (a.put oi.dst v) w → Q (.panic c) a w) (hy : YieldsIf P ops S oi v a) (hS : S w)
  (h : y11 P md ops Q S z fuel (y1q size (n + 1)) (a.put oi.dst v) w) : y11 P md ops Q S z (fuel + 1) (y1q size n) a w :=
 y00 hi hc hQ hy hS h
theorem y0u {n size : Nat} {o : Oper} {fuel : Nat} {a : Act} {w : World} (hr : Region.ready md ops (y1q size n) = [n]) (ho : ops[n]? = some o)
  (h : ∀ K' : Act → World → Prop, Shut (∀ a w, (n ≠ z → S w) → y11 P md ops Q S z fuel (y1q size (n + 1)) a w → K' a w) →
   if Region.wanted o (yielded ops a.tmps) = true then Oper.wp P o a w K' Q else K' (a.put o.dst undef) w) : y11 P md ops Q S z (fuel + 1) (y1q size n) a w :=
 y05 hr ho h
theorem wpAnyZ_two {i j : Nat} {o o' : Oper} {fuel : Nat} {listed : Array Bool} {a : Act} {w : World} (hr : Region.ready md ops listed = [i, j]) (ho : ops[i]? = some o) (ho' : ops[j]? = some o')
  (h : ∀ K' : Act → World → Prop, Shut (∀ a w, (i ≠ z → S w) → y11 P md ops Q S z fuel (listed.setIfInBounds i true) a w → K' a w) →
   if Region.wanted o (yielded ops a.tmps) = true then Oper.wp P o a w K' Q else K' (a.put o.dst undef) w)
  (h' : ∀ K' : Act → World → Prop, Shut (∀ a w, (j ≠ z → S w) → y11 P md ops Q S z fuel (listed.setIfInBounds j true) a w → K' a w) →
   if Region.wanted o' (yielded ops a.tmps) = true then Oper.wp P o' a w K' Q else K' (a.put o'.dst undef) w) : y11 P md ops Q S z (fuel + 1) listed a w :=
 ⟨fun h0 => (by rw [h0] at hr; cases hr), fun k hk => by
  rw [hr] at hk
  rcases List.mem_cons.1 hk with rfl | hk
  ·exact wpOp_step ho (fun K' hK => h K' (fun a w hS hW => hK a w ⟨hS, hW⟩))
  ·obtain rfl : k = j := by simpa using hk
   exact wpOp_step ho' (fun K' hK => h' K' (fun a w hS hW => hK a w ⟨hS, hW⟩))⟩
theorem y0f {listed : Array Bool} {a : Act} {w : World} (hr : Region.ready md ops listed = []) (h : Q .normal a w) :
  ∀ fuel, y11 P md ops Q S z fuel listed a w
 | 0 => ⟨hr, h⟩
 | _ + 1 => ⟨fun _ => h, by rw [hr]; simp⟩
theorem y0i {id : Nat} {a : Act} {w : World} (S : World → Prop) (z size : Nat) (hsz : ops.size = size) (hm : P.follows .mixedOrders = true) (hS : S w.drew)
  (h : Go.RowKit.Hid (S w.drew) → y11 P .any ops Q S z size (y1q size 0) a w.drew) : (Code.region id ops true).wp P Q a w :=
 wp_region_any hm (by rw [hsz]; exact y37 size _ _ _ (h hS))
end
theorem str_at (s : ByteArray) (l : List UInt8) (hl : s.data.toList = l) (k : Nat) (hk : k < s.size) : (s[k]'hk).toNat = (l.getD k 0).toNat := by
 subst hl
 have e : s.data.toList[k]? = some s[k] := by
  rw [List.getElem?_eq_getElem (by simpa using hk)]; rfl
 rw [List.getD_eq_getElem?_getD, e]; rfl
theorem top2_u8 (c : UInt8) : bits .and .u8 (c.toNat : Int) 192 = ((64 * (c.toNat / 64) : Nat) : Int) := by
 have h := u8_and_nat c.toNat 192 c.toNat_lt (by omega)
 have e : ∀ n : Fin 256, n.val &&& 192 = 64 * (n.val / 64) := by decide +kernel
 rw [e ⟨c.toNat, c.toNat_lt⟩] at h
 exact h
theorem low6_u8 (c : UInt8) : bits .and .u8 (c.toNat : Int) 63 = ((c.toNat % 64 : Nat) : Int) := by
 have h := u8_and_nat c.toNat 63 c.toNat_lt (by omega)
 rw [show (63 : Nat) = 2 ^ 6 - 1 by rfl, Nat.and_two_pow_sub_one_eq_mod] at h
 exact h
theorem y67 (b n : Nat) (hb : b < 256) (hn : n ≤ 5) : bits .and .i64 (b : Int) ((2 ^ n - 1 : Nat) : Int) = ((b % 2 ^ n : Nat) : Int) := by
 have h1 : (2 : Nat) ^ n ≤ 2 ^ 5 := Nat.pow_le_pow_right (by omega) hn
 rw [y8h b (2 ^ n - 1) (by omega) (by omega), Nat.and_two_pow_sub_one_eq_mod]
theorem letter_any (s : ByteArray) (l : List UInt8) (hl : s.data.toList = l) (hne : 0 < l.length) (hsz : l.length ≤ 1000000) (w : World) :
  Calls Tryz.prog 151 #[.string s] w fun e w' => e = .returned (.tuple #[.int .i64 (((Pure.letter l).1 : Nat) : Int), .int .i64 (((Pure.letter l).2 : Nat) : Int)]) ∧ Keeps y01 w w' := by
 have hs : s.size = l.length := by rw [← hl]; simp
 have h0 : 0 < s.size := by omega
 obtain ⟨B, hB⟩ : ∃ B, B = (l.getD 0 0).toNat := ⟨_, rfl⟩
 have hB2 : B < 256 := by rw [hB]; exact UInt8.toNat_lt _
 have hsB : (s[0]'h0).toNat = B := by rw [hB]; exact str_at s l hl 0 h0
 have HB := xhd hB
 have HL := xhd hl
 have HSZ := xhd hs
 clear hB hl
 go_enter Tryz.func151, Tryz.ntmps151
 go_upto_region 2 with fail
 by_cases hb : B < 128
 ·have hlt := Pure.letter_plain l (by rw [← HB.out]; exact hb)
  rw [← HB.out] at hlt
  have HLT := xhd hlt
  clear hlt
  go_wp2
  go_ret2
  exact ⟨by rw [HLT.out]; rfl, Keeps.refl _ _⟩
 ·have hb1 : ¬ (B : Int) < 128 := by omega
  have H128 := xhd (show 128 ≤ B by omega)
  clear hb
  go_upto_block 0 with fail
  go_cut [5, 6] (fun n x wx => ∃ N X : Nat, n = .int .i64 (N : Int) ∧ x = .int .i64 (X : Int) ∧ Pure.head B = (N, X) ∧ wx = w)
  case first =>
   rcases (show B < 194 ∨ (194 ≤ B ∧ B ≤ 223) ∨ (224 ≤ B ∧ B ≤ 239) ∨ (240 ≤ B ∧ B ≤ 244) ∨ 244 < B by omega) with hc | hc | hc | hc | hc
   ·have d0 : decide ((194 : Int) ≤ (B : Int)) = false := decide_eq_false (by omega)
    have d1 : decide ((224 : Int) ≤ (B : Int)) = false := decide_eq_false (by omega)
    have d2 : decide ((240 : Int) ≤ (B : Int)) = false := decide_eq_false (by omega)
    have hh : Pure.head B = (0, 0) := by
     rcases Pure.head_cases B with ⟨e, h⟩ | ⟨e, h⟩ | ⟨e, h⟩ | ⟨e, h⟩ <;> first | exact e | (exfalso; omega)
    have HH := xhd hh
    clear hh hc
    go_wp2
    go_meet
    exact ⟨0, 0, rfl, rfl, HH.out, rfl⟩
   ·have d0 : decide ((194 : Int) ≤ (B : Int)) = true := decide_eq_true (by omega)
    have d1 : decide ((B : Int) ≤ 223) = true := decide_eq_true (by omega)
    obtain ⟨X, hX⟩ : ∃ X, X = B % 32 := ⟨_, rfl⟩
    have e1 : bits .and .i64 (B : Int) 31 = (X : Int) := by
     have h := y67 B 5 hB2 (by omega)
     rw [hX]; exact h
    have hh : Pure.head B = (2, X) := by
     rw [hX]
     rcases Pure.head_cases B with ⟨e, h⟩ | ⟨e, h⟩ | ⟨e, h⟩ | ⟨e, h⟩ <;> first | exact e | (exfalso; omega)
    have HH := xhd hh
    clear hh hX hc
    go_wp2
    go_meet
    exact ⟨2, X, rfl, rfl, HH.out, rfl⟩
   ·have d0 : decide ((194 : Int) ≤ (B : Int)) = true := decide_eq_true (by omega)
    have d1 : decide ((B : Int) ≤ 223) = false := decide_eq_false (by omega)
    have d2 : decide ((224 : Int) ≤ (B : Int)) = true := decide_eq_true (by omega)
    have d3 : decide ((B : Int) ≤ 239) = true := decide_eq_true (by omega)
    obtain ⟨X, hX⟩ : ∃ X, X = B % 16 := ⟨_, rfl⟩
    have e1 : bits .and .i64 (B : Int) 15 = (X : Int) := by
     have h := y67 B 4 hB2 (by omega)
     rw [hX]; exact h
    have hh : Pure.head B = (3, X) := by
     rw [hX]
     rcases Pure.head_cases B with ⟨e, h⟩ | ⟨e, h⟩ | ⟨e, h⟩ | ⟨e, h⟩ <;> first | exact e | (exfalso; omega)
    have HH := xhd hh
    clear hh hX hc
    go_wp2
    go_meet
    exact ⟨3, X, rfl, rfl, HH.out, rfl⟩
   ·have d0 : decide ((194 : Int) ≤ (B : Int)) = true := decide_eq_true (by omega)
    have d1 : decide ((B : Int) ≤ 223) = false := decide_eq_false (by omega)
    have d2 : decide ((224 : Int) ≤ (B : Int)) = true := decide_eq_true (by omega)
    have d3 : decide ((B : Int) ≤ 239) = false := decide_eq_false (by omega)
    have d4 : decide ((240 : Int) ≤ (B : Int)) = true := decide_eq_true (by omega)
    have d5 : decide ((B : Int) ≤ 244) = true := decide_eq_true (by omega)
    obtain ⟨X, hX⟩ : ∃ X, X = B % 8 := ⟨_, rfl⟩
    have e1 : bits .and .i64 (B : Int) 7 = (X : Int) := by
     have h := y67 B 3 hB2 (by omega)
     rw [hX]; exact h
    have hh : Pure.head B = (4, X) := by
     rw [hX]
     rcases Pure.head_cases B with ⟨e, h⟩ | ⟨e, h⟩ | ⟨e, h⟩ | ⟨e, h⟩ <;> first | exact e | (exfalso; omega)
    have HH := xhd hh
    clear hh hX hc
    go_wp2
    go_meet
    exact ⟨4, X, rfl, rfl, HH.out, rfl⟩
   ·have d0 : decide ((194 : Int) ≤ (B : Int)) = true := decide_eq_true (by omega)
    have d1 : decide ((B : Int) ≤ 223) = false := decide_eq_false (by omega)
    have d2 : decide ((224 : Int) ≤ (B : Int)) = true := decide_eq_true (by omega)
    have d3 : decide ((B : Int) ≤ 239) = false := decide_eq_false (by omega)
    have d4 : decide ((240 : Int) ≤ (B : Int)) = true := decide_eq_true (by omega)
    have d5 : decide ((B : Int) ≤ 244) = false := decide_eq_false (by omega)
    have hh : Pure.head B = (0, 0) := by
     rcases Pure.head_cases B with ⟨e, h⟩ | ⟨e, h⟩ | ⟨e, h⟩ | ⟨e, h⟩ <;> first | exact e | (exfalso; omega)
    have HH := xhd hh
    clear hh hc
    go_wp2
    go_meet
    exact ⟨0, 0, rfl, rfl, HH.out, rfl⟩
  case rest =>
   obtain ⟨N, X, rfl, rfl, hH, rfl⟩ := hcut
   have hNX : N = 0 ∨ (2 ≤ N ∧ N ≤ 4 ∧ X < 32) := by
    rcases Pure.head_cases B with ⟨e, h⟩ | ⟨e, h⟩ | ⟨e, h⟩ | ⟨e, h⟩ <;> (rw [e] at hH; injection hH with h1 h2; omega)
   have HH := xhd (show Pure.head (l.getD 0 0).toNat = (N, X) by rw [← HB.out]; exact hH)
   have HB128 := xhd (show 128 ≤ (l.getD 0 0).toNat by rw [← HB.out]; exact H128.out)
   clear hH
   by_cases hN : N = 0
   ·have hlt := Pure.letter_none l HB128.out (by rw [HH.out]; exact hN)
    have HLT := xhd hlt
    subst hN
    clear hlt hNX
    go_wp2
    go_ret2
    exact ⟨by rw [HLT.out]; rfl, Keeps.refl _ _⟩
   ·obtain ⟨n1, n2, n3⟩ : 2 ≤ N ∧ N ≤ 4 ∧ X < 32 := by omega
    have d0 : ((N : Int) == 0) = false := by rw [beq_eq_false_iff_ne]; omega
    clear hNX
    by_cases hlen : l.length < N
    ·have hf : Pure.follows l (N - 1) = false := by
      unfold Pure.follows
      rw [decide_eq_false (by omega)]; rfl
     have hlt := Pure.letter_bad l HB128.out (N - 1) (by omega) (by rw [HH.out]; show N - 1 < N; omega) hf
     have HLT := xhd hlt
     have d1 : decide ((s.size : Int) < (N : Int)) = true := decide_eq_true (by omega)
     have d3 : decide ((l.length : Int) < (N : Int)) = true := decide_eq_true (by omega)
     have d5 : decide (l.length < N) = true := decide_eq_true hlen
     clear hlt hf
     go_wp2
     go_ret2
     exact ⟨by rw [HLT.out]; rfl, Keeps.refl _ _⟩
    ·have d1 : decide ((s.size : Int) < (N : Int)) = false := decide_eq_false (by omega)
     go_wp2_with fail
     clear d1 d0
     go_loopw [6, 7] (fun x i wr => ∃ k : Nat, 1 ≤ k ∧ k ≤ N ∧ i = .int .i64 (k : Int) ∧ x = .int .i64 ((Pure.sum6 l X (k - 1) : Nat) : Int) ∧ (∀ j, 1 ≤ j → j < k → Pure.follows l j = true) ∧ wr = wc) (fun _ i _ => N - (intOf i).toNat)
     case atStart => exact ⟨1, by omega, by omega, rfl, rfl, fun j h1 h2 => by omega, rfl⟩
     case round =>
      obtain ⟨k, hk1, hk, rfl, rfl, hfo, rfl⟩ := hrel
      have HFO := xhd hfo
      clear hfo
      have hsum := Pure.sum6_lt l X (k - 1) n3 (by omega)
      by_cases hkl : k < N
      ·have i0 : (0 : Int) ≤ (k : Int) := by omega
       have i1 : k < s.size := by omega
       have i2 : (k : Int) < (s.size : Int) := by omega
       have i3 : (k : Int) < (N : Int) := by omega
       obtain ⟨c, hc⟩ : ∃ c, c = l.getD k 0 := ⟨_, rfl⟩
       have hsk : (s[k]'i1).toNat = c.toNat := by rw [hc]; exact str_at s l HL.out k i1
       have hfk : Pure.follows l k = (c.toNat / 64 == 2) := by
        unfold Pure.follows
        rw [decide_eq_true (by omega), hc, Bool.true_and]
       have hsx : Pure.six l k = c.toNat % 64 := by rw [hc]; rfl
       have t2 := top2_u8 c
       have t6 := low6_u8 c
       have hcl := c.toNat_lt
       obtain ⟨C, hC⟩ : ∃ C, C = c.toNat := ⟨_, rfl⟩
       rw [← hC] at hsk hfk hsx t2 t6 hcl
       obtain ⟨D, hD⟩ : ∃ D, D = 64 * (C / 64) := ⟨_, rfl⟩
       rw [← hD] at t2
       obtain ⟨S, hS⟩ : ∃ S, S = Pure.sum6 l X (k - 1) := ⟨_, rfl⟩
       rw [← hS] at hsum ⊢
       by_cases hfl : C / 64 = 2
       ·have d2 : ((D : Int) != 128) = false := by rw [show D = 128 by omega]; rfl
        obtain ⟨E, hE⟩ : ∃ E, E = C % 64 := ⟨_, rfl⟩
        rw [← hE] at t6 hsx
        obtain ⟨S', hS'⟩ : ∃ S', S' = Pure.sum6 l X k := ⟨_, rfl⟩
        have hSS : S' = S * 64 + E := by
         rw [hS', hS, ← hsx]
         obtain ⟨m, rfl⟩ : ∃ m, k = m + 1 := ⟨k - 1, by omega⟩
         rfl
        have e3 : bits .or .i64 ((S : Int) * 64) (E : Int) = (S' : Int) := by
         have h := y30 (S * 64) E (by omega) (by omega)
         rw [show S * 64 ||| E = S' by rw [hSS, show (64 : Nat) = 2 ^ 6 by rfl, ← Nat.shiftLeft_eq, Nat.shiftLeft_add_eq_or_of_lt (show E < 2 ^ 6 by omega)]] at h
         simpa using h
        have e4 : wrap64 (E : Int) = (E : Int) := IntWalk.wrap64_in _ (by omega)
        have HF := xhd (show ∀ j, 1 ≤ j → j < k + 1 → Pure.follows l j = true from fun j h1 h2 => by
         by_cases hj : j < k
         ·exact HFO.out j h1 hj
         ·rw [show j = k by omega, hfk, hfl]; rfl)
        have HS' := xhd hS'
        clear hc hfk hsx hC hD hS hE hS' hSS hfl
        go_wp2_with fail
        go_roundw
        case rel => exact ⟨k + 1, by omega, by omega, by go_num, by rw [HS'.out]; rfl, HF.out, trivial⟩
        case measure => simp [intOf]; omega
       ·have d2 : ((D : Int) != 128) = true := by rw [bne_iff_ne]; omega
        have hlt := Pure.letter_bad l HB128.out k hk1 (by rw [HH.out]; exact hkl) (by rw [hfk]; simpa using hfl)
        have HLT := xhd hlt
        clear hlt hc hfk hsx hC hD hS hfl t6
        go_wp2
        go_ret2
        exact ⟨by rw [HLT.out]; rfl, Keeps.refl _ _⟩
      ·have hkk : k = N := by omega
       subst hkk
       have hlt := Pure.letter_good l HB128.out k X (Pure.sum6 l X (k - 1)) HH.out (by omega) HFO.out rfl
       obtain ⟨V, hV⟩ : ∃ V, V = Pure.sum6 l X (k - 1) := ⟨_, rfl⟩
       rw [← hV] at hlt hsum ⊢
       clear hV hk hkl HFO HH HB128 hlen hk1
       rcases (show k = 2 ∨ k = 3 ∨ k = 4 by omega) with rfl | rfl | rfl
       ·have el : Pure.least 2 = 128 := rfl
        rw [el] at hlt
        clear el
        by_cases c1 : V < 128
        ·rw [if_neg (by omega)] at hlt
         have HLT := xhd hlt
         have d1 : decide ((V : Int) < 128) = true := decide_eq_true (by omega)
         clear hlt c1
         go_wp2
         go_ret2
         exact ⟨by rw [HLT.out]; rfl, (Keeps.refl _ _).alloc _⟩
        have d1 : decide ((V : Int) < 128) = false := decide_eq_false (by omega)
        by_cases c2 : 1114111 < V
        ·rw [if_neg (by omega)] at hlt
         have HLT := xhd hlt
         have d2 : decide ((1114111 : Int) < (V : Int)) = true := decide_eq_true (by omega)
         clear hlt c1 c2
         go_wp2
         go_ret2
         exact ⟨by rw [HLT.out]; rfl, (Keeps.refl _ _).alloc _⟩
        have d2 : decide ((1114111 : Int) < (V : Int)) = false := decide_eq_false (by omega)
        by_cases c3 : 55296 ≤ V
        ·have d3 : decide ((55296 : Int) ≤ (V : Int)) = true := decide_eq_true (by omega)
         by_cases c4 : V ≤ 57343
         ·have d4 : decide ((V : Int) ≤ 57343) = true := decide_eq_true (by omega)
          rw [if_neg (by omega)] at hlt
          have HLT := xhd hlt
          clear hlt c1 c2 c3 c4
          go_wp2
          go_ret2
          exact ⟨by rw [HLT.out]; rfl, (Keeps.refl _ _).alloc _⟩
         ·have d4 : decide ((V : Int) ≤ 57343) = false := decide_eq_false (by omega)
          rw [if_pos (by omega)] at hlt
          have HLT := xhd hlt
          clear hlt c1 c2 c3 c4
          go_wp2
          go_ret2
          exact ⟨by rw [HLT.out]; rfl, (Keeps.refl _ _).alloc _⟩
        ·have d3 : decide ((55296 : Int) ≤ (V : Int)) = false := decide_eq_false (by omega)
         rw [if_pos (by omega)] at hlt
         have HLT := xhd hlt
         clear hlt c1 c2 c3
         go_wp2
         go_ret2
         exact ⟨by rw [HLT.out]; rfl, (Keeps.refl _ _).alloc _⟩
       ·have el : Pure.least 3 = 2048 := rfl
        rw [el] at hlt
        clear el
        by_cases c1 : V < 2048
        ·rw [if_neg (by omega)] at hlt
         have HLT := xhd hlt
         have d1 : decide ((V : Int) < 2048) = true := decide_eq_true (by omega)
         clear hlt c1
         go_wp2
         go_ret2
         exact ⟨by rw [HLT.out]; rfl, (Keeps.refl _ _).alloc _⟩
        have d1 : decide ((V : Int) < 2048) = false := decide_eq_false (by omega)
        by_cases c2 : 1114111 < V
        ·rw [if_neg (by omega)] at hlt
         have HLT := xhd hlt
         have d2 : decide ((1114111 : Int) < (V : Int)) = true := decide_eq_true (by omega)
         clear hlt c1 c2
         go_wp2
         go_ret2
         exact ⟨by rw [HLT.out]; rfl, (Keeps.refl _ _).alloc _⟩
        have d2 : decide ((1114111 : Int) < (V : Int)) = false := decide_eq_false (by omega)
        by_cases c3 : 55296 ≤ V
        ·have d3 : decide ((55296 : Int) ≤ (V : Int)) = true := decide_eq_true (by omega)
         by_cases c4 : V ≤ 57343
         ·have d4 : decide ((V : Int) ≤ 57343) = true := decide_eq_true (by omega)
          rw [if_neg (by omega)] at hlt
          have HLT := xhd hlt
          clear hlt c1 c2 c3 c4
          go_wp2
          go_ret2
          exact ⟨by rw [HLT.out]; rfl, (Keeps.refl _ _).alloc _⟩
         ·have d4 : decide ((V : Int) ≤ 57343) = false := decide_eq_false (by omega)
          rw [if_pos (by omega)] at hlt
          have HLT := xhd hlt
          clear hlt c1 c2 c3 c4
          go_wp2
          go_ret2
          exact ⟨by rw [HLT.out]; rfl, (Keeps.refl _ _).alloc _⟩
        ·have d3 : decide ((55296 : Int) ≤ (V : Int)) = false := decide_eq_false (by omega)
         rw [if_pos (by omega)] at hlt
         have HLT := xhd hlt
         clear hlt c1 c2 c3
         go_wp2
         go_ret2
         exact ⟨by rw [HLT.out]; rfl, (Keeps.refl _ _).alloc _⟩
       ·have el : Pure.least 4 = 65536 := rfl
        rw [el] at hlt
        clear el
        by_cases c1 : V < 65536
        ·rw [if_neg (by omega)] at hlt
         have HLT := xhd hlt
         have d1 : decide ((V : Int) < 65536) = true := decide_eq_true (by omega)
         clear hlt c1
         go_wp2
         go_ret2
         exact ⟨by rw [HLT.out]; rfl, (Keeps.refl _ _).alloc _⟩
        have d1 : decide ((V : Int) < 65536) = false := decide_eq_false (by omega)
        by_cases c2 : 1114111 < V
        ·rw [if_neg (by omega)] at hlt
         have HLT := xhd hlt
         have d2 : decide ((1114111 : Int) < (V : Int)) = true := decide_eq_true (by omega)
         clear hlt c1 c2
         go_wp2
         go_ret2
         exact ⟨by rw [HLT.out]; rfl, (Keeps.refl _ _).alloc _⟩
        have d2 : decide ((1114111 : Int) < (V : Int)) = false := decide_eq_false (by omega)
        by_cases c3 : 55296 ≤ V
        ·have d3 : decide ((55296 : Int) ≤ (V : Int)) = true := decide_eq_true (by omega)
         by_cases c4 : V ≤ 57343
         ·have d4 : decide ((V : Int) ≤ 57343) = true := decide_eq_true (by omega)
          rw [if_neg (by omega)] at hlt
          have HLT := xhd hlt
          clear hlt c1 c2 c3 c4
          go_wp2
          go_ret2
          exact ⟨by rw [HLT.out]; rfl, (Keeps.refl _ _).alloc _⟩
         ·have d4 : decide ((V : Int) ≤ 57343) = false := decide_eq_false (by omega)
          rw [if_pos (by omega)] at hlt
          have HLT := xhd hlt
          clear hlt c1 c2 c3 c4
          go_wp2
          go_ret2
          exact ⟨by rw [HLT.out]; rfl, (Keeps.refl _ _).alloc _⟩
        ·have d3 : decide ((55296 : Int) ≤ (V : Int)) = false := decide_eq_false (by omega)
         rw [if_pos (by omega)] at hlt
         have HLT := xhd hlt
         clear hlt c1 c2 c3
         go_wp2
         go_ret2
         exact ⟨by rw [HLT.out]; rfl, (Keeps.refl _ _).alloc _⟩
end Go.Proofs.YtmgicbckgpdkcaaGreatDoor
