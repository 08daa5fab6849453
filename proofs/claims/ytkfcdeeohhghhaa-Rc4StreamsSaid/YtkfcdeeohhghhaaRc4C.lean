/- A cipher at a block, and the contracts of Xor's two parts. -/
import Derived.Test.YtkfcdeeohhghhaaRc4B
import Derived.Test.YtkfcdeeohhghhaaLast
namespace Go.Proofs.Ytkfcdeeohhghhaa
open Go.RowKit

/-- The program's cipher of a key, at block g. -/
structure KObj (w : World) (g : Nat) (c : Pure.Rc) : Prop where
  blk : Blk w g 47 (cc 1 c.s c.i c.j 0 c.n)
  ok : c.Ok
theorem KObj.lt {w : World} {g : Nat} {c : Pure.Rc} (h : KObj w g c) : g < w.heap.size := h.blk.lt
theorem KObj.keeps {S : Nat → Prop} {w w' : World} {g : Nat} {c : Pure.Rc} (h : KObj w g c) (k : Keeps S w w') (hs : ¬ S g) : KObj w' g c := ⟨h.blk.keeps k hs, h.ok⟩

/-- Of a table the sum of two elements. -/
theorem u8sum (a b : UInt8) : ((a.toNat : Int) + (b.toNat : Int)) % 256 = (((a.toNat + b.toNat) % 256 : Nat) : Int) := by omega

theorem made_cells {z : Array Value} (hz : z = #[.int .u8 0]) (n : Nat) : (madeCells z (n * 1)).toList = u8s (List.replicate n 0) := by
  subst hz
  simp only [madeCells, Nat.mul_one]
  apply List.ext_getElem?
  intro i
  rw [Array.toList_map, List.getElem?_map, List.getElem?_map]
  by_cases h : i < n
  · simp [h, Nat.mod_one]
  · simp [h]

theorem own_set {w : World} {base : Nat} {e : TypeId} {b n c k : Nat} {l : List UInt8} (h : w.ownsRow base e 1 (.slice (some ⟨b, 0, none⟩) n c) n (u8s l)) (x : UInt8) :
    (w.setCell ⟨b, k, none⟩ (.int .u8 x.toNat)).ownsRow base e 1 (.slice (some ⟨b, 0, none⟩) n c) n (u8s (l.set k x)) := by
  obtain ⟨h1, h2⟩ := h
  refine ⟨by simpa using h1, ?_⟩
  rcases h2 with ⟨e, _⟩ | ⟨g, cap, cur, e, hg, hh, h3, h4, h5, h6⟩
  · cases e
  · injection e with e1 e2 e3
    injection e1 with e1
    injection e1 with e1
    subst e1 e3
    have hb : Blk w b _ cur := hh
    refine .inr ⟨b, c, _, rfl, hg, hb.set k (.int .u8 x.toNat), h3, h4, by simpa using h5, ?_⟩
    rw [Array.toList_setIfInBounds, List.take_set, h6]
    simp [List.map_set]

theorem set_next (l : List UInt8) (n : Nat) (k : Nat) (hk : l.length = k) (hn : k < n) (V : UInt8) : (l ++ List.replicate (n - k) 0).set k V = (l ++ [V]) ++ List.replicate (n - (k + 1)) 0 := by
  subst hk
  have e : n - l.length = (n - (l.length + 1)) + 1 := by omega
  rw [e, List.replicate_succ, List.set_append_right _ _ (Nat.le_refl _), Nat.sub_self, List.set_cons_zero, List.append_assoc]
  rfl
theorem own_frozen {w : World} {base : Nat} {e : TypeId} {b n c : Nat} {xs : List Value} (h : w.ownsRow base e 1 (.slice (some ⟨b, 0, none⟩) n c) n xs) (k : Nat) : w.frozen? ⟨b, k, none⟩ = false := by
  rcases h.2 with ⟨e, _⟩ | ⟨g, cap, cur, e, _, hh, _⟩
  · cases e
  · injection e with e1 _ _
    injection e1 with e1
    injection e1 with e1
    subst e1
    have hb : Blk w b _ cur := hh
    exact hb.frozen k
theorem own_at {w : World} {base : Nat} {e : TypeId} {b n c : Nat} {l : List UInt8} (h : w.ownsRow base e 1 (.slice (some ⟨b, 0, none⟩) n c) n (u8s l)) (k : Nat) (hk : k < l.length) : w.cell? ⟨b, k, none⟩ = some (.int .u8 ((l.getD k 0).toNat)) := by
  obtain ⟨b', e, _, hc⟩ := own_cell h (by have := h.1; simp at this; omega)
  injection e with e
  injection e with e
  subst e
  exact hc k _ (u8s_at l k hk)
theorem swap_cc {w w2 : World} {g i j n I J : Nat} {t : TypeId} {kd id m : Int} {s : List UInt8} (hs : s.length = 256) (hi : i < 256) (hj : j < 256) (h : Blk w g t (cc kd s I J id m))
    (hw : w2 = ((w.setCell ⟨g, 1 + i, none⟩ (.int .u8 (s.getD j 0).toNat)).setCell ⟨g, 1 + j, none⟩ (.int .u8 (s.getD i 0).toNat)).drewN n) : Blk w2 g t (cc kd (Pure.swap s i j) I J id m) := by
  subst hw
  have h2 := (h.set (1 + i) (.int .u8 (s.getD j 0).toNat)).set (1 + j) (.int .u8 (s.getD i 0).toNat)
  rw [cc_set hs i hi, cc_set (by simpa using hs) j hj] at h2
  exact h2.drewN n

set_option maxRecDepth 100000 in
set_option maxHeartbeats 4000000 in
theorem streamed_any (F : Nat → Prop) (x : Value) (bs : List UInt8) (g : Nat) (c : Pure.Rc) (w : World) (hr : Row w F 1 x bs.length (u8s bs)) (hF : ¬ F g) (hl : bs.length ≤ 100000000) (ho : KObj w g c) :
    Calls Try.prog 22 #[.pointer (some ⟨g, 0, none⟩), x] w fun e w' => ∃ u, e = .returned u ∧ w'.ownsRow w.heap.size 5 1 u bs.length (u8s (c.xor bs).2) ∧
      Blk w' g 47 (cc 1 (c.xor bs).1.s (c.xor bs).1.i (c.xor bs).1.j 0 c.n) ∧ Keeps (only g) w w' := by
  obtain ⟨A, cA, rfl, hc⟩ := hr.form
  have HR := Lib.hid hr
  have HF := Lib.hid hF
  have HO := Lib.hid ho
  have hlt := ho.lt
  obtain ⟨i0, hi0, hz0, hz1, hz2⟩ := info_parts u8_info
  have I := Lib.hid (And.intro hi0 (And.intro hz0 (And.intro hz1 hz2)))
  clear hr ho hF hi0 hz0 hz1 hz2
  go_enter Try.func22, Try.ntmps22
  go_wp2_with (at_make; refine stopHere ?_)
  unfold Hid
  obtain ⟨hi0, hz0, hz1, hz2⟩ := I.out
  refine wpList_make_full _ rfl _ _ 27 rfl w.heap.size 5 i0 _ 1 Try.underlying27 hi0 hz0 hz1 .i64 .i64 _ _ bs.length rfl rfl (by omega) (by omega) (by rw [hz2]; omega) (by unfold maxLen; omega) (Nat.le_refl _) ?_
  intro w0 hown0 hg0
  rw [show (Value.int .u8 0).cells = #[.int .u8 0] from rfl, made_cells rfl] at hown0
  have hk0 : Keeps nobody w w0 := Keeps.new (Below.grown (Below.refl _ w) hg0 (Nat.le_refl _) (by simp))
  have HO0 := Lib.hid (HO.out.keeps hk0 (fun h => h))
  have O0 := Lib.hid hown0
  have HK0 := Lib.hid hk0
  have HX := Lib.hid (exchanger_any ⟨g, 1, none⟩ w0)
  clear hown0 hg0 hk0 hi0 hz0 hz1 hz2 I
  go_wp2_with fail
  refine HX.out.mono ?_
  rintro e w1 ⟨rfl, hw1⟩
  obtain ⟨h, hhh⟩ : ∃ h, h = w0.heap.size := ⟨_, rfl⟩
  rw [← hhh]
  have hh : w.heap.size < w0.heap.size := by
    have := ownsRow_lt O0.out w.heap.size rfl
    exact this
  have HC := Lib.hid (show Blk w1 h 51 #[.pointer (some ⟨g, 1, none⟩)] by rw [← hw1, hhh]; exact Blk.new w0 _ _)
  have hk1 : Keeps nobody w0 w1 := by rw [← hw1]; exact (Keeps.refl _ w0).alloc _
  have HO1 := Lib.hid (HO0.out.keeps hk1 (fun h => h))
  have O1 := Lib.hid (ownsRow_keeps O0.out hk1 (fun _ _ h => h))
  have HK1 := Lib.hid (HK0.out.trans hk1)
  rw [← hhh] at hh
  clear HX HO0 O0 HK0 hw1 hhh hk1 HO
  go_wp2_with fail
  go_loopw [18] (fun i wr => ∃ k : Nat, k ≤ bs.length ∧ i = .int .i64 k ∧ KObj wr g { (c.xor (bs.take k)).1 with n := c.n } ∧ Blk wr h 51 #[.pointer (some ⟨g, 1, none⟩)] ∧
    wr.ownsRow w.heap.size 5 1 (.slice (some ⟨w.heap.size, 0, none⟩) bs.length bs.length) bs.length (u8s ((c.xor (bs.take k)).2 ++ List.replicate (bs.length - k) 0)) ∧ Keeps (only g) w wr) (fun i _ => bs.length - (intOf i).toNat)
  case atStart => exact ⟨0, by omega, rfl, by simpa [Pure.Rc.xor_nil] using HO1.out, HC.out, by simpa [Pure.Rc.xor_nil] using O1.out, HK1.out.mono (fun _ h => h.elim)⟩
  case round =>
    clear HO1 HC O1 HK1
    obtain ⟨k, hk, rfl, hO, hC, hW, hK⟩ := hrel
    have HO := Lib.hid hO
    have HC := Lib.hid hC
    have HW := Lib.hid hW
    have HK := Lib.hid hK
    by_cases hkl : k < bs.length
    · have hi0 : (0 : Int) ≤ (k : Int) := by omega
      have hi1 : (k : Int) < (bs.length : Int) := by omega
      have hs : (c.xor (bs.take k)).1.s.length = 256 := hO.ok.s
      have hdi : (c.xor (bs.take k)).1.i < 256 := hO.ok.i
      have hdj : (c.xor (bs.take k)).1.j < 256 := hO.ok.j
      obtain ⟨d, hd⟩ : ∃ d, d = (c.xor (bs.take k)).1 := ⟨_, rfl⟩
      obtain ⟨I, hI⟩ : ∃ I : Nat, I = (d.i + 1) % 256 := ⟨_, rfl⟩
      have hI2 : I < 256 := by omega
      have eI : ((d.i : Int) + 1) % 256 = (I : Int) := by omega
      rw [← hd] at hs hdi hdj
      have hb := hO.blk
      simp only at hb
      rw [← hd] at hb
      obtain ⟨b, off, rfl, hbF, hkc⟩ := (HR.out.keeps hK (fun x hx h => HF.out (h ▸ hx))).cellAt (by omega)
      have hxc := hkc k _ (u8s_at bs k hkl)
      obtain ⟨x, hx⟩ : ∃ x, x = bs.getD k 0 := ⟨_, rfl⟩
      rw [← hx] at hxc
      have HD := Lib.hid hd
      have HX := Lib.hid hx
      have HI := Lib.hid hI
      have HB := Lib.hid hb
      have HS := Lib.hid hs
      have c257 : wr.cell? ⟨g, 257, none⟩ = some (.int .u8 d.i) := by rw [hb.cell]; exact cc_tail hs 0
      have f257 := hb.frozen 257
      clear hO hC hW hK hd hx hI hs hb hkc
      go_upto_region 7 with fail
      obtain ⟨wa, hwa⟩ : ∃ wa, wa = wr.setCell ⟨g, 257, none⟩ (.int .u8 (I : Int)) := ⟨_, rfl⟩
      rw [← hwa]
      have hba : Blk wa g 47 (cc 1 d.s I d.j 0 c.n) := by
        rw [hwa, ← cc_set_i HS.out]
        exact HB.out.set 257 _
      have HBA := Lib.hid hba
      have HKA := Lib.hid (show Keeps (only g) wr wa by rw [hwa]; exact (Keeps.refl _ wr).store _ _ (fun _ => only_self _) _)
      obtain ⟨X, hX⟩ : ∃ X : Nat, X = (d.s.getD I 0).toNat := ⟨_, rfl⟩
      have hX2 : X < 256 := by rw [hX]; exact UInt8.toNat_lt _
      obtain ⟨J, hJ⟩ : ∃ J : Nat, J = (d.j + X) % 256 := ⟨_, rfl⟩
      have hJ2 : J < 256 := by omega
      have eJ : ((d.j : Int) + (X : Int)) % 256 = (J : Int) := by omega
      have a257 : wa.cell? ⟨g, 257, none⟩ = some (.int .u8 I) := by rw [hba.cell]; exact cc_tail HS.out 0
      have a258 : wa.cell? ⟨g, 258, none⟩ = some (.int .u8 d.j) := by rw [hba.cell]; exact cc_tail HS.out 1
      have aI : wa.cell? ⟨g, 1 + I, none⟩ = some (.int .u8 X) := by rw [hba.cell, hX]; exact cc_s HS.out I hI2
      have f258 := hba.frozen 258
      have hI0 : (0 : Int) ≤ (I : Int) := by omega
      have hI3 : (I : Int) < 256 := by omega
      have HXX := Lib.hid hX
      have HJ := Lib.hid hJ
      clear hba hX hJ hwa c257 f257 eI
      go_region
      obtain ⟨wb, hwb⟩ : ∃ wb, wb = (wa.setCell ⟨g, 258, none⟩ (.int .u8 (J : Int))).drew := ⟨_, rfl⟩
      rw [← hwb]
      have hbb : Blk wb g 47 (cc 1 d.s I J 0 c.n) := by
        rw [hwb, ← cc_set_j HS.out (j := d.j)]
        exact (HBA.out.set 258 _).drew
      have hkb : Keeps (only g) wa wb := by rw [hwb]; exact ((Keeps.refl _ wa).store _ _ (fun _ => only_self _) _).drew
      have HBB := Lib.hid hbb
      have HKB := Lib.hid (HKA.out.trans hkb)
      have hgh : g ≠ h := by omega
      have HC2 := Lib.hid (HC.out.keeps HKB.out (fun h => by unfold only at h; omega))
      have b257 : wb.cell? ⟨g, 257, none⟩ = some (.int .u8 I) := by rw [hbb.cell]; exact cc_tail HS.out 0
      have b258 : wb.cell? ⟨g, 258, none⟩ = some (.int .u8 J) := by rw [hbb.cell]; exact cc_tail HS.out 1
      have HE := Lib.hid (exch_any g 1 h I J _ _ wb.drew hI2 hJ2 hgh (by rw [HC2.out.drew.cell]; rfl) (by rw [HBB.out.drew.cell]; exact cc_s HS.out I hI2) (by rw [HBB.out.drew.cell]; exact cc_s HS.out J hJ2) (HBB.out.drew.frozen _) (HBB.out.drew.frozen _))
      clear hbb hkb hwb a257 a258 aI f258 eJ HBA HKA
      go_upto_region 8 with fail
      refine wp_region_Z (fun w' => w'.cell? ⟨g, 257, none⟩ = some (.int .u8 I) ∧ w'.cell? ⟨g, 258, none⟩ = some (.int .u8 J)) 9 10 rfl (by kernel_rfl) ⟨b257, b258⟩ (fun hHeld => ?_)
      iterate 9
        refine wpAnyZ_next rfl (by kernel_rfl) (fun _ _ _ h => h) (Or.inl ⟨by rfl, by intro w hSw; obtain ⟨s0, s1⟩ := hSw; go_simp; try with_reducible rfl⟩) hHeld.out ?_
        simp only [Act.put, List.setIfInBounds_toArray, Nat.reduceAdd, List.getElem_toArray, List.getElem_cons_succ, List.getElem_cons_zero, List.set_cons_succ, List.set_cons_zero]
      refine wpAnyZ_step (by kernel_rfl) rfl (fun K hK => ?_)
      go_simp
      refine HE.out.mono ?_
      rintro e w2 ⟨rfl, n2, hw2⟩
      refine hK.out _ _ (fun h => absurd rfl h) ?_
      clear hK K hHeld
      refine wpAnyZ_done (by kernel_rfl) ?_ _
      have hnx : d.next = ⟨Pure.swap d.s I J, I, J, d.n + 1⟩ := by
        unfold Pure.Rc.next
        rw [HJ.out, HXX.out, HI.out]
      have hb2 : Blk w2 g 47 (cc 1 (Pure.swap d.s I J) I J 0 c.n) := swap_cc HS.out hI2 hJ2 HBB.out.drew hw2
      have hk2 : Keeps (only g) wr w2 := by
        refine HKB.out.trans ?_
        rw [hw2]
        exact ((((Keeps.refl _ wb).drew.store _ _ (fun _ => only_self _) _).store _ _ (fun _ => only_self _) _).drewN _)
      obtain ⟨s', hs'⟩ : ∃ s', s' = Pure.swap d.s I J := ⟨_, rfl⟩
      have hs2 : s'.length = 256 := by rw [hs', Pure.swap_length]; exact HS.out
      rw [← hs'] at hb2 hnx
      have HNX := Lib.hid hnx
      have HB2 := Lib.hid hb2
      have HK2 := Lib.hid hk2
      have HS2 := Lib.hid hs2
      obtain ⟨P, hP⟩ : ∃ P : Nat, P = (s'.getD I 0).toNat := ⟨_, rfl⟩
      obtain ⟨R, hR⟩ : ∃ R : Nat, R = (s'.getD J 0).toNat := ⟨_, rfl⟩
      have hP2 : P < 256 := by rw [hP]; exact UInt8.toNat_lt _
      have hR2 : R < 256 := by rw [hR]; exact UInt8.toNat_lt _
      obtain ⟨T, hT⟩ : ∃ T : Nat, T = (P + R) % 256 := ⟨_, rfl⟩
      have hT2 : T < 256 := by omega
      have eT : ((P : Int) + (R : Int)) % 256 = (T : Int) := by omega
      obtain ⟨Z, hZ⟩ : ∃ Z, Z = s'.getD T 0 := ⟨_, rfl⟩
      have hZb : d.next.byte = Z := by
        rw [hnx, hZ, hT, hP, hR]
        rfl
      have HZ := Lib.hid hZb
      have d257 : w2.cell? ⟨g, 257, none⟩ = some (.int .u8 I) := by rw [hb2.cell]; exact cc_tail hs2 0
      have d258 : w2.cell? ⟨g, 258, none⟩ = some (.int .u8 J) := by rw [hb2.cell]; exact cc_tail hs2 1
      have dI : w2.cell? ⟨g, 1 + I, none⟩ = some (.int .u8 P) := by rw [hb2.cell, hP]; exact cc_s hs2 I hI2
      have dJ : w2.cell? ⟨g, 1 + J, none⟩ = some (.int .u8 R) := by rw [hb2.cell, hR]; exact cc_s hs2 J hJ2
      have dT : w2.cell? ⟨g, 1 + T, none⟩ = some (.int .u8 Z.toNat) := by rw [hb2.cell, hZ]; exact cc_s hs2 T hT2
      have hW2 := ownsRow_keeps HW.out hk2 (fun b hb hs => by
        have e1 : w.heap.size = b := by simpa [Value.ownBlock] using hb
        unfold only at hs
        omega)
      have hxz := xor_u8 x Z
      obtain ⟨V, hV⟩ : ∃ V : UInt8, V = x ^^^ Z := ⟨_, rfl⟩
      rw [← hV] at hxz
      have HV := Lib.hid hV
      have HW2 := Lib.hid hW2
      have dk := own_at hW2 k (by simp [Pure.Rc.xor_length]; omega)
      have fk := own_frozen hW2 k
      have hJ0 : (0 : Int) ≤ (J : Int) := by omega
      have hJ3 : (J : Int) < 256 := by omega
      have hT0 : (0 : Int) ≤ (T : Int) := by omega
      have hT3 : (T : Int) < 256 := by omega
      have HC3 := Lib.hid (HC.out.keeps hk2 (fun h => by unfold only at h; omega))
      clear hw2 hb2 hk2 hs' hs2 hnx hP hR hT hZ hZb hV hW2 b257 b258 HE HBB HKB HC2 HW HB HC
      go_upto_region 9 with fail
      go_region
      obtain ⟨w3, hw3⟩ : ∃ w3, w3 = (w2.setCell ⟨w.heap.size, k, none⟩ (.int .u8 V.toNat)).drew := ⟨_, rfl⟩
      rw [← hw3]
      have hk3 : Keeps (only w.heap.size) w2 w3 := by rw [hw3]; exact ((Keeps.refl _ w2).store _ _ (fun _ => only_self _) _).drew
      have HB3 := Lib.hid (HB2.out.keeps hk3 (fun h => by unfold only at h; omega))
      have HC4 := Lib.hid (HC3.out.keeps hk3 (fun h => by unfold only at h; omega))
      have HK3 := Lib.hid ((HK.out.trans HK2.out).trans' hk3 (fun i hi hl => by unfold only at hi; omega))
      have HT := Pure.Rc.xor_take c bs k hkl
      have hw4 := own_set (k := k) HW2.out V
      rw [set_next _ _ _ (by rw [Pure.Rc.xor_length, List.length_take]; omega) hkl] at hw4
      have hL : (c.xor (bs.take (k + 1))).2 = (c.xor (bs.take k)).2 ++ [V] := by rw [HT, HV.out, HX.out, ← HZ.out, HD.out]
      have HW3 := Lib.hid (show w3.ownsRow w.heap.size 5 1 (.slice (some ⟨w.heap.size, 0, none⟩) bs.length bs.length) bs.length (u8s ((c.xor (bs.take (k + 1))).2 ++ List.replicate (bs.length - (k + 1)) 0)) by
        rw [hw3, hL]; exact hw4.drew)
      have hN : (c.xor (bs.take (k + 1))).1 = ⟨s', I, J, d.n + 1⟩ := by rw [HT, ← HNX.out, HD.out]
      have HN := Lib.hid hN
      clear hw3 hk3 HT hw4 hN hL d257 d258 dI dJ dT eT hxz dk fk
      go_wp2
      go_roundw
      case rel =>
        refine ⟨k + 1, by omega, by go_num, ⟨?_, ?_⟩, HC4.out, HW3.out, HK3.out⟩
        · rw [HN.out]
          exact HB3.out
        · rw [HN.out]
          exact ⟨HS2.out, hI2, hJ2⟩
      case measure => simp [intOf]; omega
    · have hk' : k = bs.length := by omega
      have e : bs.take k = bs := by rw [hk', List.take_length]
      rw [e] at HO HW
      rw [hk', Nat.sub_self, List.replicate_zero, List.append_nil] at HW
      clear hk' e hO hC hW hK HC
      go_wp2
      go_ret
      exact ⟨_, rfl, HW.out, HO.out.blk, HK.out⟩
end Go.Proofs.Ytkfcdeeohhghhaa
