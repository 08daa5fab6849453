/- chap.unitsOf: the units of a secret, or what is wrong with it. -/
import Derived.Test.YtkllaghfiofnjaaDoorUni
import Derived.Test.YtkllaghfiofnjaaDoorValid
import Derived.Test.YtkllaghfiofnjaaDoorFault
import Derived.Test.YtkllaghfiofnjaaDoorLawL
import Derived.Lib.OthersKept
namespace Go.Proofs.YtkllaghfiofnjaaDoor
open Go.RowKit
/-- A string's iterator lies in no row's block. -/
theorem iter_apart {w : World} {g p base n : Nat} {s : ByteArray} {e : TypeId} {v : Value} {xs : List Value} (hk : w.heap[g]? = some (.stringIter s p)) (h : w.ownsRow base e 1 v n xs) : v.ownBlock ≠ some g := by
  rcases h.2 with ⟨rfl, _⟩ | ⟨g', cap, cur, rfl, _, hh, _⟩
  · simp [Value.ownBlock]
  · intro he
    have : g' = g := by simpa [Value.ownBlock] using he
    subst this
    rw [hk] at hh
    injection hh with hh
    cases hh
theorem keeps_iterAt (w : World) (g : Nat) (s : ByteArray) (p : Nat) : Keeps (only g) w (w.iterAt g s p) :=
  ⟨rfl, rfl, rfl, by rw [Lib.iterAt_size]; exact Nat.le_refl _, fun k _ hk => Lib.iterAt_other w g k s p hk⟩
theorem own_iterAt {w : World} {g p p' base n : Nat} {s : ByteArray} {e : TypeId} {v : Value} {xs : List Value} (hk : w.heap[g]? = some (.stringIter s p)) (h : w.ownsRow base e 1 v n xs) : (w.iterAt g s p').ownsRow base e 1 v n xs :=
  ownsRow_keeps h (keeps_iterAt w g s p') (fun k hv hg => by have hg : k = g := hg; subst hg; exact iter_apart hk h hv)
/-- What unitsOf answers. -/
def UnitsOk (w0 : World) (l : List UInt8) (e : Ending) (w' : World) : Prop :=
  ∃ v x us, e = .returned (.tuple #[v, x]) ∧ ErrIs w' x (Pure.secret l).1 ∧ ((Pure.secret l).1 = 0 → w'.ownsRow w0.heap.size 52 1 v us.length (u16s us) ∧ Pure.low us = (Pure.secret l).2 ∧ us.length ≤ 256) ∧ Below w0.heap.size w0 w'
set_option maxRecDepth 100000 in
set_option maxHeartbeats 4000000 in
theorem unitsOf_any (s : ByteArray) (l : List UInt8) (hl : s.data.toList = l) (hsz : l.length ≤ 1000000) (w : World) (hT : Tabs w) :
    Calls Tryd.prog 66 #[.string s] w (UnitsOk w l) := by
  have hs : s.size = l.length := by rw [← hl]; simp
  have HV := Lib.hid (valid_any s l hl hsz w hT)
  have HL := Lib.hid hl
  clear hl hT
  obtain ⟨U, hU⟩ : ∃ U, U = Pure.units l := ⟨_, rfl⟩
  rw [← hU] at HV
  have HU := Lib.hid hU
  clear hU
  cases U with
  | none =>
    have hsec := Pure.secret_none HU.out.symm
    have HSEC := Lib.hid hsec
    clear hsec
    go_enter Tryd.func66, Tryd.ntmps66
    go_wp2_with fail
    refine HV.out.mono ?_
    rintro e w1 ⟨rfl, hb1⟩
    have H1 := Lib.hid hb1
    clear hb1 HV
    go_wp2_with fail
    refine (of_any _ 4 _ (by omega)).mono ?_
    rintro e w2 ⟨v, rfl, he2, hb2⟩
    have HE2 := Lib.hid he2
    have H2 := Lib.hid (H1.out.trans (hb2.mono H1.out.size))
    clear he2 hb2
    go_wp2_with fail
    go_ret2
    refine ⟨_, _, [], rfl, ?_, fun h => ?_, H2.out⟩
    · rw [HSEC.out]; exact HE2.out
    · rw [HSEC.out] at h; cases h
  | some u =>
    go_enter Tryd.func66, Tryd.ntmps66
    go_wp2_with fail
    refine HV.out.mono ?_
    rintro e w1 ⟨rfl, hb1⟩
    have H1 := Lib.hid hb1
    have hgs := hb1.size
    clear hb1 HV
    go_wp2_with fail
    have hlen := fun k acc (h : Pure.unitsFrom (l.drop k) acc = some u) => Pure.unitsFrom_length _ _ acc u (Nat.le_refl _) h
    have HLEN := Lib.hid hlen
    have hit : (w1.iter s 0).heap[w1.heap.size]? = some (.stringIter s 0) := World.iter_heap w1 s 0
    have hi1 : Below w.heap.size w (w1.iter s 0) := H1.out.alloc H1.out.size _
    obtain ⟨g, hg⟩ : ∃ g, g = w1.heap.size := ⟨_, rfl⟩
    rw [← hg] at hit hgs
    obtain ⟨w2, hw2⟩ : ∃ w2, w2 = w1.iter s 0 := ⟨_, rfl⟩
    rw [← hw2] at hit hi1
    have HI := Lib.hid hit
    have HB := Lib.hid hi1
    clear hit hi1 hlen
    rw [← hg, ← hw2]
    clear hg hw2 H1
    have H0 := HU.out
    go_loopw [4] (fun v wr => ∃ (k : Nat) (us : List Nat), k ≤ l.length ∧ wr.heap[g]? = some (.stringIter s k) ∧ wr.ownsRow w.heap.size 52 1 v us.length (u16s us) ∧ us.length ≤ 256 ∧ Pure.unitsFrom (l.drop k) (Pure.low us) = some u ∧ Below w.heap.size w wr) (fun _ wr => l.length - wr.iterPos g)
    case atStart => exact ⟨0, [], by omega, HI.out, World.ownsRow_nil _ _ _ _, by simp, H0.symm, HB.out⟩
    case round =>
      obtain ⟨k, us, hk, hit, hW, hus, hR, hK⟩ := hrel
      obtain ⟨A2, c2, rfl⟩ := own_form hW
      have hmu : wr.iterPos g = k := by simp [World.iterPos, hit]
      have HIT := Lib.hid hit
      have HW := Lib.hid hW
      have HR := Lib.hid hR
      have HK := Lib.hid hK
      have HMU := Lib.hid hmu
      clear hit hW hR hK hmu H0 HI HB
      by_cases hkl : k < l.length
      · have hne : l.drop k ≠ [] := by
          intro e
          have := congrArg List.length e
          rw [List.length_drop] at this
          simp at this
          omega
        have hz : (Pure.letter (l.drop k)).2 ≠ 0 := by
          intro h
          have := HR.out
          rw [Pure.unitsFrom_bad _ hne h] at this
          cases this
        have hdec : Utf8.decode s k = Pure.letter (l.drop k) := by
          rw [← letter_good' _ hz, ← HL.out, Lib.decodeL_drop]
        have hstep := Pure.unitsFrom_step (Pure.low us) hne hz
        obtain ⟨z1, z2⟩ := Pure.letter_size (l.drop k) hne
        have hn := Pure.letter_num (l.drop k)
        rw [List.length_drop] at z1
        rw [List.drop_drop] at hstep
        have hnext : ∀ ty, (Instr.next (.pointer (some ⟨g, 0, none⟩)) true ty).run Tryd.prog wr = _ := fun ty => Lib.run_next_any_at wr g s k ty HIT.out (by omega)
        rw [hdec] at hnext
        obtain ⟨n, hn'⟩ : ∃ n, n = (Pure.letter (l.drop k)).1 := ⟨_, rfl⟩
        obtain ⟨z, hz'⟩ : ∃ z, z = (Pure.letter (l.drop k)).2 := ⟨_, rfl⟩
        rw [← hn'] at hn hstep hnext
        rw [← hz'] at z1 z2 hz hstep hnext
        have hR2 := hstep.symm.trans HR.out
        rw [← Pure.low_unit16, ← Pure.low_append] at hR2
        have HR2 := Lib.hid hR2
        have hit1 := Lib.iterAt_heap wr g s k (k + z) HIT.out
        have hW1 := own_iterAt (p' := k + z) HIT.out HW.out
        have hb1 := Lib.below_iterAt HK.out hgs s (k + z)
        obtain ⟨w3, hw3⟩ : ∃ w3, w3 = wr.iterAt g s (k + z) := ⟨_, rfl⟩
        rw [← hw3] at hnext hit1 hW1 hb1
        have HIT1 := Lib.hid hit1
        have HW1 := Lib.hid hW1
        have HB1 := Lib.hid hb1
        have HNL := Lib.hid (Pure.unit16_length n)
        clear hR2 hit1 hW1 hb1 hw3 hdec hstep hn' hz' HR HIT HW HK hne
        go_wp2_with fail
        refine (unitsOfOne_any n hn w3).mono ?_
        rintro e w4 ⟨v4, rfl, hr4, hb4⟩
        have HIT4 := Lib.hid ((hb4.block _ (Array.getElem?_eq_some_iff.1 HIT1.out).1).trans HIT1.out)
        have HW4 := Lib.hid (ownsRow_keeps HW1.out (Keeps.new hb4) (fun _ _ h => h))
        have HB4 := Lib.hid (HB1.out.trans (hb4.mono HB1.out.size))
        have HR4 := Lib.hid hr4
        clear hr4 hb4 hnext HIT1 HW1 HB1
        go_wp2_with (at_builtin; refine stopHere ?_)
        unfold Hid
        have hnl := HNL.out
        refine wp_append_u16 rfl (.tmp 16) (.tmp 18) rfl w.heap.size (.slice A2 us.length c2) us.length us rfl rfl HW4.out _ _ (Pure.unit16 n) rfl HR4.out (by omega) HB4.out.size ?_
        intro v5 w5 hown5 hg5 hat5
        have HB5 := Lib.hid (show Below w.heap.size w w5 from HB4.out.grown hg5 HB4.out.size (fun k hk => ownsRow_ge HW4.out k hk))
        have HIT5 := Lib.hid ((hg5.block _ (Array.getElem?_eq_some_iff.1 HIT4.out).1 (fun h => iter_apart HIT4.out HW4.out h.symm)).trans HIT4.out)
        obtain ⟨A5, c5, rfl⟩ := own_form hown5
        obtain ⟨vs, hvs⟩ : ∃ vs, vs = us ++ Pure.unit16 n := ⟨_, rfl⟩
        rw [← hvs] at hown5 HR2 ⊢
        have hvl : us.length < vs.length ∧ vs.length ≤ us.length + 2 := by rw [hvs, List.length_append]; omega
        have HO5 := Lib.hid hown5
        clear hown5 hg5 hat5 hvs HNL hnl HR4 HW4 HIT4 HB4
        by_cases hbig : 256 < vs.length
        · have d0 : decide ((256 : Int) < (vs.length : Int)) = true := decide_eq_true (by omega)
          have hl2 := HLEN.out _ _ HR2.out
          rw [Pure.low_length] at hl2
          have HSEC := Lib.hid (Pure.secret_long HU.out.symm (by omega))
          clear hl2
          go_wp2_with fail
          refine (of_any _ 3 _ (by omega)).mono ?_
          rintro e w6 ⟨v6, rfl, he6, hb6⟩
          have HE6 := Lib.hid he6
          have H6 := Lib.hid (HB5.out.trans (hb6.mono HB5.out.size))
          clear he6 hb6
          go_wp2_with fail
          go_ret2
          refine ⟨_, _, [], rfl, ?_, fun h => ?_, H6.out⟩
          · rw [HSEC.out]; exact HE6.out
          · rw [HSEC.out] at h; cases h
        · have d0 : decide ((256 : Int) < (vs.length : Int)) = false := decide_eq_false (by omega)
          go_wp2_with fail
          go_roundw
          case rel => exact ⟨k + z, vs, by omega, HIT5.out, HO5.out, by omega, HR2.out, HB5.out⟩
          case measure =>
            have e2 : w5.iterPos g = k + z := by simp [World.iterPos, HIT5.out]
            rw [HMU.out, e2]
            omega
      · have hkk : k = l.length := by omega
        subst hkk
        have hnext : ∀ ty, (Instr.next (.pointer (some ⟨g, 0, none⟩)) true ty).run Tryd.prog wr = _ := fun ty => Lib.run_next_end_at wr g s l.length ty HIT.out (by omega)
        have hend := HR.out
        rw [List.drop_length, Pure.unitsFrom_nil] at hend
        injection hend with hend
        have hsec : Pure.secret l = (0, Pure.low us) := by
          rw [Pure.secret_some HU.out.symm (by rw [← hend, Pure.low_length]; omega), hend]
        have HSEC := Lib.hid hsec
        clear hend hsec HR
        go_wp2_with fail
        go_ret2
        refine ⟨_, _, us, rfl, ?_, fun _ => ⟨HW.out, ?_, hus⟩, HK.out⟩
        · rw [HSEC.out]; exact .inl ⟨rfl, rfl⟩
        · rw [HSEC.out]
end Go.Proofs.YtkllaghfiofnjaaDoor
