/- Contracts of package frame: protoBytes, decode, Decode. -/
import Derived.Test.YtkllaghfiofnjaaDoorFrameD
import Derived.Test.YtkllaghfiofnjaaDoorBytes
namespace Go.Proofs.YtkllaghfiofnjaaDoor
open Go.RowKit

namespace Pure
def pb (b : List UInt8) (q : Bool) : Nat × Nat :=
  match b with
  | [] => (0, 2)
  | x :: r => if x.toNat % 2 = 1 then (if q then (1, 0) else (0, 4)) else
    match r with
    | [] => (0, 2)
    | y :: _ => if y.toNat % 2 = 1 then (2, 0) else (0, 4)
def number (l : List UInt8) : Nat := l.foldl (fun a x => a * 256 + x.toNat) 0
theorem number_snoc (l : List UInt8) (x : UInt8) : number (l ++ [x]) = number l * 256 + x.toNat := by simp [number]
theorem number_lt (l : List UInt8) (h : l.length ≤ 1) : number l < 256 := by
  match l with
  | [] => simp [number]
  | [x] => have := x.toNat_lt; simp [number]; omega
theorem shift_or (P X : Nat) (hX : X < 256) : P * 256 ||| X = P * 256 + X := by
  have h := Nat.shiftLeft_add_eq_or_of_lt (show X < 2 ^ 8 by omega) P
  rw [Nat.shiftLeft_eq] at h
  exact h.symm
theorem said_pb (b : List UInt8) (q : Bool) : said b q = if (pb b q).2 = 0 then fits (number (b.take (pb b q).1)) (b.drop (pb b q).1) else (0, [], (pb b q).2) := by
  match b with
  | [] => simp [said, pb]
  | [x] => by_cases h : x.toNat % 2 = 1 <;> cases q <;> simp [said, pb, number, h]
  | x :: y :: r => by_cases h : x.toNat % 2 = 1 <;> by_cases h2 : y.toNat % 2 = 1 <;> cases q <;> simp [said, pb, number, h, h2]
theorem pb_le (b : List UInt8) (q : Bool) (h : (pb b q).2 = 0) : 1 ≤ (pb b q).1 ∧ (pb b q).1 ≤ 2 ∧ (pb b q).1 ≤ b.length := by
  revert h
  match b with
  | [] => simp [pb]
  | [x] => by_cases h : x.toNat % 2 = 1 <;> cases q <;> simp [pb, h]
  | x :: y :: r => by_cases h : x.toNat % 2 = 1 <;> by_cases h2 : y.toNat % 2 = 1 <;> cases q <;> simp [pb, h, h2]
/-- The ways through the switch. -/
inductive PbWay (x : UInt8) (r : List UInt8) (q : Bool) : Nat → Nat → Prop where
  | noPfc (h : x.toNat % 2 = 1) (hq : q = false) : PbWay x r q 0 4
  | one (h : x.toNat % 2 = 1) (hq : q = true) : PbWay x r q 1 0
  | cut (h : ¬ x.toNat % 2 = 1) (hr : r = []) : PbWay x r q 0 2
  | two (h : ¬ x.toNat % 2 = 1) (y : UInt8) (s : List UInt8) (hr : r = y :: s) (hy : y.toNat % 2 = 1) : PbWay x r q 2 0
  | bad (h : ¬ x.toNat % 2 = 1) (y : UInt8) (s : List UInt8) (hr : r = y :: s) (hy : ¬ y.toNat % 2 = 1) : PbWay x r q 0 4
theorem pb_way (x : UInt8) (r : List UInt8) (q : Bool) : PbWay x r q (pb (x :: r) q).1 (pb (x :: r) q).2 := by
  by_cases h : x.toNat % 2 = 1
  · cases q
    · have e : pb (x :: r) false = (0, 4) := by simp [pb, h]
      rw [e]; exact .noPfc h rfl
    · have e : pb (x :: r) true = (1, 0) := by simp [pb, h]
      rw [e]; exact .one h rfl
  · match r with
    | [] =>
      have e : pb [x] q = (0, 2) := by simp [pb, h]
      rw [e]; exact .cut h rfl
    | y :: s =>
      by_cases h2 : y.toNat % 2 = 1
      · have e : pb (x :: y :: s) q = (2, 0) := by simp [pb, h, h2]
        rw [e]; exact .two h y s rfl h2
      · have e : pb (x :: y :: s) q = (0, 4) := by simp [pb, h, h2]
        rw [e]; exact .bad h y s rfl h2
theorem dec_cut (b : List UInt8) (a q : Bool) : dec b a q = if (b.take 2 == [255, 3]) || a then said (cutHead b [255, 3]) q else (0, [], 4) := by
  unfold dec cutHead whole
  by_cases h : b.take 2 = [255, 3]
  · simp [h]
  · simp [h]
end Pure

set_option maxHeartbeats 2000000 in
theorem protoBytes_any (F : Nat → Prop) (x : Value) (bs : List UInt8) (q : Bool) (w : World) (hr : Row w F 1 x bs.length (u8s bs)) :
    Calls Tryd.prog 60 #[x, .bool q] w fun e w' => ∃ v, e = .returned (.tuple #[.int .i64 (Pure.pb bs q).1, v]) ∧ ErrIs w' v (Pure.pb bs q).2 ∧ Below w.heap.size w w' := by
  obtain ⟨A, c, rfl, hc⟩ := hr.form
  have HR := Lib.hid hr
  have hmax := hr.2.1
  unfold maxLen at hmax
  clear hr
  match bs with
  | [] =>
    clear HR
    go_enter Tryd.func60, Tryd.ntmps60
    go_wp2_with fail
    refine (of_any _ 2 _ (by omega)).mono ?_
    rintro e w1 ⟨v, rfl, h1, h2⟩
    go_wp2
    go_ret2
    exact ⟨_, rfl, h1, h2⟩
  | b0 :: r =>
    have W := Lib.hid (Pure.pb_way b0 r q)
    obtain ⟨N, hN⟩ : ∃ N, N = (Pure.pb (b0 :: r) q).1 := ⟨_, rfl⟩
    obtain ⟨K, hK⟩ : ∃ K, K = (Pure.pb (b0 :: r) q).2 := ⟨_, rfl⟩
    rw [← hN, ← hK] at W ⊢
    clear hN hK
    obtain ⟨n, hn⟩ : ∃ n, n = (b0 :: r).length := ⟨_, rfl⟩
    obtain ⟨p, o, rfl, _, hcell⟩ := HR.out.cellAt (by simp)
    have c0 := hcell 0 (.int .u8 b0.toNat) rfl
    rw [Nat.add_zero] at c0
    have hb0 : b0.toNat < 256 := b0.toNat_lt
    have hn0 : (0 : Int) < (n : Int) := by rw [hn]; simp
    have hn1 : ((n : Int) == 0) = false := by rw [beq_eq_false_iff_ne]; omega
    have HN := Lib.hid hn
    rw [← hn] at hmax hc ⊢
    have HCELL := Lib.hid hcell
    have O0 := Lib.hid (odd_any b0.toNat w hb0)
    clear hn hcell HR
    cases W.out with
    | noPfc h hq =>
      subst hq
      rw [decide_eq_true h] at O0
      clear h W
      go_enter Tryd.func60, Tryd.ntmps60
      go_wp2_with fail
      refine O0.out.mono ?_
      rintro e w1 ⟨rfl, rfl⟩
      go_wp2_with fail
      refine (of_any _ 4 _ (by omega)).mono ?_
      rintro e w1 ⟨v, rfl, h1, h2⟩
      go_wp2
      go_ret2
      exact ⟨_, rfl, h1, h2⟩
    | one h hq =>
      subst hq
      rw [decide_eq_true h] at O0
      clear h W
      go_enter Tryd.func60, Tryd.ntmps60
      go_wp2_with fail
      refine O0.out.mono ?_
      rintro e w1 ⟨rfl, rfl⟩
      go_wp2_with fail
      refine O0.out.mono ?_
      rintro e w1 ⟨rfl, rfl⟩
      go_wp2
      go_ret2
      exact ⟨_, rfl, .inl ⟨rfl, rfl⟩, Below.refl _ _⟩
    | cut h hr =>
      subst hr
      rw [decide_eq_false h] at O0
      have hn2 : ((n : Int) == 1) = true := by rw [HN.out]; rfl
      clear h W
      go_enter Tryd.func60, Tryd.ntmps60
      go_wp2_with fail
      refine O0.out.mono ?_
      rintro e w1 ⟨rfl, rfl⟩
      go_wp2_with fail
      refine O0.out.mono ?_
      rintro e w1 ⟨rfl, rfl⟩
      go_wp2_with fail
      refine (of_any _ 2 _ (by omega)).mono ?_
      rintro e w1 ⟨v, rfl, h1, h2⟩
      go_wp2
      go_ret2
      exact ⟨_, rfl, h1, h2⟩
    | two h y s hr hy =>
      subst hr
      rw [decide_eq_false h] at O0
      have hn2 : ((n : Int) == 1) = false := by rw [HN.out, beq_eq_false_iff_ne]; simp; omega
      have hn3 : (1 : Int) < (n : Int) := by rw [HN.out]; simp; omega
      have c1 := HCELL.out 1 (.int .u8 y.toNat) rfl
      have O1 := Lib.hid (odd_any y.toNat w y.toNat_lt)
      rw [decide_eq_true hy] at O1
      clear h W hy
      go_enter Tryd.func60, Tryd.ntmps60
      go_wp2_with fail
      refine O0.out.mono ?_
      rintro e w1 ⟨rfl, rfl⟩
      go_wp2_with fail
      refine O0.out.mono ?_
      rintro e w1 ⟨rfl, rfl⟩
      go_wp2_with fail
      refine O1.out.mono ?_
      rintro e w1 ⟨rfl, rfl⟩
      go_wp2
      go_ret2
      exact ⟨_, rfl, .inl ⟨rfl, rfl⟩, Below.refl _ _⟩
    | bad h y s hr hy =>
      subst hr
      rw [decide_eq_false h] at O0
      have hn2 : ((n : Int) == 1) = false := by rw [HN.out, beq_eq_false_iff_ne]; simp; omega
      have hn3 : (1 : Int) < (n : Int) := by rw [HN.out]; simp; omega
      have c1 := HCELL.out 1 (.int .u8 y.toNat) rfl
      have O1 := Lib.hid (odd_any y.toNat w y.toNat_lt)
      rw [decide_eq_false hy] at O1
      clear h W hy
      go_enter Tryd.func60, Tryd.ntmps60
      go_wp2_with fail
      refine O0.out.mono ?_
      rintro e w1 ⟨rfl, rfl⟩
      go_wp2_with fail
      refine O0.out.mono ?_
      rintro e w1 ⟨rfl, rfl⟩
      go_wp2_with fail
      refine O1.out.mono ?_
      rintro e w1 ⟨rfl, rfl⟩
      go_wp2_with fail
      refine (of_any _ 4 _ (by omega)).mono ?_
      rintro e w1 ⟨v, rfl, h1, h2⟩
      go_wp2
      go_ret2
      exact ⟨_, rfl, h1, h2⟩

/-- What decode answers: the info is a piece of what came in. -/
def Decodes0 (F : Nat → Prop) (s : Pure.Says) (w : World) (e : Ending) (w' : World) : Prop :=
  Below w.heap.size w w' ∧ ∃ P I v, e = .returned (.tuple #[.int .i64 P, I, v]) ∧ ErrIs w' v s.2.2 ∧ (s.2.2 = 0 → P = (s.1 : Int) ∧ Row w' F 1 I s.2.1.length (u8s s.2.1))
set_option maxRecDepth 100000 in
set_option maxHeartbeats 1000000 in
theorem decode_any (F : Nat → Prop) (x : Value) (bs : List UInt8) (a q : Bool) (w : World) (hr : Row w F 1 x bs.length (u8s bs)) (hF : ∀ b, F b → b < w.heap.size) :
    Calls Tryd.prog 36 #[x, .agg #[.bool a, .bool q]] w (Decodes0 F (Pure.dec bs a q) w) := by
  obtain ⟨A, c, rfl, hc⟩ := hr.form
  have hmax := hr.2.1
  unfold maxLen at hmax
  have hblk : Blk (w.alloc (.cells #[.bool a, .bool q] 24)) w.heap.size 24 #[.bool a, .bool q] := Blk.new w _ _
  have b0 : Below w.heap.size w (w.alloc (.cells #[.bool a, .bool q] 24)) := (Below.refl w.heap.size w).alloc (Nat.le_refl _) _
  have b1 := b0.alloc b0.size (.cells #[.int .u8 255, .int .u8 3] 5)
  have hrow := hr.keeps (Keeps.new b1) (fun _ _ h => h)
  have hpre := row_new (w.alloc (.cells #[.bool a, .bool q] 24)) [255, 3] #[.int .u8 255, .int .u8 3] 2 rfl rfl (by simp)
  rw [show (w.alloc (.cells #[.bool a, .bool q] 24)).heap.size = w.heap.size + 1 by simp] at hpre
  have CP := Lib.hid (cutPrefix_any F _ _ _ bs [255, 3] _ hrow hpre (by simp))
  have HB := Lib.hid (hblk.alloc (.cells #[.int .u8 255, .int .u8 3] 5))
  have B1 := Lib.hid b1
  have DC := Lib.hid (Pure.dec_cut bs a q)
  obtain ⟨D, hD⟩ : ∃ D, D = Pure.dec bs a q := ⟨_, rfl⟩
  rw [← hD] at DC ⊢
  obtain ⟨r, hr2⟩ : ∃ r, r = (bs.take 2 == [255, 3]) := ⟨_, rfl⟩
  change Hid (Calls _ _ _ _ (fun e w' => ∃ u, e = .returned (.tuple #[u, .bool (bs.take 2 == [255, 3])]) ∧ _)) at CP
  rw [← hr2] at DC CP
  obtain ⟨R, hR⟩ : ∃ R, R = Pure.cutHead bs [255, 3] := ⟨_, rfl⟩
  rw [← hR] at DC CP
  have hRl : R.length ≤ bs.length := by rw [hR]; unfold Pure.cutHead; split <;> simp
  clear hr hF hblk b0 b1 hrow hpre hD hr2 hR
  go_enter Tryd.func36, Tryd.ntmps36
  go_wp2_with fail
  refine CP.out.mono ?_
  rintro e w1 ⟨u1, rfl, hrow1, hk1⟩
  have HR1 := Lib.hid hrow1
  have B2 := Lib.hid (B1.out.trans ((hk1.to_below).mono B1.out.size))
  have hblk1 := HB.out.keeps hk1 (fun h => h)
  have c0 : w1.cell? ⟨w.heap.size, 0, none⟩ = some (.bool a) := by rw [hblk1.cell]; rfl
  have c1 : w1.cell? ⟨w.heap.size, 1, none⟩ = some (.bool q) := by rw [hblk1.cell]; rfl
  obtain ⟨A1, cc1, rfl, hc1⟩ := hrow1.form
  clear hrow1 hk1 hblk1 CP
  cases hra : r || a
  · obtain ⟨rfl, rfl⟩ : r = false ∧ a = false := by simpa using hra
    have hDD := DC.out
    rw [hra, if_neg (by simp)] at hDD
    clear hra DC
    subst hDD
    go_wp2_with fail
    refine (of_any _ 4 _ (by omega)).mono ?_
    rintro e w2 ⟨v, rfl, he, hb⟩
    have E2 := Lib.hid he
    have B3 := Lib.hid (B2.out.trans (hb.mono B2.out.size))
    clear he hb
    go_wp2
    go_ret3
    exact ⟨B3.out, _, _, _, rfl, E2.out, fun h => by cases h⟩
  · have hDD := DC.out
    rw [hra, if_pos rfl, Pure.said_pb] at hDD
    have LE := Lib.hid (Pure.pb_le R q)
    have PB := Lib.hid (protoBytes_any F _ R q w1 HR1.out)
    obtain ⟨N, hN⟩ : ∃ N, N = (Pure.pb R q).1 := ⟨_, rfl⟩
    obtain ⟨K, hK⟩ : ∃ K, K = (Pure.pb R q).2 := ⟨_, rfl⟩
    rw [← hN, ← hK] at LE PB hDD
    have HDD := Lib.hid hDD
    clear hDD DC hN hK
    have hg : r = true ∨ (r = false ∧ a = true) := by cases r <;> simp_all
    clear hra
    go_upto_region 2 with fail
    go_cut [27] (fun s wx => s = .bool false ∧ wx = w1)
    case first =>
      rcases hg with rfl | ⟨rfl, rfl⟩
      all_goals
        go_wp2
        go_meet
        exact ⟨rfl, rfl⟩
    case rest =>
      obtain ⟨rfl, rfl⟩ := hcut
      clear hg c0
      go_wp2_with fail
      refine PB.out.mono ?_
      rintro e w2 ⟨v2, rfl, he2, hb2⟩
      have B3 := Lib.hid (B2.out.trans (hb2.mono B2.out.size))
      rcases he2 with ⟨rfl, rfl⟩ | ⟨hK, b2, rfl, he2⟩
      · obtain ⟨hN1, hN2, hN3⟩ := LE.out rfl
        have hDD := HDD.out
        rw [if_pos rfl] at hDD
        have HD2 := Lib.hid hDD
        have hr2 := HR1.out.keeps (Keeps.new hb2) (fun _ _ h => h)
        have HR2 := Lib.hid hr2
        obtain ⟨p, o, rfl, _, hcell⟩ := hr2.cellAt (by omega)
        have HC := Lib.hid hcell
        clear hDD hr2 hcell hb2 HDD LE PB HR1 B2
        go_wp2_with fail
        go_loop [11, 43] (fun s i => ∃ k : Nat, k ≤ N ∧ i = .int .i64 k ∧ s = .int .i64 (Pure.number (R.take k))) (fun _ i => N - (intOf i).toNat)
        case atStart => exact ⟨0, by omega, rfl, rfl⟩
        case round =>
          obtain ⟨k, hk, rfl, rfl⟩ := hrel
          by_cases hlt : k < N
          · have hPl := Pure.number_lt (R.take k) (by simp; omega)
            have hkR : k < R.length := by omega
            have hsn := Pure.number_snoc (R.take k) R[k]
            rw [← List.take_succ_eq_append_getElem hkR] at hsn
            have cb := HC.out k _ (u8s_at R k hkR)
            rw [List.getD_eq_getElem?_getD, List.getElem?_eq_getElem hkR, Option.getD_some] at cb
            obtain ⟨X, hX⟩ : ∃ X : Nat, X = R[k].toNat := ⟨_, rfl⟩
            have hX2 : X < 256 := by rw [hX]; exact R[k].toNat_lt
            obtain ⟨P, hP⟩ : ∃ P, P = Pure.number (R.take k) := ⟨_, rfl⟩
            rw [← hX] at cb hsn
            rw [← hP] at hPl hsn ⊢
            have ho : bits .or .i64 ((P : Int) * 256) (X : Int) = ((P * 256 + X : Nat) : Int) := by
              have := i64_or_nat (P * 256) X (by omega) (by omega)
              rw [Pure.shift_or P X hX2] at this
              rw [← this]
              simp
            have HS := Lib.hid hsn
            have hi0 : (0 : Int) ≤ (k : Int) := by omega
            have hi1 : (k : Int) < (N : Int) := by omega
            clear hX hP hsn
            go_wp2
            go_round
            case rel => exact ⟨k + 1, by omega, by go_num, by rw [HS.out]; simp⟩
            case measure => simp [intOf]; omega
          · obtain rfl : k = N := by omega
            have hV := Row.cutV HR2.out k (R.length - k) (by omega)
            have e1 : (R.drop k).take (R.length - k) = R.drop k := List.take_of_length_le (by simp)
            have e2 : (R.drop k).length = R.length - k := by simp
            rw [e1] at hV
            have HV := Lib.hid hV
            have HL := Lib.hid e2
            clear e1 e2 hV HC
            obtain ⟨P, hP⟩ : ∃ P, P = Pure.number (R.take k) := ⟨_, rfl⟩
            rw [← hP] at HD2 ⊢
            obtain ⟨I, hI⟩ : ∃ I, I = R.drop k := ⟨_, rfl⟩
            rw [← hI] at HD2 HV HL
            clear hP hI
            have hfz : Pure.fits P I = if 1516 < I.length then (0, [], 3) else (P, I, 0) := rfl
            have HFZ := Lib.hid hfz
            clear hfz
            rcases Nat.decEq cc1 k with hz | hz
            · have hrow : Row w2 F 1 (.slice (some ⟨p, o + k, none⟩) (R.length - k) (cc1 - k)) I.length (u8s I) := by
                have h := HV.out
                unfold cutV at h
                rw [if_neg hz, Option.map_some, addr_add] at h
                rw [HL.out]
                exact h
              have HROW := Lib.hid hrow
              have FA := Lib.hid (fits_any F _ I w2 hrow)
              clear hrow
              go_wp2_with fail
              refine FA.out.mono ?_
              rintro e w3 ⟨v, rfl, he, hb⟩
              have B4 := Lib.hid (B3.out.trans (hb.mono B3.out.size))
              have R4 := Lib.hid (HROW.out.keeps (Keeps.new hb) (fun _ _ h => h))
              have HE := Lib.hid he
              clear he hb
              go_wp2
              go_ret3
              have h1 := HE.out
              rw [HD2.out, HFZ.out]
              refine ⟨B4.out, _, _, _, rfl, ?_, ?_⟩
              · split
                · rename_i h; rw [if_pos h] at h1; exact h1
                · rename_i h; rw [if_neg h] at h1; exact h1
              · split
                · intro h; cases h
                · intro _; exact ⟨rfl, R4.out⟩
            · have hrow : Row w2 F 1 (.slice (some ⟨p, o, none⟩) (R.length - k) 0) I.length (u8s I) := by
                have h := HV.out
                unfold cutV at h
                rw [if_pos hz] at h
                rw [HL.out]
                exact h
              have HROW := Lib.hid hrow
              have FA := Lib.hid (fits_any F _ I w2 hrow)
              clear hrow
              go_wp2_with fail
              refine FA.out.mono ?_
              rintro e w3 ⟨v, rfl, he, hb⟩
              have B4 := Lib.hid (B3.out.trans (hb.mono B3.out.size))
              have R4 := Lib.hid (HROW.out.keeps (Keeps.new hb) (fun _ _ h => h))
              have HE := Lib.hid he
              clear he hb
              go_wp2
              go_ret3
              have h1 := HE.out
              rw [HD2.out, HFZ.out]
              refine ⟨B4.out, _, _, _, rfl, ?_, ?_⟩
              · split
                · rename_i h; rw [if_pos h] at h1; exact h1
                · rename_i h; rw [if_neg h] at h1; exact h1
              · split
                · intro h; cases h
                · intro _; exact ⟨rfl, R4.out⟩
      · have hf : ErrIs w2 (.iface 88 (.pointer (some ⟨b2, 0, none⟩))) K := .inr ⟨hK, b2, rfl, he2⟩
        have EF := Lib.hid hf
        have hDD := HDD.out
        rw [if_neg hK] at hDD
        subst hDD
        clear hK he2 hf hb2
        go_wp2
        go_ret3
        exact ⟨B3.out, _, _, _, rfl, EF.out, fun h => absurd h (by rcases EF.out with ⟨h, _⟩ | ⟨h, _⟩ <;> first | cases h | exact h)⟩
end Go.Proofs.YtkllaghfiofnjaaDoor
