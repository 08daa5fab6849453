/- The law PacketCuts. -/
import Derived.Test.YtaalbjbocbagcaaDoorLaw11F
namespace Go.Proofs.YtaalbjbocbagcaaDoor
open Go.RowKit
/-- The options of types 0 to m - 1, with no data. -/
def optsN (m : Nat) : List Pure.Opt := (List.range m).map fun i : Nat => ((i : Int), [])
def raws (m : Nat) : List UInt8 := (List.range m).flatMap fun i => [UInt8.ofNat i, 2]
theorem optsN_length (m : Nat) : (optsN m).length = m := by simp [optsN]
theorem optsN_even {m : Nat} (h : m ≤ 255) : ∀ o ∈ optsN m, ¬ Pure.Opt.odd o := by
  intro o ho
  obtain ⟨i, hi, rfl⟩ := List.mem_map.1 ho
  have := List.mem_range.1 hi
  unfold Pure.Opt.odd
  simp
  omega
theorem optsN_joined (m : Nat) : Pure.joined (optsN m) = raws m := by
  unfold Pure.joined optsN raws
  rw [List.flatMap_map]
  congr 1
theorem split_many : ∀ m < 40, 32 < m → Pure.split (raws m) = (3, []) := by
  intro m h1 h2
  obtain h | h | h | h | h | h | h : m = 33 ∨ m = 34 ∨ m = 35 ∨ m = 36 ∨ m = 37 ∨ m = 38 ∨ m = 39 := by omega
  all_goals (subst h; decide +kernel)
theorem cuts_few {m : Nat} (h : m ≤ 32) : Pure.options (optsN m) = (0, raws m) ∧ Pure.split (raws m) = (0, optsN m) := by
  have he := optsN_even (m := m) (by omega)
  refine ⟨by rw [Pure.options_ok (by rw [optsN_length]; omega) he, optsN_joined], ?_⟩
  have := Pure.split_joined (optsN m) [] he (by rw [optsN_length]; simp; omega)
  rw [optsN_joined] at this
  simpa [Pure.split] using this
theorem cuts_many {m : Nat} (h : m < 40) (h2 : 32 < m) : Pure.options (optsN m) = (3, []) ∧ Pure.split (raws m) = (3, []) :=
  ⟨Pure.options_long (by rw [optsN_length]; exact h2), split_many m h h2⟩
def psN (m : Nat) : List (Value × Pure.Opt) := (List.range m).map fun i : Nat => (.slice none 0 0, ((i : Int), []))
theorem psN_length (m : Nat) : (psN m).length = m := by simp [psN]
theorem psN_opts (m : Nat) : optsOf (psN m) = optsN m := by simp [psN, optsN]
theorem psN_succ (m : Nat) : optCells (psN m) ++ optCells [(.slice none 0 0, ((m : Int), []))] = optCells (psN (m + 1)) := by simp [psN, optCells, List.range_succ]
theorem raws_succ (m : Nat) : raws m ++ [UInt8.ofNat m, 2] = raws (m + 1) := by simp [raws, List.range_succ]
theorem raws_length (m : Nat) : (raws m).length = 2 * m := by
  induction m with
  | zero => rfl
  | succ m ih => rw [← raws_succ, List.length_append, ih]; simp; omega
theorem psN_row {w : World} {base : Nat} {v : Value} {m : Nat} (h : w.ownsRow base 36 2 v m (optCells (psN m))) : ORow w (fun b => v.ownBlock = some b) v (psN m) :=
  ⟨by rw [psN_length]; exact Row.of_own h, fun p hp => by
    obtain ⟨i, _, rfl⟩ := List.mem_map.1 hp
    exact Row.nil _ _ _⟩
set_option maxRecDepth 100000 in
set_option maxHeartbeats 4000000 in
theorem packetCuts_walk' (v : Value) (p : Pure.Pkt) (cut : Int) (n : Nat) (w : World) (hgo : Handle w) (hn : n < 256) (hcut1 : -9223372036854775808 ≤ cut ∧ cut ≤ 9223372036854775807)
    (hv : Row w (fun b => b < w.heap.size) 1 v p.data.length (u8s p.data)) :
    Calls Tryd.prog 7 #[pktV p v, .int .i64 cut, .int .u8 n] w fun e w' => e = .returned (.bool true) ∧ Below w.heap.size w w' := by
  obtain ⟨A, cA, rfl, _⟩ := hv.form
  have hml := hv.2.1
  unfold maxLen at hml
  have HGo := Lib.hid hgo
  have HV := Lib.hid hv
  clear hv hgo
  obtain ⟨g, hg⟩ : ∃ g, g = w.heap.size := ⟨_, rfl⟩
  go_enter Tryd.func7, Tryd.ntmps7
  go_upto_region 1 with fail
  rw [← hg]
  generalize hw0 : w.alloc _ = w0
  have hB0 : Blk w0 g 28 #[.int .i64 p.code, .int .i64 p.id, .slice A p.data.length cA] := by rw [← hw0, hg]; exact Blk.new w _ _
  have hk0 : Keeps nobody w w0 := by rw [← hw0]; exact (Keeps.refl _ w).alloc _
  have HB0 := Lib.hid hB0
  have HK0 := Lib.hid hk0
  clear hw0 hg hB0 hk0
  go_wp2_with fail
  refine (awake_any encodeOk decodeOk w0 (HGo.out.below HK0.out.to_below)).mono ?_
  rintro e w1 ⟨rfl, hb1⟩
  have hk1 := HK0.out.trans (Keeps.new hb1)
  have hB1 := HB0.out.keeps (Keeps.new hb1) (fun x => x)
  have V1 := Lib.hid (HV.out.keeps hk1 (fun _ _ h => h))
  have H1 := Lib.hid hk1.to_below
  have a0 : w1.cell? ⟨g, 0, none⟩ = some (.int .i64 p.code) := by rw [hB1.cell]; rfl
  have a1 : w1.cell? ⟨g, 1, none⟩ = some (.int .i64 p.id) := by rw [hB1.cell]; rfl
  have a2 : w1.cell? ⟨g, 2, none⟩ = some (.slice A p.data.length cA) := by rw [hB1.cell]; rfl
  clear hb1 hk1 hB1 HB0 HK0 HV
  by_cases hl1 : 500 < p.data.length
  · have d0 : decide ((500 : Int) < (p.data.length : Int)) = true := decide_eq_true (by omega)
    have HA := Lib.hid (awake_any encodeOk decodeOk w1 (HGo.out.below H1.out))
    go_wp2_with fail
    refine HA.out.mono ?_
    rintro e w2 ⟨rfl, hb2⟩
    have H2 := Lib.hid (H1.out.trans (hb2.mono H1.out.size))
    clear hb2 HA
    go_wp2
    go_ret
    exact ⟨rfl, H2.out⟩
  have d0 : decide ((500 : Int) < (p.data.length : Int)) = false := decide_eq_false (by omega)
  have P2 := Lib.hid (encodeOk _ (.slice A p.data.length cA) p w1 (fun b hb => Nat.lt_of_lt_of_le hb H1.out.size) V1.out)
  obtain ⟨E, hE⟩ : ∃ E, E = (Pure.encode p).1 := ⟨_, rfl⟩
  obtain ⟨O, hO⟩ : ∃ O, O = (Pure.encode p).2 := ⟨_, rfl⟩
  have HEO := Lib.hid (And.intro hE hO)
  rw [← hE, ← hO] at P2
  clear hE hO
  go_wp2_with fail
  refine P2.out.mono ?_
  rintro e w2 ⟨u2, rfl, hu2, hb2⟩
  obtain ⟨A2, c2, rfl⟩ := own_form hu2
  have U2 := Lib.hid hu2
  have H2 := Lib.hid (H1.out.trans (hb2.mono H1.out.size))
  clear hu2 hb2 P2 a0 a1 a2 V1 H1
  go_upto_if 32 with fail
  go_cut [] (fun wx => Below w.heap.size w wx)
  case first =>
    by_cases hz : E = 0
    · subst hz
      obtain ⟨ho, hl, hO, hlen⟩ := Pure.encode_zero HEO.out.1.symm
      rw [← HEO.out.2] at hO
      rw [← hO] at hlen
      have hol : O.length ≤ 1500 := by omega
      have hpos : 0 < (O.length : Int) := by omega
      obtain ⟨t, ht⟩ : ∃ t, t = cut.tmod (O.length : Int) := ⟨_, rfl⟩
      have t1 := Int.tmod_lt_of_pos cut hpos
      have t2 := Int.lt_tmod_of_pos cut hpos
      rw [← ht] at t1 t2
      obtain ⟨y, hy⟩ : ∃ y : Nat, (y : Int) = t + (O.length : Int) := ⟨(t + (O.length : Int)).toNat, by omega⟩
      have et : cut.tmod (O.length : Int) = t := ht.symm
      have ey : t + (O.length : Int) = (y : Int) := hy.symm
      obtain ⟨k, hk⟩ : ∃ k, k = y % O.length := ⟨_, rfl⟩
      have ek : (y : Int).tmod (O.length : Int) = (k : Int) := by rw [Int.tmod_eq_emod_of_nonneg (by omega), hk]; rfl
      have hkl : k < O.length := by rw [hk]; exact Nat.mod_lt _ (by omega)
      have hdec := Pure.decode_cutoff ho hl k (by rw [← hO]; exact hkl)
      rw [← hO] at hdec
      have hyl : (y : Int) < 3000 := by omega
      have hne : (O.length : Int) ≠ 0 := by omega
      clear ht hy hk ho hl hO hlen
      go_upto_region 8 with fail
      have hcap : O.length ≤ c2 := by obtain ⟨_, _, _, h⟩ := (Row.of_own U2.out).form; rename_i h0; injection h0 with _ _ h1; omega
      have q1 : (k : Int) ≤ (c2 : Int) := by omega
      have hkl2 : (k : Int) ≤ (O.length : Int) := by omega
      have hlt : (O.take k).length = k := by rw [List.length_take]; omega
      have P3 := decodeOk _ (.slice A2 k c2) (O.take k) w2 (HGo.out.below H2.out) (fun b hb => ownsRow_lt U2.out b hb) (by
        rw [hlt, u8s_take]
        exact (Row.of_own U2.out).take1 k (by omega))
      obtain ⟨Q, hQ⟩ : ∃ Q, Q = (Pure.decode (O.take k)).2 := ⟨_, rfl⟩
      rw [← hQ, hdec] at P3
      have P3 := Lib.hid P3
      clear hdec hQ hlt hcap t1 t2 et ey ek hkl
      go_wp2_with fail
      refine P3.out.mono ?_
      rintro e w3 ⟨u3, rfl, hu3, hb3⟩
      obtain ⟨A3, c3, rfl, _⟩ := hu3.form
      have H3 := Lib.hid (H2.out.trans (hb3.mono H2.out.size))
      clear hu3 hb3 P3 U2
      go_wp2
      go_meet
      exact H3.out.alloc H3.out.size _
    · have dE : ((E : Int) == 0) = false := by rw [beq_eq_false_iff_ne]; omega
      go_wp2
      go_meet
      exact H2.out
  case rest =>
    clear U2 H2 HEO
    obtain ⟨w3, hw3⟩ : ∃ w3, w3 = wc := ⟨_, rfl⟩
    rw [← hw3] at hcut ⊢
    have H3 := Lib.hid hcut
    clear hcut hw3
    obtain ⟨i0, hi0, hz0, hz1, hz2⟩ := info_parts opt_info
    have HI := Lib.hid (And.intro hi0 (And.intro hz0 (And.intro hz1 hz2)))
    clear hi0 hz0 hz1 hz2
    obtain ⟨m, hm⟩ : ∃ m, m = n % 40 := ⟨_, rfl⟩
    have em : (n : Int).tmod 40 = (m : Int) := by rw [Int.tmod_eq_emod_of_nonneg (by omega), hm]; rfl
    have hm40 : m < 40 := by omega
    have HM := Lib.hid hm
    clear hm
    go_wp2_with fail
    go_loopw [11, 12] (fun v i wr => ∃ k : Nat, k ≤ m ∧ i = .int .i64 (k : Int) ∧ wr.ownsRow w3.heap.size 36 2 v k (optCells (psN k)) ∧ Below w3.heap.size w3 wr) (fun _ i _ => m - (intOf i).toNat)
    case atStart => exact ⟨0, by omega, rfl, World.ownsRow_nil _ _ _ _, Below.refl _ _⟩
    case round =>
      obtain ⟨k, hk, rfl, hW, hB⟩ := hrel
      obtain ⟨A4, c4, rfl⟩ := own_form hW
      have HW := Lib.hid hW
      have HB := Lib.hid hB
      clear hW hB
      by_cases hkm : k < m
      · have d1 : decide ((k : Int) < (m : Int)) = true := decide_eq_true (by omega)
        have d2 : decide (k < m) = true := decide_eq_true hkm
        go_wp2_with (at_builtin; refine stopHere ?_)
        unfold Hid
        obtain ⟨wb, hwb⟩ : ∃ wb, wb = wr.alloc (.cells (optCells [(.slice none 0 0, ((k : Int), []))]).toArray 36) := ⟨_, rfl⟩
        have hwb' : wr.alloc (.cells #[.int .i64 (k : Int), .slice none 0 0] 36) = wb := hwb.symm
        rw [hwb']
        have hkb : Keeps nobody wr wb := by rw [hwb]; exact (Keeps.refl _ wr).alloc _
        have hbb : Blk wb wr.heap.size 36 (optCells [(.slice none 0 0, ((k : Int), []))]).toArray := by rw [hwb]; exact Blk.new wr _ _
        have hrb : Row wb (fun b => b = wr.heap.size) 2 (.slice (some ⟨wr.heap.size, 0, none⟩) 1 1) 1 (optCells [(.slice none 0 0, ((k : Int), []))]) :=
          Row.block (F := fun b => b = wr.heap.size) (n := 1) (c := 1) (size := 2) hbb rfl rfl (by unfold maxLen; omega) (Nat.le_refl _)
        have hownb : wb.ownsRow w3.heap.size 36 2 (.slice A4 k c4) k (optCells (psN k)) := ownsRow_keeps HW.out hkb (fun _ _ h => h)
        have hBb : Below w3.heap.size w3 wb := Below.quiet HB.out hkb HB.out.size
        have hone : ∀ p ∈ ([(.slice none 0 0, ((k : Int), []))] : List (Value × Pure.Opt)), p.1.oneCell' = true := by
          intro p hp
          simp at hp
          subst hp
          rfl
        clear hwb hwb'
        refine wpList_append_row rfl (.tmp 59) (.tmp 62) _ rfl w3.heap.size 36 i0 _ 2 32 Tryd.underlying29 HI.out.1 HI.out.2.1 HI.out.2.2.1 HI.out.2.2.2 rfl (by omega) (.slice A4 k c4) k (optCells (psN k)) rfl hownb _ _ 1 (optCells [(.slice none 0 0, ((k : Int), []))]) rfl hrb (optCells_one _ hone) (by unfold maxLen; omega) (by omega) hBb.size ?_
        intro v5 w5 hown5 hg5 hat5
        rw [psN_succ] at hown5
        have HO5 := Lib.hid hown5
        have HB5 := Lib.hid (hBb.grown hg5 hBb.size (fun k hk => ownsRow_ge hownb k hk))
        clear hown5 hg5 hat5 hkb hbb hrb hownb hBb hone d1 d2
        go_wp2_with fail
        go_roundw
        case rel => exact ⟨k + 1, by omega, by go_num, HO5.out, HB5.out⟩
        case measure => simp [intOf]; omega
      · have hkm' : k = m := by omega
        subst hkm'
        have d1 : decide ((k : Int) < (k : Int)) = false := decide_eq_false (by omega)
        have d2 : decide (k < k) = false := decide_eq_false (by omega)
        have H4 := Lib.hid (H3.out.trans (HB.out.mono H3.out.size))
        have P4 := optionsOk _ (.slice A4 k c4) (psN k) wr (fun b hb => ownsRow_lt HW.out b hb) (psN_row HW.out)
        rw [psN_opts] at P4
        obtain ⟨E4, hE⟩ : ∃ E, E = (Pure.options (optsN k)).1 := ⟨_, rfl⟩
        obtain ⟨O4, hO⟩ : ∃ O, O = (Pure.options (optsN k)).2 := ⟨_, rfl⟩
        have HEO := Lib.hid (And.intro hE hO)
        rw [← hE, ← hO] at P4
        have P4 := Lib.hid P4
        clear hE hO hkm hk
        go_wp2_with fail
        refine P4.out.mono ?_
        rintro e w5 ⟨u5, rfl, hu5, hb5⟩
        obtain ⟨A5, c5, rfl⟩ := own_form hu5
        have hk5 := Keeps.new hb5
        have U5 := Lib.hid hu5
        have H5 := Lib.hid (H4.out.trans (hb5.mono H4.out.size))
        have W5 := Lib.hid (ownsRow_keeps HW.out hk5 (fun _ _ h => h))
        clear hu5 hb5 hk5 P4 HW HB H4 H3 em d1 d2
        go_wp2_with fail
        go_loopw [15, 16] (fun v i wr => ∃ j : Nat, j ≤ k ∧ i = .int .i64 (j : Int) ∧ wr.ownsRow w5.heap.size 5 1 v (raws j).length (u8s (raws j)) ∧ Below w5.heap.size w5 wr) (fun _ i _ => k - (intOf i).toNat)
        case atStart => exact ⟨0, by omega, rfl, World.ownsRow_nil _ _ _ _, Below.refl _ _⟩
        case round =>
          obtain ⟨j, hj, rfl, hW, hB⟩ := hrel
          obtain ⟨A6, c6, rfl⟩ := own_form hW
          have HW := Lib.hid hW
          have HB := Lib.hid hB
          clear hW hB
          by_cases hjk : j < k
          · have d1 : decide ((j : Int) < (k : Int)) = true := decide_eq_true (by omega)
            have d2 : decide (j < k) = true := decide_eq_true hjk
            go_wp2_with (at_builtin; refine stopHere ?_)
            unfold Hid
            have hbyte : (UInt8.ofNat j).toNat = j := by rw [UInt8.toNat_ofNat']; omega
            have hrl := raws_length j
            obtain ⟨wb, hwb⟩ : ∃ wb, wb = wr.alloc (.cells #[.int .u8 (j : Int), .int .u8 2] 5) := ⟨_, rfl⟩
            rw [← hwb]
            have hkb : Keeps nobody wr wb := by rw [hwb]; exact (Keeps.refl _ wr).alloc _
            have hrb : Row wb (fun x => x = wr.heap.size) 1 (.slice (some ⟨wr.heap.size, 0, none⟩) 2 2) 2 (u8s [UInt8.ofNat j, 2]) := by
              have := row_new wr [UInt8.ofNat j, 2] #[.int .u8 (j : Int), .int .u8 2] 2 (by simp [hbyte]) rfl (by simp)
              rw [hwb]
              exact this
            have hWb := ownsRow_keeps HW.out hkb (fun _ _ h => h)
            have hBb := Below.quiet HB.out hkb HB.out.size
            obtain ⟨R, hR⟩ : ∃ R, R = raws j := ⟨_, rfl⟩
            rw [← hR] at hWb HW hrl ⊢
            have HR' := Lib.hid (show R ++ [UInt8.ofNat j, 2] = raws (j + 1) by rw [hR, raws_succ])
            clear hwb hbyte hR
            refine wp_append_u8 rfl (.tmp 75) (.tmp 78) rfl w5.heap.size (.slice A6 R.length c6) R.length R rfl rfl hWb _ _ [UInt8.ofNat j, 2] rfl hrb (by simp; omega) hBb.size ?_
            intro v7 w7 hown7 hg7 hat7
            rw [HR'.out] at hown7
            have HO7 := Lib.hid hown7
            have HB7 := Lib.hid (hBb.grown hg7 hBb.size (fun k hk => ownsRow_ge hWb k hk))
            clear hown7 hg7 hat7 hkb hrb hWb hBb d1 d2 hrl
            go_wp2_with fail
            go_roundw
            case rel => exact ⟨j + 1, by omega, by go_num, HO7.out, HB7.out⟩
            case measure => simp [intOf]; omega
          · have hjk' : j = k := by omega
            subst hjk'
            have d1 : decide ((j : Int) < (j : Int)) = false := decide_eq_false (by omega)
            have d2 : decide (j < j) = false := decide_eq_false (by omega)
            have hk6 := Keeps.new HB.out
            have H6 := Lib.hid (H5.out.trans (HB.out.mono H5.out.size))
            have U6 := Lib.hid (own_quiet U5.out hk6)
            have W6 := Lib.hid (ownsRow_keeps W5.out hk6 (fun _ _ h => h))
            have P6 := splitOk _ (.slice A6 (raws j).length c6) (raws j) wr (HGo.out.below H6.out) (fun b hb => ownsRow_lt HW.out b hb) (Row.of_own HW.out)
            by_cases hbig : 32 < j
            · obtain ⟨k1, k2⟩ := cuts_many hm40 hbig
              rw [k2] at P6
              dsimp only at P6
              have he := HEO.out
              rw [k1] at he
              have e1 : E4 = 3 := he.1
              have e2 : O4 = [] := he.2
              subst e1 e2
              have P6 := Lib.hid P6
              have d3 : decide ((32 : Int) < (j : Int)) = true := decide_eq_true (by omega)
              have d4 : decide (32 < j) = true := decide_eq_true hbig
              clear k1 k2 hk6 hbig HEO U5 W5 H5 he
              go_wp2_with fail
              refine P6.out.mono ?_
              rintro e w7 ⟨u7, rs, rfl, hrs, hu7, hb7⟩
              obtain ⟨A7, c7, rfl, _⟩ := hu7.form
              have hr0 : rs = [] := by
                match rs, hrs with
                | [], _ => rfl
              subst hr0
              have H7 := Lib.hid (H6.out.trans (hb7.mono H6.out.size))
              have HA := Lib.hid (awake_any encodeOk decodeOk w7 (HGo.out.below H7.out))
              clear hrs hu7 hb7 P6 H6 U6 W6 HW HB
              go_wp2_with fail
              refine HA.out.mono ?_
              rintro e w8 ⟨rfl, hb8⟩
              have H8 := Lib.hid (H7.out.trans (hb8.mono H7.out.size))
              clear hb8 HA H7
              go_wp2
              go_ret
              exact ⟨rfl, H8.out⟩
            · obtain ⟨k1, k2⟩ := cuts_few (m := j) (by omega)
              rw [k2] at P6
              dsimp only at P6
              have he := HEO.out
              rw [k1] at he
              have e1 : E4 = 0 := he.1
              have e2 : O4 = raws j := he.2
              subst e1 e2
              have P6 := Lib.hid P6
              have d3 : decide ((32 : Int) < (j : Int)) = false := decide_eq_false (by omega)
              have d4 : decide (32 < j) = false := decide_eq_false hbig
              clear k1 k2 hk6 hbig HEO U5 W5 H5 he
              go_wp2_with fail
              refine P6.out.mono ?_
              rintro e w7 ⟨u7, rs, rfl, hrs, hu7, hb7⟩
              obtain ⟨A7, c7, rfl, _⟩ := hu7.form
              have hk7 := Keeps.new hb7
              have H7 := Lib.hid (H6.out.trans (hb7.mono H6.out.size))
              have U7 := Lib.hid (own_quiet U6.out hk7)
              have V7 := Lib.hid (own_quiet HW.out hk7)
              have W7 := Lib.hid (ownsRow_keeps W6.out hk7 (fun _ _ h => h))
              have X7 := Lib.hid hu7
              have HRS := Lib.hid (hrs.trans (psN_opts j).symm)
              have HA := Lib.hid (awake_any encodeOk decodeOk w7 (HGo.out.below H7.out))
              clear hrs hu7 hb7 hk7 P6 H6 U6 W6 HW HB
              go_wp2_with fail
              refine HA.out.mono ?_
              rintro e w8 ⟨rfl, hb8⟩
              have hk8 := Keeps.new hb8
              have hH8 := H7.out.trans (hb8.mono H7.out.size)
              have W8 := Lib.hid (ownsRow_keeps W7.out hk8 (fun _ _ h => h))
              have X8 := Lib.hid (X7.out.keeps hk8 (fun _ _ h => h))
              have P9 := Lib.hid (sameY (w0 := w) hH8 (Row.of_own (own_quiet U7.out hk8)) (Row.of_own (own_quiet V7.out hk8)) rfl rfl)
              clear hb8 HA H7 U7 V7 W7 X7 hk8 hH8
              go_wp2_with fail
              refine P9.out.mono ?_
              rintro e w9 ⟨rfl, hk9, hb9⟩
              have P10 := sameOk _ _ (.slice A7 rs.length c7) (.slice A4 j c4) rs (psN j) w9 (X8.out.keeps hk9 (fun _ _ h => h)) (psN_row (ownsRow_keeps W8.out hk9 (fun _ _ h => h)))
              rw [decide_eq_true HRS.out] at P10
              have P10 := Lib.hid P10
              have H9 := Lib.hid hb9
              clear hk9 hb9 P9 W8 X8
              go_wp2_with fail
              refine P10.out.mono ?_
              rintro e wa ⟨rfl, hka⟩
              have HA := Lib.hid (Below.quiet H9.out hka H9.out.size)
              clear hka P10 H9
              go_wp2
              go_ret
              exact ⟨rfl, HA.out⟩
end Go.Proofs.YtaalbjbocbagcaaDoor
