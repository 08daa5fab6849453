/- The walk of the law BitsReads. -/
import Derived.Test.YtekocdiccfpkdaaLaw1F
import Derived.Test.YtekocdiccfpkdaaRef1D
namespace Go.Proofs.Ytekocdiccfpkdaa
open Go.RowKit

/-- A reader and the document's bits, both at one place, apart from one another. -/
structure Both (w wr : World) (g1 : Nat) (v1 : Value) (g2 : Nat) (v2 : Value) (high : Bool) (bs : List UInt8) (at_ : Nat) : Prop where
  r : RObj wr g1 v1 high bs at_
  m : RefO wr g2 v2 high (Pure.bitsOfBytes high bs) at_
  below : Below w.heap.size w wr
  g1w : w.heap.size ≤ g1
  g2w : w.heap.size ≤ g2
  ne : g1 ≠ g2
  n1 : ∀ q, v1.ownBlock = some q → q ≠ g2
  n2 : ∀ q, v2.ownBlock = some q → q ≠ g1

theorem Both.le {w wr : World} {g1 g2 : Nat} {v1 v2 : Value} {high : Bool} {bs : List UInt8} {at_ : Nat} (h : Both w wr g1 v1 g2 v2 high bs at_) : at_ ≤ (Pure.bitsOfBytes high bs).length := by
  rw [Pure.bitsOfBytes_length]; exact h.r.le
/-- The reader went on. -/
theorem Both.step1 {w wr w2 : World} {g1 g2 : Nat} {v1 v2 : Value} {high : Bool} {bs : List UInt8} {at_ : Nat} (h : Both w wr g1 v1 g2 v2 high bs at_) (hk : Keeps (only g1) wr w2) :
    RefO w2 g2 v2 high (Pure.bitsOfBytes high bs) at_ ∧ Below w.heap.size w w2 :=
  ⟨h.m.keeps hk (fun q hq e => by
      have e : q = g1 := e
      rcases hq with rfl | hq
      · exact h.ne e.symm
      · exact h.n2 q hq e), Below.keeps h.below hk h.below.size (fun i hi => by have hi : i = g1 := hi; have := h.g1w; omega)⟩
/-- Then the other one. -/
theorem Both.step2 {w wr w2 w3 : World} {g1 g2 : Nat} {v1 v2 : Value} {high : Bool} {bs : List UInt8} {at_ a2 : Nat} (h : Both w wr g1 v1 g2 v2 high bs at_) (hr : RObj w2 g1 v1 high bs a2) (hb : Below w.heap.size w w2)
    (hm : RefO w3 g2 v2 high (Pure.bitsOfBytes high bs) a2) (hk : Keeps (only g2) w2 w3) : Both w w3 g1 v1 g2 v2 high bs a2 :=
  ⟨hr.keeps hk (fun e => h.ne e) (fun q hq e => h.n1 q hq e), hm, Below.keeps hb hk hb.size (fun i hi => by have hi : i = g2 := hi; have := h.g2w; omega), h.g1w, h.g2w, h.ne, h.n1, h.n2⟩
theorem Both.quiet {w wr w2 : World} {g1 g2 : Nat} {v1 v2 : Value} {high : Bool} {bs : List UInt8} {at_ : Nat} (h : Both w wr g1 v1 g2 v2 high bs at_) (hk : Keeps nobody wr w2) : Both w w2 g1 v1 g2 v2 high bs at_ :=
  ⟨h.r.keeps hk (fun h => h) (fun _ _ h => h), h.m.keeps hk (fun _ _ h => h), Below.quiet h.below hk h.below.size, h.g1w, h.g2w, h.ne, h.n1, h.n2⟩
theorem peek_same (high : Bool) (bs : List UInt8) (at_ n : Nat) : Pure.num high (fun k => (Pure.bitsOfBytes high bs).getD (at_ + k) false) n n = Pure.peek high bs at_ n := by
  unfold Pure.peek
  apply Nat.eq_of_testBit_eq
  intro j
  rw [Pure.num_testBit, Pure.num_testBit, Pure.bitsOfBytes_getD]
  by_cases hj : j < n
  · have hp := Pure.place_lt high n j hj
    by_cases hm : Pure.place high n j < min n (8 * bs.length - at_)
    · simp [hj, hp, hm]
    · rw [Pure.bit_past high bs _ (by omega)]
      simp
  · simp [hj]

set_option maxRecDepth 100000 in
set_option maxHeartbeats 4000000 in
theorem bitsReads_walk (a0 : Option Addr) (len0 cap0 : Nat) (z0 : List Int) (a1 : Bool) (a2 : Option Addr) (len2 cap2 : Nat) (w : World) (w0 : IsRow .u8 w a0 len0 cap0 z0) (w2 : IsStructs w [.int .i64, .int .i64, .int .i64, .row .u8] a2 len2 cap2) :
    Calls Try.prog 4 #[.slice a0 len0 cap0, .bool a1, .slice a2 len2 cap2] w fun e w' => e = .returned (.bool true) ∧ Below w.heap.size w w' := by
  obtain ⟨ds, hds⟩ := deeds_of w2
  have D0 := Lib.hid hds
  have hcnt := hds.count
  have hmost := hds.most
  have hfits := hds.fits
  unfold maxLen at hmost
  clear hds w2
  subst hcnt
  obtain ⟨bs, hl, hrow⟩ := w0.bytes
  have HR0 := Lib.hid hrow
  have hmx := hrow.2.1
  unfold maxLen at hmx
  clear hrow w0
  subst hl
  go_enter Try.func4, Try.ntmps4
  go_wp2_with fail
  refine (awake_any w).mono ?_
  rintro e wa ⟨rfl, hb0⟩
  have BA := Lib.hid hb0
  have D1 := Lib.hid (D0.out.keeps (Keeps.new hb0) (fun _ _ h => h))
  have HR1 := Lib.hid (HR0.out.keeps (Keeps.new hb0) (fun _ _ h => h))
  clear hb0
  by_cases h5 : 500 < bs.length
  · go_wp2_with fail
    go_ret
    exact ⟨rfl, BA.out⟩
  · go_wp2_with fail
    refine (room_any _ _ _ _ ds wa D1.out).mono ?_
    rintro e wb ⟨rfl, rfl⟩
    by_cases hroom : roomB ds = false
    · rw [hroom]
      clear hroom
      go_wp2
      go_ret
      exact ⟨rfl, BA.out⟩
    · have hroom' : roomB ds = true := by simpa using hroom
      have h100 : ds.length ≤ 100 := by
        unfold roomB at hroom'
        simp only [Bool.and_eq_true, decide_eq_true_eq] at hroom'
        exact hroom'.1
      rw [hroom']
      clear hroom hroom'
      go_wp2_with fail
      refine (newReader_any _ _ a1 bs wa HR1.out (by omega)).mono ?_
      rintro e w1 ⟨g1, v1, rfl, hg1, hr1, hv1, hb1⟩
      have R1 := Lib.hid hr1
      have B1 := Lib.hid (BA.out.trans (hb1.mono BA.out.size))
      have hg1' : w.heap.size ≤ g1 := Nat.le_trans BA.out.size hg1
      have HR2 := Lib.hid (HR0.out.keeps (Keeps.new B1.out) (fun _ _ h => h))
      clear hr1 hb1 hv1 hg1 HR1 D1 BA
      go_wp2_with fail
      refine (refOpen_any _ _ a1 bs w1 HR2.out (fun q hq => Nat.lt_of_lt_of_le hq B1.out.size) (by omega)).mono ?_
      rintro e w2 ⟨g2, v2, rfl, hg2, hr2, hv2, hb2⟩
      have hboth : Both w w2 g1 v1 g2 v2 a1 bs 0 :=
        ⟨R1.out.keeps (Keeps.new hb2) (fun h => h) (fun _ _ h => h), hr2, B1.out.trans (hb2.mono B1.out.size), hg1', Nat.le_trans B1.out.size hg2,
          fun e => by have := R1.out.blk.lt; omega, fun q hq e => by have := ownsRow_lt R1.out.own q hq; omega, fun q hq e => by have := hv2 q hq; have := R1.out.blk.lt; omega⟩
      have HB := Lib.hid hboth
      clear hboth hr2 hv2 hb2 hg2 B1 R1 HR2
      go_wp2_with fail
      go_loopw [9] (fun i wr => ∃ k : Nat, k ≤ ds.length ∧ i = .int .i64 k ∧ ∃ at_, Both w wr g1 v1 g2 v2 a1 bs at_) (fun i _ => ds.length - (intOf i).toNat)
      case atStart => exact ⟨0, by omega, rfl, 0, HB.out⟩
      case round =>
        obtain ⟨k, hk, rfl, at_, hbo⟩ := hrel
        have BO := Lib.hid hbo
        clear hbo HB
        by_cases hlt : k < ds.length
        · obtain ⟨d, hd⟩ : ∃ d, ds[k]? = some d := ⟨_, List.getElem?_eq_getElem hlt⟩
          obtain ⟨b, off, rfl, hbw, hcell⟩ := (D0.out.keeps (Keeps.new BO.out.below) (fun _ _ h => h)).cells k d hd
          have c0 : wr.cell? ⟨b, off + k * 4, none⟩ = some (.int .i64 d.act) := hcell 0 _ rfl
          have c2 : wr.cell? ⟨b, off + k * 4 + 2, none⟩ = some (.int .i64 d.n) := hcell 2 _ rfl
          obtain ⟨⟨ha1, ha2⟩, _, hn1, hn2⟩ := D0.out.fit k d hd
          have hk0 : (0 : Int) ≤ (k : Int) := by omega
          have hk1 : (k : Int) < (ds.length : Int) := by omega
          clear hcell
          obtain ⟨act, x, n, dv, dbs⟩ := d
          simp only at c0 c2 ha1 ha2 hn1 hn2
          have hle := BO.out.le
          have hl8 := Pure.bitsOfBytes_length a1 bs
          have HL8 := Lib.hid hl8
          rw [hl8] at hle
          clear hl8
          go_upto_block 2 with fail
          go_cut [10] (fun s wx => s = .bool true ∧ ∃ at2, Both w wx g1 v1 g2 v2 a1 bs at2)
          case first =>
            by_cases h4 : act ≤ 4
            · -- Take
              by_cases hbad : n < 0 ∨ 32 < n
              · go_wp2_with fail
                refine (take_bad g1 v1 a1 bs at_ n wr BO.out.r hbad).mono ?_
                rintro e w3 ⟨rfl, rfl⟩
                go_wp2_with fail
                refine (refTake_bad g2 n wr hbad).mono ?_
                rintro e w4 ⟨rfl, rfl⟩
                clear hbad c0 c2
                go_wp2
                go_meet
                exact ⟨rfl, at_, BO.out⟩
              · obtain ⟨N, rfl⟩ := Int.eq_ofNat_of_zero_le (show 0 ≤ n by omega)
                by_cases hfit : at_ + N ≤ 8 * bs.length
                · go_wp2_with fail
                  refine (take_ok g1 v1 a1 bs at_ N wr BO.out.r (by omega) (by omega)).mono ?_
                  rintro e w3 ⟨rfl, hr3, hk3⟩
                  obtain ⟨hm3, hb3⟩ := BO.out.step1 hk3
                  have R3 := Lib.hid hr3
                  have M3 := Lib.hid hm3
                  have B3 := Lib.hid hb3
                  have d2 : w3.cell? ⟨b, off + k * 4 + 2, none⟩ = some (.int .i64 N) := (World.cell?_of_block (w := wr) (a := ⟨b, off + k * 4 + 2, none⟩) (hk3.block b (cell_lt c2) (fun e => by have e : b = g1 := e; have := BO.out.g1w; omega))).trans c2
                  clear hr3 hm3 hb3 hk3 c0 c2
                  go_wp2_with fail
                  refine (refTake_ok g2 v2 a1 _ at_ N w3 M3.out (by omega) (by rw [HL8.out]; exact hfit)).mono ?_
                  rintro e w4 ⟨rfl, hm4, hk4⟩
                  rw [peek_same]
                  have B4 := Lib.hid (BO.out.step2 R3.out B3.out hm4 hk4)
                  clear hm4 hk4 d2 hfit
                  go_wp2
                  go_meet
                  exact ⟨by simp, _, B4.out⟩
                · go_wp2_with fail
                  refine (take_no g1 v1 a1 bs at_ N wr BO.out.r (by omega) (by omega)).mono ?_
                  rintro e w3 ⟨rfl, n3, hw3⟩
                  have B3 := Lib.hid (BO.out.quiet (Keeps.of_drewN hw3))
                  have d2 : w3.cell? ⟨b, off + k * 4 + 2, none⟩ = some (.int .i64 N) := (World.cell?_of_block (w := wr) (a := ⟨b, off + k * 4 + 2, none⟩) ((Keeps.of_drewN hw3).block b (cell_lt c2) (fun h => h))).trans c2
                  clear hw3 c0 c2
                  go_wp2_with fail
                  refine (refTake_no g2 v2 a1 _ at_ N w3 B3.out.m (by rw [HL8.out]; omega) (by omega) (by rw [HL8.out]; omega)).mono ?_
                  rintro e w4 ⟨rfl, hk4⟩
                  have B4 := Lib.hid (B3.out.quiet hk4)
                  clear hk4 d2 hfit
                  go_wp2
                  go_meet
                  exact ⟨rfl, _, B4.out⟩
            · by_cases h6 : act ≤ 6
              · -- Peek
                by_cases hbad : n < 0 ∨ 32 < n
                · go_wp2_with fail
                  refine (peek_bad g1 v1 a1 bs at_ n wr BO.out.r hbad).mono ?_
                  rintro e w3 ⟨rfl, rfl⟩
                  go_wp2_with fail
                  refine (refPeek_bad g2 n wr hbad).mono ?_
                  rintro e w4 ⟨rfl, rfl⟩
                  clear hbad c0 c2
                  go_wp2
                  go_meet
                  exact ⟨rfl, at_, BO.out⟩
                · obtain ⟨N, rfl⟩ := Int.eq_ofNat_of_zero_le (show 0 ≤ n by omega)
                  go_wp2_with fail
                  refine (peek_any g1 v1 a1 bs at_ N wr BO.out.r (by omega)).mono ?_
                  rintro e w3 ⟨rfl, hb3⟩
                  have B3 := Lib.hid (BO.out.quiet (Keeps.new hb3))
                  have d2 : w3.cell? ⟨b, off + k * 4 + 2, none⟩ = some (.int .i64 N) := (hb3.cell (p := ⟨b, off + k * 4 + 2, none⟩) (cell_lt c2)).trans c2
                  clear hb3 c0 c2
                  go_wp2_with fail
                  refine (refPeek_any g2 v2 a1 _ at_ N w3 B3.out.m (by rw [HL8.out]; omega) (by omega)).mono ?_
                  rintro e w4 ⟨rfl, hk4⟩
                  rw [peek_same, HL8.out]
                  have B4 := Lib.hid (B3.out.quiet hk4)
                  clear hk4 d2
                  go_wp2
                  go_meet
                  exact ⟨by simp, _, B4.out⟩
              · by_cases h7 : act = 7
                · -- Align
                  subst h7
                  go_wp2_with fail
                  refine (ralign_any g1 v1 a1 bs at_ wr BO.out.r).mono ?_
                  rintro e w3 ⟨rfl, hr3, hk3⟩
                  obtain ⟨hm3, hb3⟩ := BO.out.step1 hk3
                  have R3 := Lib.hid hr3
                  have M3 := Lib.hid hm3
                  have B3 := Lib.hid hb3
                  clear hr3 hm3 hb3 hk3 c0 c2
                  go_wp2_with fail
                  refine (refAlign_any g2 v2 a1 _ at_ w3 M3.out (by omega)).mono ?_
                  rintro e w4 ⟨rfl, hm4, hk4⟩
                  have B4 := Lib.hid (BO.out.step2 R3.out B3.out hm4 hk4)
                  clear hm4 hk4
                  go_wp2
                  go_meet
                  exact ⟨rfl, _, B4.out⟩
                · -- Bytes
                  have h7b : (act == 7) = false := by rw [beq_eq_false_iff_ne]; exact h7
                  by_cases hbad : n < 0 ∨ (bs.length : Int) < ((at_ + 7) / 8 : Nat) + n
                  · go_wp2_with fail
                    refine (rbytes_no g1 v1 a1 bs at_ n wr BO.out.r hbad).mono ?_
                    rintro e w3 ⟨rfl, hr3, hk3⟩
                    obtain ⟨hm3, hb3⟩ := BO.out.step1 hk3
                    have R3 := Lib.hid hr3
                    have M3 := Lib.hid hm3
                    have B3 := Lib.hid hb3
                    have d2 : w3.cell? ⟨b, off + k * 4 + 2, none⟩ = some (.int .i64 n) := (World.cell?_of_block (w := wr) (a := ⟨b, off + k * 4 + 2, none⟩) (hk3.block b (cell_lt c2) (fun e => by have e : b = g1 := e; have := BO.out.g1w; omega))).trans c2
                    clear hr3 hm3 hb3 hk3 c0 c2
                    go_wp2_with fail
                    refine (refBytes_no g2 v2 a1 _ at_ n w3 M3.out (by rw [HL8.out]; omega) (by rw [HL8.out]; omega)).mono ?_
                    rintro e w4 ⟨rfl, hm4, hk4⟩
                    have B4 := Lib.hid (BO.out.step2 R3.out B3.out hm4 hk4)
                    clear hm4 hk4 d2 hbad
                    go_wp2_with fail
                    refine (same_any nobody nobody _ _ [] [] w4 (Row.nil _ _ _) (Row.nil _ _ _)).mono ?_
                    rintro e w5 ⟨rfl, hk5⟩
                    have B5 := Lib.hid (B4.out.quiet hk5)
                    clear hk5
                    go_wp2
                    go_meet
                    exact ⟨rfl, _, B5.out⟩
                  · obtain ⟨N, rfl⟩ := Int.eq_ofNat_of_zero_le (show 0 ≤ n by omega)
                    have hN : (at_ + 7) / 8 + N ≤ bs.length := by omega
                    go_wp2_with fail
                    refine (rbytes_ok g1 v1 a1 bs at_ N wr BO.out.r hN).mono ?_
                    rintro e w3 ⟨u3, rfl, hr3, hown3, hk3⟩
                    obtain ⟨hm3, hb3⟩ := BO.out.step1 hk3
                    have R3 := Lib.hid hr3
                    have M3 := Lib.hid hm3
                    have B3 := Lib.hid hb3
                    have U3 := Lib.hid hown3
                    have UQ := Lib.hid (fun q (hq : u3.ownBlock = some q) => show ¬ only g2 q from fun e => by have e : q = g2 := e; have h1 := ownsRow_ge hown3 q hq; have h2 := BO.out.m.blk.lt; omega)
                    have d2 : w3.cell? ⟨b, off + k * 4 + 2, none⟩ = some (.int .i64 N) := (World.cell?_of_block (w := wr) (a := ⟨b, off + k * 4 + 2, none⟩) (hk3.block b (cell_lt c2) (fun e => by have e : b = g1 := e; have := BO.out.g1w; omega))).trans c2
                    clear hr3 hm3 hb3 hk3 c0 c2 hown3
                    go_wp2_with fail
                    refine (refBytes_ok g2 v2 a1 bs at_ N w3 M3.out hN).mono ?_
                    rintro e w4 ⟨u4, rfl, hm4, hown4, hk4⟩
                    have B4 := Lib.hid (BO.out.step2 R3.out B3.out hm4 hk4)
                    have U4 := Lib.hid hown4
                    have U5 := Lib.hid (ownsRow_keeps U3.out hk4 UQ.out)
                    have hcl : ((bs.drop ((at_ + 7) / 8)).take N).length = N := by simp; omega
                    have HCL := Lib.hid hcl
                    clear hm4 hk4 d2 hown4 hcl U3 UQ hbad
                    go_wp2_with fail
                    have hr5 : Row w4 (fun b => u3.ownBlock = some b) 1 u3 ((bs.drop ((at_ + 7) / 8)).take N).length (u8s ((bs.drop ((at_ + 7) / 8)).take N)) := by rw [HCL.out]; exact Row.of_own U5.out
                    have hr4 : Row w4 (fun b => u4.ownBlock = some b) 1 u4 ((bs.drop ((at_ + 7) / 8)).take N).length (u8s ((bs.drop ((at_ + 7) / 8)).take N)) := by rw [HCL.out]; exact Row.of_own U4.out
                    refine (same_any _ _ _ _ _ _ w4 hr5 hr4).mono ?_
                    rintro e w5 ⟨rfl, hk5⟩
                    have B5 := Lib.hid (B4.out.quiet hk5)
                    clear hk5 hr5 hr4
                    go_wp2
                    go_meet
                    exact ⟨by simp, _, B5.out⟩
          case rest =>
            obtain ⟨rfl, at2, hbo⟩ := hcut
            have B4 := Lib.hid hbo
            clear hbo c0 c2
            go_wp2_with fail
            refine (left_any g1 v1 a1 bs at2 _ B4.out.r).mono ?_
            rintro e w5 ⟨rfl, n5, hw5⟩
            have B5 := Lib.hid (B4.out.quiet (Keeps.of_drewN hw5))
            clear hw5 B4
            go_wp2_with fail
            refine (refLeft_any g2 v2 a1 _ at2 _ B5.out.m B5.out.le).mono ?_
            rintro e w6 ⟨rfl, hk6⟩
            have B6 := Lib.hid (B5.out.quiet hk6)
            have el : (((Pure.bitsOfBytes a1 bs).length : Int) - at2) = (bs.length : Int) * 8 - at2 := by rw [HL8.out]; omega
            rw [el]
            clear el hk6
            go_wp2
            go_roundw
            case rel => exact ⟨k + 1, by omega, by go_num, at2, B6.out⟩
            case measure => simp [intOf]; omega
        · go_wp2
          go_ret
          exact ⟨rfl, BO.out.below⟩
end Go.Proofs.Ytekocdiccfpkdaa
