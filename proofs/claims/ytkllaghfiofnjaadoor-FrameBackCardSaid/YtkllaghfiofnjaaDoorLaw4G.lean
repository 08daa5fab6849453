/- The walk of the law FrameBack. -/
import Derived.Test.YtkllaghfiofnjaaDoorLaw4B
import Derived.Test.YtkllaghfiofnjaaDoorStuffE
import Derived.Test.YtkllaghfiofnjaaDoorCopy
import Derived.Test.YtkllaghfiofnjaaDoorFlip
namespace Go.Proofs.YtkllaghfiofnjaaDoor
open Go.RowKit

/-- The deframer tells just what went on the line. -/
theorem Pure.line_told (p : Nat) (bs : List UInt8) (a q : Bool) (m : Nat) (h : bs.length ≤ 1000) : ((⟨0, 4096, [], false, 0⟩ : Pure.DF).feed (Pure.line p bs a q m)).2 = [Pure.add16 (Pure.enc p bs a q)] := by
  have h1 := Pure.enc_le p bs a q
  have h2 := Pure.add16_length (Pure.enc p bs a q)
  unfold Pure.line
  rw [Pure.DF.feed_stuff (Pure.add16 (Pure.enc p bs a q)) ⟨0, 4096, [], false, 0⟩ rfl rfl (Pure.Covers.zero m)]
  rw [if_neg (by simp only; omega)]
  have : (Pure.add16 (Pure.enc p bs a q)).isEmpty = false := by
    cases hh : Pure.add16 (Pure.enc p bs a q)
    · rw [hh] at h2; simp at h2
    · rfl
  rw [this]
  rfl
theorem Pure.read_add16 (c : List UInt8) (a q : Bool) : Pure.read (Pure.add16 c) a q = Pure.dec c a q := by
  have hl : (Pure.add16 c).length - 2 = c.length := by rw [Pure.add16_length]; omega
  unfold Pure.read
  rw [if_pos (Pure.ends_add16 c), hl]
  unfold Pure.add16
  rw [List.take_left' rfl]
theorem Pure.read_flip (c : List UInt8) (a q : Bool) (k : Nat) (h : k < 8 * (Pure.add16 c).length) : Pure.read (Pure.flip (Pure.add16 c) k) a q = (0, [], 5) := by
  unfold Pure.read
  rw [Pure.ends16_flip c k h]
  rfl
theorem Read_is (F : Nat → Prop) (x : Value) (bs : List UInt8) (a q : Bool) (s : Pure.Says) (w : World) (hg : Handle w) (hr : Row w F 1 x bs.length (u8s bs)) (hF : ∀ b, F b → b < w.heap.size) (hl : bs.length ≤ 100000000000000) (hs : Pure.read bs a q = s) :
    Calls Tryd.prog 22 #[x, .agg #[.bool a, .bool q]] w (Decodes s w) := by
  rw [← hs]; exact Read_any F x bs a q w hg hr hF hl

set_option maxRecDepth 100000 in
set_option maxHeartbeats 1000000 in
theorem frameBack_walk (a0 : Int) (a1 : Option Addr) (len1 cap1 : Nat) (z1 : List Int) (a2 b2 : Bool) (m2 : Int) (w : World) (hg : Handle w) (w0 : (Lit.int .i64 a0).wf = true) (w1 : IsRow .u8 w a1 len1 cap1 z1) (w2 : (Lit.int .u32 m2).wf = true) :
    Calls Tryd.prog 6 #[.int .i64 a0, .slice a1 len1 cap1, .agg #[.bool a2, .bool b2, .int .u32 m2]] w fun e w' => e = .returned (.bool true) ∧ Below w.heap.size w w' := by
  obtain ⟨bs, hbl, hr⟩ := w1.bytes
  obtain ⟨m, rfl⟩ : ∃ m : Nat, m2 = m := ⟨m2.toNat, by have := u32_of_wf w2; omega⟩
  have hmm : m < 4294967296 := by have := u32_of_wf w2; omega
  rw [← hbl] at hr ⊢
  have hmax := hr.2.1
  unfold maxLen at hmax
  have HR := Lib.hid hr
  have hb0 := (Below.refl w.heap.size w).alloc (Nat.le_refl _) (.cells #[.bool a2, .bool b2, .int .u32 m] 40)
  have HB := Lib.hid (Blk.new w 40 #[.bool a2, .bool b2, .int .u32 m])
  have HG := Lib.hid hg
  have B0 := Lib.hid hb0
  have HAW := Lib.hid (awake4_any _ (hg.below hb0))
  clear w0 w1 w2 hr hbl hb0 hg
  go_enter Tryd.func6, Tryd.ntmps6
  go_wp2_with fail
  (with_reducible refine HAW.out.mono ?_)
  rintro e w1 ⟨rfl, hb⟩
  have hblk := HB.out.below hb (by simp)
  have b1 := B0.out.trans (hb.mono B0.out.size)
  have B1 := Lib.hid b1
  have HB1 := Lib.hid hblk
  clear hb hblk b1 HAW HB
  by_cases hbig : (bs.length : Int) > 1000
  · go_wp2_with fail
    go_ret
    exact ⟨rfl, B1.out⟩
  · have c0 : w1.cell? ⟨w.heap.size, 0, none⟩ = some (.bool a2) := by rw [HB1.out.cell]; rfl
    have c1 : w1.cell? ⟨w.heap.size, 1, none⟩ = some (.bool b2) := by rw [HB1.out.cell]; rfl
    have cm : w1.cell? ⟨w.heap.size, 2, none⟩ = some (.int .u32 m) := by rw [HB1.out.cell]; rfl
    have HE := Lib.hid (Wire_any _ a0 _ bs a2 b2 m w1 (HG.out.below B1.out) (HR.out.keeps (Keeps.new B1.out) (fun _ _ h => h)) (fun b hb => Nat.lt_of_lt_of_le hb B1.out.size) hmm)
    go_wp2_with fail
    (with_reducible refine HE.out.mono ?_)
    rintro e w2 ⟨hb2, hE⟩
    have hblk2 := HB1.out.below hb2 HB1.out.lt
    have b2' := B1.out.trans (hb2.mono B1.out.size)
    have hszg : w.heap.size < w2.heap.size := hblk2.lt
    have B2 := Lib.hid b2'
    have HB2 := Lib.hid hblk2
    clear hblk2 b2' HB1 HE c0 c1 cm
    have HN := Lib.hid (new_any 0 4096 w2 (by omega) (by omega) (by omega))
    cases hmay : Pure.may a0
    · rw [Pure.sendErr_false _ _ hmay] at hE
      have HM := Lib.hid (may_any a0)
      rw [hmay] at HM
      rcases hE with ⟨_, rfl⟩ | ⟨h, _⟩
      · clear hb2 hmay
        go_wp2_with fail
        refine HN.out.mono ?_
        rintro e w3 ⟨rfl, _, hb3⟩
        have B3 := Lib.hid (B2.out.trans (hb3.mono B2.out.size))
        clear hb3 HN
        go_wp2_with fail
        (with_reducible refine (HM.out _).mono ?_)
        rintro e w4 ⟨rfl, hk4⟩
        have B4 := Lib.hid (Below.quiet B3.out hk4 B3.out.size)
        clear hk4
        go_wp2_with fail
        go_ret
        exact ⟨rfl, B4.out⟩
      · cases h
    · rw [Pure.sendErr_true _ _ hmay, if_neg (by omega)] at hE
      obtain ⟨n, rfl, hn1, hn2, hn3, hn4⟩ := Pure.may_nat a0 hmay
      rcases hE with ⟨h, _⟩ | ⟨_, u2, rfl, ho2⟩
      · exact absurd rfl h
      · rw [Int.toNat_natCast] at ho2
        obtain ⟨Ln, hLn⟩ : ∃ Ln, Ln = Pure.line n bs a2 b2 m := ⟨_, rfl⟩
        obtain ⟨E, hE⟩ : ∃ E, E = Pure.enc n bs a2 b2 := ⟨_, rfl⟩
        obtain ⟨S, hS⟩ : ∃ S, S = Pure.add16 E := ⟨_, rfl⟩
        have hT : ((⟨0, 4096, [], false, 0⟩ : Pure.DF).feed Ln).2 = [S] := by rw [hLn, hS, hE]; exact Pure.line_told n bs a2 b2 m (by omega)
        have hLl : Ln.length ≤ 500000000 := by
          have h1 := Pure.enc_le n bs a2 b2
          have h2 := Pure.add16_length (Pure.enc n bs a2 b2)
          have h3 := Pure.stuff_le m (Pure.add16 (Pure.enc n bs a2 b2))
          rw [hLn]; unfold Pure.line; omega
        have hSl : S.length ≤ 1006 ∧ 2 ≤ S.length := by
          have h1 := Pure.enc_le n bs a2 b2
          rw [hS, Pure.add16_length, hE]; omega
        have HRA := Lib.hid (by rw [hS, Pure.read_add16, hE]; exact Pure.dec_enc n bs a2 b2 a2 b2 hn1 hn2 hn3 hn4 (by omega) (fun _ h => h) (fun _ h => h) : Pure.read S a2 b2 = (n, bs, 0))
        have HRB := Lib.hid (by rw [hS, Pure.read_add16, hE]; exact Pure.dec_enc n bs a2 b2 true true hn1 hn2 hn3 hn4 (by omega) (fun _ _ => rfl) (fun _ _ => rfl) : Pure.read S true true = (n, bs, 0))
        have HFL := Lib.hid (fun k (hk : k < 8 * S.length) => (by rw [hS] at hk ⊢; exact Pure.read_flip E a2 b2 k hk : Pure.read (Pure.flip S k) a2 b2 = (0, [], 5)))
        rw [← hLn] at ho2
        have HT := Lib.hid hT
        have HSL := Lib.hid hSl
        have O2 := Lib.hid ho2
        obtain ⟨A2, c2, rfl⟩ := own_form ho2
        clear hLn hE hS hT hSl ho2 hb2 hmay hn2 hn3 hn4
        go_wp2_with fail
        refine HN.out.mono ?_
        rintro e w3 ⟨rfl, hd3, hb3⟩
        have D3 := Lib.hid hd3
        have B3 := Lib.hid (B2.out.trans (hb3.mono B2.out.size))
        have O3 := Lib.hid (own_below O2.out hb3)
        have HB3 := Lib.hid (HB2.out.below hb3 hszg)
        have hsz3 := hb3.size
        have hgw : w.heap.size ≤ w2.heap.size := B2.out.size
        obtain ⟨g3, hg3⟩ : ∃ g3, g3 = w2.heap.size := ⟨_, rfl⟩
        rw [← hg3] at D3 hszg hgw ⊢
        have HFE := Lib.hid (feed_any _ g3 _ _ _ Ln w3 D3.out (Row.of_own O3.out) (fun b hb h => by
          rcases h with h | h
          · have := ownsRow_lt O2.out b hb
            omega
          · simp [Value.ownBlock] at h) (Nat.zero_le _) hLl)
        clear hd3 hb3 HN O2 HB2 B2 hg3
        go_wp2_with fail
        (with_reducible refine HFE.out.mono ?_)
        rintro e w4 ⟨u4, cv, ps, rfl, hps, hat⟩
        rw [HT.out] at hps
        obtain ⟨v0, rfl⟩ : ∃ v0, ps = [(v0, S)] := by
          match ps, hps with
          | [(v, l)], h =>
            simp at h
            exact ⟨v, by rw [h]⟩
        have hk4 := hat.keep
        have ho4 := hat.told.own
        have hv4 := hat.told.rows (v0, S) (by simp)
        have b4 : Below w.heap.size w w4 := Below.keeps B3.out hk4 B3.out.size (by
          rintro i (rfl | h)
          · exact hgw
          · simp [Value.ownBlock] at h)
        have hblk4 := HB3.out.keeps hk4 (by
          rintro (h | h)
          · omega
          · simp [Value.ownBlock] at h)
        obtain ⟨N, hN⟩ : ∃ N, N = S.length := ⟨_, rfl⟩
        have hv4' : w4.ownsRow 0 5 1 v0 N (u8s S) := by rw [hN]; exact hv4
        obtain ⟨A0, c0, rfl⟩ := own_form hv4'
        obtain ⟨A4, c4, rfl⟩ := own_form ho4
        obtain ⟨go, rfl, hgo, hcell⟩ := own_cell ho4 (by simp)
        have hc4 := hcell 0 _ rfl
        have HN := Lib.hid hN
        have B4 := Lib.hid b4
        have HB4 := Lib.hid hblk4
        have V4 := Lib.hid hv4'
        have HC4 := Lib.hid hc4
        have hw4 : w.heap.size < w4.heap.size := hblk4.lt
        clear hps hat hk4 ho4 hv4 b4 hblk4 hv4' hcell HFE HB3 B3 O3 D3 HT hN hc4
        go_upto_region 12 with fail
        have k4 : Keeps nobody w4 w4.drew := (Keeps.refl _ _).drew
        have cL : w4.cell? ⟨go, 0, none⟩ = some (.slice A0 N c0) := HC4.out
        have cA : w4.cell? ⟨w.heap.size, 0, none⟩ = some (.bool a2) := by rw [HB4.out.cell]; rfl
        have cB : w4.cell? ⟨w.heap.size, 1, none⟩ = some (.bool b2) := by rw [HB4.out.cell]; rfl
        have HKK := Lib.hid (fun (w' : World) (h : Below w4.drew.heap.size w4.drew w') => (⟨(h.cell (p := ⟨go, 0, none⟩) hgo).trans cL, (h.cell (p := ⟨w.heap.size, 0, none⟩) hw4).trans cA, (h.cell (p := ⟨w.heap.size, 1, none⟩) hw4).trans cB⟩ :
          w'.cell? ⟨go, 0, none⟩ = some (.slice A0 N c0) ∧ w'.cell? ⟨w.heap.size, 0, none⟩ = some (.bool a2) ∧ w'.cell? ⟨w.heap.size, 1, none⟩ = some (.bool b2)))
        have HRD := Lib.hid (Read_is _ (.slice A0 N c0) S a2 b2 (n, bs, 0) w4.drew (HG.out.below (Below.quiet B4.out k4 B4.out.size)) (by have := Row.of_own (ownsRow_keeps V4.out k4 (fun _ _ h => h)); rw [HN.out] at this ⊢; exact this) (fun b hb => by rw [← HN.out] at hb; exact ownsRow_lt V4.out b hb) (by have := HSL.out; omega) HRA.out)
        clear k4
        go_cut [12, 13, 14] (fun s12 s13 s14 wx => s12 = .int .i64 n ∧ s14 = .int .i64 0 ∧ (∃ A c, s13 = .slice A bs.length c) ∧ wx.ownsRow 0 5 1 s13 bs.length (u8s bs) ∧ Below w4.heap.size w4 wx)
        case first =>
          go_region_held3 (fun w' => w'.cell? ⟨go, 0, none⟩ = some (.slice A0 N c0) ∧ w'.cell? ⟨w.heap.size, 0, none⟩ = some (.bool a2) ∧ w'.cell? ⟨w.heap.size, 1, none⟩ = some (.bool b2))
            (first | exact HKK.out _ (by assumption) | go_keep)
            ((go_at_call 22; refine HRD.out.mono ?_; rintro e w5 ⟨hb5, u5, rfl, ho5⟩))
          have O5 := Lib.hid (ownsRow_base (base' := 0) ho5 (Nat.zero_le _))
          have B5 := Lib.hid ((Below.drewN (Below.refl _ w4) 1).trans hb5 : Below w4.heap.size w4 w5)
          have hfm := own_form ho5
          have HFM := Lib.hid hfm
          clear hb5 ho5 hfm
          go_wp2
          go_meet
          exact ⟨rfl, rfl, HFM.out, O5.out, B5.out⟩
        case rest =>
          obtain ⟨rfl, rfl, ⟨A5, c5, rfl⟩, ho5, hb5⟩ := hcut
          have O5 := Lib.hid ho5
          have B5 := Lib.hid hb5
          have HRD2 := Lib.hid (Read_is _ (.slice A0 N c0) S true true (n, bs, 0) wc (HG.out.below (B4.out.trans (hb5.mono B4.out.size))) (by have := Row.of_own (own_below V4.out hb5); rw [HN.out] at this ⊢; exact this) (fun b hb => by rw [← HN.out] at hb; exact ownsRow_lt (own_below V4.out hb5) b hb) (by have := HSL.out; omega) HRB.out)
          clear HRD HKK cA cB cL
          have cL : wc.cell? ⟨go, 0, none⟩ = some (.slice A0 N c0) := (hb5.cell (p := ⟨go, 0, none⟩) hgo).trans HC4.out
          clear ho5 hb5
          go_wp2_with fail
          (with_reducible refine HRD2.out.mono ?_)
          rintro e w6 ⟨hb6, u6, rfl, ho6⟩
          obtain ⟨A6, c6, rfl⟩ := own_form ho6
          have O56 := Lib.hid (own_below O5.out hb6)
          have B6 := Lib.hid (B5.out.trans (hb6.mono B5.out.size))
          have HS1 := Lib.hid (same_any _ _ _ _ bs bs w6 (Row.of_own ho6) (HR.out.keeps (Keeps.new (B4.out.trans (B6.out.mono B4.out.size))) (fun _ _ h => h)))
          rw [decide_eq_true rfl] at HS1
          clear hb6 ho6 HRD2 cL O5
          go_wp2_with fail
          (with_reducible refine HS1.out.mono ?_)
          rintro e w7 ⟨rfl, hk7⟩
          have O57 := Lib.hid (ownsRow_keeps O56.out hk7 (fun _ _ h => h))
          have B7 := Lib.hid (Below.quiet B6.out hk7 B6.out.size)
          have HS2 := Lib.hid (same_any _ _ _ _ bs bs w7 (Row.of_own O57.out) (HR.out.keeps (Keeps.new (B4.out.trans (B7.out.mono B4.out.size))) (fun _ _ h => h)))
          rw [decide_eq_true rfl] at HS2
          clear hk7 HS1 B5 B6 O56
          go_wp2_with fail
          (with_reducible refine HS2.out.mono ?_)
          rintro e w8 ⟨rfl, hk8⟩
          have B8 := Lib.hid (Below.quiet B7.out hk8 B7.out.size)
          clear hk8 HS2 B7 O57
          go_wp2_with fail
          go_loopw [18] (fun i wr => ∃ k : Nat, k ≤ 200 ∧ i = .int .i64 k ∧ Below w4.heap.size w4 wr) (fun i _ => 200 - (intOf i).toNat)
          case atStart => exact ⟨0, by omega, rfl, B8.out⟩
          case round =>
            obtain ⟨k, hk, rfl, hb⟩ := hrel
            have B := Lib.hid hb
            have BW := Lib.hid (B4.out.trans (hb.mono B4.out.size))
            have cL : wr.cell? ⟨go, 0, none⟩ = some (.slice A0 N c0) := (hb.cell (p := ⟨go, 0, none⟩) hgo).trans HC4.out
            have hwr : w4.heap.size ≤ wr.heap.size := hb.size
            have hNl : N ≤ 1006 := by rw [HN.out]; exact HSL.out.1
            have hmul : IntKind.i64.wrap ((N : Int) * 8) = (N : Int) * 8 := IntWalk.i64_in _ (by omega)
            clear hb B8
            by_cases h1 : (k : Int) < (N : Int) * 8
            · by_cases h2 : (k : Int) < 200
              · have V := Lib.hid (own_below V4.out B.out)
                have HCO := Lib.hid (copy_any _ _ S wr (by have := Row.of_own V.out; rw [HN.out] at this ⊢; exact this : Row wr (fun b => (Value.slice A0 S.length c0).ownBlock = some b) 1 (.slice A0 N c0) S.length (u8s S)) (fun b hb => by rw [← HN.out] at hb; exact ownsRow_lt V.out b hb) (by have := HSL.out; omega))
                go_wp2_with fail
                (with_reducible refine HCO.out.mono ?_)
                rintro e w9 ⟨u9, rfl, ho9, hb9⟩
                rw [← HN.out] at ho9
                obtain ⟨A9, c9, rfl⟩ := own_form ho9
                obtain ⟨gc, rfl, hgc, hcellc⟩ := own_cell ho9 (by omega)
                have hgc2 : wr.heap.size ≤ gc := ownsRow_ge ho9 gc rfl
                have hkS : k / 8 < S.length := by have := HN.out; omega
                have cx := hcellc (k / 8) _ (u8s_at S (k / 8) hkS)
                obtain ⟨x, hx⟩ : ∃ x : Nat, x = (S.getD (k / 8) 0).toNat := ⟨_, rfl⟩
                have hx2 : x < 256 := by rw [hx]; exact (S.getD (k / 8) 0).toNat_lt
                rw [← hx] at cx
                have fx : w9.frozen? ⟨gc, k / 8, none⟩ = false := ho9.frozenAt _
                have hfl := flip_cell S k hkS hx
                have FL := Lib.hid hfl
                have O9 := Lib.hid ho9
                have b9 := B.out.trans (hb9.mono hwr)
                have B9 := Lib.hid b9
                have k0 : (0 : Int) ≤ (k : Int) / 8 := by omega
                have k1 : (k : Int) / 8 < (N : Int) := by omega
                have HKS := Lib.hid (show k < 8 * S.length by have := HN.out; omega)
                have hk2 : k < 200 := by omega
                clear ho9 hb9 hcellc hx hfl b9 HCO V hkS cL hmul h1 h2
                go_upto_region 23 with fail
                obtain ⟨W, hW⟩ : ∃ W, W = w9.setCell ⟨gc, k / 8, none⟩ (.int .u8 (bits .xor .u8 (x : Int) (2 ^ (k % 8) % 256))) := ⟨_, rfl⟩
                rw [← hW]
                have oW := ownsRow_set O9.out (k / 8) (by omega) (.int .u8 (bits .xor .u8 (x : Int) (2 ^ (k % 8) % 256)))
                rw [FL.out, ← hW] at oW
                have bW : Below w4.heap.size w4 W := by rw [hW]; exact B9.out.setCell (p := ⟨gc, k / 8, none⟩) (Nat.le_trans hwr hgc2) _
                have hblkW := HB4.out.below bW hw4
                obtain ⟨L, hL⟩ : ∃ L, L = Pure.flip S k := ⟨_, rfl⟩
                have hLl : N = L.length := by rw [hL, Pure.flip_length]; exact HN.out
                rw [← hL] at oW
                have HRF := Lib.hid (Read_is _ (.slice (some ⟨gc, 0, none⟩) N c9) L a2 b2 (0, [], 5) W (HG.out.below (B4.out.trans (bW.mono B4.out.size))) (by rw [← hLl]; exact Row.of_own oW) (fun b hb => ownsRow_lt oW b hb) (by omega) (by rw [hL]; exact HFL.out k HKS.out))
                have cA : W.cell? ⟨w.heap.size, 0, none⟩ = some (.bool a2) := by rw [hblkW.cell]; rfl
                have cB : W.cell? ⟨w.heap.size, 1, none⟩ = some (.bool b2) := by rw [hblkW.cell]; rfl
                have BWW := Lib.hid bW
                clear oW bW hblkW hL hLl hW cx fx k0 k1
                go_wp2_with fail
                (with_reducible refine HRF.out.mono ?_)
                rintro e wE ⟨hbE, uE, rfl, hoE⟩
                obtain ⟨AE, cE, rfl⟩ := own_form hoE
                have BE := Lib.hid (BWW.out.trans (hbE.mono BWW.out.size))
                clear hbE hoE HRF cA cB
                go_wp2_with fail
                go_roundw
                case rel => exact ⟨k + 1, by omega, by go_num, BE.out⟩
                case measure => simp [intOf]; omega
              · go_wp2_with fail
                go_ret
                exact ⟨rfl, BW.out⟩
            · go_wp2_with fail
              go_ret
              exact ⟨rfl, BW.out⟩
end Go.Proofs.YtkllaghfiofnjaaDoor
