/- The walk of the law StuffParts. -/
import Derived.Test.YtapcclahekkgpaaStuffK
import Derived.Test.YtapcclahekkgpaaLaw3C
namespace Go.Proofs.Ytapcclahekkgpaa
open Go.RowKit

theorem Two.grown {w0 wk w' : World} {g1 g2 base n : Nat} {c1 c2 o : Value} {d1 d2 : Pure.DF} {xs : List Value} (h : Two w0 wk g1 c1 d1 g2 c2 d2) (ho : wk.ownsRow base 28 1 o n xs) (hg : wk.grownBy w' o.ownBlock) (hb : w0.heap.size ≤ base) :
    Two w0 w' g1 c1 d1 g2 c2 d2 := by
  have hk : Keeps (fun b => o.ownBlock = some b) wk w' := (Keeps.refl _ wk).grown hg (fun k hk _ => hk)
  have hbel : Below w0.heap.size w0 w' := Below.keeps h.s1.below hk h.s1.le (fun i hi => Nat.le_trans hb (ownsRow_ge ho i hi))
  exact ⟨⟨hbel, h.s1.obj.keeps hk (fun e => ownsRow_ne ho h.s1.obj.blk (by decide) e) (fun b hb e => rows_apart h.s1.obj.own ho (by decide) b hb e), h.s1.hg, h.s1.hcv⟩,
    ⟨hbel, h.s2.obj.keeps hk (fun e => ownsRow_ne ho h.s2.obj.blk (by decide) e) (fun b hb e => rows_apart h.s2.obj.own ho (by decide) b hb e), h.s2.hg, h.s2.hcv⟩, h.ne, h.cc⟩
theorem Kept.joined {wk w' : World} {g base base' : Nat} {cv o x o' : Value} {d : Pure.DF} {ps qs : List (Value × List UInt8)} (h : Kept wk g cv base o ps) (k : Kept wk g cv base' x qs) (hd : DObj w' g cv d)
    (ho : w'.ownsRow base 28 1 o' (ps.map Prod.fst ++ qs.map Prod.fst).length (ps.map Prod.fst ++ qs.map Prod.fst)) (hg : wk.grownBy w' o.ownBlock) : Kept w' g cv base o' (ps ++ qs) := by
  have hk : Keeps (fun b => o.ownBlock = some b) wk w' := (Keeps.refl _ wk).grown hg (fun k hk _ => hk)
  refine Kept.of_told ⟨by simpa using ho, ?_⟩ hd ?_
  · intro p hp
    rcases List.mem_append.1 hp with hp | hp
    · exact ownsRow_keeps (h.told.rows p hp) hk (fun b hb e => rows_apart (h.told.rows p hp) h.told.own (by decide) b hb e)
    · exact ownsRow_keeps (k.told.rows p hp) hk (fun b hb e => rows_apart (k.told.rows p hp) h.told.own (by decide) b hb e)
  · intro p hp
    rcases List.mem_append.1 hp with hp | hp
    · exact h.pcv p hp
    · exact k.pcv p hp
theorem Kept.grown {wk w' : World} {g base base' n : Nat} {cv o x : Value} {ps : List (Value × List UInt8)} {xs : List Value} (h : Kept wk g cv base x ps) (ho : wk.ownsRow base' 28 1 o n xs) (hg : wk.grownBy w' o.ownBlock)
    (hx : ∀ b, x.ownBlock = some b → b < base') : Kept w' g cv base x ps := by
  have hk : Keeps (fun b => o.ownBlock = some b) wk w' := (Keeps.refl _ wk).grown hg (fun k hk _ => hk)
  refine ⟨h.told.keeps hk ?_ ?_, h.og, h.ocv, h.pg, h.pcv⟩
  · intro b hb e
    have := hx b hb
    have := ownsRow_ge ho b e
    omega
  · intro p hp b hb e
    exact rows_apart (h.told.rows p hp) ho (by decide) b hb e
/-- A piece of a row of bytes. -/
def cutV (a : Option Addr) (c lo m : Nat) : Value := if c = lo then .slice a m 0 else .slice (a.map (fun x => x.add lo)) m (c - lo)
theorem Row.cutV {w : World} {F : Nat → Prop} {a : Option Addr} {n c : Nat} {bs : List UInt8} (h : Row w F 1 (.slice a n c) n (u8s bs)) (lo m : Nat) (hm : lo + m ≤ n) :
    Row w F 1 (cutV a c lo m) m (u8s ((bs.drop lo).take m)) := by
  have e : u8s ((bs.drop lo).take m) = ((u8s bs).drop lo).take m := by simp
  rw [e]
  unfold Go.Proofs.Ytapcclahekkgpaa.cutV
  split
  · rename_i hc
    subst hc
    exact h.cutEnd m hm
  · exact h.cut1 lo m hm

set_option maxRecDepth 100000 in
set_option maxHeartbeats 4000000 in
theorem stuffParts_walk (a0 : Int) (a1 : Option Addr) (len1 cap1 : Nat) (z1 : List Int) (a2 : Option Addr) (len2 cap2 : Nat) (z2 : List Int) (w : World) (w0 : (Lit.int .u32 a0).wf = true) (w1 : IsRow .u8 w a1 len1 cap1 z1) (w2 : IsRow .u8 w a2 len2 cap2 z2) :
    Calls Try.prog 5 #[.int .u32 a0, .slice a1 len1 cap1, .slice a2 len2 cap2] w fun e w' => e = .returned (.bool true) ∧ Below w.heap.size w w' := by
  obtain ⟨bs, hbl, hr⟩ := w1.bytes
  obtain ⟨cs, hcl, hr'⟩ := w2.bytes
  obtain ⟨m, rfl⟩ : ∃ m : Nat, a0 = m := ⟨a0.toNat, by have := u32_of_wf w0; omega⟩
  have hm : m < 4294967296 := by have := u32_of_wf w0; omega
  have hadr : cap1 = 0 ∨ ∃ p o, a1 = some ⟨p, o, none⟩ := by
    rcases w1 with ⟨_, _, h, _⟩ | ⟨x, rfl, _, _, hz, hcell, _⟩
    · exact .inl h
    · by_cases h0 : cap1 = 0
      · exact .inl h0
      · right
        obtain ⟨b, off, rfl⟩ := addr_of_cell (hcell 0 (by omega))
        exact ⟨b, off, rfl⟩
  have hcap : len1 ≤ cap1 := by
    rcases w1 with ⟨_, h1, h2, _⟩ | ⟨x, _, h, _⟩ <;> omega
  rw [← hbl] at hr hcap ⊢
  rw [← hcl] at hr' ⊢
  have hmax := hr.2.1
  have hmax' := hr'.2.1
  unfold maxLen at hmax hmax'
  have HR := Lib.hid hr
  have HC := Lib.hid hr'
  have HA := Lib.hid (awake_any w)
  have HAD := Lib.hid hadr
  clear hr hr' w0 w1 w2 hbl hcl hadr
  go_enter Try.func5, Try.ntmps5
  go_wp2_with fail
  refine HA.out.mono ?_
  rintro e wa ⟨rfl, hba⟩
  have BA := Lib.hid hba
  clear hba HA
  by_cases hok : bs.length ≤ 2000 ∧ cs.length ≤ 2000
  · obtain ⟨o1, o2⟩ := hok
    have c1 : ¬ (bs.length : Int) > 2000 := by omega
    have c2 : ¬ (cs.length : Int) > 2000 := by omega
    have HN : Calls Try.prog 12 #[.int .u32 m, .int .i64 50] wa _ := new_any m 50 wa (by omega) (by omega) (by omega)
    have HNN := Lib.hid HN
    clear HN
    go_wp2_with fail
    refine HNN.out.mono ?_
    rintro e wb ⟨rfl, hd1, hb1⟩
    have S1 := Lib.hid (Sit.new BA.out hd1 hb1)
    have HN : Calls Try.prog 12 #[.int .u32 m, .int .i64 50] wb _ := new_any m 50 wb (by omega) (by omega) (by omega)
    have HNN := Lib.hid HN
    obtain ⟨g, hg⟩ : ∃ g, g = wa.heap.size := ⟨_, rfl⟩
    rw [← hg] at S1 ⊢
    clear HN hd1 hb1 hg
    go_wp2_with fail
    refine HNN.out.mono ?_
    rintro e wc ⟨rfl, hd1, hb1⟩
    have T1 := Lib.hid (Two.new S1.out hd1 hb1)
    obtain ⟨f, hf⟩ : ∃ f, f = wb.heap.size := ⟨_, rfl⟩
    rw [← hf] at T1 ⊢
    have HF := Lib.hid (feed_any _ _ _ _ _ bs wc T1.out.s2.obj (T1.out.s2.row HR.out) (fun b hb => T1.out.s2.apart0 b hb) (by simp) (by omega))
    clear hd1 hb1 hf S1 HNN c1 c2
    go_wp2_with fail
    refine HF.out.mono ?_
    rintro e wd ⟨x, cx, pall, rfl, hpx, hat⟩
    obtain ⟨AL, cL, rfl⟩ := told_len hat.told
    have T2 := Lib.hid (T1.out.symm.fed hat).symm
    have KA := Lib.hid (T1.out.symm.kept hat)
    have PA := Lib.hid hpx
    have hlt : ∀ b, (Value.slice AL pall.length cL).ownBlock = some b → b < wd.heap.size := fun b hb => ownsRow_lt hat.told.own b hb
    have HLT := Lib.hid hlt
    have hwd := T2.out.s1.le
    clear hpx hat T1 HF hlt
    go_wp2_with fail
    go_loopw [12, 13, 14] (fun l a i wr => ∃ k q : Nat, k ≤ cs.length ∧ i = .int .i64 k ∧ a = .int .i64 q ∧ q ≤ bs.length ∧ ∃ cv ps, ps.map Prod.snd = ((⟨m, 50, [], false, 0⟩ : Pure.DF).feed (bs.take q)).2 ∧ ps.length ≤ q ∧
      Two w wr g cv ((⟨m, 50, [], false, 0⟩ : Pure.DF).feed (bs.take q)).1 f cx ((⟨m, 50, [], false, 0⟩ : Pure.DF).feed bs).1 ∧ Kept wr g cv wd.heap.size l ps ∧ Kept wr g cv wc.heap.size (.slice AL pall.length cL) pall ∧ wd.heap.size ≤ wr.heap.size) (fun _ _ i _ => cs.length - (intOf i).toNat)
    case atStart => exact ⟨0, 0, by omega, rfl, rfl, by omega, _, [], by simp [Pure.DF.feed_nil], by simp, by simpa [Pure.DF.feed_nil] using T2.out, Kept.of_told (Told.nil _ _) T2.out.s1.obj (by simp), KA.out, Nat.le_refl _⟩
    case round =>
      obtain ⟨k, q, hk, rfl, rfl, hq, cv, ps, hps, hpl, hT, hK, hKA, hsz⟩ := hrel
      have T3 := Lib.hid hT
      have K3 := Lib.hid hK
      have KA3 := Lib.hid hKA
      have PS := Lib.hid hps
      clear hT hK hKA hps T2 KA
      by_cases hkl : k < cs.length
      · obtain ⟨b, off, rfl, hbF, hcell⟩ := (T3.out.s1.row HC.out).cellAt (by omega)
        have cb := hcell k _ (u8s_at cs k hkl)
        obtain ⟨X, hX⟩ : ∃ X, X = (cs.getD k 0).toNat := ⟨_, rfl⟩
        have hX2 : X < 256 := by rw [hX]; exact (cs.getD k 0).toNat_lt
        rw [← hX] at cb
        have hi0 : (0 : Int) ≤ (k : Int) := by omega
        have hi1 : (k : Int) < (cs.length : Int) := by omega
        clear hcell hX
        go_upto_region 15 with fail
        go_cut [15] (fun s wx => ∃ n : Nat, s = .int .i64 n ∧ q + n ≤ bs.length ∧ wr = wx)
        case first =>
          by_cases hmin : (bs.length : Int) - q < (X : Int) % 7
          · go_wp2
            go_meet
            exact ⟨bs.length - q, by go_num, by omega, rfl⟩
          · go_wp2
            go_meet
            exact ⟨X % 7, by go_num, by omega, rfl⟩
        case rest =>
          obtain ⟨n, rfl, hqn, rfl⟩ := hcut
          have hq0 : (0 : Int) ≤ (q : Int) := by omega
          have hq1 : (q : Int) ≤ (q : Int) + n := by omega
          have hq2 : (q : Int) + n ≤ (cap1 : Int) := by omega
          obtain ⟨P, hP⟩ : ∃ P, P = (bs.drop q).take n := ⟨_, rfl⟩
          have hPl : P.length = n := by rw [hP, List.length_take, List.length_drop]; omega
          have hV := Row.cutV (T3.out.s1.row HR.out) q n hqn
          have hPf : (⟨m, 50, [], false, 0⟩ : Pure.DF).feed (bs.take (q + n)) = ((((⟨m, 50, [], false, 0⟩ : Pure.DF).feed (bs.take q)).1.feed P).1, ((⟨m, 50, [], false, 0⟩ : Pure.DF).feed (bs.take q)).2 ++ (((⟨m, 50, [], false, 0⟩ : Pure.DF).feed (bs.take q)).1.feed P).2) := by
            rw [List.take_add, ← hP, Pure.DF.feed_append]
          have hdr : ((⟨m, 50, [], false, 0⟩ : Pure.DF).feed (bs.take q)).1.dropped ≤ 500000000 := by
            have h := (Pure.DF.feed_near (bs.take q) ⟨m, 50, [], false, 0⟩).hi
            rw [List.length_take] at h
            simp only at h
            omega
          rw [← hP] at hV
          have hV2 : Row wr (fun b => b < w.heap.size) 1 (cutV a1 cap1 q n) P.length (u8s P) := by rw [hPl]; exact hV
          have HV := Lib.hid hV2
          have HP := Lib.hid hPf
          have HDR := Lib.hid hdr
          have hPl2 : P.length ≤ 5000 := by omega
          have HPL := Lib.hid hPl
          clear hP hV hPf hV2 hdr hPl
          rcases Nat.decEq cap1 q with hz | hz
          · have hadr : ∃ p o, a1 = some ⟨p, o, none⟩ := by
              rcases HAD.out with h | h
              · omega
              · exact h
            obtain ⟨p, o, rfl⟩ := hadr
            go_wp2_with fail
            have hV : Row wr (fun b => b < w.heap.size) 1 (.slice (some ⟨p, o + q, none⟩) n (cap1 - q)) P.length (u8s P) := by
              have h := HV.out
              unfold cutV at h
              rw [if_neg hz, Option.map_some, addr_add] at h
              exact h
            have hdr := HDR.out
            have hPl := HPL.out
            have hS2 := T3.out
            have HF := Lib.hid (feed_any _ _ _ _ _ P wr T3.out.s1.obj hV (fun b hb => T3.out.s1.apart0 b hb) hdr (by omega))
            refine HF.out.mono ?_
            rintro e we ⟨x, cv2, ps2, rfl, hps2, hat⟩
            obtain ⟨A9, c9, rfl⟩ := told_len hat.told
            have hps3 : (ps ++ ps2).map Prod.snd = ((⟨m, 50, [], false, 0⟩ : Pure.DF).feed (bs.take (q + n))).2 := by rw [List.map_append, PS.out, hps2, HP.out]
            have hl2 : ps2.length ≤ n := by
              have h1 := fst_len hps2
              have h2 := Pure.DF.feed_told P ((⟨m, 50, [], false, 0⟩ : Pure.DF).feed (bs.take q)).1
              omega
            have T4 := Lib.hid (T3.out.fed hat)
            have K4 := Lib.hid (K3.out.fed hat)
            have KA4 := Lib.hid (KA3.out.fed hat)
            have KN := Lib.hid hat.kept
            have HP2 := Lib.hid (congrArg Prod.fst HP.out)
            have PS3 := Lib.hid hps3
            have hrw : Row we (fun b => (Value.slice A9 ps2.length c9).ownBlock = some b) 1 (.slice A9 ps2.length c9) (ps2.map Prod.fst).length (ps2.map Prod.fst) := by rw [List.length_map]; exact Row.of_own KN.out.told.own
            have HRW := Lib.hid hrw
            clear hrw
            have hsz2 : wd.heap.size ≤ we.heap.size := Nat.le_trans hsz hat.keep.size
            clear hps2 hat hps3 hV hdr hS2 HF hz
            go_wp2_with (at_builtin; refine stopHere ?_)
            unfold Hid
            refine wp_append_rows rfl (.tmp 62) (.tmp 70) rfl wd.heap.size _ ps.length (ps.map Prod.fst) (by simp) rfl K4.out.told.own _ _ (ps2.map Prod.fst) rfl HRW.out
              (by
                intro u hu
                obtain ⟨p, hp, rfl⟩ := List.mem_map.1 hu
                obtain ⟨A, c, e⟩ := own_form (KN.out.told.rows p hp)
                rw [e]
                rfl) (by rw [List.length_map]; omega) hsz2 ?_
            intro v3 w3 hown3 hg3 hat3
            have hT5 := T4.out.grown K4.out.told.own hg3 hwd
            have K5 := Lib.hid (K4.out.joined KN.out hT5.s1.obj hown3 hg3)
            have KA5 := Lib.hid (KA4.out.grown K4.out.told.own hg3 HLT.out)
            have T5 := Lib.hid hT5
            have hsz3 : wd.heap.size ≤ w3.heap.size := Nat.le_trans hsz2 hg3.size
            clear hown3 hg3 hat3 hT5
            go_wp2
            go_roundw
            case rel => exact ⟨k + 1, q + n, by omega, by go_num, by go_num, hqn, cv2, ps ++ ps2, PS3.out, by rw [List.length_append]; omega, by rw [HP2.out]; exact T5.out, K5.out, KA5.out, hsz3⟩
            case measure => simp [intOf]; omega
          · go_wp2_with fail
            have hV : Row wr (fun b => b < w.heap.size) 1 (.slice a1 n 0) P.length (u8s P) := by
              have h := HV.out
              unfold cutV at h
              rw [if_pos hz] at h
              exact h
            have hdr := HDR.out
            have hPl := HPL.out
            have hS2 := T3.out
            have HF := Lib.hid (feed_any _ _ _ _ _ P wr T3.out.s1.obj hV (fun b hb => T3.out.s1.apart0 b hb) hdr (by omega))
            refine HF.out.mono ?_
            rintro e we ⟨x, cv2, ps2, rfl, hps2, hat⟩
            obtain ⟨A9, c9, rfl⟩ := told_len hat.told
            have hps3 : (ps ++ ps2).map Prod.snd = ((⟨m, 50, [], false, 0⟩ : Pure.DF).feed (bs.take (q + n))).2 := by rw [List.map_append, PS.out, hps2, HP.out]
            have hl2 : ps2.length ≤ n := by
              have h1 := fst_len hps2
              have h2 := Pure.DF.feed_told P ((⟨m, 50, [], false, 0⟩ : Pure.DF).feed (bs.take q)).1
              omega
            have T4 := Lib.hid (T3.out.fed hat)
            have K4 := Lib.hid (K3.out.fed hat)
            have KA4 := Lib.hid (KA3.out.fed hat)
            have KN := Lib.hid hat.kept
            have HP2 := Lib.hid (congrArg Prod.fst HP.out)
            have PS3 := Lib.hid hps3
            have hrw : Row we (fun b => (Value.slice A9 ps2.length c9).ownBlock = some b) 1 (.slice A9 ps2.length c9) (ps2.map Prod.fst).length (ps2.map Prod.fst) := by rw [List.length_map]; exact Row.of_own KN.out.told.own
            have HRW := Lib.hid hrw
            clear hrw
            have hsz2 : wd.heap.size ≤ we.heap.size := Nat.le_trans hsz hat.keep.size
            clear hps2 hat hps3 hV hdr hS2 HF hz
            go_wp2_with (at_builtin; refine stopHere ?_)
            unfold Hid
            refine wp_append_rows rfl (.tmp 62) (.tmp 70) rfl wd.heap.size _ ps.length (ps.map Prod.fst) (by simp) rfl K4.out.told.own _ _ (ps2.map Prod.fst) rfl HRW.out
              (by
                intro u hu
                obtain ⟨p, hp, rfl⟩ := List.mem_map.1 hu
                obtain ⟨A, c, e⟩ := own_form (KN.out.told.rows p hp)
                rw [e]
                rfl) (by rw [List.length_map]; omega) hsz2 ?_
            intro v3 w3 hown3 hg3 hat3
            have hT5 := T4.out.grown K4.out.told.own hg3 hwd
            have K5 := Lib.hid (K4.out.joined KN.out hT5.s1.obj hown3 hg3)
            have KA5 := Lib.hid (KA4.out.grown K4.out.told.own hg3 HLT.out)
            have T5 := Lib.hid hT5
            have hsz3 : wd.heap.size ≤ w3.heap.size := Nat.le_trans hsz2 hg3.size
            clear hown3 hg3 hat3 hT5
            go_wp2
            go_roundw
            case rel => exact ⟨k + 1, q + n, by omega, by go_num, by go_num, hqn, cv2, ps ++ ps2, PS3.out, by rw [List.length_append]; omega, by rw [HP2.out]; exact T5.out, K5.out, KA5.out, hsz3⟩
            case measure => simp [intOf]; omega
      · obtain ⟨P, hP⟩ : ∃ P, P = bs.drop q := ⟨_, rfl⟩
        have hPl : P.length = bs.length - q := by rw [hP, List.length_drop]
        have hV := Row.cutV (T3.out.s1.row HR.out) q (bs.length - q) (by omega)
        have hPf : (⟨m, 50, [], false, 0⟩ : Pure.DF).feed bs = ((((⟨m, 50, [], false, 0⟩ : Pure.DF).feed (bs.take q)).1.feed P).1, ((⟨m, 50, [], false, 0⟩ : Pure.DF).feed (bs.take q)).2 ++ (((⟨m, 50, [], false, 0⟩ : Pure.DF).feed (bs.take q)).1.feed P).2) := by
          have h := Pure.DF.feed_append (bs.take q) P ⟨m, 50, [], false, 0⟩
          rw [hP, List.take_append_drop] at h
          rw [hP]
          exact h
        have hdr : ((⟨m, 50, [], false, 0⟩ : Pure.DF).feed (bs.take q)).1.dropped ≤ 500000000 := by
          have h := (Pure.DF.feed_near (bs.take q) ⟨m, 50, [], false, 0⟩).hi
          rw [List.length_take] at h
          simp only at h
          omega
        have hPt : (bs.drop q).take (bs.length - q) = P := by rw [hP, List.take_of_length_le (by rw [List.length_drop]; omega)]
        rw [hPt] at hV
        have hV2 : Row wr (fun b => b < w.heap.size) 1 (cutV a1 cap1 q (bs.length - q)) P.length (u8s P) := by rw [hPl]; exact hV
        have HV := Lib.hid hV2
        have HP := Lib.hid hPf
        have HP2 := Lib.hid (congrArg (fun p => p.1.dropped) hPf)
        have hPl2 : P.length ≤ 2000 := by omega
        have HF' := Lib.hid (fun V (h : Row wr (fun b => b < w.heap.size) 1 V P.length (u8s P)) => feed_any _ _ _ _ _ P wr T3.out.s1.obj h (fun b hb => T3.out.s1.apart0 b hb) hdr (by omega))
        have hq0 : (0 : Int) ≤ (q : Int) := by omega
        have hq1 : (q : Int) ≤ (bs.length : Int) := by omega
        clear hP hV hPf hV2 hdr hPl hPt
        rcases Nat.decEq cap1 q with hz | hz
        · have hadr : ∃ p o, a1 = some ⟨p, o, none⟩ := by
            rcases HAD.out with h | h
            · omega
            · exact h
          obtain ⟨p, o, rfl⟩ := hadr
          go_wp2_with fail
          have hV : Row wr (fun b => b < w.heap.size) 1 (.slice (some ⟨p, o + q, none⟩) (bs.length - q) (cap1 - q)) P.length (u8s P) := by
            have h := HV.out
            unfold cutV at h
            rw [if_neg hz, Option.map_some, addr_add] at h
            exact h
          have HF := Lib.hid (HF'.out _ hV)
          refine HF.out.mono ?_
          rintro e we ⟨x, cv2, ps2, rfl, hps2, hat⟩
          obtain ⟨A9, c9, rfl⟩ := told_len hat.told
          have hps3 : (ps ++ ps2).map Prod.snd = ((⟨m, 50, [], false, 0⟩ : Pure.DF).feed bs).2 := by rw [List.map_append, PS.out, hps2, HP.out]
          have hl2 : ps2.length ≤ 2000 := by
            have h1 := fst_len hps2
            have h2 := Pure.DF.feed_told P ((⟨m, 50, [], false, 0⟩ : Pure.DF).feed (bs.take q)).1
            omega
          have T4 := Lib.hid (T3.out.fed hat)
          have K4 := Lib.hid (K3.out.fed hat)
          have KA4 := Lib.hid (KA3.out.fed hat)
          have KN := Lib.hid hat.kept
          have PS3 := Lib.hid hps3
          have hrw : Row we (fun b => (Value.slice A9 ps2.length c9).ownBlock = some b) 1 (.slice A9 ps2.length c9) (ps2.map Prod.fst).length (ps2.map Prod.fst) := by rw [List.length_map]; exact Row.of_own KN.out.told.own
          have HRW := Lib.hid hrw
          clear hrw
          have hsz2 : wd.heap.size ≤ we.heap.size := Nat.le_trans hsz hat.keep.size
          clear hps2 hat hps3 hV HF hz
          go_wp2_with (at_builtin; refine stopHere ?_)
          unfold Hid
          refine wp_append_rows rfl (.tmp 75) (.tmp 80) rfl wd.heap.size _ ps.length (ps.map Prod.fst) (by simp) rfl K4.out.told.own _ _ (ps2.map Prod.fst) rfl HRW.out
            (by
              intro u hu
              obtain ⟨p, hp, rfl⟩ := List.mem_map.1 hu
              obtain ⟨A, c, e⟩ := own_form (KN.out.told.rows p hp)
              rw [e]
              rfl) (by rw [List.length_map]; omega) hsz2 ?_
          intro v3 w3 hown3 hg3 hat3
          have hT5 := T4.out.grown K4.out.told.own hg3 hwd
          have hK5 := K4.out.joined KN.out hT5.s1.obj hown3 hg3
          have hKA5 := KA4.out.grown K4.out.told.own hg3 HLT.out
          have FX := Lib.hid (frames_true _ _ _ _ (ps ++ ps2) pall _ hK5.told.frow hKA5.told.frow (by rw [PS3.out, PA.out]))
          obtain ⟨A6, c6, rfl⟩ := told_len hK5.told
          have T5 := Lib.hid hT5
          rw [show (ps ++ ps2).length = ps.length + ps2.length from List.length_append] at FX
          clear hown3 hg3 hat3 hT5 hK5 hKA5
          go_wp2_with fail
          refine FX.out.mono ?_
          rintro e w4 ⟨rfl, hk4⟩
          have T6 := Lib.hid (T5.out.quiet hk4)
          have hd1 := dropped_any _ _ _ w4 T6.out.s1.obj
          have hd2 := dropped_any _ _ _ w4 T6.out.s2.obj
          rw [← HP2.out] at hd1
          have HD1 := Lib.hid hd1
          have HD2 := Lib.hid hd2
          clear hk4 FX T5 hd1 hd2
          go_wp2_with fail
          refine HD1.out.mono ?_
          rintro e w' ⟨rfl, rfl⟩
          go_wp2_with fail
          refine HD2.out.mono ?_
          rintro e w' ⟨rfl, rfl⟩
          go_wp2
          go_ret
          exact ⟨by simp, T6.out.s1.below⟩
        · go_wp2_with fail
          have hV : Row wr (fun b => b < w.heap.size) 1 (.slice a1 (bs.length - q) 0) P.length (u8s P) := by
            have h := HV.out
            unfold cutV at h
            rw [if_pos hz] at h
            exact h
          have HF := Lib.hid (HF'.out _ hV)
          refine HF.out.mono ?_
          rintro e we ⟨x, cv2, ps2, rfl, hps2, hat⟩
          obtain ⟨A9, c9, rfl⟩ := told_len hat.told
          have hps3 : (ps ++ ps2).map Prod.snd = ((⟨m, 50, [], false, 0⟩ : Pure.DF).feed bs).2 := by rw [List.map_append, PS.out, hps2, HP.out]
          have hl2 : ps2.length ≤ 2000 := by
            have h1 := fst_len hps2
            have h2 := Pure.DF.feed_told P ((⟨m, 50, [], false, 0⟩ : Pure.DF).feed (bs.take q)).1
            omega
          have T4 := Lib.hid (T3.out.fed hat)
          have K4 := Lib.hid (K3.out.fed hat)
          have KA4 := Lib.hid (KA3.out.fed hat)
          have KN := Lib.hid hat.kept
          have PS3 := Lib.hid hps3
          have hrw : Row we (fun b => (Value.slice A9 ps2.length c9).ownBlock = some b) 1 (.slice A9 ps2.length c9) (ps2.map Prod.fst).length (ps2.map Prod.fst) := by rw [List.length_map]; exact Row.of_own KN.out.told.own
          have HRW := Lib.hid hrw
          clear hrw
          have hsz2 : wd.heap.size ≤ we.heap.size := Nat.le_trans hsz hat.keep.size
          clear hps2 hat hps3 hV HF hz
          go_wp2_with (at_builtin; refine stopHere ?_)
          unfold Hid
          refine wp_append_rows rfl (.tmp 75) (.tmp 80) rfl wd.heap.size _ ps.length (ps.map Prod.fst) (by simp) rfl K4.out.told.own _ _ (ps2.map Prod.fst) rfl HRW.out
            (by
              intro u hu
              obtain ⟨p, hp, rfl⟩ := List.mem_map.1 hu
              obtain ⟨A, c, e⟩ := own_form (KN.out.told.rows p hp)
              rw [e]
              rfl) (by rw [List.length_map]; omega) hsz2 ?_
          intro v3 w3 hown3 hg3 hat3
          have hT5 := T4.out.grown K4.out.told.own hg3 hwd
          have hK5 := K4.out.joined KN.out hT5.s1.obj hown3 hg3
          have hKA5 := KA4.out.grown K4.out.told.own hg3 HLT.out
          have FX := Lib.hid (frames_true _ _ _ _ (ps ++ ps2) pall _ hK5.told.frow hKA5.told.frow (by rw [PS3.out, PA.out]))
          obtain ⟨A6, c6, rfl⟩ := told_len hK5.told
          have T5 := Lib.hid hT5
          rw [show (ps ++ ps2).length = ps.length + ps2.length from List.length_append] at FX
          clear hown3 hg3 hat3 hT5 hK5 hKA5
          go_wp2_with fail
          refine FX.out.mono ?_
          rintro e w4 ⟨rfl, hk4⟩
          have T6 := Lib.hid (T5.out.quiet hk4)
          have hd1 := dropped_any _ _ _ w4 T6.out.s1.obj
          have hd2 := dropped_any _ _ _ w4 T6.out.s2.obj
          rw [← HP2.out] at hd1
          have HD1 := Lib.hid hd1
          have HD2 := Lib.hid hd2
          clear hk4 FX T5 hd1 hd2
          go_wp2_with fail
          refine HD1.out.mono ?_
          rintro e w' ⟨rfl, rfl⟩
          go_wp2_with fail
          refine HD2.out.mono ?_
          rintro e w' ⟨rfl, rfl⟩
          go_wp2
          go_ret
          exact ⟨by simp, T6.out.s1.below⟩
  · by_cases c1 : (bs.length : Int) > 2000
    · go_wp2
      go_ret
      exact ⟨rfl, BA.out⟩
    · have c2 : (cs.length : Int) > 2000 := by omega
      go_wp2
      go_ret
      exact ⟨rfl, BA.out⟩
end Go.Proofs.Ytapcclahekkgpaa
