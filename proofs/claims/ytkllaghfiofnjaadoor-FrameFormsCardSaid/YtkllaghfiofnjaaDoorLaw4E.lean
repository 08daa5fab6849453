/- The walk of the law FrameForms. -/
import Derived.Test.YtkllaghfiofnjaaDoorLaw4B
namespace Go.Proofs.YtkllaghfiofnjaaDoor
open Go.RowKit

theorem Pure.enc_lcp (bs : List UInt8) (a q : Bool) : Pure.enc 49185 bs a q = Pure.enc 49185 bs false false := by
  unfold Pure.enc Pure.head Pure.lead Pure.top
  simp
set_option maxRecDepth 100000 in
set_option maxHeartbeats 1000000 in
theorem frameForms_walk (a0 : Int) (a1 : Option Addr) (len1 cap1 : Nat) (z1 : List Int) (w : World) (hg : Handle w) (w0 : (Lit.int .i64 a0).wf = true) (w1 : IsRow .u8 w a1 len1 cap1 z1) :
    Calls Tryd.prog 7 #[.int .i64 a0, .slice a1 len1 cap1] w fun e w' => e = .returned (.bool true) ∧ Below w.heap.size w w' := by
  obtain ⟨bs, hbl, hr⟩ := w1.bytes
  rw [← hbl] at hr ⊢
  have hmax := hr.2.1
  unfold maxLen at hmax
  have HR := Lib.hid hr
  have HG := Lib.hid hg
  have HAW := Lib.hid (awake4_any _ hg)
  clear w0 w1 hr hbl hg
  go_enter Tryd.func7, Tryd.ntmps7
  go_wp2_with fail
  (with_reducible refine HAW.out.mono ?_)
  rintro e w1 ⟨rfl, hb⟩
  have B1 := Lib.hid hb
  clear hb HAW
  by_cases hbig : (bs.length : Int) > 500
  · go_wp2_with fail
    go_ret
    exact ⟨rfl, B1.out⟩
  · have HM := Lib.hid (may_any a0 w1)
    cases hm : Pure.may a0
    · rw [hm] at HM
      clear hm
      go_wp2_with fail
      (with_reducible refine HM.out.mono ?_)
      rintro e w2 ⟨rfl, hk⟩
      have B2 := Lib.hid (Below.quiet B1.out hk B1.out.size)
      clear hk
      go_wp2_with fail
      go_ret
      exact ⟨rfl, B2.out⟩
    · rw [hm] at HM
      have hm2 := hm
      obtain ⟨n, rfl, hn1, hn2, hn3, hn4⟩ := Pure.may_nat a0 hm2
      have MM := Lib.hid hm
      clear hm hm2
      go_wp2_with fail
      (with_reducible refine HM.out.mono ?_)
      rintro e w2 ⟨rfl, hk⟩
      have b2 := Below.quiet B1.out hk B1.out.size
      have B2 := Lib.hid b2
      obtain ⟨LF, hLF⟩ : ∃ LF, LF = Pure.enc n bs false false := ⟨_, rfl⟩
      obtain ⟨LA, hLA⟩ : ∃ LA, LA = Pure.enc n bs true false := ⟨_, rfl⟩
      obtain ⟨LP, hLP⟩ : ∃ LP, LP = Pure.enc n bs false true := ⟨_, rfl⟩
      obtain ⟨LB, hLB⟩ : ∃ LB, LB = Pure.enc n bs true true := ⟨_, rfl⟩
      have HL := Lib.hid (And.intro hLF (And.intro hLA (And.intro hLP hLB)))
      have HE := Lib.hid (Encode_good _ n n rfl _ bs false false LF w2 (HG.out.below b2) (HR.out.keeps (Keeps.new b2) (fun _ _ h => h)) (fun b hb => Nat.lt_of_lt_of_le hb b2.size) MM.out (by omega) hLF.symm)
      obtain ⟨nF, hnF⟩ : ∃ nF, nF = LF.length := ⟨_, rfl⟩
      obtain ⟨nA, hnA⟩ : ∃ nA, nA = LA.length := ⟨_, rfl⟩
      obtain ⟨nP, hnP⟩ : ∃ nP, nP = LP.length := ⟨_, rfl⟩
      obtain ⟨nB, hnB⟩ : ∃ nB, nB = LB.length := ⟨_, rfl⟩
      rw [← hnF] at HE
      have HN := Lib.hid (And.intro hnF (And.intro hnA (And.intro hnP hnB)))
      have hF4 : nF = bs.length + 4 := by rw [hnF, hLF, Pure.enc_length]; simp; omega
      have HF4 := Lib.hid hF4
      have e9 : ((nF : Int) != (bs.length : Int) + 4) = false := by rw [hF4]; simp
      clear hk b2 hLF hLA hLP hLB hnF hnA hnP hnB HM B1 hF4
      go_wp2_with fail
      (with_reducible refine HE.out.mono ?_)
      rintro e w3 ⟨uF, rfl, hoF, hb3⟩
      obtain ⟨AF, cF, rfl⟩ := own_form hoF
      have b3 := B2.out.trans (hb3.mono B2.out.size)
      have OF := Lib.hid (ownsRow_base (base' := 0) hoF (Nat.zero_le _))
      have HE2 := Lib.hid (Encode_good _ n n rfl _ bs true false LA w3 (HG.out.below b3) (HR.out.keeps (Keeps.new b3) (fun _ _ h => h)) (fun b hb => Nat.lt_of_lt_of_le hb b3.size) MM.out (by omega) HL.out.2.1.symm)
      rw [← HN.out.2.1] at HE2
      have B3 := Lib.hid b3
      clear hoF hb3 b3 HE B2
      go_wp2_with fail
      (with_reducible refine HE2.out.mono ?_)
      rintro e w4 ⟨uA, rfl, hoA, hb4⟩
      obtain ⟨AA, cA, rfl⟩ := own_form hoA
      have b4 := B3.out.trans (hb4.mono B3.out.size)
      have OF4 := Lib.hid (own_below OF.out hb4)
      have OA := Lib.hid (ownsRow_base (base' := 0) hoA (Nat.zero_le _))
      have HE3 := Lib.hid (Encode_good _ n n rfl _ bs false true LP w4 (HG.out.below b4) (HR.out.keeps (Keeps.new b4) (fun _ _ h => h)) (fun b hb => Nat.lt_of_lt_of_le hb b4.size) MM.out (by omega) HL.out.2.2.1.symm)
      rw [← HN.out.2.2.1] at HE3
      have B4 := Lib.hid b4
      clear hoA hb4 b4 HE2 B3 OF
      go_wp2_with fail
      (with_reducible refine HE3.out.mono ?_)
      rintro e w5 ⟨uP, rfl, hoP, hb5⟩
      obtain ⟨AP, cP, rfl⟩ := own_form hoP
      have b5 := B4.out.trans (hb5.mono B4.out.size)
      have OF5 := Lib.hid (own_below OF4.out hb5)
      have OA5 := Lib.hid (own_below OA.out hb5)
      have OP := Lib.hid (ownsRow_base (base' := 0) hoP (Nat.zero_le _))
      have HE4 := Lib.hid (Encode_good _ n n rfl _ bs true true LB w5 (HG.out.below b5) (HR.out.keeps (Keeps.new b5) (fun _ _ h => h)) (fun b hb => Nat.lt_of_lt_of_le hb b5.size) MM.out (by omega) HL.out.2.2.2.symm)
      rw [← HN.out.2.2.2] at HE4
      have B5 := Lib.hid b5
      clear hoP hb5 b5 HE3 B4 OF4 OA
      go_wp2_with fail
      (with_reducible refine HE4.out.mono ?_)
      rintro e w6 ⟨uB, rfl, hoB, hb6⟩
      obtain ⟨AB, cB, rfl⟩ := own_form hoB
      have B6 := Lib.hid (B5.out.trans (hb6.mono B5.out.size))
      have OF6 := Lib.hid (own_below OF5.out hb6)
      have OA6 := Lib.hid (own_below OA5.out hb6)
      have OP6 := Lib.hid (own_below OP.out hb6)
      have OB6 := Lib.hid (ownsRow_base (base' := 0) hoB (Nat.zero_le _))
      clear hoB hb6 HE4 B5 OF5 OA5 OP
      by_cases hlcp : n = 49185
      · have q1 : ((n : Int) == 49185) = true := by rw [hlcp]; rfl
        have eA : LA = LF := by rw [HL.out.2.1, HL.out.1, hlcp, Pure.enc_lcp]
        have eP : LP = LF := by rw [HL.out.2.2.1, HL.out.1, hlcp, Pure.enc_lcp]
        have eB : LB = LF := by rw [HL.out.2.2.2, HL.out.1, hlcp, Pure.enc_lcp]
        have EQ := Lib.hid (And.intro eA (And.intro eP eB))
        clear hlcp eA eP eB
        have RF := Lib.hid (by rw [← HN.out.1]; exact Row.of_own OF6.out : Row w6 (fun b => (Value.slice AF nF cF).ownBlock = some b) 1 (.slice AF nF cF) LF.length (u8s LF))
        have RA := Lib.hid (by rw [← HN.out.2.1]; exact Row.of_own OA6.out : Row w6 (fun b => (Value.slice AA nA cA).ownBlock = some b) 1 (.slice AA nA cA) LA.length (u8s LA))
        have RP := Lib.hid (by rw [← HN.out.2.2.1]; exact Row.of_own OP6.out : Row w6 (fun b => (Value.slice AP nP cP).ownBlock = some b) 1 (.slice AP nP cP) LP.length (u8s LP))
        have RB := Lib.hid (by rw [← HN.out.2.2.2]; exact Row.of_own OB6.out : Row w6 (fun b => (Value.slice AB nB cB).ownBlock = some b) 1 (.slice AB nB cB) LB.length (u8s LB))
        have HS1 := Lib.hid (same_any _ _ _ _ LF LA w6 RF.out RA.out)
        rw [decide_eq_true EQ.out.1.symm] at HS1
        clear OF6 OA6 OP6 OB6
        go_wp2_with fail
        (with_reducible refine HS1.out.mono ?_)
        rintro e w7 ⟨rfl, hk7⟩
        have B7 := Lib.hid (Below.quiet B6.out hk7 B6.out.size)
        have RF7 := Lib.hid (RF.out.keeps hk7 (fun _ _ h => h))
        have RP7 := Lib.hid (RP.out.keeps hk7 (fun _ _ h => h))
        have RB7 := Lib.hid (RB.out.keeps hk7 (fun _ _ h => h))
        have HS2 := Lib.hid (same_any _ _ _ _ LF LP w7 RF7.out RP7.out)
        rw [decide_eq_true EQ.out.2.1.symm] at HS2
        clear hk7 HS1 RF RA RP RB B6
        go_wp2_with fail
        (with_reducible refine HS2.out.mono ?_)
        rintro e w8 ⟨rfl, hk8⟩
        have B8 := Lib.hid (Below.quiet B7.out hk8 B7.out.size)
        have RF8 := Lib.hid (RF7.out.keeps hk8 (fun _ _ h => h))
        have RB8 := Lib.hid (RB7.out.keeps hk8 (fun _ _ h => h))
        have HS3 := Lib.hid (same_any _ _ _ _ LF LB w8 RF8.out RB8.out)
        rw [decide_eq_true EQ.out.2.2.symm] at HS3
        clear hk8 HS2 RF7 RP7 RB7 B7
        go_wp2_with fail
        (with_reducible refine HS3.out.mono ?_)
        rintro e w9 ⟨rfl, hk9⟩
        have B9 := Lib.hid (Below.quiet B8.out hk9 B8.out.size)
        clear hk9
        go_wp2_with fail
        go_ret
        exact ⟨rfl, B9.out⟩
      · have q1 : ((n : Int) == 49185) = false := by rw [beq_eq_false_iff_ne]; omega
        have lA : nA = bs.length + 2 := by rw [HN.out.2.1, HL.out.2.1, Pure.enc_length]; simp [hlcp]; omega
        have DA : Pure.dec LA false true = (0, [], 4) := by rw [HL.out.2.1]; exact Pure.dec_short n bs false true hn1 hn2 hn3 hn4 hlcp
        have RA := Lib.hid (by rw [← HN.out.2.1]; exact Row.of_own OA6.out : Row w6 (fun b => (Value.slice AA nA cA).ownBlock = some b) 1 (.slice AA nA cA) LA.length (u8s LA))
        have RP := Lib.hid (by rw [← HN.out.2.2.1]; exact Row.of_own OP6.out : Row w6 (fun b => (Value.slice AP nP cP).ownBlock = some b) 1 (.slice AP nP cP) LP.length (u8s LP))
        have rA : ∀ b, (Value.slice AA nA cA).ownBlock = some b → b < w6.heap.size := fun b hb => ownsRow_lt OA6.out b hb
        have rP : ∀ b, (Value.slice AP nP cP).ownBlock = some b → b < w6.heap.size := fun b hb => ownsRow_lt OP6.out b hb
        have HD1 := Lib.hid (Decode_is _ _ LA false true (0, [], 4) w6 (HG.out.below B6.out) RA.out rA (by have := HN.out.2.1; omega) DA)
        have HRP := Lib.hid rP
        clear rA rP OF6 OA6 OP6 OB6 DA RA
        by_cases hs : n < 256
        · have hs' : (n : Int) < 256 := by omega
          have lP : nP = bs.length + 3 := by rw [HN.out.2.2.1, HL.out.2.2.1, Pure.enc_length]; simp [hs]; omega
          have lB : nB = bs.length + 1 := by rw [HN.out.2.2.2, HL.out.2.2.2, Pure.enc_length]; simp [hs, hlcp]; omega
          have DP : Pure.dec LP true false = (0, [], 4) := by rw [HL.out.2.2.1]; exact Pure.dec_shortP n bs true hn2 hs
          have HDP := Lib.hid DP
          have t1 : ((nA : Int) != (nF : Int) - 2) = false := by rw [lA, HF4.out]; simp; omega
          have t2 : ((nP : Int) != (nF : Int) - 1) = false := by rw [lP, HF4.out]; simp; omega
          have t3 : ((nB : Int) != (nF : Int) - 2 - 1) = false := by rw [lB, HF4.out]; simp; omega
          have lP2 : LP.length ≤ 100000000000000 := by have := HN.out.2.2.1; omega
          have hF5 : 4 ≤ nF := by have := HF4.out; omega
          have hF6 : nF ≤ 600 := by have := HF4.out; omega
          clear hs lA lP lB DP hlcp
          go_wp2_with fail
          (with_reducible refine HD1.out.mono ?_)
          rintro e w7 ⟨hb7, u7, rfl, ho7⟩
          have b7 := B6.out.trans (hb7.mono B6.out.size)
          obtain ⟨A7, c7, rfl⟩ := own_form ho7
          have HD2 := Lib.hid (Decode_is _ _ LP true false (0, [], 4) w7 (HG.out.below b7) (RP.out.keeps (Keeps.new hb7) (fun _ _ h => h)) (fun b hb => Nat.lt_of_lt_of_le (HRP.out b hb) hb7.size) lP2 HDP.out)
          have B7 := Lib.hid b7
          clear hb7 ho7 b7 HD1
          go_wp2_with fail
          (with_reducible refine HD2.out.mono ?_)
          rintro e w8 ⟨hb8, u8, rfl, ho8⟩
          have B8 := Lib.hid (B7.out.trans (hb8.mono B7.out.size))
          obtain ⟨A8, c8, rfl⟩ := own_form ho8
          clear hb8 ho8 HD2
          go_wp2_with fail
          go_ret
          exact ⟨rfl, B8.out⟩
        · have hs' : ¬ (n : Int) < 256 := by omega
          have lP : nP = bs.length + 4 := by rw [HN.out.2.2.1, HL.out.2.2.1, Pure.enc_length]; simp [hs]; omega
          have lB : nB = bs.length + 2 := by rw [HN.out.2.2.2, HL.out.2.2.2, Pure.enc_length]; simp [hs, hlcp]; omega
          have DP : Pure.dec LP true false = (n, bs, 0) := by rw [HL.out.2.2.1]; exact Pure.dec_enc n bs false true true false hn1 hn2 hn3 hn4 (by omega) (fun _ _ => rfl) (fun h => absurd h hs)
          have HDP := Lib.hid DP
          have t1 : ((nA : Int) != (nF : Int) - 2) = false := by rw [lA, HF4.out]; simp; omega
          have t2 : ((nP : Int) != (nF : Int)) = false := by rw [lP, HF4.out]; simp
          have t3 : ((nB : Int) != (nF : Int) - 2) = false := by rw [lB, HF4.out]; simp; omega
          have lP2 : LP.length ≤ 100000000000000 := by have := HN.out.2.2.1; omega
          have hF5 : 4 ≤ nF := by have := HF4.out; omega
          have hF6 : nF ≤ 600 := by have := HF4.out; omega
          clear hs lA lP lB DP hlcp
          go_wp2_with fail
          (with_reducible refine HD1.out.mono ?_)
          rintro e w7 ⟨hb7, u7, rfl, ho7⟩
          have b7 := B6.out.trans (hb7.mono B6.out.size)
          obtain ⟨A7, c7, rfl⟩ := own_form ho7
          have HD2 := Lib.hid (Decode_is _ _ LP true false (n, bs, 0) w7 (HG.out.below b7) (RP.out.keeps (Keeps.new hb7) (fun _ _ h => h)) (fun b hb => Nat.lt_of_lt_of_le (HRP.out b hb) hb7.size) lP2 HDP.out)
          have B7 := Lib.hid b7
          clear hb7 ho7 b7 HD1
          go_wp2_with fail
          (with_reducible refine HD2.out.mono ?_)
          rintro e w8 ⟨hb8, u8, rfl, ho8⟩
          have B8 := Lib.hid (B7.out.trans (hb8.mono B7.out.size))
          obtain ⟨A8, c8, rfl⟩ := own_form ho8
          clear hb8 ho8 HD2
          go_wp2_with fail
          go_ret
          exact ⟨rfl, B8.out⟩
end Go.Proofs.YtkllaghfiofnjaaDoor
