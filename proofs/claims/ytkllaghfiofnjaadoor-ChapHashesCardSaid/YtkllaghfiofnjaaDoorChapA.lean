/- The document's letter: the first letter of a string. -/
import Derived.Test.YtkllaghfiofnjaaDoorUtfPure
import Derived.Test.YtkllaghfiofnjaaDoorInts
import Derived.Test.YtkllaghfiofnjaaDoorLast
import Derived.Laws.BitsAllLaws
namespace Go.Proofs.YtkllaghfiofnjaaDoor
open Go.RowKit
theorem str_at (s : ByteArray) (l : List UInt8) (hl : s.data.toList = l) (k : Nat) (hk : k < s.size) : (s[k]'hk).toNat = (l.getD k 0).toNat := by
  subst hl
  have e : s.data.toList[k]? = some s[k] := by
    rw [List.getElem?_eq_getElem (by simpa using hk)]; rfl
  rw [List.getD_eq_getElem?_getD, e]; rfl
/-- A byte that follows, by its two first bits. -/
theorem top2_u8 (c : UInt8) : bits .and .u8 (c.toNat : Int) 192 = ((64 * (c.toNat / 64) : Nat) : Int) := by
  have h := u8_and_nat c.toNat 192 c.toNat_lt (by omega)
  have e : ∀ n : Fin 256, n.val &&& 192 = 64 * (n.val / 64) := by decide +kernel
  rw [e ⟨c.toNat, c.toNat_lt⟩] at h
  exact h
theorem low6_u8 (c : UInt8) : bits .and .u8 (c.toNat : Int) 63 = ((c.toNat % 64 : Nat) : Int) := by
  have h := u8_and_nat c.toNat 63 c.toNat_lt (by omega)
  rw [show (63 : Nat) = 2 ^ 6 - 1 by rfl, Nat.and_two_pow_sub_one_eq_mod] at h
  exact h
theorem low_i64 (b n : Nat) (hb : b < 256) (hn : n ≤ 5) : bits .and .i64 (b : Int) ((2 ^ n - 1 : Nat) : Int) = ((b % 2 ^ n : Nat) : Int) := by
  have h1 : (2 : Nat) ^ n ≤ 2 ^ 5 := Nat.pow_le_pow_right (by omega) hn
  rw [i64_and_nat b (2 ^ n - 1) (by omega) (by omega), Nat.and_two_pow_sub_one_eq_mod]
set_option maxRecDepth 100000 in
set_option maxHeartbeats 4000000 in
theorem letter_any (s : ByteArray) (l : List UInt8) (hl : s.data.toList = l) (hne : 0 < l.length) (hsz : l.length ≤ 1000000) (w : World) :
    Calls Tryd.prog 68 #[.string s] w fun e w' => e = .returned (.tuple #[.int .i64 (((Pure.letter l).1 : Nat) : Int), .int .i64 (((Pure.letter l).2 : Nat) : Int)]) ∧ Keeps nobody w w' := by
  have hs : s.size = l.length := by rw [← hl]; simp
  have h0 : 0 < s.size := by omega
  obtain ⟨B, hB⟩ : ∃ B, B = (l.getD 0 0).toNat := ⟨_, rfl⟩
  have hB2 : B < 256 := by rw [hB]; exact UInt8.toNat_lt _
  have hsB : (s[0]'h0).toNat = B := by rw [hB]; exact str_at s l hl 0 h0
  have HB := Lib.hid hB
  have HL := Lib.hid hl
  have HSZ := Lib.hid hs
  clear hB hl
  go_enter Tryd.func68, Tryd.ntmps68
  go_upto_region 2 with fail
  by_cases hb : B < 128
  · have hlt := Pure.letter_plain l (by rw [← HB.out]; exact hb)
    rw [← HB.out] at hlt
    have HLT := Lib.hid hlt
    clear hlt
    go_wp2
    go_ret2
    exact ⟨by rw [HLT.out]; rfl, Keeps.refl _ _⟩
  · have hb1 : ¬ (B : Int) < 128 := by omega
    have H128 := Lib.hid (show 128 ≤ B by omega)
    clear hb
    go_upto_block 0 with fail
    go_cut [5, 6] (fun n x wx => ∃ N X : Nat, n = .int .i64 (N : Int) ∧ x = .int .i64 (X : Int) ∧ Pure.head B = (N, X) ∧ wx = w)
    case first =>
      rcases (show B < 194 ∨ (194 ≤ B ∧ B ≤ 223) ∨ (224 ≤ B ∧ B ≤ 239) ∨ (240 ≤ B ∧ B ≤ 244) ∨ 244 < B by omega) with hc | hc | hc | hc | hc
      · have d0 : decide ((194 : Int) ≤ (B : Int)) = false := decide_eq_false (by omega)
        have d1 : decide ((224 : Int) ≤ (B : Int)) = false := decide_eq_false (by omega)
        have d2 : decide ((240 : Int) ≤ (B : Int)) = false := decide_eq_false (by omega)
        have hh : Pure.head B = (0, 0) := by
          rcases Pure.head_cases B with ⟨e, h⟩ | ⟨e, h⟩ | ⟨e, h⟩ | ⟨e, h⟩ <;> first | exact e | (exfalso; omega)
        have HH := Lib.hid hh
        clear hh hc
        go_wp2
        go_meet
        exact ⟨0, 0, rfl, rfl, HH.out, rfl⟩
      · have d0 : decide ((194 : Int) ≤ (B : Int)) = true := decide_eq_true (by omega)
        have d1 : decide ((B : Int) ≤ 223) = true := decide_eq_true (by omega)
        obtain ⟨X, hX⟩ : ∃ X, X = B % 32 := ⟨_, rfl⟩
        have e1 : bits .and .i64 (B : Int) 31 = (X : Int) := by
          have h := low_i64 B 5 hB2 (by omega)
          rw [hX]; exact h
        have hh : Pure.head B = (2, X) := by
          rw [hX]
          rcases Pure.head_cases B with ⟨e, h⟩ | ⟨e, h⟩ | ⟨e, h⟩ | ⟨e, h⟩ <;> first | exact e | (exfalso; omega)
        have HH := Lib.hid hh
        clear hh hX hc
        go_wp2
        go_meet
        exact ⟨2, X, rfl, rfl, HH.out, rfl⟩
      · have d0 : decide ((194 : Int) ≤ (B : Int)) = true := decide_eq_true (by omega)
        have d1 : decide ((B : Int) ≤ 223) = false := decide_eq_false (by omega)
        have d2 : decide ((224 : Int) ≤ (B : Int)) = true := decide_eq_true (by omega)
        have d3 : decide ((B : Int) ≤ 239) = true := decide_eq_true (by omega)
        obtain ⟨X, hX⟩ : ∃ X, X = B % 16 := ⟨_, rfl⟩
        have e1 : bits .and .i64 (B : Int) 15 = (X : Int) := by
          have h := low_i64 B 4 hB2 (by omega)
          rw [hX]; exact h
        have hh : Pure.head B = (3, X) := by
          rw [hX]
          rcases Pure.head_cases B with ⟨e, h⟩ | ⟨e, h⟩ | ⟨e, h⟩ | ⟨e, h⟩ <;> first | exact e | (exfalso; omega)
        have HH := Lib.hid hh
        clear hh hX hc
        go_wp2
        go_meet
        exact ⟨3, X, rfl, rfl, HH.out, rfl⟩
      · have d0 : decide ((194 : Int) ≤ (B : Int)) = true := decide_eq_true (by omega)
        have d1 : decide ((B : Int) ≤ 223) = false := decide_eq_false (by omega)
        have d2 : decide ((224 : Int) ≤ (B : Int)) = true := decide_eq_true (by omega)
        have d3 : decide ((B : Int) ≤ 239) = false := decide_eq_false (by omega)
        have d4 : decide ((240 : Int) ≤ (B : Int)) = true := decide_eq_true (by omega)
        have d5 : decide ((B : Int) ≤ 244) = true := decide_eq_true (by omega)
        obtain ⟨X, hX⟩ : ∃ X, X = B % 8 := ⟨_, rfl⟩
        have e1 : bits .and .i64 (B : Int) 7 = (X : Int) := by
          have h := low_i64 B 3 hB2 (by omega)
          rw [hX]; exact h
        have hh : Pure.head B = (4, X) := by
          rw [hX]
          rcases Pure.head_cases B with ⟨e, h⟩ | ⟨e, h⟩ | ⟨e, h⟩ | ⟨e, h⟩ <;> first | exact e | (exfalso; omega)
        have HH := Lib.hid hh
        clear hh hX hc
        go_wp2
        go_meet
        exact ⟨4, X, rfl, rfl, HH.out, rfl⟩
      · have d0 : decide ((194 : Int) ≤ (B : Int)) = true := decide_eq_true (by omega)
        have d1 : decide ((B : Int) ≤ 223) = false := decide_eq_false (by omega)
        have d2 : decide ((224 : Int) ≤ (B : Int)) = true := decide_eq_true (by omega)
        have d3 : decide ((B : Int) ≤ 239) = false := decide_eq_false (by omega)
        have d4 : decide ((240 : Int) ≤ (B : Int)) = true := decide_eq_true (by omega)
        have d5 : decide ((B : Int) ≤ 244) = false := decide_eq_false (by omega)
        have hh : Pure.head B = (0, 0) := by
          rcases Pure.head_cases B with ⟨e, h⟩ | ⟨e, h⟩ | ⟨e, h⟩ | ⟨e, h⟩ <;> first | exact e | (exfalso; omega)
        have HH := Lib.hid hh
        clear hh hc
        go_wp2
        go_meet
        exact ⟨0, 0, rfl, rfl, HH.out, rfl⟩
    case rest =>
      obtain ⟨N, X, rfl, rfl, hH, rfl⟩ := hcut
      have hNX : N = 0 ∨ (2 ≤ N ∧ N ≤ 4 ∧ X < 32) := by
        rcases Pure.head_cases B with ⟨e, h⟩ | ⟨e, h⟩ | ⟨e, h⟩ | ⟨e, h⟩ <;> (rw [e] at hH; injection hH with h1 h2; omega)
      have HH := Lib.hid (show Pure.head (l.getD 0 0).toNat = (N, X) by rw [← HB.out]; exact hH)
      have HB128 := Lib.hid (show 128 ≤ (l.getD 0 0).toNat by rw [← HB.out]; exact H128.out)
      clear hH
      by_cases hN : N = 0
      · have hlt := Pure.letter_none l HB128.out (by rw [HH.out]; exact hN)
        have HLT := Lib.hid hlt
        subst hN
        clear hlt hNX
        go_wp2
        go_ret2
        exact ⟨by rw [HLT.out]; rfl, Keeps.refl _ _⟩
      · obtain ⟨n1, n2, n3⟩ : 2 ≤ N ∧ N ≤ 4 ∧ X < 32 := by omega
        have d0 : ((N : Int) == 0) = false := by rw [beq_eq_false_iff_ne]; omega
        clear hNX
        by_cases hlen : l.length < N
        · have hf : Pure.follows l (N - 1) = false := by
            unfold Pure.follows
            rw [decide_eq_false (by omega)]; rfl
          have hlt := Pure.letter_bad l HB128.out (N - 1) (by omega) (by rw [HH.out]; show N - 1 < N; omega) hf
          have HLT := Lib.hid hlt
          have d1 : decide ((s.size : Int) < (N : Int)) = true := decide_eq_true (by omega)
          have d3 : decide ((l.length : Int) < (N : Int)) = true := decide_eq_true (by omega)
          have d5 : decide (l.length < N) = true := decide_eq_true hlen
          clear hlt hf
          go_wp2
          go_ret2
          exact ⟨by rw [HLT.out]; rfl, Keeps.refl _ _⟩
        · have d1 : decide ((s.size : Int) < (N : Int)) = false := decide_eq_false (by omega)
          go_wp2_with fail
          clear d1 d0
          go_loopw [6, 7] (fun x i wr => ∃ k : Nat, 1 ≤ k ∧ k ≤ N ∧ i = .int .i64 (k : Int) ∧ x = .int .i64 ((Pure.sum6 l X (k - 1) : Nat) : Int) ∧ (∀ j, 1 ≤ j → j < k → Pure.follows l j = true) ∧ wr = wc) (fun _ i _ => N - (intOf i).toNat)
          case atStart => exact ⟨1, by omega, by omega, rfl, rfl, fun j h1 h2 => by omega, rfl⟩
          case round =>
            obtain ⟨k, hk1, hk, rfl, rfl, hfo, rfl⟩ := hrel
            have HFO := Lib.hid hfo
            clear hfo
            have hsum := Pure.sum6_lt l X (k - 1) n3 (by omega)
            by_cases hkl : k < N
            · have i0 : (0 : Int) ≤ (k : Int) := by omega
              have i1 : k < s.size := by omega
              have i2 : (k : Int) < (s.size : Int) := by omega
              have i3 : (k : Int) < (N : Int) := by omega
              obtain ⟨c, hc⟩ : ∃ c, c = l.getD k 0 := ⟨_, rfl⟩
              have hsk : (s[k]'i1).toNat = c.toNat := by rw [hc]; exact str_at s l HL.out k i1
              have hfk : Pure.follows l k = (c.toNat / 64 == 2) := by
                unfold Pure.follows
                rw [decide_eq_true (by omega), hc, Bool.true_and]
              have hsx : Pure.six l k = c.toNat % 64 := by rw [hc]; rfl
              have t2 := top2_u8 c
              have t6 := low6_u8 c
              have hcl := c.toNat_lt
              obtain ⟨C, hC⟩ : ∃ C, C = c.toNat := ⟨_, rfl⟩
              rw [← hC] at hsk hfk hsx t2 t6 hcl
              obtain ⟨D, hD⟩ : ∃ D, D = 64 * (C / 64) := ⟨_, rfl⟩
              rw [← hD] at t2
              obtain ⟨S, hS⟩ : ∃ S, S = Pure.sum6 l X (k - 1) := ⟨_, rfl⟩
              rw [← hS] at hsum ⊢
              by_cases hfl : C / 64 = 2
              · have d2 : ((D : Int) != 128) = false := by rw [show D = 128 by omega]; rfl
                obtain ⟨E, hE⟩ : ∃ E, E = C % 64 := ⟨_, rfl⟩
                rw [← hE] at t6 hsx
                obtain ⟨S', hS'⟩ : ∃ S', S' = Pure.sum6 l X k := ⟨_, rfl⟩
                have hSS : S' = S * 64 + E := by
                  rw [hS', hS, ← hsx]
                  obtain ⟨m, rfl⟩ : ∃ m, k = m + 1 := ⟨k - 1, by omega⟩
                  rfl
                have e3 : bits .or .i64 ((S : Int) * 64) (E : Int) = (S' : Int) := by
                  have h := i64_or_nat (S * 64) E (by omega) (by omega)
                  rw [show S * 64 ||| E = S' by rw [hSS, show (64 : Nat) = 2 ^ 6 by rfl, ← Nat.shiftLeft_eq, Nat.shiftLeft_add_eq_or_of_lt (show E < 2 ^ 6 by omega)]] at h
                  simpa using h
                have e4 : wrap64 (E : Int) = (E : Int) := IntWalk.wrap64_in _ (by omega)
                have HF := Lib.hid (show ∀ j, 1 ≤ j → j < k + 1 → Pure.follows l j = true from fun j h1 h2 => by
                  by_cases hj : j < k
                  · exact HFO.out j h1 hj
                  · rw [show j = k by omega, hfk, hfl]; rfl)
                have HS' := Lib.hid hS'
                clear hc hfk hsx hC hD hS hE hS' hSS hfl
                go_wp2_with fail
                go_roundw
                case rel => exact ⟨k + 1, by omega, by omega, by go_num, by rw [HS'.out]; rfl, HF.out, trivial⟩
                case measure => simp [intOf]; omega
              · have d2 : ((D : Int) != 128) = true := by rw [bne_iff_ne]; omega
                have hlt := Pure.letter_bad l HB128.out k hk1 (by rw [HH.out]; exact hkl) (by rw [hfk]; simpa using hfl)
                have HLT := Lib.hid hlt
                clear hlt hc hfk hsx hC hD hS hfl t6
                go_wp2
                go_ret2
                exact ⟨by rw [HLT.out]; rfl, Keeps.refl _ _⟩
            · have hkk : k = N := by omega
              subst hkk
              have hlt := Pure.letter_good l HB128.out k X (Pure.sum6 l X (k - 1)) HH.out (by omega) HFO.out rfl
              obtain ⟨V, hV⟩ : ∃ V, V = Pure.sum6 l X (k - 1) := ⟨_, rfl⟩
              rw [← hV] at hlt hsum ⊢
              clear hV hk hkl HFO HH HB128 hlen hk1
              rcases (show k = 2 ∨ k = 3 ∨ k = 4 by omega) with rfl | rfl | rfl
              · have el : Pure.least 2 = 128 := rfl
                rw [el] at hlt
                clear el
                by_cases c1 : V < 128
                · rw [if_neg (by omega)] at hlt
                  have HLT := Lib.hid hlt
                  have d1 : decide ((V : Int) < 128) = true := decide_eq_true (by omega)
                  clear hlt c1
                  go_wp2
                  go_ret2
                  exact ⟨by rw [HLT.out]; rfl, (Keeps.refl _ _).alloc _⟩
                have d1 : decide ((V : Int) < 128) = false := decide_eq_false (by omega)
                by_cases c2 : 1114111 < V
                · rw [if_neg (by omega)] at hlt
                  have HLT := Lib.hid hlt
                  have d2 : decide ((1114111 : Int) < (V : Int)) = true := decide_eq_true (by omega)
                  clear hlt c1 c2
                  go_wp2
                  go_ret2
                  exact ⟨by rw [HLT.out]; rfl, (Keeps.refl _ _).alloc _⟩
                have d2 : decide ((1114111 : Int) < (V : Int)) = false := decide_eq_false (by omega)
                by_cases c3 : 55296 ≤ V
                · have d3 : decide ((55296 : Int) ≤ (V : Int)) = true := decide_eq_true (by omega)
                  by_cases c4 : V ≤ 57343
                  · have d4 : decide ((V : Int) ≤ 57343) = true := decide_eq_true (by omega)
                    rw [if_neg (by omega)] at hlt
                    have HLT := Lib.hid hlt
                    clear hlt c1 c2 c3 c4
                    go_wp2
                    go_ret2
                    exact ⟨by rw [HLT.out]; rfl, (Keeps.refl _ _).alloc _⟩
                  · have d4 : decide ((V : Int) ≤ 57343) = false := decide_eq_false (by omega)
                    rw [if_pos (by omega)] at hlt
                    have HLT := Lib.hid hlt
                    clear hlt c1 c2 c3 c4
                    go_wp2
                    go_ret2
                    exact ⟨by rw [HLT.out]; rfl, (Keeps.refl _ _).alloc _⟩
                · have d3 : decide ((55296 : Int) ≤ (V : Int)) = false := decide_eq_false (by omega)
                  rw [if_pos (by omega)] at hlt
                  have HLT := Lib.hid hlt
                  clear hlt c1 c2 c3
                  go_wp2
                  go_ret2
                  exact ⟨by rw [HLT.out]; rfl, (Keeps.refl _ _).alloc _⟩
              · have el : Pure.least 3 = 2048 := rfl
                rw [el] at hlt
                clear el
                by_cases c1 : V < 2048
                · rw [if_neg (by omega)] at hlt
                  have HLT := Lib.hid hlt
                  have d1 : decide ((V : Int) < 2048) = true := decide_eq_true (by omega)
                  clear hlt c1
                  go_wp2
                  go_ret2
                  exact ⟨by rw [HLT.out]; rfl, (Keeps.refl _ _).alloc _⟩
                have d1 : decide ((V : Int) < 2048) = false := decide_eq_false (by omega)
                by_cases c2 : 1114111 < V
                · rw [if_neg (by omega)] at hlt
                  have HLT := Lib.hid hlt
                  have d2 : decide ((1114111 : Int) < (V : Int)) = true := decide_eq_true (by omega)
                  clear hlt c1 c2
                  go_wp2
                  go_ret2
                  exact ⟨by rw [HLT.out]; rfl, (Keeps.refl _ _).alloc _⟩
                have d2 : decide ((1114111 : Int) < (V : Int)) = false := decide_eq_false (by omega)
                by_cases c3 : 55296 ≤ V
                · have d3 : decide ((55296 : Int) ≤ (V : Int)) = true := decide_eq_true (by omega)
                  by_cases c4 : V ≤ 57343
                  · have d4 : decide ((V : Int) ≤ 57343) = true := decide_eq_true (by omega)
                    rw [if_neg (by omega)] at hlt
                    have HLT := Lib.hid hlt
                    clear hlt c1 c2 c3 c4
                    go_wp2
                    go_ret2
                    exact ⟨by rw [HLT.out]; rfl, (Keeps.refl _ _).alloc _⟩
                  · have d4 : decide ((V : Int) ≤ 57343) = false := decide_eq_false (by omega)
                    rw [if_pos (by omega)] at hlt
                    have HLT := Lib.hid hlt
                    clear hlt c1 c2 c3 c4
                    go_wp2
                    go_ret2
                    exact ⟨by rw [HLT.out]; rfl, (Keeps.refl _ _).alloc _⟩
                · have d3 : decide ((55296 : Int) ≤ (V : Int)) = false := decide_eq_false (by omega)
                  rw [if_pos (by omega)] at hlt
                  have HLT := Lib.hid hlt
                  clear hlt c1 c2 c3
                  go_wp2
                  go_ret2
                  exact ⟨by rw [HLT.out]; rfl, (Keeps.refl _ _).alloc _⟩
              · have el : Pure.least 4 = 65536 := rfl
                rw [el] at hlt
                clear el
                by_cases c1 : V < 65536
                · rw [if_neg (by omega)] at hlt
                  have HLT := Lib.hid hlt
                  have d1 : decide ((V : Int) < 65536) = true := decide_eq_true (by omega)
                  clear hlt c1
                  go_wp2
                  go_ret2
                  exact ⟨by rw [HLT.out]; rfl, (Keeps.refl _ _).alloc _⟩
                have d1 : decide ((V : Int) < 65536) = false := decide_eq_false (by omega)
                by_cases c2 : 1114111 < V
                · rw [if_neg (by omega)] at hlt
                  have HLT := Lib.hid hlt
                  have d2 : decide ((1114111 : Int) < (V : Int)) = true := decide_eq_true (by omega)
                  clear hlt c1 c2
                  go_wp2
                  go_ret2
                  exact ⟨by rw [HLT.out]; rfl, (Keeps.refl _ _).alloc _⟩
                have d2 : decide ((1114111 : Int) < (V : Int)) = false := decide_eq_false (by omega)
                by_cases c3 : 55296 ≤ V
                · have d3 : decide ((55296 : Int) ≤ (V : Int)) = true := decide_eq_true (by omega)
                  by_cases c4 : V ≤ 57343
                  · have d4 : decide ((V : Int) ≤ 57343) = true := decide_eq_true (by omega)
                    rw [if_neg (by omega)] at hlt
                    have HLT := Lib.hid hlt
                    clear hlt c1 c2 c3 c4
                    go_wp2
                    go_ret2
                    exact ⟨by rw [HLT.out]; rfl, (Keeps.refl _ _).alloc _⟩
                  · have d4 : decide ((V : Int) ≤ 57343) = false := decide_eq_false (by omega)
                    rw [if_pos (by omega)] at hlt
                    have HLT := Lib.hid hlt
                    clear hlt c1 c2 c3 c4
                    go_wp2
                    go_ret2
                    exact ⟨by rw [HLT.out]; rfl, (Keeps.refl _ _).alloc _⟩
                · have d3 : decide ((55296 : Int) ≤ (V : Int)) = false := decide_eq_false (by omega)
                  rw [if_pos (by omega)] at hlt
                  have HLT := Lib.hid hlt
                  clear hlt c1 c2 c3
                  go_wp2
                  go_ret2
                  exact ⟨by rw [HLT.out]; rfl, (Keeps.refl _ _).alloc _⟩
end Go.Proofs.YtkllaghfiofnjaaDoor
