/- The document's numbers of chapter 13: Num, numbered, has. -/
import Derived.Test.YteajofcdiankiaaQ11
import Derived.Test.YteajofcdiankiaaQ3
import Derived.Test.YteajofcdiankiaaQ4
import Derived.Laws.BitsAllLaws
import Derived.Test.YteajofcdiankiaaQ2
import Derived.Test.YteajofcdiankiaaQ5
namespace Go.Proofs.Yteajofcdiankiaa
open Go.RowKit
set_option maxRecDepth 100000 in
set_option maxHeartbeats 2000000 in
theorem docnum_any (F : Nat → Prop) (x : Value) (l : List UInt8) (w : World) (hr : Row w F 1 x l.length (u8s l)) (hl : l.length ≤ 4) :
    Calls Try.prog 37 #[x] w fun e w' => e = .returned (.int .i64 (Pure.bnum l : Nat)) ∧ w = w' := by
  obtain ⟨A, c, rfl, hc⟩ := hr.form
  have HR := Lib.hid hr
  have HT := Lib.hid (fun (k : Nat) (h : k ≤ l.length) => show Pure.bnum (l.take k) < 4294967296 from Pure.bnum_small (by rw [List.length_take]; omega))
  have HT3 := Lib.hid (fun (k : Nat) (h : k < l.length) => show Pure.bnum (l.take k) < 16777216 from Nat.lt_of_lt_of_le (Pure.bnum_lt _) (show 256 ^ (l.take k).length ≤ 256 ^ 3 from Nat.pow_le_pow_right (by omega) (by rw [List.length_take]; omega)))
  clear hr
  go_enter Try.func37, Try.ntmps37
  go_wp2_with fail
  go_loopw [3, 4] (fun v i wr => ∃ k : Nat, k ≤ l.length ∧ i = .int .i64 (k : Int) ∧ v = .int .i64 (Pure.bnum (l.take k) : Nat) ∧ wr = w) (fun _ i _ => l.length - (intOf i).toNat)
  case atStart => exact ⟨0, by omega, rfl, rfl, rfl⟩
  case round =>
    obtain ⟨k, hk, rfl, rfl, rfl⟩ := hrel
    by_cases hkl : k < l.length
    · have i0 : (0 : Int) ≤ (k : Int) := by omega
      have i1 : (k : Int) < (l.length : Int) := by omega
      obtain ⟨b, off, rfl, _, hcx⟩ := HR.out.cellAt (by omega)
      have b0 := hcx k _ (u8s_at l k hkl)
      have hx := (l.getD k 0).toNat_lt
      have hN := HT3.out k hkl
      have hsn : Pure.bnum (l.take (k + 1)) = Pure.bnum (l.take k) * 256 + (l.getD k 0).toNat := by
        rw [List.take_succ_eq_append_getElem hkl, Pure.bnum_snoc]
        simp [List.getD_eq_getElem?_getD, hkl]
      have hM := HT.out (k + 1) (by omega)
      obtain ⟨N, hN'⟩ : ∃ N, N = Pure.bnum (l.take k) := ⟨_, rfl⟩
      obtain ⟨M, hM'⟩ : ∃ N, N = Pure.bnum (l.take (k + 1)) := ⟨_, rfl⟩
      obtain ⟨X, hX⟩ : ∃ N, N = (l.getD k 0).toNat := ⟨_, rfl⟩
      rw [← hN', ← hM', ← hX] at hsn
      rw [← hN'] at hN ⊢
      rw [← hM'] at hM
      rw [← hX] at b0 hx
      have eor : bits .or .i64 ((N : Int) * 256) (X : Int) = (M : Int) := by
        have h := i64_or_nat (N * 256) X (by omega) (by omega)
        rw [show N * 256 ||| X = M by rw [hsn, show (256 : Nat) = 2 ^ 8 by rfl, ← Nat.shiftLeft_eq, Nat.shiftLeft_add_eq_or_of_lt (show X < 2 ^ 8 by omega)]] at h
        simpa using h
      have HM := Lib.hid hM'
      clear hcx hN' hM' hX hsn hM
      go_wp2_with fail
      go_roundw
      case rel => exact ⟨k + 1, by omega, by go_num, by rw [← HM.out], trivial⟩
      case measure => simp [intOf]; omega
    · have hkk : k = l.length := by omega
      have HE := Lib.hid (show Pure.bnum (l.take k) = Pure.bnum l by rw [hkk, List.take_length])
      subst hkk
      clear hkl hk
      go_wp2
      go_ret
      exact ⟨by rw [← HE.out]; rfl, rfl⟩
set_option maxRecDepth 100000 in
theorem docnumbered_any (F : Nat → Prop) (v x : Value) (r : Pure.Rule) (l : List UInt8) (w : World) (hr : Row w F 1 x l.length (u8s l)) :
    Calls Try.prog 35 #[ruleV (v, r), x] w fun e w' => e = .returned (.bool (decide (r.numbered l))) ∧ Keeps nobody w w' := by
  obtain ⟨A, c, rfl, _⟩ := hr.form
  have HK := Lib.hid ((Keeps.refl nobody w).alloc (.cells (ruleCells (v, r)).toArray 53))
  have hb := Blk.new w 53 (ruleCells (v, r)).toArray
  have c1 : (w.alloc (.cells (ruleCells (v, r)).toArray 53)).cell? ⟨w.heap.size, 1, none⟩ = some (.int .i64 r.len) := by rw [hb.cell]; rfl
  clear hr hb
  by_cases h1 : 1 ≤ r.len
  · have d1 : decide (1 ≤ r.len) = true := decide_eq_true h1
    by_cases h4 : r.len ≤ 4
    · have d4 : decide (r.len ≤ 4) = true := decide_eq_true h4
      by_cases hl : (l.length : Int) = r.len
      · have dl : ((l.length : Int) == r.len) = true := by rw [beq_iff_eq]; exact hl
        have HD := Lib.hid (show decide (r.numbered l) = true from decide_eq_true ⟨h1, h4, hl⟩)
        clear h1 h4 hl
        go_enter Try.func35, Try.ntmps35
        go_wp2
        go_ret
        exact ⟨by rw [HD.out]; rfl, HK.out⟩
      · have dl : ((l.length : Int) == r.len) = false := by rw [beq_eq_false_iff_ne]; exact hl
        have HD := Lib.hid (show decide (r.numbered l) = false from decide_eq_false fun h => hl h.2.2)
        clear h1 h4 hl
        go_enter Try.func35, Try.ntmps35
        go_wp2
        go_ret
        exact ⟨by rw [HD.out]; rfl, HK.out⟩
    · have d4 : decide (r.len ≤ 4) = false := decide_eq_false h4
      have HD := Lib.hid (show decide (r.numbered l) = false from decide_eq_false fun h => h4 h.2.1)
      clear h1 h4
      go_enter Try.func35, Try.ntmps35
      go_wp2
      go_ret
      exact ⟨by rw [HD.out]; rfl, HK.out⟩
  · have d1 : decide (1 ≤ r.len) = false := decide_eq_false h1
    have HD := Lib.hid (show decide (r.numbered l) = false from decide_eq_false fun h => h1 h.1)
    clear h1
    go_enter Try.func35, Try.ntmps35
    go_wp2
    go_ret
    exact ⟨by rw [HD.out]; rfl, HK.out⟩
set_option maxRecDepth 100000 in
set_option maxHeartbeats 2000000 in
theorem dochas_any (F : Nat → Prop) (x : Value) (ps : List (Value × Pure.Opt)) (n : Nat) (t : Int) (w : World) (hx : ORow w F x ps) (hn : n ≤ ps.length) :
    Calls Try.prog 26 #[x, .int .i64 n, .int .i64 t] w fun e w' => e = .returned (.bool (Pure.hasType ((ps.map Prod.snd).take n) t)) ∧ w = w' := by
  obtain ⟨A, c, rfl, _⟩ := hx.form
  have hm := hx.out.2.1
  unfold maxLen at hm
  have HX := Lib.hid hx
  clear hx
  go_enter Try.func26, Try.ntmps26
  go_wp2_with fail
  go_loopw [7] (fun i wr => ∃ k : Nat, k ≤ n ∧ i = .int .i64 (k : Int) ∧ Pure.hasType ((ps.map Prod.snd).take k) t = false ∧ wr = w) (fun i _ => n - (intOf i).toNat)
  case atStart => exact ⟨0, by omega, rfl, rfl, rfl⟩
  case round =>
    obtain ⟨k, hk, rfl, hH, rfl⟩ := hrel
    have HH := Lib.hid hH
    clear hH
    by_cases hkl : k < n
    · have i0 : (0 : Int) ≤ (k : Int) := by omega
      have i1 : (k : Int) < (ps.length : Int) := by omega
      have d1 : decide ((k : Int) < (n : Int)) = true := decide_eq_true (by omega)
      have d2 : decide (k < n) = true := decide_eq_true hkl
      obtain ⟨p, o, A1, c1, s, la, rfl, hFp, x0, x1, hra, hpa⟩ := HX.out.pick k (by omega)
      have htk : (ps.map Prod.snd).take (k + 1) = (ps.map Prod.snd).take k ++ [(s, la)] := by
        rw [List.take_add_one, List.getElem?_map, hpa]; rfl
      have hstep : Pure.hasType ((ps.map Prod.snd).take (k + 1)) t = decide (s = t) := by
        rw [htk]
        unfold Pure.hasType
        rw [List.any_append]
        have := HH.out
        unfold Pure.hasType at this
        rw [this]
        simp
      have HS := Lib.hid hstep
      clear hra hpa x1 htk hstep
      by_cases hst : s = t
      · subst hst
        have HE := Lib.hid (show Pure.hasType ((ps.map Prod.snd).take n) s = true by
          have h := HS.out
          rw [decide_eq_true rfl] at h
          unfold Pure.hasType at h ⊢
          rw [List.any_eq_true] at h ⊢
          obtain ⟨q, hq, hq2⟩ := h
          have ht : ((ps.map Prod.snd).take n).take (k + 1) = (ps.map Prod.snd).take (k + 1) := by rw [List.take_take, Nat.min_eq_left (by omega)]
          rw [← ht] at hq
          exact ⟨q, List.mem_of_mem_take hq, hq2⟩)
        have dq : (s == s) = true := beq_self_eq_true s
        go_wp2_with fail
        go_ret
        exact ⟨by rw [HE.out]; rfl, rfl⟩
      · have dq : (s == t) = false := by rw [beq_eq_false_iff_ne]; exact hst
        go_wp2_with fail
        go_roundw
        case rel => exact ⟨k + 1, by omega, by go_num, by rw [HS.out]; exact decide_eq_false hst, trivial⟩
        case measure => simp [intOf]; omega
    · have hkk : k = n := by omega
      subst hkk
      have d1 : decide ((k : Int) < (k : Int)) = false := decide_eq_false (by omega)
      have d2 : decide (k < k) = false := decide_eq_false (by omega)
      go_wp2
      go_ret
      exact ⟨by rw [HH.out]; rfl, rfl⟩
end Go.Proofs.Yteajofcdiankiaa
/- Bytes and words as numbers: one bit of a word, a byte with one bit turned. -/
namespace Go.Proofs.Yteajofcdiankiaa
open Go.RowKit

theorem and1_u32 (B s : Nat) (hB : B < 4294967296) : bits .and .u32 ((B : Int) / 2 ^ s) 1 = if B.testBit s then 1 else 0 := by
  have e1 : ((B : Int) / 2 ^ s) = ((B >>> s : Nat) : Int) := by rw [Nat.shiftRight_eq_div_pow]; simp
  have hle : B >>> s < 4294967296 := Nat.lt_of_le_of_lt (by rw [Nat.shiftRight_eq_div_pow]; exact Nat.div_le_self _ _) hB
  have h := u32_and_nat (B >>> s) 1 hle (by omega)
  rw [nat_mask1] at h
  rw [e1]
  refine h.trans ?_
  have ht := Nat.toNat_testBit B s
  rw [← Nat.shiftRight_eq_div_pow] at ht
  rw [← ht]
  cases B.testBit s <;> rfl

theorem xor_u8 (c k : UInt8) : bits .xor .u8 (c.toNat : Int) (k.toNat : Int) = (((c ^^^ k).toNat : Nat) : Int) := by
  rw [u8_xor_nat c.toNat k.toNat c.toNat_lt k.toNat_lt, UInt8.toNat_xor]
theorem xor_u8_32 (c : UInt8) : bits .xor .u8 (c.toNat : Int) 32 = (((c ^^^ 32).toNat : Nat) : Int) := xor_u8 c 32
theorem and1_i64 (X : Nat) (s : Nat) (hX : X < 4294967296) : bits .and .i64 ((X : Int) / 2 ^ s) 1 = if X.testBit s then 1 else 0 := by
  have e1 : ((X : Int) / 2 ^ s) = ((X >>> s : Nat) : Int) := by rw [Nat.shiftRight_eq_div_pow]; simp
  have hle : X >>> s ≤ X := by rw [Nat.shiftRight_eq_div_pow]; exact Nat.div_le_self _ _
  have h := i64_and_nat (X >>> s) 1 (by omega) (by omega)
  rw [show X >>> s &&& 1 = X >>> s % 2 by simp [Nat.and_one_is_mod]] at h
  rw [e1]
  refine h.trans ?_
  have ht := Nat.toNat_testBit X s
  rw [← Nat.shiftRight_eq_div_pow] at ht
  rw [← ht]
  cases X.testBit s <;> rfl
end Go.Proofs.Yteajofcdiankiaa
/- The document's Wide: a number in so many bytes. -/
namespace Go.Proofs.Yteajofcdiankiaa
open Go.RowKit
set_option maxRecDepth 100000 in
set_option maxHeartbeats 2000000 in
theorem docwide_any (x n : Nat) (w : World) (hn : n ≤ 4) (_ : x < 4294967296) :
    Calls Try.prog 36 #[.int .i64 x, .int .i64 n] w fun e w' => ∃ u, e = .returned u ∧ w'.ownsRow w.heap.size 5 1 u n (u8s (Pure.wide x n)) ∧ Below w.heap.size w w' := by
  have e0 : wrap64 ((n : Int) - 1) = (n : Int) - 1 := IntWalk.wrap64_in _ (by omega)
  go_enter Try.func36, Try.ntmps36
  go_wp2_with fail
  go_loopw [5, 6] (fun v i wr => ∃ k : Nat, k ≤ n ∧ i = .int .i64 ((n : Int) - 1 - (k : Int)) ∧ wr.ownsRow w.heap.size 5 1 v k (u8s ((Pure.wide x n).take k)) ∧ Below w.heap.size w wr) (fun _ i _ => (intOf i + 1).toNat)
  case atStart => exact ⟨0, by omega, by simp, World.ownsRow_nil _ _ _ _, Below.refl _ _⟩
  case round =>
    obtain ⟨k, hk, rfl, hW, hB⟩ := hrel
    have HW := Lib.hid hW
    have HB := Lib.hid hB
    obtain ⟨A5, c5, rfl⟩ := own_form hW
    clear hW hB e0
    by_cases hkl : k < n
    · obtain ⟨j, hj⟩ : ∃ j, n - 1 - k = j := ⟨_, rfl⟩
      have hji : (n : Int) - 1 - (k : Int) = (j : Int) := by omega
      have hj3 : j ≤ 3 := by omega
      rw [hji]
      have d0 : decide ((0 : Int) ≤ (j : Int)) = true := decide_eq_true (by omega)
      have e1 : wrap64 (8 * (j : Int)) = ((8 * j : Nat) : Int) := by rw [IntWalk.wrap64_in _ (by omega)]; omega
      have htk : (Pure.wide x n).take (k + 1) = (Pure.wide x n).take k ++ [UInt8.ofNat (x / 256 ^ j % 256)] := by
        rw [List.take_add_one]
        congr 1
        unfold Pure.wide
        rw [List.getElem?_map, List.getElem?_range hkl]
        show [UInt8.ofNat (x / 256 ^ (n - 1 - k) % 256)] = _
        rw [hj]
      obtain ⟨B, hBe⟩ : ∃ B, B = UInt8.ofNat (x / 256 ^ j % 256) := ⟨_, rfl⟩
      rw [← hBe] at htk
      have hbv : ((x : Int) / 2 ^ (8 * j) % 256) = (B.toNat : Int) := by
        rw [hBe, show (UInt8.ofNat (x / 256 ^ j % 256)).toNat = x / 256 ^ j % 256 by simp, show (256 : Nat) ^ j = 2 ^ (8 * j) by rw [Nat.pow_mul]]
        simp
      have hlen : ((Pure.wide x n).take k).length = k := by rw [List.length_take, Pure.wide_length]; omega
      have HTK := Lib.hid htk
      have HRow := Lib.hid (row_new wr [B] #[.int .u8 B.toNat] 1 rfl rfl (by simp))
      have hsz := HB.out.size
      clear htk hBe
      go_wp2_with (at_builtin; refine stopHere ?_)
      unfold Hid
      rw [hbv]
      refine wp_append_u8 rfl (.tmp 13) (.tmp 20) rfl w.heap.size _ k ((Pure.wide x n).take k) hlen rfl (HW.out.alloc _) _ _ [B] rfl HRow.out (by simp; omega) (by simp; omega) ?_
      intro v3 w3 hown3 hg3 hat3
      rw [← HTK.out] at hown3
      have O3 := Lib.hid (show w3.ownsRow w.heap.size 5 1 v3 (k + 1) (u8s ((Pure.wide x n).take (k + 1))) by
        have e : ((Pure.wide x n).take (k + 1)).length = k + 1 := by rw [List.length_take, Pure.wide_length]; omega
        rw [e] at hown3
        exact hown3)
      have B3 := Lib.hid (Below.grown (HB.out.alloc hsz (.cells #[.int .u8 B.toNat] 5)) hg3 (by simp; omega) (fun q hq => (ownsRow_ge HW.out q hq)))
      have hjk : wrap64 ((j : Int) - 1) = (n : Int) - 1 - ((k + 1 : Nat) : Int) := by rw [IntWalk.wrap64_in _ (by omega)]; omega
      clear hown3 hg3 hat3 HRow e1
      go_wp2_with fail
      go_roundw
      case rel => exact ⟨k + 1, by omega, congrArg (Value.int .i64) (by omega), O3.out, B3.out⟩
      case measure => simp [intOf] <;> omega
    · have hkk : k = n := by omega
      subst hkk
      have hm1 : (k : Int) - 1 - (k : Int) = -1 := by omega
      rw [hm1]
      have e : (Pure.wide x k).take k = Pure.wide x k := by rw [List.take_of_length_le (by rw [Pure.wide_length]; omega)]
      have HW2 := Lib.hid (show wr.ownsRow w.heap.size 5 1 (.slice A5 k c5) k (u8s (Pure.wide x k)) by have := HW.out; rw [e] at this; exact this)
      clear e hm1
      go_wp2
      go_ret
      exact ⟨_, rfl, HW2.out, HB.out⟩
end Go.Proofs.Yteajofcdiankiaa
