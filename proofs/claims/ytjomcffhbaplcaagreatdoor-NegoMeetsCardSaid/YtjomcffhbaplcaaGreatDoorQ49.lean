/- Chapter 13's statements on two negotiators: what their walks share. -/
import Derived.Test.YtjomcffhbaplcaaGreatDoorQ47
import Derived.Test.YtjomcffhbaplcaaGreatDoorQ48
import Derived.Test.YtjomcffhbaplcaaGreatDoorQ9
import Derived.Test.YtjomcffhbaplcaaGreatDoorQ3
import Derived.Test.YtjomcffhbaplcaaGreatDoorQ4
import Derived.Laws.BitsAllLaws
import Derived.Test.YtjomcffhbaplcaaGreatDoorQ5
namespace Go.Proofs.YtjomcffhbaplcaaGreatDoor
open Go.RowKit
section
variable {w0 w : World} {g mb i gx gy : Nat} {mx my : GM} {Vm Vo : Value} {lm lo : List Pure.Pkt} {Mm Mo : Pure.Neg}
theorem NPair.state (h : NPair w0 w g mb i Vm Vo lm lo gx mx gy my Mm Mo) : Calls Tryz.prog 16 #[.pointer (some ⟨gx, 0, none⟩)] w fun e w' => e = .returned (.int .i64 (Mm.m.state : Nat)) ∧ w = w' := by
  obtain ⟨R, f, h⟩ := h.at
  exact nstate_any gx R f Mm w h
theorem NPair.mines (h : NPair w0 w g mb i Vm Vo lm lo gx mx gy my Mm Mo) : Calls Tryz.prog 18 #[.pointer (some ⟨gx, 0, none⟩)] w fun e w' => Given w w' e Mm.mine := by
  obtain ⟨R, f, h⟩ := h.at
  exact nmine_any gx R f Mm w h
theorem NPair.givens (h : NPair w0 w g mb i Vm Vo lm lo gx mx gy my Mm Mo) : Calls Tryz.prog 19 #[.pointer (some ⟨gx, 0, none⟩)] w fun e w' => Given w w' e Mm.given := by
  obtain ⟨R, f, h⟩ := h.at
  exact ngiven_any gx R f Mm w h
end
/-- Two that were made one behind the other. -/
theorem two_new {w0 wA wB wC wD wE : World} {gx gy : Nat} {fx fy : NF} {Rx Ry : Nat → Prop} {X Y : Pure.Neg} (env : Env13 w0) (bel : Below w0.heap.size w0 wA) (k1 : Keeps nobody wA wB) (hx : NObj wB gx Rx fx X) (x1 : wA.heap.size ≤ gx) (x2 : wA.heap.size ≤ fx.gm ∧ fx.gm.j = byRules gx) (_ : ∀ b, Rx b → wA.heap.size ≤ b)
    (k2 : Keeps nobody wB wC) (k3 : Keeps nobody wC wD) (hy : NObj wD gy Ry fy Y) (y1 : wC.heap.size ≤ gy) (y2 : wC.heap.size ≤ fy.gm ∧ fy.gm.j = byRules gy) (y3 : ∀ b, Ry b → wC.heap.size ≤ b) (k4 : Keeps nobody wD wE) : TwoNew w0 wE gx fx.gm gy fy.gm X Y := by
  have lx := hx.blk.lt
  have lm := Blk.lt hx.mach
  have hlt := hx.lt
  have s2 := k2.size
  have hB := bel.size
  refine ⟨fun b => if b = gx ∨ b = fx.gm then 1 else if b = gy ∨ b = fy.gm then 2 else 0, Rx, Ry, env, ?_, ⟨fx, ((hx.keeps k2 (fun h => h) (fun h => h) (fun _ _ h => h)).keeps k3 (fun h => h) (fun h => h) (fun _ _ h => h)).keeps k4 (fun h => h) (fun h => h) (fun _ _ h => h), rfl, x2.2⟩, ⟨fy, hy.keeps k4 (fun h => h) (fun h => h) (fun _ _ h => h), rfl, y2.2⟩, by simp, by simp, ?_, ?_, ?_, ?_, ?_⟩
  · exact Below.quiet bel (((k1.trans k2).trans k3).trans k4) bel.size
  · (try dsimp only); rw [if_neg (by omega), if_pos (.inl rfl)]
  · (try dsimp only); rw [if_neg (by omega), if_pos (.inr rfl)]
  · intro b hb
    have h1 : b ≠ gx := fun e => hx.ng (e ▸ hb)
    have h2 : b ≠ fx.gm := fun e => hx.nm (e ▸ hb)
    have h3 := hlt b hb
    (try dsimp only); rw [if_neg (by omega), if_neg (by omega)]
  · intro b hb
    have h1 : b ≠ gy := fun e => hy.ng (e ▸ hb)
    have h2 : b ≠ fy.gm := fun e => hy.nm (e ▸ hb)
    have h3 := y3 b hb
    (try dsimp only); rw [if_neg (by omega), if_neg (by omega)]
  · intro b _ hb
    (try dsimp only at hb)
    by_cases h1 : b = gx ∨ b = fx.gm
    · rcases h1 with rfl | rfl <;> omega
    · rw [if_neg h1] at hb
      by_cases h2 : b = gy ∨ b = fy.gm
      · have := k1.size
        rcases h2 with rfl | rfl <;> omega
      · rw [if_neg h2] at hb; exact absurd rfl hb
/-- A literal list of one rule. -/
theorem one_rule {w : World} {b : Nat} (r : Pure.Rule) (hr : r.want = []) (h : Blk w b 28 #[.int .i64 r.type, .int .i64 r.len, .int .i64 r.how, .int .i64 r.lo, .int .i64 r.hi, .slice none 0 0, .bool r.need]) :
    RRow w (fun x => x = b) (.slice (some ⟨b, 0, none⟩) 1 1) [(.slice none 0 0, r)] := by
  refine ⟨Row.block (F := fun x => x = b) (n := 1) (c := 1) (size := 7) (cs := #[.int .i64 r.type, .int .i64 r.len, .int .i64 r.how, .int .i64 r.lo, .int .i64 r.hi, .slice none 0 0, .bool r.need]) h rfl rfl (by unfold maxLen; omega) (Nat.le_refl _), fun p hp => ?_⟩
  rw [List.mem_singleton.1 hp]
  rw [hr]
  exact Row.nil _ _ _
/-- A list of one option, over bytes that lie there. -/
theorem one_option {w : World} {F : Nat → Prop} {b c : Nat} {t : Int} {A : Option Addr} {l : List UInt8} (hr : Row w F 1 (.slice A l.length c) l.length (u8s l)) (h : Blk w b 54 #[.int .i64 t, .slice A l.length c]) :
    ORow w (fun x => F x ∨ x = b) (.slice (some ⟨b, 0, none⟩) 1 1) [(.slice A l.length c, (t, l))] := by
  refine ⟨Row.block (F := fun x => F x ∨ x = b) (n := 1) (c := 1) (size := 2) (cs := #[.int .i64 t, .slice A l.length c]) h (.inr rfl) rfl (by unfold maxLen; omega) (Nat.le_refl _), fun p hp => ?_⟩
  rw [List.mem_singleton.1 hp]
  exact hr.mono (fun _ h => .inl h)
theorem u16_and (c : Nat) (hc : c < 65536) : bits .and .u16 (c : Int) 255 = ((c % 256 : Nat) : Int) := by
  show IntKind.u16.wrap (((BitVec.ofInt 16 (c : Int)) &&& (BitVec.ofInt 16 255)).toNat : Int) = _
  rw [BitVec.toNat_and]
  have h1 : (BitVec.ofInt 16 (c : Int)).toNat = c := by rw [BitVec.toNat_ofInt]; omega
  have h2 : (BitVec.ofInt 16 255).toNat = 255 := by rw [BitVec.toNat_ofInt]; rfl
  rw [h1, h2]
  have h3 : c &&& 255 = c % 256 := Nat.and_two_pow_sub_one_eq_mod c 8
  rw [h3]
  show ((c % 256 : Nat) : Int) % 65536 = _
  omega
/-- New, of rules and one option. -/
theorem new_one (Fu F : Nat → Prop) (xu : Value) (us : List (Value × Pure.Rule)) (t : Int) (A : Option Addr) (c n : Nat) (l : List UInt8) (W : World) (hu : RRow W Fu xu us) (hn : n = l.length) (hr : Row W F 1 (.slice A n c) n (u8s l)) (hfu : FewRules us) (hf : Pure.Fine [(t, l)]) (tr ti : Nat) (hm : mayBe tr ti) :
    Calls Tryz.prog 13 #[xu, .slice (some ⟨W.heap.size, 0, none⟩) 1 1, .int .i64 (tr : Int), .int .i64 (ti : Int)] (W.alloc (.cells #[.int .i64 t, .slice A n c] 54)) fun e w' => ∃ g f R, e = .returned (.tuple #[.pointer (some ⟨g, 0, none⟩), .int .i64 0]) ∧ NObj w' g R f (Pure.newNeg (rulesOf us) [(t, l)] tr ti) ∧ W.heap.size ≤ g ∧ (W.heap.size ≤ f.gm ∧ f.gm.j = byRules g) ∧ (∀ b, R b → W.heap.size ≤ b) ∧ Keeps nobody W w' := by
  subst hn
  have k : Keeps nobody W (W.alloc (.cells #[.int .i64 t, .slice A l.length c] 54)) := (Keeps.refl _ W).alloc _
  have ho := one_option (hr.keeps k (fun _ _ h => h)) (Blk.new W 54 #[.int .i64 t, .slice A l.length c])
  refine (newneg_any Fu _ xu _ us _ tr ti _ (hu.keeps k (fun _ _ h => h)) ho.strong (fun b hb => hb.2) hfu hf hm).mono ?_
  rintro e w' ⟨g, f, R, rfl, h1, h2, h3, h4, h5⟩
  have hs := k.size
  exact ⟨g, f, R, rfl, h1, by omega, ⟨by omega, h3.2⟩, fun b hb => by have := h4 b hb; omega, k.trans h5⟩
/-- The one option of a list. -/
theorem one_read {w : World} {F : Nat → Prop} {A : Option Addr} {c : Nat} {v : Value} {o : Pure.Opt} (h : ORow w F (.slice A 1 c) [(v, o)]) : ∃ p q A' c', A = some ⟨p, q, none⟩ ∧ v = .slice A' o.2.length c' ∧ w.cell? ⟨p, q, none⟩ = some (.int .i64 o.1) ∧ w.cell? ⟨p, q + 1, none⟩ = some v ∧ Row w F 1 v o.2.length (u8s o.2) := by
  obtain ⟨p, q, A', c', t, bs, rfl, _, h1, h2, h3, h4⟩ := h.pick 0 (by simp)
  simp only [List.getElem?_cons_zero, Option.some.injEq, Prod.mk.injEq] at h4
  obtain ⟨rfl, rfl⟩ := h4
  rw [Nat.zero_mul, Nat.add_zero] at h1 h2
  exact ⟨p, q, A', c', rfl, rfl, h1, h2, h3⟩
theorem newNeg_tame (rules : List Pure.Rule) (ask : List Pure.Opt) (t u : Nat) (h : rules.length ≤ 1000) : (Pure.newNeg rules ask t u).naks = 0 ∧ (Pure.newNeg rules ask t u).dropped = 0 ∧ (Pure.newNeg rules ask t u).rules.length ≤ 1000 := ⟨rfl, rfl, h⟩
end Go.Proofs.YtjomcffhbaplcaaGreatDoor
/- The document's numbers of chapter 13: Num, numbered, has. -/
namespace Go.Proofs.YtjomcffhbaplcaaGreatDoor
open Go.RowKit
set_option maxRecDepth 100000 in
set_option maxHeartbeats 2000000 in
theorem docnum_any (F : Nat → Prop) (x : Value) (l : List UInt8) (w : World) (hr : Row w F 1 x l.length (u8s l)) (hl : l.length ≤ 4) :
    Calls Tryz.prog 26 #[x] w fun e w' => e = .returned (.int .i64 (Pure.bnum l : Nat)) ∧ w = w' := by
  obtain ⟨A, c, rfl, hc⟩ := hr.form
  have HR := Lib.hid hr
  have HT := Lib.hid (fun (k : Nat) (h : k ≤ l.length) => show Pure.bnum (l.take k) < 4294967296 from Pure.bnum_small (by rw [List.length_take]; omega))
  have HT3 := Lib.hid (fun (k : Nat) (h : k < l.length) => show Pure.bnum (l.take k) < 16777216 from Nat.lt_of_lt_of_le (Pure.bnum_lt _) (show 256 ^ (l.take k).length ≤ 256 ^ 3 from Nat.pow_le_pow_right (by omega) (by rw [List.length_take]; omega)))
  clear hr
  go_enter Tryz.func26, Tryz.ntmps26
  go_wp2_with fail
  go_loopw [3, 4] (fun v i wr => ∃ k : Nat, k ≤ l.length ∧ i = .int .i64 (k : Int) ∧ v = .int .i64 (Pure.bnum (l.take k) : Nat) ∧ wr = w) (fun _ i _ => l.length - (intOf i).toNat)
  case atStart => exact ⟨0, by omega, rfl, rfl, rfl⟩
  case round =>
    obtain ⟨k, hk, rfl, rfl, rfl⟩ := hrel
    by_cases hkl : k < l.length
    · have i0 : (0 : Int) ≤ (k : Int) := by omega
      have i1 : (k : Int) < (l.length : Int) := by omega
      obtain ⟨b, off, rfl, _, hcx⟩ := HR.out.cellAt (by omega)
      have b0 := hcx k _ (u8s_at l k hkl)
      have hx := (l.getD k 0).toNat_lt
      have hN := HT3.out k hkl
      have hsn : Pure.bnum (l.take (k + 1)) = Pure.bnum (l.take k) * 256 + (l.getD k 0).toNat := by
        rw [List.take_succ_eq_append_getElem hkl, Pure.bnum_snoc]
        simp [List.getD_eq_getElem?_getD, hkl]
      have hM := HT.out (k + 1) (by omega)
      obtain ⟨N, hN'⟩ : ∃ N, N = Pure.bnum (l.take k) := ⟨_, rfl⟩
      obtain ⟨M, hM'⟩ : ∃ N, N = Pure.bnum (l.take (k + 1)) := ⟨_, rfl⟩
      obtain ⟨X, hX⟩ : ∃ N, N = (l.getD k 0).toNat := ⟨_, rfl⟩
      rw [← hN', ← hM', ← hX] at hsn
      rw [← hN'] at hN ⊢
      rw [← hM'] at hM
      rw [← hX] at b0 hx
      have eor : bits .or .i64 ((N : Int) * 256) (X : Int) = (M : Int) := by
        have h := i64_or_nat (N * 256) X (by omega) (by omega)
        rw [show N * 256 ||| X = M by rw [hsn, show (256 : Nat) = 2 ^ 8 by rfl, ← Nat.shiftLeft_eq, Nat.shiftLeft_add_eq_or_of_lt (show X < 2 ^ 8 by omega)]] at h
        simpa using h
      have HM := Lib.hid hM'
      clear hcx hN' hM' hX hsn hM
      go_wp2_with fail
      go_roundw
      case rel => exact ⟨k + 1, by omega, by go_num, by rw [← HM.out], trivial⟩
      case measure => simp [intOf]; omega
    · have hkk : k = l.length := by omega
      have HE := Lib.hid (show Pure.bnum (l.take k) = Pure.bnum l by rw [hkk, List.take_length])
      subst hkk
      clear hkl hk
      go_wp2
      go_ret
      exact ⟨by rw [← HE.out]; rfl, rfl⟩
end Go.Proofs.YtjomcffhbaplcaaGreatDoor
/- Bytes and words as numbers: one bit of a word, a byte with one bit turned. -/
namespace Go.Proofs.YtjomcffhbaplcaaGreatDoor
open Go.RowKit

theorem and1_u32 (B s : Nat) (hB : B < 4294967296) : bits .and .u32 ((B : Int) / 2 ^ s) 1 = if B.testBit s then 1 else 0 := by
  have e1 : ((B : Int) / 2 ^ s) = ((B >>> s : Nat) : Int) := by rw [Nat.shiftRight_eq_div_pow]; simp
  have hle : B >>> s < 4294967296 := Nat.lt_of_le_of_lt (by rw [Nat.shiftRight_eq_div_pow]; exact Nat.div_le_self _ _) hB
  have h := u32_and_nat (B >>> s) 1 hle (by omega)
  rw [nat_mask1] at h
  rw [e1]
  refine h.trans ?_
  have ht := Nat.toNat_testBit B s
  rw [← Nat.shiftRight_eq_div_pow] at ht
  rw [← ht]
  cases B.testBit s <;> rfl

theorem xor_u8 (c k : UInt8) : bits .xor .u8 (c.toNat : Int) (k.toNat : Int) = (((c ^^^ k).toNat : Nat) : Int) := by
  rw [u8_xor_nat c.toNat k.toNat c.toNat_lt k.toNat_lt, UInt8.toNat_xor]
theorem xor_u8_32 (c : UInt8) : bits .xor .u8 (c.toNat : Int) 32 = (((c ^^^ 32).toNat : Nat) : Int) := xor_u8 c 32
theorem and1_i64 (X : Nat) (s : Nat) (hX : X < 4294967296) : bits .and .i64 ((X : Int) / 2 ^ s) 1 = if X.testBit s then 1 else 0 := by
  have e1 : ((X : Int) / 2 ^ s) = ((X >>> s : Nat) : Int) := by rw [Nat.shiftRight_eq_div_pow]; simp
  have hle : X >>> s ≤ X := by rw [Nat.shiftRight_eq_div_pow]; exact Nat.div_le_self _ _
  have h := i64_and_nat (X >>> s) 1 (by omega) (by omega)
  rw [show X >>> s &&& 1 = X >>> s % 2 by simp [Nat.and_one_is_mod]] at h
  rw [e1]
  refine h.trans ?_
  have ht := Nat.toNat_testBit X s
  rw [← Nat.shiftRight_eq_div_pow] at ht
  rw [← ht]
  cases X.testBit s <;> rfl
end Go.Proofs.YtjomcffhbaplcaaGreatDoor
/- The document's Wide: a number in so many bytes. -/
namespace Go.Proofs.YtjomcffhbaplcaaGreatDoor
open Go.RowKit
set_option maxRecDepth 100000 in
set_option maxHeartbeats 2000000 in
theorem docwide_any (x n : Nat) (w : World) (hn : n ≤ 4) (_ : x < 4294967296) :
    Calls Tryz.prog 24 #[.int .i64 x, .int .i64 n] w fun e w' => ∃ u, e = .returned u ∧ w'.ownsRow w.heap.size 5 1 u n (u8s (Pure.wide x n)) ∧ Below w.heap.size w w' := by
  have e0 : wrap64 ((n : Int) - 1) = (n : Int) - 1 := IntWalk.wrap64_in _ (by omega)
  go_enter Tryz.func24, Tryz.ntmps24
  go_wp2_with fail
  go_loopw [5, 6] (fun v i wr => ∃ k : Nat, k ≤ n ∧ i = .int .i64 ((n : Int) - 1 - (k : Int)) ∧ wr.ownsRow w.heap.size 5 1 v k (u8s ((Pure.wide x n).take k)) ∧ Below w.heap.size w wr) (fun _ i _ => (intOf i + 1).toNat)
  case atStart => exact ⟨0, by omega, by simp, World.ownsRow_nil _ _ _ _, Below.refl _ _⟩
  case round =>
    obtain ⟨k, hk, rfl, hW, hB⟩ := hrel
    have HW := Lib.hid hW
    have HB := Lib.hid hB
    obtain ⟨A5, c5, rfl⟩ := own_form hW
    clear hW hB e0
    by_cases hkl : k < n
    · obtain ⟨j, hj⟩ : ∃ j, n - 1 - k = j := ⟨_, rfl⟩
      have hji : (n : Int) - 1 - (k : Int) = (j : Int) := by omega
      have hj3 : j ≤ 3 := by omega
      rw [hji]
      have d0 : decide ((0 : Int) ≤ (j : Int)) = true := decide_eq_true (by omega)
      have e1 : wrap64 (8 * (j : Int)) = ((8 * j : Nat) : Int) := by rw [IntWalk.wrap64_in _ (by omega)]; omega
      have htk : (Pure.wide x n).take (k + 1) = (Pure.wide x n).take k ++ [UInt8.ofNat (x / 256 ^ j % 256)] := by
        rw [List.take_add_one]
        congr 1
        unfold Pure.wide
        rw [List.getElem?_map, List.getElem?_range hkl]
        show [UInt8.ofNat (x / 256 ^ (n - 1 - k) % 256)] = _
        rw [hj]
      obtain ⟨B, hBe⟩ : ∃ B, B = UInt8.ofNat (x / 256 ^ j % 256) := ⟨_, rfl⟩
      rw [← hBe] at htk
      have hbv : ((x : Int) / 2 ^ (8 * j) % 256) = (B.toNat : Int) := by
        rw [hBe, show (UInt8.ofNat (x / 256 ^ j % 256)).toNat = x / 256 ^ j % 256 by simp, show (256 : Nat) ^ j = 2 ^ (8 * j) by rw [Nat.pow_mul]]
        simp
      have hlen : ((Pure.wide x n).take k).length = k := by rw [List.length_take, Pure.wide_length]; omega
      have HTK := Lib.hid htk
      have HRow := Lib.hid (row_new wr [B] #[.int .u8 B.toNat] 1 rfl rfl (by simp))
      have hsz := HB.out.size
      clear htk hBe
      go_wp2_with (at_builtin; refine stopHere ?_)
      unfold Hid
      rw [hbv]
      refine wp_append_u8 rfl (.tmp 13) (.tmp 20) rfl w.heap.size _ k ((Pure.wide x n).take k) hlen rfl (HW.out.alloc _) _ _ [B] rfl HRow.out (by simp; omega) (by simp; omega) ?_
      intro v3 w3 hown3 hg3 hat3
      rw [← HTK.out] at hown3
      have O3 := Lib.hid (show w3.ownsRow w.heap.size 5 1 v3 (k + 1) (u8s ((Pure.wide x n).take (k + 1))) by
        have e : ((Pure.wide x n).take (k + 1)).length = k + 1 := by rw [List.length_take, Pure.wide_length]; omega
        rw [e] at hown3
        exact hown3)
      have B3 := Lib.hid (Below.grown (HB.out.alloc hsz (.cells #[.int .u8 B.toNat] 5)) hg3 (by simp; omega) (fun q hq => (ownsRow_ge HW.out q hq)))
      have hjk : wrap64 ((j : Int) - 1) = (n : Int) - 1 - ((k + 1 : Nat) : Int) := by rw [IntWalk.wrap64_in _ (by omega)]; omega
      clear hown3 hg3 hat3 HRow e1
      go_wp2_with fail
      go_roundw
      case rel => exact ⟨k + 1, by omega, congrArg (Value.int .i64) (by omega), O3.out, B3.out⟩
      case measure => simp [intOf] <;> omega
    · have hkk : k = n := by omega
      subst hkk
      have hm1 : (k : Int) - 1 - (k : Int) = -1 := by omega
      rw [hm1]
      have e : (Pure.wide x k).take k = Pure.wide x k := by rw [List.take_of_length_le (by rw [Pure.wide_length]; omega)]
      have HW2 := Lib.hid (show wr.ownsRow w.heap.size 5 1 (.slice A5 k c5) k (u8s (Pure.wide x k)) by have := HW.out; rw [e] at this; exact this)
      clear e hm1
      go_wp2
      go_ret
      exact ⟨_, rfl, HW2.out, HB.out⟩
end Go.Proofs.YtjomcffhbaplcaaGreatDoor
/- Chapter 13's statements: NegoMeets. -/
namespace Go.Proofs.YtjomcffhbaplcaaGreatDoor
open Go.RowKit
theorem few_one (lo hi : Nat) (h : lo ≤ hi) (h2 : hi < 65536) : FewRules [((.slice none 0 0 : Value), Pure.rangeRule lo hi)] := ⟨by simp, fun p hp => by
  rw [List.mem_singleton.1 hp]
  exact ⟨fun _ _ => by show (0 : Int) ≤ (lo : Int) ∧ (lo : Int) ≤ (hi : Int) ∧ (hi : Int) < 4294967296; omega, by simp [Pure.rangeRule]⟩⟩
set_option maxRecDepth 100000 in
set_option maxHeartbeats 8000000 in
theorem negoMeets_walk' (a b c : Nat) (ha : a < 65536) (hb : b < 65536) (hc : c < 65536) (w : World) (env : Env13 w) :
    Calls Tryz.prog 5 #[.int .u16 (a : Int), .int .u16 (b : Int), .int .u16 (c : Int)] w fun e w' => e = .returned (.bool true) ∧ Below w.heap.size w w' := by
  have HAW := Lib.hid (awake_any w)
  have and1 := u16_and c hc
  obtain ⟨L, hL⟩ : ∃ L : Nat, L = 64 + c % 256 := ⟨_, rfl⟩
  obtain ⟨H, hH⟩ : ∃ H : Nat, H = 400 + c / 256 := ⟨_, rfl⟩
  have HLH := Lib.hid (show L ≤ H ∧ H < 65536 by omega)
  have eL : (64 : Int) + (c : Int) % 256 = (L : Int) := by omega
  have eH : (400 : Int) + (c : Int) / 256 = (H : Int) := by omega
  have EL := Lib.hid eL
  have EH := Lib.hid eH
  have HENV := Lib.hid env
  have HB := Lib.hid (And.intro ha hb)
  clear eL eH env
  go_enter Tryz.func5, Tryz.ntmps5
  go_wp2_with fail
  refine HAW.out.mono ?_
  rintro e w1 ⟨rfl, hk1⟩
  clear hL hH
  go_upto_region 6 with fail
  rw [EL.out, EH.out]
  obtain ⟨r0, hr0⟩ : ∃ q, q = w1.heap.size := ⟨_, rfl⟩
  rw [← hr0]
  generalize hw2 : (w1.alloc _).alloc _ = w2
  have hk2 : Keeps nobody w w2 := by rw [← hw2]; exact (hk1.alloc _).alloc _
  have hb1 : Blk w2 r0 28 #[.int .i64 1, .int .i64 2, .int .i64 2, .int .i64 (L : Int), .int .i64 (H : Int), .slice none 0 0, .bool false] := by rw [← hw2, hr0]; exact (Blk.new w1 _ _).alloc _
  have hb2 : Blk w2 (r0 + 1) 28 #[.int .i64 1, .int .i64 2, .int .i64 2, .int .i64 0, .int .i64 65535, .slice none 0 0, .bool false] := by
    rw [← hw2, show r0 + 1 = (w1.alloc (.cells #[.int .i64 1, .int .i64 2, .int .i64 2, .int .i64 (L : Int), .int .i64 (H : Int), .slice none 0 0, .bool false] 28)).heap.size by rw [hr0]; simp]
    exact Blk.new _ _ _
  have HR1 := Lib.hid (one_rule (Pure.rangeRule L H) rfl hb1)
  have HR2 := Lib.hid (one_rule (Pure.rangeRule 0 65535) rfl hb2)
  have HK2 := Lib.hid hk2
  have HWA := Lib.hid (show Calls Tryz.prog 24 #[.int .i64 (a : Int), .int .i64 2] w2 _ from docwide_any a 2 w2 (by omega) (by omega))
  have HWB := Lib.hid (fun W : World => (show Calls Tryz.prog 24 #[.int .i64 (b : Int), .int .i64 2] W _ from docwide_any b 2 W (by omega) (by omega)))
  clear hw2 hk1 hk2 hb1 hb2 hr0 HAW and1
  go_wp2_with fail
  refine HWA.out.mono ?_
  rintro e w3 ⟨u, rfl, hown, hbel⟩
  obtain ⟨A3, c3, rfl⟩ := own_form hown
  have hk3 := Keeps.new hbel
  have HNA := Lib.hid (show Calls Tryz.prog 13 #[.slice (some ⟨r0 + 1, 0, none⟩) 1 1, .slice (some ⟨w3.heap.size, 0, none⟩) 1 1, .int .i64 10, .int .i64 50] (w3.alloc (.cells #[.int .i64 1, .slice A3 2 c3] 54)) _ from new_one _ _ _ [(.slice none 0 0, Pure.rangeRule 0 65535)] 1 A3 c3 2 (Pure.wide a 2) w3 (HR2.out.keeps hk3 (fun _ _ h => h)) (Pure.wide_two a).symm (Row.of_own hown) (few_one 0 65535 (by omega) (by omega)) (Pure.fine_one (by rw [Pure.wide_two]; decide)) 10 50 (by decide))
  have HK3 := Lib.hid (HK2.out.trans hk3)
  have HR1 := Lib.hid (HR1.out.keeps hk3 (fun _ _ h => h))
  clear hown hbel hk3 HWA HR2
  go_wp2_with fail
  refine HNA.out.mono ?_
  rintro e w4 ⟨gx, fx, Rx, rfl, hnx, x1, x2, x3, hk4⟩
  have HNX := Lib.hid (And.intro hnx (And.intro x1 (And.intro x2 x3)))
  have HKA := Lib.hid hk4
  have HR1 := Lib.hid (HR1.out.keeps hk4 (fun _ _ h => h))
  have HWB := Lib.hid (HWB.out w4)
  clear hnx x1 x2 x3 hk4 HNA
  go_wp2_with fail
  refine HWB.out.mono ?_
  rintro e w5 ⟨u, rfl, hown, hbel⟩
  obtain ⟨A5, c5, rfl⟩ := own_form hown
  have hk5 := Keeps.new hbel
  have HNB := Lib.hid (show Calls Tryz.prog 13 #[.slice (some ⟨r0, 0, none⟩) 1 1, .slice (some ⟨w5.heap.size, 0, none⟩) 1 1, .int .i64 10, .int .i64 50] (w5.alloc (.cells #[.int .i64 1, .slice A5 2 c5] 54)) _ from new_one _ _ _ [(.slice none 0 0, Pure.rangeRule L H)] 1 A5 c5 2 (Pure.wide b 2) w5 (HR1.out.keeps hk5 (fun _ _ h => h)) (Pure.wide_two b).symm (Row.of_own hown) (few_one L H HLH.out.1 HLH.out.2) (Pure.fine_one (by rw [Pure.wide_two]; decide)) 10 50 (by decide))
  have HKB := Lib.hid hk5
  clear hown hbel hk5 HWB HR1
  go_wp2_with fail
  refine HNB.out.mono ?_
  rintro e w6 ⟨gy, fy, Ry, rfl, hny, y1, y2, y3, hk6⟩
  have hTN := two_new HENV.out (HK3.out.to_below) HKA.out HNX.out.1 HNX.out.2.1 HNX.out.2.2.1 HNX.out.2.2.2 HKB.out hk6 hny y1 y2 y3 (Keeps.refl _ w6)
  obtain ⟨X, Y, hT, sX, sY, mX, mY⟩ := Pure.meets a b L H HB.out.1 HB.out.2 HLH.out.1 HLH.out.2
  have hT0 := talk_any hTN (most := 60) (by omega) (newNeg_tame _ _ 10 50 (by simp)) (newNeg_tame _ _ 10 50 (by simp)) (Pure.newMach_good (by decide) (by decide)) (Pure.newMach_good (by decide) (by decide))
  have HTK := Lib.hid (show Calls Tryz.prog 25 #[.pointer (some ⟨gx, 0, none⟩), .pointer (some ⟨gy, 0, none⟩), .int .i64 60] w6 fun e w' => e = .returned (.tuple #[]) ∧ ∃ g mb V0 V1 l0 l1, NPair w w' g mb 0 V0 V1 l0 l1 gx fx.gm gy fy.gm X Y by
    have hT : Pure.talk 60 (Pure.newNeg (rulesOf [((.slice none 0 0 : Value), Pure.rangeRule 0 65535)]) [((1 : Int), Pure.wide a 2)] 10 50) (Pure.newNeg (rulesOf [((.slice none 0 0 : Value), Pure.rangeRule L H)]) [((1 : Int), Pure.wide b 2)] 10 50) = (X, Y) := hT
    rw [hT] at hT0
    exact hT0)
  have HS := Lib.hid (And.intro sX (And.intro sY (And.intro mX mY)))
  obtain ⟨gmx, hgmx⟩ : ∃ q, q = fx.gm := ⟨_, rfl⟩
  obtain ⟨gmy, hgmy⟩ : ∃ q, q = fy.gm := ⟨_, rfl⟩
  rw [← hgmx, ← hgmy] at HTK
  clear hT0 hTN hT sX sY mX mY hny y1 y2 y3 hk6 HNX HNB HKA HKB HK3 hgmx hgmy HENV
  go_wp2_with fail
  refine HTK.out.mono ?_
  rintro e w7 ⟨rfl, g, mb, V0, V1, l0, l1, hP⟩
  have HP := Lib.hid hP
  have hs1 := hP.state
  have hs2 := hP.swap.state
  rw [HS.out.1] at hs1
  rw [HS.out.2.1] at hs2
  have HS1 := Lib.hid (show Calls Tryz.prog 16 #[.pointer (some ⟨gx, 0, none⟩)] w7 fun e w' => e = .returned (.int .i64 9) ∧ w7 = w' from hs1)
  have HS2 := Lib.hid (show Calls Tryz.prog 16 #[.pointer (some ⟨gy, 0, none⟩)] w7 fun e w' => e = .returned (.int .i64 9) ∧ w7 = w' from hs2)
  have HMX := Lib.hid (fun (W : World) (k : Keeps nobody w7 W) => (hP.quiet k).mines)
  have HMY := Lib.hid (fun (W : World) (k : Keeps nobody w7 W) => (hP.quiet k).swap.mines)
  rw [HS.out.2.2.1] at HMX
  rw [HS.out.2.2.2] at HMY
  have HBL := Lib.hid hP.below
  have HMX1 := Lib.hid (HMX.out w7 (Keeps.refl _ _))
  clear hs1 hs2 hP HTK
  go_wp2_with fail
  refine HS1.out.mono ?_
  rintro e w' ⟨rfl, rfl⟩
  go_wp2_with fail
  refine HS2.out.mono ?_
  rintro e w' ⟨rfl, rfl⟩
  go_wp2_with fail
  refine HMX1.out.mono ?_
  rintro e w8 ⟨u, qs, rfl, hqs, _, hrow, hk8⟩
  obtain ⟨v8, rfl⟩ := one_of hqs
  obtain ⟨A8, c8, rfl, _⟩ := hrow.form
  have HMY1 := Lib.hid (HMY.out w8 hk8)
  have HK8 := Lib.hid hk8
  clear hqs hrow hk8 HMX1 HS1 HS2
  go_wp2_with fail
  refine HMY1.out.mono ?_
  rintro e w9 ⟨u, qs, rfl, hqs, _, hrow, hk9⟩
  obtain ⟨v9, rfl⟩ := one_of hqs
  obtain ⟨A9, c9, rfl, _⟩ := hrow.form
  have HK9 := Lib.hid (HK8.out.trans hk9)
  have HMX2 := Lib.hid (HMX.out w9 HK9.out)
  clear hqs hrow hk9 HMY1 HMX
  obtain ⟨m, hm⟩ : ∃ m, m = min (max a L) H := ⟨_, rfl⟩
  have em : min (max (a : Int) (L : Int)) (H : Int) = (m : Int) := by omega
  have hm2 : m < 65536 := by have := HLH.out; omega
  have HMM := Lib.hid hm2
  rw [← hm] at HMX2
  clear hm hm2
  go_wp2_with fail
  refine HMX2.out.mono ?_
  rintro e w10 ⟨u, qs, rfl, hqs, _, hrow, hk10⟩
  obtain ⟨v10, rfl⟩ := one_of hqs
  obtain ⟨A10, c10, rfl, _⟩ := hrow.form
  obtain ⟨pX, oX, AX, cX, rfl, rfl, _, hcX, hrX⟩ := one_read hrow
  dsimp only at hcX hrX
  have lenX := Pure.wide_two m
  have HNUM := Lib.hid (docnum_any _ _ (Pure.wide m 2) w10 hrX (by rw [lenX]; decide))
  rw [Pure.two_bytes HMM.out] at HNUM
  obtain ⟨LX, hLX⟩ : ∃ q, q = (Pure.wide m 2).length := ⟨_, rfl⟩
  rw [← hLX] at hcX HNUM
  have HK10 := Lib.hid (HK9.out.trans hk10)
  have HMY2 := Lib.hid (HMY.out w10 HK10.out)
  clear hqs hrow hk10 HMX2 HMY hrX lenX hLX
  go_wp2_with fail
  refine HNUM.out.mono ?_
  rintro e w' ⟨rfl, rfl⟩
  clear hcX HNUM
  go_wp2_with fail
  refine HMY2.out.mono ?_
  rintro e w11 ⟨u, qs, rfl, hqs, _, hrow, hk11⟩
  obtain ⟨v11, rfl⟩ := one_of hqs
  obtain ⟨A11, c11, rfl, _⟩ := hrow.form
  obtain ⟨pY, oY, AY, cY, rfl, rfl, _, hcY, hrY⟩ := one_read hrow
  dsimp only at hcY hrY
  have lenY := Pure.wide_two b
  have HNUM := Lib.hid (docnum_any _ _ (Pure.wide b 2) w11 hrY (by rw [lenY]; decide))
  rw [Pure.two_bytes HB.out.2] at HNUM
  obtain ⟨LY, hLY⟩ : ∃ q, q = (Pure.wide b 2).length := ⟨_, rfl⟩
  rw [← hLY] at hcY HNUM
  have HK11 := Lib.hid (HK10.out.trans hk11)
  clear hqs hrow hk11 HMY2 hrY lenY hLY
  go_wp2_with fail
  refine HNUM.out.mono ?_
  rintro e w' ⟨rfl, rfl⟩
  go_wp2_with fail
  go_ret
  exact ⟨rfl, Below.quiet HBL.out HK11.out HBL.out.size⟩
theorem negoMeets_walk (a0 a1 a2 : Int) (w : World) (hg : Env13 w) (h0 : (Lit.int .u16 a0).wf = true) (h1 : (Lit.int .u16 a1).wf = true) (h2 : (Lit.int .u16 a2).wf = true) :
    Calls Tryz.prog 5 #[.int .u16 a0, .int .u16 a1, .int .u16 a2] w fun e w' => e = .returned (.bool true) ∧ Below w.heap.size w w' := by
  obtain ⟨b0, c0⟩ := u16_of_wf h0
  obtain ⟨b1, c1⟩ := u16_of_wf h1
  obtain ⟨b2, c2⟩ := u16_of_wf h2
  obtain ⟨a, rfl⟩ : ∃ n : Nat, a0 = (n : Int) := ⟨a0.toNat, by omega⟩
  obtain ⟨b, rfl⟩ : ∃ n : Nat, a1 = (n : Int) := ⟨a1.toNat, by omega⟩
  obtain ⟨c, rfl⟩ : ∃ n : Nat, a2 = (n : Int) := ⟨a2.toNat, by omega⟩
  exact negoMeets_walk' a b c (by omega) (by omega) (by omega) w hg
end Go.Proofs.YtjomcffhbaplcaaGreatDoor
