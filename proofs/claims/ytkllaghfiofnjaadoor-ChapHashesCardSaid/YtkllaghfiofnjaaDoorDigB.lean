/- The document's padding. -/
import Derived.Test.YtkllaghfiofnjaaDoorU32
import Derived.Test.YtkllaghfiofnjaaDoorDigPure
import Derived.Test.YtkllaghfiofnjaaDoorCopy
import Derived.Test.YtkllaghfiofnjaaDoorAppend
namespace Go.Proofs.YtkllaghfiofnjaaDoor
open Go.RowKit
/-- The length of a slice. -/
def lenOf : Value → Nat
  | .slice _ n _ => n
  | _ => 0
theorem lenByte_int (low : Bool) (n i s : Nat) (hs : s = if low then 8 * i else 56 - 8 * i) : ((n : Int) * 8 / 2 ^ s) % 256 = (((Pure.lenByte low n i).toNat : Nat) : Int) := by
  unfold Pure.lenByte
  rw [← hs, UInt8.toNat_ofNat', Nat.mul_comm 8 n, Int.natCast_emod, Int.natCast_ediv, Int.natCast_pow, Int.natCast_mul]
  rfl
theorem lenBytes_succ (low : Bool) (n k : Nat) : Pure.lenBytes low n (k + 1) = Pure.lenBytes low n k ++ [Pure.lenByte low n k] := by
  simp [Pure.lenBytes, List.range_succ]
theorem lenBytes_length (low : Bool) (n k : Nat) : (Pure.lenBytes low n k).length = k := by simp [Pure.lenBytes]
theorem new1 (W : World) (x : UInt8) : Row (W.alloc (.cells #[.int .u8 x.toNat] 5)) (fun b => b = W.heap.size) 1 (.slice (some ⟨W.heap.size, 0, none⟩) 1 1) 1 (u8s [x]) := row_new W [x] _ _ rfl rfl (by simp)

set_option maxRecDepth 100000 in
set_option maxHeartbeats 2000000 in
theorem pad_any (low : Bool) (F : Nat → Prop) (x : Value) (bs : List UInt8) (w : World) (hr : Row w F 1 x bs.length (u8s bs)) (hF : ∀ b, F b → b < w.heap.size) (hl : bs.length ≤ 100000000) :
    Calls Tryd.prog 53 #[x, .bool low] w fun e w' => ∃ u, e = .returned u ∧ w'.ownsRow w.heap.size 5 1 u (Pure.pad low bs).length (u8s (Pure.pad low bs)) ∧ Below w.heap.size w w' := by
  obtain ⟨A, cA, rfl, hc⟩ := hr.form
  have HC := Lib.hid (copy_any F _ bs w hr hF (by omega))
  clear hr hF
  go_enter Tryd.func53, Tryd.ntmps53
  go_wp2_with fail
  refine HC.out.mono ?_
  rintro e w1 ⟨u, rfl, hu, hb1⟩
  have HU := Lib.hid hu
  have HB := Lib.hid hb1
  clear HC hu hb1
  go_wp2_with (at_builtin; refine stopHere ?_)
  unfold Hid
  have hsz := HB.out.size
  refine wp_append_u8 rfl (.tmp 9) (.tmp 10) rfl w.heap.size u bs.length bs rfl rfl (own_grown HU.out (World.grownBy_alloc w1 _ none) (by simp)) _ _ [128] rfl (new1 w1 128) (by simp; omega) (by simp; omega) ?_
  intro v2 w2 hown2 hg2 hat2
  have HO2 := Lib.hid hown2
  have HB2 := Lib.hid (show Below w.heap.size w w2 from ((HB.out.alloc hsz _).grown hg2 (by simp; omega) (fun k hk => ownsRow_ge HU.out k hk)))
  clear HU HB hown2 hg2 hat2
  go_wp2_with fail
  go_loopw [5] (fun v wr => ∃ k : Nat, k ≤ Pure.noughts bs.length ∧ wr.ownsRow w.heap.size 5 1 v (bs.length + 1 + k) (u8s (bs ++ [128] ++ List.replicate k 0)) ∧ Below w.heap.size w wr) (fun v _ => bs.length + 1 + Pure.noughts bs.length - lenOf v)
  case atStart => exact ⟨0, by omega, by simpa using HO2.out, HB2.out⟩
  case round =>
    clear HO2 HB2
    obtain ⟨k, hk, hW, hK⟩ := hrel
    have HW := Lib.hid hW
    have HK := Lib.hid hK
    obtain ⟨A, c, rfl⟩ := own_form HW.out
    clear hW hK
    have hno : Pure.noughts bs.length < 64 := by unfold Pure.noughts; omega
    by_cases hkl : k < Pure.noughts bs.length
    · have hne := Pure.noughts_least bs.length k hkl
      obtain ⟨N, hN⟩ : ∃ N, N = bs.length + 1 + k := ⟨_, rfl⟩
      rw [← hN] at HW hne ⊢
      have hN2 : N ≤ 200000000 := by omega
      have hm : ((N : Int) % 64 != 56) = true := by rw [bne_iff_ne]; omega
      have HN := Lib.hid hN
      clear hN hne
      have hsz := HK.out.size
      go_wp2_with (at_builtin; refine stopHere ?_)
      unfold Hid
      refine wp_append_u8 rfl (.tmp 16) (.tmp 17) rfl w.heap.size (.slice A N c) N (bs ++ [128] ++ List.replicate k 0) (by simp; have := HN.out; omega) rfl (own_grown HW.out (World.grownBy_alloc wr _ none) (by simp)) _ _ [0] rfl (new1 wr 0) (by simp; omega) (by simp; omega) ?_
      intro v3 w3 hown3 hg3 hat3
      have HO3 := Lib.hid hown3
      have HB3 := Lib.hid (show Below w.heap.size w w3 from ((HK.out.alloc hsz _).grown hg3 (by simp; omega) (fun k hk => ownsRow_ge HW.out k hk)))
      clear hown3 hg3 hat3
      go_wp2_with fail
      go_roundw
      case rel =>
        refine ⟨k + 1, by omega, ?_, HB3.out⟩
        have h3 := HO3.out
        have e1 : (bs ++ [128] ++ List.replicate k 0 ++ [0]) = bs ++ [128] ++ List.replicate (k + 1) 0 := by rw [List.append_assoc _ (List.replicate k 0), List.replicate_succ']
        rw [e1] at h3
        have e2 : (bs ++ [128] ++ List.replicate (k + 1) 0).length = bs.length + 1 + (k + 1) := by simp; omega
        rw [e2] at h3
        exact h3
      case measure =>
        have h3 := HO3.out
        obtain ⟨A3, c3, rfl⟩ := own_form h3
        have := HN.out
        simp [lenOf]
        omega
    · have hkk : k = Pure.noughts bs.length := by omega
      subst hkk
      have hsp := Pure.noughts_spec bs.length
      obtain ⟨N, hN⟩ : ∃ N, N = bs.length + 1 + Pure.noughts bs.length := ⟨_, rfl⟩
      rw [← hN] at HW hsp ⊢
      have hN2 : N ≤ 200000000 := by omega
      have hm : ((N : Int) % 64 != 56) = false := by
        have : (N : Int) % 64 = 56 := by omega
        rw [this]; rfl
      have HN := Lib.hid hN
      obtain ⟨base, hbase⟩ : ∃ base, base = bs ++ [128] ++ List.replicate (Pure.noughts bs.length) 0 := ⟨_, rfl⟩
      have HBase := Lib.hid hbase
      have hlb : base.length = N := by rw [hbase, hN]; simp; omega
      rw [← hbase] at HW
      have HL := Lib.hid hlb
      clear hN hsp hbase hlb hkl hk hno
      go_wp2_with fail
      go_loopw [5, 7] (fun v i wr => ∃ k : Nat, k ≤ 8 ∧ i = .int .i64 k ∧ wr.ownsRow w.heap.size 5 1 v (N + k) (u8s (base ++ Pure.lenBytes low bs.length k)) ∧ Below w.heap.size w wr) (fun _ i _ => 8 - (intOf i).toNat)
      case atStart => exact ⟨0, by omega, rfl, by simpa [Pure.lenBytes] using HW.out, HK.out⟩
      case round =>
        clear HW HK
        obtain ⟨k, hk, rfl, hW, hK⟩ := hrel
        have HW := Lib.hid hW
        have HK := Lib.hid hK
        obtain ⟨A, c, rfl⟩ := own_form HW.out
        clear hW hK
        by_cases hkl : k < 8
        · have hi0 : (0 : Int) ≤ (k : Int) := by omega
          have hi1 : (k : Int) < 8 := by omega
          have hsz := HK.out.size
          cases low
          · have hb := lenByte_int false bs.length k (56 - 8 * k) (by simp)
            obtain ⟨X, hX⟩ : ∃ X, X = Pure.lenByte false bs.length k := ⟨_, rfl⟩
            rw [← hX] at hb
            have HX := Lib.hid hX
            clear hX
            go_wp2_with (at_builtin; refine stopHere ?_)
            unfold Hid
            refine wp_append_u8 rfl (.tmp 37) (.tmp 45) rfl w.heap.size (.slice A (N + k) c) (N + k) (base ++ Pure.lenBytes false bs.length k) (by have := HL.out; simp [lenBytes_length]; omega) rfl (own_grown HW.out (World.grownBy_alloc wr _ none) (by simp)) _ _ [X] rfl (new1 wr X) (by simp; omega) (by simp; omega) ?_
            intro v3 w3 hown3 hg3 hat3
            have HO3 := Lib.hid hown3
            have HB3 := Lib.hid (show Below w.heap.size w w3 from ((HK.out.alloc hsz _).grown hg3 (by simp; omega) (fun k hk => ownsRow_ge HW.out k hk)))
            clear hown3 hg3 hat3
            go_wp2_with fail
            go_roundw
            case rel =>
              refine ⟨k + 1, by omega, by go_num, ?_, HB3.out⟩
              have h3 := HO3.out
              rw [List.append_assoc, HX.out, ← lenBytes_succ] at h3
              have e2 : (base ++ Pure.lenBytes false bs.length (k + 1)).length = N + (k + 1) := by have := HL.out; simp [lenBytes_length]; omega
              rw [e2] at h3
              exact h3
            case measure => simp [intOf]; omega
          · have hb := lenByte_int true bs.length k (8 * k) (by simp)
            obtain ⟨X, hX⟩ : ∃ X, X = Pure.lenByte true bs.length k := ⟨_, rfl⟩
            rw [← hX] at hb
            have HX := Lib.hid hX
            clear hX
            go_wp2_with (at_builtin; refine stopHere ?_)
            unfold Hid
            refine wp_append_u8 rfl (.tmp 28) (.tmp 35) rfl w.heap.size (.slice A (N + k) c) (N + k) (base ++ Pure.lenBytes true bs.length k) (by have := HL.out; simp [lenBytes_length]; omega) rfl (own_grown HW.out (World.grownBy_alloc wr _ none) (by simp)) _ _ [X] rfl (new1 wr X) (by simp; omega) (by simp; omega) ?_
            intro v3 w3 hown3 hg3 hat3
            have HO3 := Lib.hid hown3
            have HB3 := Lib.hid (show Below w.heap.size w w3 from ((HK.out.alloc hsz _).grown hg3 (by simp; omega) (fun k hk => ownsRow_ge HW.out k hk)))
            clear hown3 hg3 hat3
            go_wp2_with fail
            go_roundw
            case rel =>
              refine ⟨k + 1, by omega, by go_num, ?_, HB3.out⟩
              have h3 := HO3.out
              rw [List.append_assoc, HX.out, ← lenBytes_succ] at h3
              have e2 : (base ++ Pure.lenBytes true bs.length (k + 1)).length = N + (k + 1) := by have := HL.out; simp [lenBytes_length]; omega
              rw [e2] at h3
              exact h3
            case measure => simp [intOf]; omega
        · have hk8 : k = 8 := by omega
          subst hk8
          go_wp2
          go_ret
          refine ⟨_, rfl, ?_, HK.out⟩
          have h3 := HW.out
          rw [HBase.out] at h3
          rw [show Pure.pad low bs = bs ++ [128] ++ List.replicate (Pure.noughts bs.length) 0 ++ Pure.lenBytes low bs.length 8 from rfl]
          have e2 : (bs ++ [128] ++ List.replicate (Pure.noughts bs.length) 0 ++ Pure.lenBytes low bs.length 8).length = N + 8 := by have := HN.out; simp [lenBytes_length]; omega
          rw [e2]
          exact h3
end Go.Proofs.YtkllaghfiofnjaaDoor
