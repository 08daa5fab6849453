/- The document's padding. -/
import Derived.Test.YtkllaghfiofnjaaDoorQ3
import Derived.Test.YtkllaghfiofnjaaDoorQ2
import Derived.Test.YtkllaghfiofnjaaDoorQ1
import Derived.Laws.Tables
import Derived.Laws.CopyOwn
import Derived.Control
import Derived.BigRegion
import Derived.BigQuiet
namespace Go.Proofs.YtkllaghfiofnjaaDoor
open Go.RowKit
/-- The length of a slice. -/
def lenOf : Value → Nat
  | .slice _ n _ => n
  | _ => 0
theorem lenByte_int (low : Bool) (n i s : Nat) (hs : s = if low then 8 * i else 56 - 8 * i) : ((n : Int) * 8 / 2 ^ s) % 256 = (((Pure.lenByte low n i).toNat : Nat) : Int) := by
  unfold Pure.lenByte
  rw [← hs, UInt8.toNat_ofNat', Nat.mul_comm 8 n, Int.natCast_emod, Int.natCast_ediv, Int.natCast_pow, Int.natCast_mul]
  rfl
theorem lenBytes_succ (low : Bool) (n k : Nat) : Pure.lenBytes low n (k + 1) = Pure.lenBytes low n k ++ [Pure.lenByte low n k] := by
  simp [Pure.lenBytes, List.range_succ]
theorem lenBytes_length (low : Bool) (n k : Nat) : (Pure.lenBytes low n k).length = k := by simp [Pure.lenBytes]
theorem new1 (W : World) (x : UInt8) : Row (W.alloc (.cells #[.int .u8 x.toNat] 5)) (fun b => b = W.heap.size) 1 (.slice (some ⟨W.heap.size, 0, none⟩) 1 1) 1 (u8s [x]) := row_new W [x] _ _ rfl rfl (by simp)

set_option maxRecDepth 100000 in
set_option maxHeartbeats 2000000 in
theorem pad_any (low : Bool) (F : Nat → Prop) (x : Value) (bs : List UInt8) (w : World) (hr : Row w F 1 x bs.length (u8s bs)) (hF : ∀ b, F b → b < w.heap.size) (hl : bs.length ≤ 100000000) :
    Calls Tryd.prog 53 #[x, .bool low] w fun e w' => ∃ u, e = .returned u ∧ w'.ownsRow w.heap.size 5 1 u (Pure.pad low bs).length (u8s (Pure.pad low bs)) ∧ Below w.heap.size w w' := by
  obtain ⟨A, cA, rfl, hc⟩ := hr.form
  have HC := Lib.hid (copy_any F _ bs w hr hF (by omega))
  clear hr hF
  go_enter Tryd.func53, Tryd.ntmps53
  go_wp2_with fail
  refine HC.out.mono ?_
  rintro e w1 ⟨u, rfl, hu, hb1⟩
  have HU := Lib.hid hu
  have HB := Lib.hid hb1
  clear HC hu hb1
  go_wp2_with (at_builtin; refine stopHere ?_)
  unfold Hid
  have hsz := HB.out.size
  refine wp_append_u8 rfl (.tmp 9) (.tmp 10) rfl w.heap.size u bs.length bs rfl rfl (own_grown HU.out (World.grownBy_alloc w1 _ none) (by simp)) _ _ [128] rfl (new1 w1 128) (by simp; omega) (by simp; omega) ?_
  intro v2 w2 hown2 hg2 hat2
  have HO2 := Lib.hid hown2
  have HB2 := Lib.hid (show Below w.heap.size w w2 from ((HB.out.alloc hsz _).grown hg2 (by simp; omega) (fun k hk => ownsRow_ge HU.out k hk)))
  clear HU HB hown2 hg2 hat2
  go_wp2_with fail
  go_loopw [5] (fun v wr => ∃ k : Nat, k ≤ Pure.noughts bs.length ∧ wr.ownsRow w.heap.size 5 1 v (bs.length + 1 + k) (u8s (bs ++ [128] ++ List.replicate k 0)) ∧ Below w.heap.size w wr) (fun v _ => bs.length + 1 + Pure.noughts bs.length - lenOf v)
  case atStart => exact ⟨0, by omega, by simpa using HO2.out, HB2.out⟩
  case round =>
    clear HO2 HB2
    obtain ⟨k, hk, hW, hK⟩ := hrel
    have HW := Lib.hid hW
    have HK := Lib.hid hK
    obtain ⟨A, c, rfl⟩ := own_form HW.out
    clear hW hK
    have hno : Pure.noughts bs.length < 64 := by unfold Pure.noughts; omega
    by_cases hkl : k < Pure.noughts bs.length
    · have hne := Pure.noughts_least bs.length k hkl
      obtain ⟨N, hN⟩ : ∃ N, N = bs.length + 1 + k := ⟨_, rfl⟩
      rw [← hN] at HW hne ⊢
      have hN2 : N ≤ 200000000 := by omega
      have hm : ((N : Int) % 64 != 56) = true := by rw [bne_iff_ne]; omega
      have HN := Lib.hid hN
      clear hN hne
      have hsz := HK.out.size
      go_wp2_with (at_builtin; refine stopHere ?_)
      unfold Hid
      refine wp_append_u8 rfl (.tmp 16) (.tmp 17) rfl w.heap.size (.slice A N c) N (bs ++ [128] ++ List.replicate k 0) (by simp; have := HN.out; omega) rfl (own_grown HW.out (World.grownBy_alloc wr _ none) (by simp)) _ _ [0] rfl (new1 wr 0) (by simp; omega) (by simp; omega) ?_
      intro v3 w3 hown3 hg3 hat3
      have HO3 := Lib.hid hown3
      have HB3 := Lib.hid (show Below w.heap.size w w3 from ((HK.out.alloc hsz _).grown hg3 (by simp; omega) (fun k hk => ownsRow_ge HW.out k hk)))
      clear hown3 hg3 hat3
      go_wp2_with fail
      go_roundw
      case rel =>
        refine ⟨k + 1, by omega, ?_, HB3.out⟩
        have h3 := HO3.out
        have e1 : (bs ++ [128] ++ List.replicate k 0 ++ [0]) = bs ++ [128] ++ List.replicate (k + 1) 0 := by rw [List.append_assoc _ (List.replicate k 0), List.replicate_succ']
        rw [e1] at h3
        have e2 : (bs ++ [128] ++ List.replicate (k + 1) 0).length = bs.length + 1 + (k + 1) := by simp; omega
        rw [e2] at h3
        exact h3
      case measure =>
        have h3 := HO3.out
        obtain ⟨A3, c3, rfl⟩ := own_form h3
        have := HN.out
        simp [lenOf]
        omega
    · have hkk : k = Pure.noughts bs.length := by omega
      subst hkk
      have hsp := Pure.noughts_spec bs.length
      obtain ⟨N, hN⟩ : ∃ N, N = bs.length + 1 + Pure.noughts bs.length := ⟨_, rfl⟩
      rw [← hN] at HW hsp ⊢
      have hN2 : N ≤ 200000000 := by omega
      have hm : ((N : Int) % 64 != 56) = false := by
        have : (N : Int) % 64 = 56 := by omega
        rw [this]; rfl
      have HN := Lib.hid hN
      obtain ⟨base, hbase⟩ : ∃ base, base = bs ++ [128] ++ List.replicate (Pure.noughts bs.length) 0 := ⟨_, rfl⟩
      have HBase := Lib.hid hbase
      have hlb : base.length = N := by rw [hbase, hN]; simp; omega
      rw [← hbase] at HW
      have HL := Lib.hid hlb
      clear hN hsp hbase hlb hkl hk hno
      go_wp2_with fail
      go_loopw [5, 7] (fun v i wr => ∃ k : Nat, k ≤ 8 ∧ i = .int .i64 k ∧ wr.ownsRow w.heap.size 5 1 v (N + k) (u8s (base ++ Pure.lenBytes low bs.length k)) ∧ Below w.heap.size w wr) (fun _ i _ => 8 - (intOf i).toNat)
      case atStart => exact ⟨0, by omega, rfl, by simpa [Pure.lenBytes] using HW.out, HK.out⟩
      case round =>
        clear HW HK
        obtain ⟨k, hk, rfl, hW, hK⟩ := hrel
        have HW := Lib.hid hW
        have HK := Lib.hid hK
        obtain ⟨A, c, rfl⟩ := own_form HW.out
        clear hW hK
        by_cases hkl : k < 8
        · have hi0 : (0 : Int) ≤ (k : Int) := by omega
          have hi1 : (k : Int) < 8 := by omega
          have hsz := HK.out.size
          cases low
          · have hb := lenByte_int false bs.length k (56 - 8 * k) (by simp)
            obtain ⟨X, hX⟩ : ∃ X, X = Pure.lenByte false bs.length k := ⟨_, rfl⟩
            rw [← hX] at hb
            have HX := Lib.hid hX
            clear hX
            go_wp2_with (at_builtin; refine stopHere ?_)
            unfold Hid
            refine wp_append_u8 rfl (.tmp 37) (.tmp 45) rfl w.heap.size (.slice A (N + k) c) (N + k) (base ++ Pure.lenBytes false bs.length k) (by have := HL.out; simp [lenBytes_length]; omega) rfl (own_grown HW.out (World.grownBy_alloc wr _ none) (by simp)) _ _ [X] rfl (new1 wr X) (by simp; omega) (by simp; omega) ?_
            intro v3 w3 hown3 hg3 hat3
            have HO3 := Lib.hid hown3
            have HB3 := Lib.hid (show Below w.heap.size w w3 from ((HK.out.alloc hsz _).grown hg3 (by simp; omega) (fun k hk => ownsRow_ge HW.out k hk)))
            clear hown3 hg3 hat3
            go_wp2_with fail
            go_roundw
            case rel =>
              refine ⟨k + 1, by omega, by go_num, ?_, HB3.out⟩
              have h3 := HO3.out
              rw [List.append_assoc, HX.out, ← lenBytes_succ] at h3
              have e2 : (base ++ Pure.lenBytes false bs.length (k + 1)).length = N + (k + 1) := by have := HL.out; simp [lenBytes_length]; omega
              rw [e2] at h3
              exact h3
            case measure => simp [intOf]; omega
          · have hb := lenByte_int true bs.length k (8 * k) (by simp)
            obtain ⟨X, hX⟩ : ∃ X, X = Pure.lenByte true bs.length k := ⟨_, rfl⟩
            rw [← hX] at hb
            have HX := Lib.hid hX
            clear hX
            go_wp2_with (at_builtin; refine stopHere ?_)
            unfold Hid
            refine wp_append_u8 rfl (.tmp 28) (.tmp 35) rfl w.heap.size (.slice A (N + k) c) (N + k) (base ++ Pure.lenBytes true bs.length k) (by have := HL.out; simp [lenBytes_length]; omega) rfl (own_grown HW.out (World.grownBy_alloc wr _ none) (by simp)) _ _ [X] rfl (new1 wr X) (by simp; omega) (by simp; omega) ?_
            intro v3 w3 hown3 hg3 hat3
            have HO3 := Lib.hid hown3
            have HB3 := Lib.hid (show Below w.heap.size w w3 from ((HK.out.alloc hsz _).grown hg3 (by simp; omega) (fun k hk => ownsRow_ge HW.out k hk)))
            clear hown3 hg3 hat3
            go_wp2_with fail
            go_roundw
            case rel =>
              refine ⟨k + 1, by omega, by go_num, ?_, HB3.out⟩
              have h3 := HO3.out
              rw [List.append_assoc, HX.out, ← lenBytes_succ] at h3
              have e2 : (base ++ Pure.lenBytes true bs.length (k + 1)).length = N + (k + 1) := by have := HL.out; simp [lenBytes_length]; omega
              rw [e2] at h3
              exact h3
            case measure => simp [intOf]; omega
        · have hk8 : k = 8 := by omega
          subst hk8
          go_wp2
          go_ret
          refine ⟨_, rfl, ?_, HK.out⟩
          have h3 := HW.out
          rw [HBase.out] at h3
          rw [show Pure.pad low bs = bs ++ [128] ++ List.replicate (Pure.noughts bs.length) 0 ++ Pure.lenBytes low bs.length 8 from rfl]
          have e2 : (bs ++ [128] ++ List.replicate (Pure.noughts bs.length) 0 ++ Pure.lenBytes low bs.length 8).length = N + 8 := by have := HN.out; simp [lenBytes_length]; omega
          rw [e2]
          exact h3
end Go.Proofs.YtkllaghfiofnjaaDoor
/- A word turned left, the document's way and the library's; the three functions of md4's rounds. -/
namespace Go.Proofs.YtkllaghfiofnjaaDoor
open Go.RowKit
theorem left_eq (x : UInt32) (n : Nat) (h1 : 1 ≤ n) (hn : n < 32) : bits .or .u32 ((x.toNat : Int) * 2 ^ n % 4294967296) ((x.toNat : Int) / 2 ^ (32 - n)) = (((Pure.left x n).toNat : Nat) : Int) := by
  rw [shl_u32 x n hn, shr_u32 x (32 - n) (by omega), or_u32]
  rfl
set_option maxHeartbeats 1000000 in
theorem left_any (x : UInt32) (n : Nat) (h1 : 1 ≤ n) (hn : n < 32) (w : World) : Calls Tryd.prog 54 #[.int .u32 x.toNat, .int .i64 n] w fun e w' => e = .returned (.int .u32 ((Pure.left x n).toNat)) ∧ w' = w := by
  have h0 : (0 : Int) ≤ n := by omega
  have h2 : (n : Int) ≤ 32 := by omega
  have he := left_eq x n h1 hn
  go_enter Tryd.func54, Tryd.ntmps54
  go_wp2
  go_ret
  exact ⟨rfl, rfl⟩
set_option maxHeartbeats 1000000 in
theorem rot_any (x : UInt32) (n : Nat) (h1 : 1 ≤ n) (hn : n < 32) (w : World) : Calls Tryd.prog 94 #[.int .u32 x.toNat, .int .i64 n] w fun e w' => e = .returned (.int .u32 ((Pure.left x n).toNat)) ∧ w' = w := by
  have h0 : (0 : Int) ≤ n := by omega
  have h2 : (n : Int) < 32 := by omega
  have h3 : (n : Int) ≤ 32 := by omega
  have he := left_eq x n h1 hn
  have hm : bits .and .u64 (n : Int) 31 = (n : Int) := by
    have := u64_and_nat n 31 (by omega) (by omega)
    rw [show n &&& 31 = n from by have := Nat.and_two_pow_sub_one_eq_mod n 5; rw [show (2:Nat)^5 - 1 = 31 from rfl] at this; rw [this]; omega] at this
    exact this
  go_enter Tryd.func94, Tryd.ntmps94
  go_wp2
  go_ret
  exact ⟨rfl, rfl⟩
set_option maxHeartbeats 1000000 in
theorem choice_any (x y z r : UInt32) (hr : r = x &&& y ||| ~~~x &&& z) (w : World) : Calls Tryd.prog 95 #[.int .u32 x.toNat, .int .u32 y.toNat, .int .u32 z.toNat] w fun e w' => e = .returned (.int .u32 r.toNat) ∧ w' = w := by
  obtain ⟨a, ha⟩ : ∃ a, a = x &&& y := ⟨_, rfl⟩
  obtain ⟨b, hb⟩ : ∃ b, b = ~~~x := ⟨_, rfl⟩
  obtain ⟨c, hc⟩ : ∃ c, c = b &&& z := ⟨_, rfl⟩
  rw [← ha, ← hb, ← hc] at hr
  have ea := and_u32 x y
  rw [← ha] at ea
  have eb := not_u32 x
  rw [← hb] at eb
  have ec := and_u32 b z
  rw [← hc] at ec
  have er := or_u32 a c
  rw [← hr] at er
  clear ha hb hc hr
  go_enter Tryd.func95, Tryd.ntmps95
  go_wp2
  all_goals go_ret
  all_goals exact ⟨rfl, rfl⟩
set_option maxHeartbeats 1000000 in
theorem majority_any (x y z r : UInt32) (hr : r = x &&& y ||| x &&& z ||| y &&& z) (w : World) : Calls Tryd.prog 96 #[.int .u32 x.toNat, .int .u32 y.toNat, .int .u32 z.toNat] w fun e w' => e = .returned (.int .u32 r.toNat) ∧ w' = w := by
  obtain ⟨a, ha⟩ : ∃ a, a = x &&& y := ⟨_, rfl⟩
  obtain ⟨b, hb⟩ : ∃ b, b = x &&& z := ⟨_, rfl⟩
  obtain ⟨c, hc⟩ : ∃ c, c = a ||| b := ⟨_, rfl⟩
  obtain ⟨d, hd⟩ : ∃ d, d = y &&& z := ⟨_, rfl⟩
  rw [← ha, ← hb, ← hc, ← hd] at hr
  have ea := and_u32 x y
  rw [← ha] at ea
  have eb := and_u32 x z
  rw [← hb] at eb
  have ec := or_u32 a b
  rw [← hc] at ec
  have ed := and_u32 y z
  rw [← hd] at ed
  have er := or_u32 c d
  rw [← hr] at er
  clear ha hb hc hd hr
  go_enter Tryd.func96, Tryd.ntmps96
  go_wp2
  all_goals go_ret
  all_goals exact ⟨rfl, rfl⟩
set_option maxHeartbeats 1000000 in
theorem parity_any (x y z r : UInt32) (hr : r = x ^^^ y ^^^ z) (w : World) : Calls Tryd.prog 97 #[.int .u32 x.toNat, .int .u32 y.toNat, .int .u32 z.toNat] w fun e w' => e = .returned (.int .u32 r.toNat) ∧ w' = w := by
  obtain ⟨a, ha⟩ : ∃ a, a = x ^^^ y := ⟨_, rfl⟩
  rw [← ha] at hr
  have ea := xor_u32 x y
  rw [← ha] at ea
  have er := xor_u32 a z
  rw [← hr] at er
  clear ha hr
  go_enter Tryd.func97, Tryd.ntmps97
  go_wp2
  all_goals go_ret
  all_goals exact ⟨rfl, rfl⟩
end Go.Proofs.YtkllaghfiofnjaaDoor
/- MD4's words and sums, step by step. -/
namespace Go.Proofs.YtkllaghfiofnjaaDoor
namespace Pure
/-- The state with the first i words of v added. -/
def sumTo (h v : W4) (i : Nat) : List UInt32 := [h.a + (if 0 < i then v.a else 0), h.b + (if 1 < i then v.b else 0), h.c + (if 2 < i then v.c else 0), h.d + (if 3 < i then v.d else 0)]
theorem sumTo_zero (h v : W4) : sumTo h v 0 = h.list := by simp [sumTo, W4.list]
theorem sumTo_four (h v : W4) : sumTo h v 4 = W4.list ⟨h.a + v.a, h.b + v.b, h.c + v.c, h.d + v.d⟩ := by simp [sumTo, W4.list]
theorem sumTo_succ (h v : W4) (i : Nat) (hi : i < 4) : sumTo h v (i + 1) = (sumTo h v i).set i ((sumTo h v i).getD i 0 + v.list.getD i 0) := by
  rcases (show i = 0 ∨ i = 1 ∨ i = 2 ∨ i = 3 by omega) with rfl | rfl | rfl | rfl <;> simp [sumTo, W4.list]
theorem sumTo_length (h v : W4) (i : Nat) : (sumTo h v i).length = 4 := rfl
theorem W4.list_length (v : W4) : v.list.length = 4 := rfl
theorem md4Turns_range (s : Nat) (hs : s < 48) : 1 ≤ md4Turns.getD (s / 16 * 4 + s % 4) 0 ∧ md4Turns.getD (s / 16 * 4 + s % 4) 0 < 32 := by
  have : ∀ s < 48, 1 ≤ md4Turns.getD (s / 16 * 4 + s % 4) 0 ∧ md4Turns.getD (s / 16 * 4 + s % 4) 0 < 32 := by decide
  exact this s hs
theorem md4Order_range (s : Nat) (hs : s < 48) : md4Order.getD s 0 < 16 := by
  have : ∀ s < 48, md4Order.getD s 0 < 16 := by decide
  exact this s hs
end Pure
end Go.Proofs.YtkllaghfiofnjaaDoor
/- A row stored whole. -/
namespace Go.Proofs.YtkllaghfiofnjaaDoor
open Go.RowKit
theorem Keeps.rowSet {S : Nat → Prop} {a w : World} {g : Nat} (h : Keeps S a w) (hp : g < a.heap.size → S g) (cs : Array Value) : Keeps S a (w.setRow g cs) :=
  ⟨h.os, h.tape, h.output, by simpa using h.size, fun k hk hs => (setRow_other w g k cs (fun e => hs (e ▸ hp (e ▸ hk)))).trans (h.block k hk hs)⟩
theorem Blk.rowSet {w : World} {g : Nat} {t : TypeId} {old : Array Value} (h : Blk w g t old) (cs : Array Value) : Blk (w.setRow g cs) g t cs := setRow_heap w g old cs t (0, 0) h
theorem all_ints (l : List Nat) : (l.map fun (b : Nat) => Value.int .i64 (b : Int)).toArray.all (·.oneCell') = true := by simp [Value.oneCell']
theorem all_words (l : List UInt32) : (l.map fun (b : UInt32) => Value.int .u32 b.toNat).toArray.all (·.oneCell') = true := by simp [Value.oneCell']
theorem exec_load_row {P : Program} {o : Oper} {a : Act} {w : World} (ty : TypeId) (x : Operand) (ho : o.op = .load ty x)
    (g : Nat) (hx : a.eval x = .pointer (some ⟨g, 0, none⟩)) (t : TypeId) (cs : Array Value) (fr : Nat × Nat) (d : TypeDesc) (hg : w.heap[g]? = some (.cells cs t fr))
    (hu : P.underlying ty = some d) (hd : (match d with | .struct _ | .array _ _ => true | _ => false) = true) (hi : (P.info? ty).map (·.size) = some cs.size) :
    (execOp a.eval o).run P w = .ok (.value (.agg cs)) w := by
  unfold execOp
  simp only [ho, hx, Instr.loadAt, Instr.sureAddr, Sem.run_bind, Sem.run_pure, Result.andThen_ok, run_loadVar_row w g t ty cs fr d hg hu hd hi]

end Go.Proofs.YtkllaghfiofnjaaDoor
/- A slice of words just made, known whole. -/
namespace Go.Proofs.YtkllaghfiofnjaaDoor
open Go.RowKit
theorem u32_info : (Tryd.prog.info? 38).map (fun i => (i.zero, i.size, i.bytes)) = some (some (.int .u32 0), 1, 4) := by kernel_rfl
theorem made_words (n : Nat) : madeCells (Value.int .u32 0).cells (n * 1) = (u32s (List.replicate n 0)).toArray := by
  rw [show (Value.int .u32 0).cells = #[.int .u32 0] from rfl]
  apply Array.ext_getElem?
  intro i
  simp only [madeCells, Nat.mul_one]
  by_cases h : i < n
  · simp [h, Nat.mod_one]
  · simp [h]
theorem wpList_make_words {w : World} {ops : Array Oper} {rest : List Oper} {o : Oper} {a : Act} {Q : Exit → Act → World → Prop}
    (hg : o.guard = none) (l c : Operand) (hop : o.op = Op.makeSlice 84 l c) (n : Nat) (kl kc : IntKind) (hl : a.eval l = .int kl (n : Int)) (hc : a.eval c = .int kc (n : Int)) (hn : n ≤ 1000000)
    (hK : ∀ w', Blk w' w.heap.size 38 (u32s (List.replicate n 0)).toArray → Keeps nobody w w' → w'.heap.size = w.heap.size + 1 → wpList Tryd.prog ops Q rest (a.put o.dst (.slice (some ⟨w.heap.size, 0, none⟩) n n)) w') :
    wpList Tryd.prog ops Q (o :: rest) a w := by
  obtain ⟨i0, hi0, hz0, hz1, hz2⟩ := info_parts u32_info
  refine wpList_plain hg fun K hK' => ?_
  have hrun := run_make (P := Tryd.prog) w 84 38 i0 _ Tryd.underlying84 hi0 hz0 kl kc n n (by omega) (by omega) (by rw [hz2]; omega) (by omega)
  rw [hz1, Int.toNat_natCast, made_words] at hrun
  obtain ⟨w', hw'⟩ : ∃ w', w' = w.alloc (.cells (u32s (List.replicate n 0)).toArray 38) := ⟨_, rfl⟩
  rw [← hw'] at hrun
  unfold Oper.wp
  simp [execOp, hop, hl, hc, hrun, Result.andThen]
  exact hK' _ _ (hK w' (by rw [hw']; exact Blk.new w _ _) (by rw [hw']; exact (Keeps.refl _ w).alloc _) (by rw [hw']; simp))
end Go.Proofs.YtkllaghfiofnjaaDoor
/- An element of an array value. -/
namespace Go.Proofs.YtkllaghfiofnjaaDoor
open Go.RowKit
/-- An array of words, of numbers. -/
abbrev warr (l : List UInt32) : Value := .agg (u32s l).toArray
abbrev iarr (l : List Nat) : Value := .agg (ints l).toArray
theorem run_index_one (t e : TypeId) (n : Nat) (cs : Array Value) (q : Nat) (v : Value) (W : World) (h : Tryd.prog.underlying t = some (.array n e)) (hq : q < n) (hv : cs[q]? = some v)
    (i : TypeInfo) (hi : Tryd.prog.info? e = some i) (hs : i.size = 1) (d : TypeDesc) (he : Tryd.prog.underlying e = some d) (hd : (match d with | .struct _ | .array _ _ => true | _ => false) = false) : (Instr.index t (.agg cs) (.int .i64 (q : Int))).run Tryd.prog W = .ok v W := by
  have hc : (0 : Int) ≤ (q : Int) ∧ (q : Int) < (n : Int) := by omega
  have e1 : (Instr.index t (.agg cs) (.int .i64 (q : Int))).run Tryd.prog W = (part e cs q).run Tryd.prog W := by
    have hnq : ¬ n ≤ q := by omega
    simp [Instr.index, run_underlying h, asIntOf, hnq, go_sem, sizeOf, typeInfo, hi, hs]
  rw [e1]
  have hagg : (isAgg e).run Tryd.prog W = .ok false W := by
    unfold isAgg
    rw [Sem.run_bind, run_underlying he W]
    cases d <;> simp_all
  simp [part, Sem.run_bind, hagg, hv]
theorem run_index_order (l : List Nat) (q : Nat) (v : Nat) (W : World) (hq : q < 16) (hv : (ints l)[q]? = some (.int .i64 (v : Int))) : (Instr.index 158 (.agg (ints l).toArray) (.int .i64 (q : Int))).run Tryd.prog W = .ok (.int .i64 (v : Int)) W := by
  obtain ⟨i0, hi0, hz0, hz1, hz2⟩ := info_parts int_info
  exact run_index_one 158 3 16 _ q _ W Tryd.underlying158 hq (by simpa using hv) i0 hi0 hz1 _ Tryd.underlying3 rfl
theorem run_index_state (l : List UInt32) (q : Nat) (v : UInt32) (W : World) (hq : q < 4) (hv : (u32s l)[q]? = some (.int .u32 v.toNat)) : (Instr.index 125 (.agg (u32s l).toArray) (.int .i64 (q : Int))).run Tryd.prog W = .ok (.int .u32 v.toNat) W := by
  obtain ⟨i0, hi0, hz0, hz1, hz2⟩ := info_parts u32_info
  exact run_index_one 125 38 4 _ q _ W Tryd.underlying125 hq (by simpa using hv) i0 hi0 hz1 _ Tryd.underlying38 rfl
end Go.Proofs.YtkllaghfiofnjaaDoor
/- The bodies of loops. -/
namespace Go.Proofs.YtkllaghfiofnjaaDoor
/-- The bodies of the loops of a piece of code that lie in no other loop, in the text's order. -/
def loopsOf : Code → List Code
  | .loop c => [c]
  | .seq a b => loopsOf a ++ loopsOf b
  | .block _ c => loopsOf c
  | .scope c => loopsOf c
  | .cond _ a b => loopsOf a ++ loopsOf b
  | _ => []
end Go.Proofs.YtkllaghfiofnjaaDoor
/- The document's Md4: its loops' bodies; the words of a block. -/
namespace Go.Proofs.YtkllaghfiofnjaaDoor
open Go.RowKit
noncomputable def docOuter : Code := (loopsOf ((Tryd.f31).body.getD .skip)).getD 0 .skip
noncomputable def docBody2 : Code := (loopsOf docOuter).getD 0 .skip
noncomputable def docBody3 : Code := (loopsOf docOuter).getD 1 .skip
noncomputable def docBody4 : Code := (loopsOf docOuter).getD 2 .skip
noncomputable def docBody5 : Code := (loopsOf ((Tryd.f31).body.getD .skip)).getD 1 .skip
set_option maxRecDepth 1000000 in
set_option maxHeartbeats 8000000 in
theorem docWords_loop (c0 c1 c2 c3 c5 c6 c10 c11 c12 c13 c14 c15 c16 c17 c18 c19 c20 c21 c22 c23 c24 c25 c26 c27 c28 c29 c56 c57 c58 c59 c60 c61 c62 c63 c64 c65 c66 c67 c68 c69 c70 c71 c72 c73 c74 c75 c76 c77 c78 c79 c80 c81 c82 c83 c84 c85 c86 c87 c88 c89 c90 c91 c92 c93 c94 c95 c96 c97 c98 c99 c100 c101 c102 c103 c104 c105 c106 c107 c108 c109 c110 c111 c112 c113 c114 c115 c116 c117 c118 c119 c120 c121 c122 c123 c124 c125 c126 c127 c128 c129 c130 c131 c132 c133 c134 c135 c136 c137 c138 c139 c140 c141 c142 c143 c144 c145 c146 c147 c148 c149 c150 c151 c152 c153 c154 c155 c156 c157 c158 c159 c160 c161 c162 c163 c164 c165 c166 c167 c168 c169 c170 c171 c172 c173 c174 c175 c176 c177 c178 c179 c180 c181 c182 c183 c184 c185 c186 c187 c188 c189 c190 c191 c192 c193 c194 c195 c196 c197 : Value) (u30 u31 u32 u33 u34 u35 u36 u37 u38 u39 u40 u41 u42 u43 u44 u45 u46 u47 u48 u49 u50 u51 u52 u53 u54 u55 : Value) (A : Option Addr) (cA : Nat) (m : List UInt8) (K p bx : Nat) (hp : p + 64 ≤ 64 * K) (hmK : m.length = 64 * K) (hK2 : K ≤ 1000000) (G : Nat → Prop) (hG : ¬ G bx) (w0 : World) (hM : Row w0 G 1 (.slice A (64 * K) cA) (64 * K) (u8s m)) (hX : Blk w0 bx 38 (u32s (Pure.wordsLow m p 0)).toArray) (Q0 : Exit → Act → World → Prop)
    (hQ : ∀ (c : List PanicEntry) (a : Act) (d : Option Nat) (v : Value) (w : World), Q0 (.panic c) (a.put d v) w → Q0 (.panic c) a w)
    (hexit : ∀ (v30 v31 v32 v33 v34 v35 v36 v37 v38 v39 v40 v41 v42 v43 v44 v45 v46 v47 v48 v49 v50 v51 v52 v53 v54 v55 : Value) (wr : World), Blk wr bx 38 (u32s (Pure.wordsLow m p 64)).toArray → Keeps (only bx) w0 wr → Q0 (.exit 2) { tmps := (c0 :: c1 :: c2 :: c3 :: .slice A (64 * K) cA :: c5 :: c6 :: .int .i64 (p : Int) :: .slice (some ⟨bx, 0, none⟩) 16 16 :: .int .i64 ((64 : Nat) : Int) :: c10 :: c11 :: c12 :: c13 :: c14 :: c15 :: c16 :: c17 :: c18 :: c19 :: c20 :: c21 :: c22 :: c23 :: c24 :: c25 :: c26 :: c27 :: c28 :: c29 :: v30 :: v31 :: v32 :: v33 :: v34 :: v35 :: v36 :: v37 :: v38 :: v39 :: v40 :: v41 :: v42 :: v43 :: v44 :: v45 :: v46 :: v47 :: v48 :: v49 :: v50 :: v51 :: v52 :: v53 :: v54 :: v55 :: c56 :: c57 :: c58 :: c59 :: c60 :: c61 :: c62 :: c63 :: c64 :: c65 :: c66 :: c67 :: c68 :: c69 :: c70 :: c71 :: c72 :: c73 :: c74 :: c75 :: c76 :: c77 :: c78 :: c79 :: c80 :: c81 :: c82 :: c83 :: c84 :: c85 :: c86 :: c87 :: c88 :: c89 :: c90 :: c91 :: c92 :: c93 :: c94 :: c95 :: c96 :: c97 :: c98 :: c99 :: c100 :: c101 :: c102 :: c103 :: c104 :: c105 :: c106 :: c107 :: c108 :: c109 :: c110 :: c111 :: c112 :: c113 :: c114 :: c115 :: c116 :: c117 :: c118 :: c119 :: c120 :: c121 :: c122 :: c123 :: c124 :: c125 :: c126 :: c127 :: c128 :: c129 :: c130 :: c131 :: c132 :: c133 :: c134 :: c135 :: c136 :: c137 :: c138 :: c139 :: c140 :: c141 :: c142 :: c143 :: c144 :: c145 :: c146 :: c147 :: c148 :: c149 :: c150 :: c151 :: c152 :: c153 :: c154 :: c155 :: c156 :: c157 :: c158 :: c159 :: c160 :: c161 :: c162 :: c163 :: c164 :: c165 :: c166 :: c167 :: c168 :: c169 :: c170 :: c171 :: c172 :: c173 :: c174 :: c175 :: c176 :: c177 :: c178 :: c179 :: c180 :: c181 :: c182 :: c183 :: c184 :: c185 :: c186 :: c187 :: c188 :: c189 :: c190 :: c191 :: c192 :: c193 :: c194 :: c195 :: c196 :: c197 :: []).toArray, defers := [] } wr) :
    Code.wp Tryd.prog (Code.loop docBody2) Q0 { tmps := (c0 :: c1 :: c2 :: c3 :: .slice A (64 * K) cA :: c5 :: c6 :: .int .i64 (p : Int) :: .slice (some ⟨bx, 0, none⟩) 16 16 :: .int .i64 0 :: c10 :: c11 :: c12 :: c13 :: c14 :: c15 :: c16 :: c17 :: c18 :: c19 :: c20 :: c21 :: c22 :: c23 :: c24 :: c25 :: c26 :: c27 :: c28 :: c29 :: u30 :: u31 :: u32 :: u33 :: u34 :: u35 :: u36 :: u37 :: u38 :: u39 :: u40 :: u41 :: u42 :: u43 :: u44 :: u45 :: u46 :: u47 :: u48 :: u49 :: u50 :: u51 :: u52 :: u53 :: u54 :: u55 :: c56 :: c57 :: c58 :: c59 :: c60 :: c61 :: c62 :: c63 :: c64 :: c65 :: c66 :: c67 :: c68 :: c69 :: c70 :: c71 :: c72 :: c73 :: c74 :: c75 :: c76 :: c77 :: c78 :: c79 :: c80 :: c81 :: c82 :: c83 :: c84 :: c85 :: c86 :: c87 :: c88 :: c89 :: c90 :: c91 :: c92 :: c93 :: c94 :: c95 :: c96 :: c97 :: c98 :: c99 :: c100 :: c101 :: c102 :: c103 :: c104 :: c105 :: c106 :: c107 :: c108 :: c109 :: c110 :: c111 :: c112 :: c113 :: c114 :: c115 :: c116 :: c117 :: c118 :: c119 :: c120 :: c121 :: c122 :: c123 :: c124 :: c125 :: c126 :: c127 :: c128 :: c129 :: c130 :: c131 :: c132 :: c133 :: c134 :: c135 :: c136 :: c137 :: c138 :: c139 :: c140 :: c141 :: c142 :: c143 :: c144 :: c145 :: c146 :: c147 :: c148 :: c149 :: c150 :: c151 :: c152 :: c153 :: c154 :: c155 :: c156 :: c157 :: c158 :: c159 :: c160 :: c161 :: c162 :: c163 :: c164 :: c165 :: c166 :: c167 :: c168 :: c169 :: c170 :: c171 :: c172 :: c173 :: c174 :: c175 :: c176 :: c177 :: c178 :: c179 :: c180 :: c181 :: c182 :: c183 :: c184 :: c185 :: c186 :: c187 :: c188 :: c189 :: c190 :: c191 :: c192 :: c193 :: c194 :: c195 :: c196 :: c197 :: []).toArray, defers := [] } w0 := by
  conv => arg 2; arg 1; whnf
  have HM := Lib.hid hM
  have HX0 := Lib.hid hX
  have HG := Lib.hid hG
  clear hM hX hG
  go_loopw [9] (fun i wr => ∃ q : Nat, q ≤ 64 ∧ i = .int .i64 (q : Int) ∧ Blk wr bx 38 (u32s (Pure.wordsLow m p q)).toArray ∧ Keeps (only bx) w0 wr) (fun i _ => 64 - (intOf i).toNat)
  case atStart => exact ⟨0, by omega, rfl, HX0.out, Keeps.refl _ _⟩
  case round =>
    clear HX0
    obtain ⟨q, hq, rfl, hX, hK⟩ := hrel
    by_cases hql : q < 64
    · clear hexit
      obtain ⟨b, off, rfl, hbG, hcm⟩ := (HM.out.keeps hK (fun x hx h => HG.out (h ▸ hx))).cellAt (by omega)
      obtain ⟨z, hz⟩ : ∃ z, z = p + q := ⟨_, rfl⟩
      have hzI : (p : Int) + (q : Int) = (z : Int) := by omega
      have hz1 : (0 : Int) ≤ (z : Int) := by omega
      have hz2 : (z : Int) < 64 * (K : Int) := by omega
      have c1 := hcm z _ (u8s_at m z (by omega))
      obtain ⟨B, hB⟩ : ∃ B : UInt8, B = m.getD z 0 := ⟨_, rfl⟩
      rw [← hB] at c1
      obtain ⟨t, ht⟩ : ∃ t, t = q / 4 := ⟨_, rfl⟩
      obtain ⟨r, hr⟩ : ∃ r, r = q % 4 := ⟨_, rfl⟩
      have htI : (q : Int) / 4 = (t : Int) := by omega
      have hrI : (q : Int) % 4 = (r : Int) := by omega
      have ht1 : (0 : Int) ≤ (t : Int) := by omega
      have ht2 : (t : Int) < 16 := by omega
      have hr4 : r < 4 := by omega
      have hwt : IntKind.i64.wrap (t : Int) = (t : Int) := IntWalk.i64_in _ (by omega)
      have hwr : IntKind.i64.wrap (r : Int) = (r : Int) := IntWalk.i64_in _ (by omega)
      have hwz : IntKind.i64.wrap (z : Int) = (z : Int) := IntWalk.i64_in _ (by omega)
      have k0 : wr.cell? ⟨bx, t, none⟩ = some (.int .u32 ((Pure.wordsLow m p q).getD t 0).toNat) := by rw [hX.cell, ← u32s_at _ t (by rw [Pure.wordsLow_length]; omega)]; simp
      obtain ⟨V, hV⟩ : ∃ V, V = (Pure.wordsLow m p q).getD t 0 := ⟨_, rfl⟩
      rw [← hV] at k0
      have f0 : wr.frozen? ⟨bx, t, none⟩ = false := hX.frozen t
      obtain ⟨Y, hY⟩ : ∃ Y : UInt32, Y = B.toUInt32 <<< UInt32.ofNat (8 * r) := ⟨_, rfl⟩
      have hBl := B.toNat_lt
      have hv0 : (B.toNat : Int) % 4294967296 = (B.toNat : Int) := Int.emod_eq_of_lt (by omega) (by omega)
      have hv1 : (B.toNat : Int) * 2 ^ (8 * r) % 4294967296 = (Y.toNat : Int) := by rw [hY, ← shl_u32 _ _ (by omega), wide_u8]
      obtain ⟨Z, hZ⟩ : ∃ Z : UInt32, Z = V ||| Y := ⟨_, rfl⟩
      have hv2 := or_u32 V Y
      rw [← hZ] at hv2
      have hnext : Pure.wordsLow m p (q + 1) = (Pure.wordsLow m p q).set t Z := by simp only [Pure.wordsLow]; rw [hZ, hY, hV, hB, ht, hr, hz]
      have hmin : min (8 * (q % 4)) 32 = 8 * r := by omega
      have HMin := Lib.hid hmin
      have HN := Lib.hid hnext
      have HX := Lib.hid hX
      have HK := Lib.hid hK
      clear hcm hB ht hr hV hY hZ hnext hX hK hz HM HG hmK hmin
      go_upto_region 12 with fail
      refine wp_region_Z (fun w' => w'.cell? ⟨bx, t, none⟩ = some (.int .u32 V.toNat) ∧ w'.cell? ⟨b, off + z, none⟩ = some (.int .u8 B.toNat)) 22 23 rfl (by kernel_rfl) ⟨k0, c1⟩ (fun hHeld => ?_)
      iterate 22
        refine wpAnyZ_next rfl (by kernel_rfl) (fun _ _ _ h => hQ _ _ _ _ _ h) (Or.inl ⟨by rfl, by intro w hSw; obtain ⟨s0, s1⟩ := hSw; go_simp; try with_reducible rfl⟩) hHeld.out ?_
        simp only [Act.put, List.setIfInBounds_toArray, Nat.reduceAdd, List.getElem_toArray, List.getElem_cons_succ, List.getElem_cons_zero, List.set_cons_succ, List.set_cons_zero]
      refine wpAnyZ_step (by kernel_rfl) rfl (fun K hK => ?_)
      clear hHeld
      go_simp
      refine hK.out _ _ (fun h => absurd rfl h) ?_
      clear hK K
      refine wpAnyZ_done (by kernel_rfl) ?_ _
      go_wp2_with fail
      go_roundw
      case rel =>
        refine ⟨q + 1, by omega, by go_num, ?_, ?_⟩
        · rw [HN.out, ← u32s_set, HMin.out, hv1, hv2]
          exact (HX.out.set t _).drew
        · exact (HK.out.store bx t (fun _ => only_self bx) _).drew
      case measure => simp [intOf]; omega
    · have hqq : q = 64 := by omega
      subst hqq
      clear hq hql
      go_wp2_with fail
      exact hexit _ _ _ _ _ _ _ _ _ _ _ _ _ _ _ _ _ _ _ _ _ _ _ _ _ _ wr hX hK
end Go.Proofs.YtkllaghfiofnjaaDoor
/- The document's Md4: the steps of a block. -/
namespace Go.Proofs.YtkllaghfiofnjaaDoor
open Go.RowKit
theorem cell_alloc_old {w : World} {o : Obj} {a : Addr} {v : Value} (h : w.cell? a = some v) : (w.alloc o).drew.cell? a = some v := (World.cell?_alloc_lt w o a (by rcases Nat.lt_or_ge a.block w.heap.size with hl | hg; exact hl; simp [World.cell?, Array.getElem?_eq_none hg] at h)).trans h
set_option maxRecDepth 1000000 in
set_option maxHeartbeats 8000000 in
theorem docSteps_loop (c0 c1 c2 c3 c4 c7 c9 c15 c16 c17 c18 c19 c20 c21 c22 c23 c24 c25 c26 c27 c28 c29 c30 c31 c32 c33 c34 c35 c36 c37 c38 c39 c40 c41 c42 c43 c44 c45 c46 c47 c48 c49 c50 c51 c52 c53 c54 c55 c56 c57 c58 c59 c60 c61 c62 c63 c64 c65 c66 c67 c68 c163 c164 c165 c166 c167 c168 c169 c170 c171 c172 c173 c174 c175 c176 c177 c178 c179 c180 c181 c182 c183 c184 c185 c186 c187 c188 c189 c190 c191 c192 c193 c194 c195 c196 c197 : Value) (u12 u13 u14 u69 u70 u71 u72 u73 u74 u75 u76 u77 u78 u79 u80 u81 u82 u83 u84 u85 u86 u87 u88 u89 u90 u91 u92 u93 u94 u95 u96 u97 u98 u99 u100 u101 u102 u103 u104 u105 u106 u107 u108 u109 u110 u111 u112 u113 u114 u115 u116 u117 u118 u119 u120 u121 u122 u123 u124 u125 u126 u127 u128 u129 u130 u131 u132 u133 u134 u135 u136 u137 u138 u139 u140 u141 u142 u143 u144 u145 u146 u147 u148 u149 u150 u151 u152 u153 u154 u155 u156 u157 u158 u159 u160 u161 u162 : Value) (x : List UInt32) (hx : x.length = 16) (h : Pure.W4) (bo bt bx bq : Nat) (w0 : World) (hO : Blk w0 bo 3 (ints Pure.md4Order).toArray) (hT : Blk w0 bt 3 (ints Pure.md4Turns).toArray) (hX : Blk w0 bx 38 (u32s x).toArray) (hV : Blk w0 bq 38 (u32s h.list).toArray) (Q0 : Exit → Act → World → Prop)
    (hQ : ∀ (c : List PanicEntry) (a : Act) (d : Option Nat) (v : Value) (w : World), Q0 (.panic c) (a.put d v) w → Q0 (.panic c) a w)
    (hexit : ∀ (v12 v13 v14 v69 v70 v71 v72 v73 v74 v75 v76 v77 v78 v79 v80 v81 v82 v83 v84 v85 v86 v87 v88 v89 v90 v91 v92 v93 v94 v95 v96 v97 v98 v99 v100 v101 v102 v103 v104 v105 v106 v107 v108 v109 v110 v111 v112 v113 v114 v115 v116 v117 v118 v119 v120 v121 v122 v123 v124 v125 v126 v127 v128 v129 v130 v131 v132 v133 v134 v135 v136 v137 v138 v139 v140 v141 v142 v143 v144 v145 v146 v147 v148 v149 v150 v151 v152 v153 v154 v155 v156 v157 v158 v159 v160 v161 v162 : Value) (bv' : Nat) (wr : World), Blk wr bv' 38 (u32s (Pure.md4Steps x h 48).list).toArray → Below w0.heap.size w0 wr → (bv' = bq ∨ w0.heap.size ≤ bv') → Q0 (.exit 4) { tmps := (c0 :: c1 :: c2 :: c3 :: c4 :: .slice (some ⟨bo, 0, none⟩) 48 48 :: .slice (some ⟨bt, 0, none⟩) 12 12 :: c7 :: .slice (some ⟨bx, 0, none⟩) 16 16 :: c9 :: .slice (some ⟨bv', 0, none⟩) 4 4 :: .int .i64 ((48 : Nat) : Int) :: v12 :: v13 :: v14 :: c15 :: c16 :: c17 :: c18 :: c19 :: c20 :: c21 :: c22 :: c23 :: c24 :: c25 :: c26 :: c27 :: c28 :: c29 :: c30 :: c31 :: c32 :: c33 :: c34 :: c35 :: c36 :: c37 :: c38 :: c39 :: c40 :: c41 :: c42 :: c43 :: c44 :: c45 :: c46 :: c47 :: c48 :: c49 :: c50 :: c51 :: c52 :: c53 :: c54 :: c55 :: c56 :: c57 :: c58 :: c59 :: c60 :: c61 :: c62 :: c63 :: c64 :: c65 :: c66 :: c67 :: c68 :: v69 :: v70 :: v71 :: v72 :: v73 :: v74 :: v75 :: v76 :: v77 :: v78 :: v79 :: v80 :: v81 :: v82 :: v83 :: v84 :: v85 :: v86 :: v87 :: v88 :: v89 :: v90 :: v91 :: v92 :: v93 :: v94 :: v95 :: v96 :: v97 :: v98 :: v99 :: v100 :: v101 :: v102 :: v103 :: v104 :: v105 :: v106 :: v107 :: v108 :: v109 :: v110 :: v111 :: v112 :: v113 :: v114 :: v115 :: v116 :: v117 :: v118 :: v119 :: v120 :: v121 :: v122 :: v123 :: v124 :: v125 :: v126 :: v127 :: v128 :: v129 :: v130 :: v131 :: v132 :: v133 :: v134 :: v135 :: v136 :: v137 :: v138 :: v139 :: v140 :: v141 :: v142 :: v143 :: v144 :: v145 :: v146 :: v147 :: v148 :: v149 :: v150 :: v151 :: v152 :: v153 :: v154 :: v155 :: v156 :: v157 :: v158 :: v159 :: v160 :: v161 :: v162 :: c163 :: c164 :: c165 :: c166 :: c167 :: c168 :: c169 :: c170 :: c171 :: c172 :: c173 :: c174 :: c175 :: c176 :: c177 :: c178 :: c179 :: c180 :: c181 :: c182 :: c183 :: c184 :: c185 :: c186 :: c187 :: c188 :: c189 :: c190 :: c191 :: c192 :: c193 :: c194 :: c195 :: c196 :: c197 :: []).toArray, defers := [] } wr) :
    Code.wp Tryd.prog (Code.loop docBody3) Q0 { tmps := (c0 :: c1 :: c2 :: c3 :: c4 :: .slice (some ⟨bo, 0, none⟩) 48 48 :: .slice (some ⟨bt, 0, none⟩) 12 12 :: c7 :: .slice (some ⟨bx, 0, none⟩) 16 16 :: c9 :: .slice (some ⟨bq, 0, none⟩) 4 4 :: .int .i64 0 :: u12 :: u13 :: u14 :: c15 :: c16 :: c17 :: c18 :: c19 :: c20 :: c21 :: c22 :: c23 :: c24 :: c25 :: c26 :: c27 :: c28 :: c29 :: c30 :: c31 :: c32 :: c33 :: c34 :: c35 :: c36 :: c37 :: c38 :: c39 :: c40 :: c41 :: c42 :: c43 :: c44 :: c45 :: c46 :: c47 :: c48 :: c49 :: c50 :: c51 :: c52 :: c53 :: c54 :: c55 :: c56 :: c57 :: c58 :: c59 :: c60 :: c61 :: c62 :: c63 :: c64 :: c65 :: c66 :: c67 :: c68 :: u69 :: u70 :: u71 :: u72 :: u73 :: u74 :: u75 :: u76 :: u77 :: u78 :: u79 :: u80 :: u81 :: u82 :: u83 :: u84 :: u85 :: u86 :: u87 :: u88 :: u89 :: u90 :: u91 :: u92 :: u93 :: u94 :: u95 :: u96 :: u97 :: u98 :: u99 :: u100 :: u101 :: u102 :: u103 :: u104 :: u105 :: u106 :: u107 :: u108 :: u109 :: u110 :: u111 :: u112 :: u113 :: u114 :: u115 :: u116 :: u117 :: u118 :: u119 :: u120 :: u121 :: u122 :: u123 :: u124 :: u125 :: u126 :: u127 :: u128 :: u129 :: u130 :: u131 :: u132 :: u133 :: u134 :: u135 :: u136 :: u137 :: u138 :: u139 :: u140 :: u141 :: u142 :: u143 :: u144 :: u145 :: u146 :: u147 :: u148 :: u149 :: u150 :: u151 :: u152 :: u153 :: u154 :: u155 :: u156 :: u157 :: u158 :: u159 :: u160 :: u161 :: u162 :: c163 :: c164 :: c165 :: c166 :: c167 :: c168 :: c169 :: c170 :: c171 :: c172 :: c173 :: c174 :: c175 :: c176 :: c177 :: c178 :: c179 :: c180 :: c181 :: c182 :: c183 :: c184 :: c185 :: c186 :: c187 :: c188 :: c189 :: c190 :: c191 :: c192 :: c193 :: c194 :: c195 :: c196 :: c197 :: []).toArray, defers := [] } w0 := by
  conv => arg 2; arg 1; whnf
  have HO := Lib.hid hO
  have HT := Lib.hid hT
  have HX := Lib.hid hX
  have HV0 := Lib.hid hV
  clear hO hT hX hV
  go_loopw [10, 11] (fun v i wr => ∃ s bv : Nat, s ≤ 48 ∧ i = .int .i64 (s : Int) ∧ v = .slice (some ⟨bv, 0, none⟩) 4 4 ∧ Blk wr bv 38 (u32s (Pure.md4Steps x h s).list).toArray ∧ Below w0.heap.size w0 wr ∧ (bv = bq ∨ w0.heap.size ≤ bv)) (fun _ i _ => 48 - (intOf i).toNat)
  case atStart => exact ⟨0, bq, by omega, rfl, rfl, HV0.out, Below.refl _ _, .inl rfl⟩
  case round =>
    clear HV0
    obtain ⟨s, bv, hs, rfl, rfl, hV, hB, hbq⟩ := hrel
    by_cases hsl : s < 48
    · clear hexit
      obtain ⟨v, hv⟩ : ∃ v, v = Pure.md4Steps x h s := ⟨_, rfl⟩
      rw [← hv] at hV
      have c0 : wr.cell? ⟨bv, 0, none⟩ = some (.int .u32 v.a.toNat) := by rw [hV.cell]; rfl
      have c1 : wr.cell? ⟨bv, 1, none⟩ = some (.int .u32 v.b.toNat) := by rw [hV.cell]; rfl
      have c2 : wr.cell? ⟨bv, 2, none⟩ = some (.int .u32 v.c.toNat) := by rw [hV.cell]; rfl
      have c3 : wr.cell? ⟨bv, 3, none⟩ = some (.int .u32 v.d.toNat) := by rw [hV.cell]; rfl
      obtain ⟨g1, hg1⟩ : ∃ g1, g1 = v.b &&& v.c := ⟨_, rfl⟩
      obtain ⟨g2, hg2⟩ : ∃ g2, g2 = ~~~v.b := ⟨_, rfl⟩
      obtain ⟨g3, hg3⟩ : ∃ g3, g3 = g2 &&& v.d := ⟨_, rfl⟩
      obtain ⟨f0, hf0⟩ : ∃ f0, f0 = g1 ||| g3 := ⟨_, rfl⟩
      have e1 := and_u32 v.b v.c
      have e2 := not_u32 v.b
      have e3 := and_u32 g2 v.d
      have e4 := or_u32 g1 g3
      rw [← hg1] at e1
      rw [← hg2] at e2
      rw [← hg3] at e3
      rw [← hf0] at e4
      have HV := Lib.hid hV
      have HB := Lib.hid hB
      have HVV := Lib.hid hv
      have HF0 := Lib.hid (show f0 = v.b &&& v.c ||| ~~~v.b &&& v.d by rw [hf0, hg3, hg2, hg1])
      have hs0 : (0 : Int) ≤ (s : Int) := by omega
      have hs1 : (s : Int) < 48 := by omega
      clear hV hB hv hf0 hg1 hg2 hg3 hbq
      have hsg : IntKind.u32.signed = false := rfl
      go_upto_region 17 with fail
      go_quiet (fail)
      obtain ⟨wb, hwb⟩ : ∃ wb, wb = wr.drewN nq := ⟨_, rfl⟩
      rw [← hwb]
      have b0' : wb.cell? ⟨bv, 0, none⟩ = some (.int .u32 v.a.toNat) := by rw [hwb]; exact c0
      have b1 : wb.cell? ⟨bv, 1, none⟩ = some (.int .u32 v.b.toNat) := by rw [hwb]; exact c1
      have b2 : wb.cell? ⟨bv, 2, none⟩ = some (.int .u32 v.c.toNat) := by rw [hwb]; exact c2
      have b3 : wb.cell? ⟨bv, 3, none⟩ = some (.int .u32 v.d.toNat) := by rw [hwb]; exact c3
      have KB := Lib.hid (Keeps.of_drewN hwb)
      clear hwb c0 c1 c2 c3 e1 e2 e3 e4
      obtain ⟨p1, hp1⟩ : ∃ p1, p1 = v.b &&& v.c := ⟨_, rfl⟩
      obtain ⟨p2, hp2⟩ : ∃ p2, p2 = v.b &&& v.d := ⟨_, rfl⟩
      obtain ⟨p3, hp3⟩ : ∃ p3, p3 = p1 ||| p2 := ⟨_, rfl⟩
      obtain ⟨p4, hp4⟩ : ∃ p4, p4 = v.c &&& v.d := ⟨_, rfl⟩
      obtain ⟨f1, hf1⟩ : ∃ f1, f1 = p3 ||| p4 := ⟨_, rfl⟩
      have e1 := and_u32 v.b v.c
      have e2 := and_u32 v.b v.d
      have e3 := or_u32 p1 p2
      have e4 := and_u32 v.c v.d
      have e5 := or_u32 p3 p4
      rw [← hp1] at e1
      rw [← hp2] at e2
      rw [← hp3] at e3
      rw [← hp4] at e4
      rw [← hf1] at e5
      have HF1 := Lib.hid (show f1 = v.b &&& v.c ||| v.b &&& v.d ||| v.c &&& v.d by rw [hf1, hp3, hp4, hp2, hp1])
      obtain ⟨fa, hfa⟩ : ∃ fa, fa = if s < 16 then f0 else f1 := ⟨_, rfl⟩
      obtain ⟨ta, hta⟩ : ∃ ta : UInt32, ta = if s < 16 then 0 else 0x5a827999 := ⟨_, rfl⟩
      have HFA := Lib.hid hfa
      have HTA := Lib.hid hta
      clear hp1 hp2 hp3 hp4 hf1 hfa hta
      go_upto_if 90 with fail
      go_cut [12, 13] from 69 to 162 (fun f t wx => f = .int .u32 fa.toNat ∧ t = .int .u32 ta.toNat ∧ ∃ n, wx = wb.drewN n)
      case first =>
        by_cases h16 : s < 16
        · have h16' : ¬ (16 : Int) ≤ (s : Int) := by omega
          have hfa : fa = f0 := by rw [HFA.out, if_pos h16]
          have hta : ta = 0 := by rw [HTA.out, if_pos h16]
          go_wp2_with fail
          go_meet
          case rel => exact ⟨by rw [hfa], by rw [hta]; rfl, 0, rfl⟩
        · have h16' : (16 : Int) ≤ (s : Int) := by omega
          have hfa : fa = f1 := by rw [HFA.out, if_neg h16]
          have hta : ta = 0x5a827999 := by rw [HTA.out, if_neg h16]
          clear h16
          go_upto_region 20 with fail
          go_quiet (fail)
          go_wp2_with fail
          go_meet
          case rel => exact ⟨by rw [hfa], by rw [hta]; rfl, _, rfl⟩
      case rest =>
      obtain ⟨rfl, rfl, n1, hn1⟩ := hcut
      have d0 : wc.cell? ⟨bv, 0, none⟩ = some (.int .u32 v.a.toNat) := by rw [hn1]; exact b0'
      have d1 : wc.cell? ⟨bv, 1, none⟩ = some (.int .u32 v.b.toNat) := by rw [hn1]; exact b1
      have d2 : wc.cell? ⟨bv, 2, none⟩ = some (.int .u32 v.c.toNat) := by rw [hn1]; exact b2
      have d3 : wc.cell? ⟨bv, 3, none⟩ = some (.int .u32 v.d.toNat) := by rw [hn1]; exact b3
      have KC := Lib.hid (KB.out.trans (Keeps.of_drewN hn1))
      clear b0' b1 b2 b3 hn1 KB e1 e2 e3 e4 e5
      obtain ⟨p5, hp5⟩ : ∃ p5, p5 = v.b ^^^ v.c := ⟨_, rfl⟩
      obtain ⟨f2, hf2⟩ : ∃ f2, f2 = p5 ^^^ v.d := ⟨_, rfl⟩
      have e1 := xor_u32 v.b v.c
      have e2 := xor_u32 p5 v.d
      rw [← hp5] at e1
      rw [← hf2] at e2
      have HF2 := Lib.hid (show f2 = v.b ^^^ v.c ^^^ v.d by rw [hf2, hp5])
      obtain ⟨fb, hfb⟩ : ∃ fb, fb = if s < 32 then fa else f2 := ⟨_, rfl⟩
      obtain ⟨tb, htb⟩ : ∃ tb : UInt32, tb = if s < 32 then ta else 0x6ed9eba1 := ⟨_, rfl⟩
      have HFB := Lib.hid hfb
      have HTB := Lib.hid htb
      clear hp5 hf2 hfb htb
      go_upto_if 115 with fail
      go_cut [12, 13] from 69 to 162 (fun f t wx => f = .int .u32 fb.toNat ∧ t = .int .u32 tb.toNat ∧ ∃ n, wx = wc.drewN n)
      case first =>
        by_cases h32 : s < 32
        · have h32' : ¬ (32 : Int) ≤ (s : Int) := by omega
          have hfb : fb = fa := by rw [HFB.out, if_pos h32]
          have htb : tb = ta := by rw [HTB.out, if_pos h32]
          clear h32
          go_wp2_with fail
          go_meet
          case rel => exact ⟨by rw [hfb], by rw [htb], 0, rfl⟩
        · have h32' : (32 : Int) ≤ (s : Int) := by omega
          have hfb : fb = f2 := by rw [HFB.out, if_neg h32]
          have htb : tb = 0x6ed9eba1 := by rw [HTB.out, if_neg h32]
          clear h32
          go_upto_region 23 with fail
          go_quiet (fail)
          go_wp2_with fail
          go_meet
          case rel => exact ⟨by rw [hfb], by rw [htb]; rfl, _, rfl⟩
      case rest =>
      obtain ⟨rfl, rfl, n2, hn2⟩ := hcut
      have q0 : wc.cell? ⟨bv, 0, none⟩ = some (.int .u32 v.a.toNat) := by rw [hn2]; exact d0
      have q1 : wc.cell? ⟨bv, 1, none⟩ = some (.int .u32 v.b.toNat) := by rw [hn2]; exact d1
      have q2 : wc.cell? ⟨bv, 2, none⟩ = some (.int .u32 v.c.toNat) := by rw [hn2]; exact d2
      have q3 : wc.cell? ⟨bv, 3, none⟩ = some (.int .u32 v.d.toNat) := by rw [hn2]; exact d3
      have kc := KC.out.trans (Keeps.of_drewN hn2)
      have hfF : fb = Pure.md4F s v.b v.c v.d := by
        rw [HFB.out, HFA.out, HF0.out, HF1.out, HF2.out]
        unfold Pure.md4F
        by_cases h16 : s < 16
        · rw [if_pos (show s < 32 by omega), if_pos h16, if_pos h16]
        · by_cases h32 : s < 32
          · rw [if_pos h32, if_neg h16, if_neg h16, if_pos h32]
          · rw [if_neg h32, if_neg h16, if_neg h32]
      have htT : tb = Pure.md4T s := by
        rw [HTB.out, HTA.out]
        unfold Pure.md4T
        by_cases h16 : s < 16
        · rw [if_pos (show s < 32 by omega), if_pos h16, if_pos h16]
        · by_cases h32 : s < 32
          · rw [if_pos h32, if_neg h16, if_neg h16, if_pos h32]
          · rw [if_neg h32, if_neg h16, if_neg h32]
      obtain ⟨kq, hkq⟩ : ∃ kq, kq = Pure.md4Order.getD s 0 := ⟨_, rfl⟩
      have hkq2 : kq < 16 := by rw [hkq]; exact Pure.md4Order_range _ hsl
      have hB1 := Below.quiet HB.out kc HB.out.size
      have ck : wc.cell? ⟨bo, s, none⟩ = some (.int .i64 (kq : Int)) := by
        rw [((HO.out.below HB.out HO.out.lt).keeps kc (fun h => h)).cell, hkq, ← ints_at Pure.md4Order s hsl]; simp
      have cx : wc.cell? ⟨bx, kq, none⟩ = some (.int .u32 (x.getD kq 0).toNat) := by
        rw [((HX.out.below HB.out HX.out.lt).keeps kc (fun h => h)).cell, ← u32s_at x kq (by omega)]; simp
      obtain ⟨xv, hxv⟩ : ∃ xv, xv = x.getD kq 0 := ⟨_, rfl⟩
      rw [← hxv] at cx
      obtain ⟨e, he⟩ : ∃ e, e = s / 16 := ⟨_, rfl⟩
      obtain ⟨r, hr⟩ : ∃ r, r = s % 4 := ⟨_, rfl⟩
      obtain ⟨z, hz⟩ : ∃ z, z = e * 4 + r := ⟨_, rfl⟩
      have heI : (s : Int) / 16 = (e : Int) := by omega
      have hrI : (s : Int) % 4 = (r : Int) := by omega
      have hzI : (e : Int) * 4 + (r : Int) = (z : Int) := by omega
      have he0 : (0 : Int) ≤ (e : Int) := by omega
      have he1 : (e : Int) < 3 := by omega
      have hr0 : (0 : Int) ≤ (r : Int) := by omega
      have hr1 : (r : Int) < 4 := by omega
      have hz0 : (0 : Int) ≤ (z : Int) := by omega
      have hz1 : (z : Int) < 12 := by omega
      have hwe : IntKind.i64.wrap (e : Int) = (e : Int) := IntWalk.i64_in _ (by omega)
      have hwr : IntKind.i64.wrap (r : Int) = (r : Int) := IntWalk.i64_in _ (by omega)
      have hwz : IntKind.i64.wrap (z : Int) = (z : Int) := IntWalk.i64_in _ (by omega)
      have hwk : IntKind.i64.wrap (kq : Int) = (kq : Int) := IntWalk.i64_in _ (by omega)
      have hk0 : (0 : Int) ≤ (kq : Int) := by omega
      have hk1 : (kq : Int) < 16 := by omega
      obtain ⟨tq, htq⟩ : ∃ tq, tq = Pure.md4Turns.getD z 0 := ⟨_, rfl⟩
      have hzr : z = s / 16 * 4 + s % 4 := by omega
      obtain ⟨ht1, ht2⟩ := Pure.md4Turns_range s hsl
      rw [← hzr, ← htq] at ht1 ht2
      have ct : wc.cell? ⟨bt, z, none⟩ = some (.int .i64 (tq : Int)) := by
        rw [((HT.out.below HB.out HT.out.lt).keeps kc (fun h => h)).cell, htq, ← ints_at Pure.md4Turns z (by show z < 12; omega)]; simp
      obtain ⟨m1, hm1⟩ : ∃ m1, m1 = v.a + fb := ⟨_, rfl⟩
      obtain ⟨m2, hm2⟩ : ∃ m2, m2 = m1 + xv := ⟨_, rfl⟩
      obtain ⟨m3, hm3⟩ : ∃ m3, m3 = m2 + tb := ⟨_, rfl⟩
      obtain ⟨m4, hm4⟩ : ∃ m4, m4 = Pure.left m3 tq := ⟨_, rfl⟩
      have i1 := add_u32 v.a fb
      have i2 := add_u32 m1 xv
      have i3 := add_u32 m2 tb
      rw [← hm1] at i1
      rw [← hm2] at i2
      rw [← hm3] at i3
      have hl := left_any m3 tq ht1 ht2
      rw [← hm4] at hl
      have HL := Lib.hid hl
      have hnext : Pure.md4Steps x h (s + 1) = ⟨v.d, m4, v.b, v.c⟩ := by
        show Pure.md4Step x s (Pure.md4Steps x h s) = _
        rw [← HVV.out]
        unfold Pure.md4Step
        rw [← hfF, ← htT, ← hkq, ← hxv, ← hzr, ← htq, ← hm1, ← hm2, ← hm3, ← hm4]
      have HN := Lib.hid hnext
      have KD := Lib.hid hB1
      clear hn2 kc KC hfF htT hkq hxv he hr hz htq hzr hm1 hm2 hm3 hm4 hl hnext hB1 HFA HFB HTA HTB HF0 HF1 HF2 HVV HB d0 d1 d2 d3 e1 e2
      go_upto_region 25 with fail
      go_quiet (refine Calls.quiet_of_same (HL.out _))
      obtain ⟨wd, hwd⟩ : ∃ wd, wd = wc.drewN nq := ⟨_, rfl⟩
      rw [← hwd]
      have r1 : wd.cell? ⟨bv, 1, none⟩ = some (.int .u32 v.b.toNat) := by rw [hwd]; exact q1
      have r2 : wd.cell? ⟨bv, 2, none⟩ = some (.int .u32 v.c.toNat) := by rw [hwd]; exact q2
      have r3 : wd.cell? ⟨bv, 3, none⟩ = some (.int .u32 v.d.toNat) := by rw [hwd]; exact q3
      have KE := Lib.hid (Below.quiet KD.out (Keeps.of_drewN hwd) KD.out.size)
      clear q0 q1 q2 q3 ck cx ct hwd KD i1 i2 i3 HL
      go_upto_region 26 with fail
      refine wp_region_Z (fun w' => w'.cell? ⟨bv, 1, none⟩ = some (.int .u32 v.b.toNat) ∧ w'.cell? ⟨bv, 2, none⟩ = some (.int .u32 v.c.toNat) ∧ w'.cell? ⟨bv, 3, none⟩ = some (.int .u32 v.d.toNat)) 10 12 rfl (by kernel_rfl) ⟨r1, r2, r3⟩ (fun hHeld => ?_)
      iterate 10
        refine wpAnyZ_next rfl (by kernel_rfl) (fun _ _ _ h => hQ _ _ _ _ _ h) (Or.inl ⟨by rfl, by intro w hSw; obtain ⟨s0, s1, s2⟩ := hSw; go_simp; try with_reducible rfl⟩) hHeld.out ?_
        simp only [Act.put, List.setIfInBounds_toArray, Nat.reduceAdd, List.getElem_toArray, List.getElem_cons_succ, List.getElem_cons_zero, List.set_cons_succ, List.set_cons_zero]
      refine wpAnyZ_step (by kernel_rfl) rfl (fun K hK => ?_)
      clear hHeld
      go_simp
      refine hK.out _ _ (fun h => absurd rfl h) ?_
      clear hK K
      refine wpAnyZ_step (by kernel_rfl) rfl (fun K hK => ?_)
      go_simp
      refine hK.out _ _ (fun _ => ⟨(cell_alloc_old r1), (cell_alloc_old r2), (cell_alloc_old r3)⟩) ?_
      clear hK K
      refine wpAnyZ_done (by kernel_rfl) ?_ _
      go_wp2_with fail
      refine ⟨⟨s + 1, wd.heap.size, by omega, by go_num, rfl, ?_, ?_, .inr KE.out.size⟩, by simp [intOf]; omega⟩
      · rw [HN.out]
        exact (Blk.new wd 38 _).drew
      · exact Below.drew ((KE.out).alloc KE.out.size _)
    · have hqq : s = 48 := by omega
      subst hqq
      clear hs hsl
      go_wp2_with fail
      exact hexit _ _ _ _ _ _ _ _ _ _ _ _ _ _ _ _ _ _ _ _ _ _ _ _ _ _ _ _ _ _ _ _ _ _ _ _ _ _ _ _ _ _ _ _ _ _ _ _ _ _ _ _ _ _ _ _ _ _ _ _ _ _ _ _ _ _ _ _ _ _ _ _ _ _ _ _ _ _ _ _ _ _ _ _ _ _ _ _ _ _ _ _ _ _ _ _ _ bv wr hV hB hbq
end Go.Proofs.YtkllaghfiofnjaaDoor
/- The document's Md4: the sums behind a block. -/
namespace Go.Proofs.YtkllaghfiofnjaaDoor
open Go.RowKit
set_option maxRecDepth 1000000 in
set_option maxHeartbeats 8000000 in
theorem docSums_loop (c0 c1 c2 c4 c5 c6 c7 c8 c9 c11 c12 c13 c14 c16 c17 c18 c19 c20 c21 c22 c23 c24 c25 c26 c27 c28 c29 c30 c31 c32 c33 c34 c35 c36 c37 c38 c39 c40 c41 c42 c43 c44 c45 c46 c47 c48 c49 c50 c51 c52 c53 c54 c55 c56 c57 c58 c59 c60 c61 c62 c63 c64 c65 c66 c67 c68 c69 c70 c71 c72 c73 c74 c75 c76 c77 c78 c79 c80 c81 c82 c83 c84 c85 c86 c87 c88 c89 c90 c91 c92 c93 c94 c95 c96 c97 c98 c99 c100 c101 c102 c103 c104 c105 c106 c107 c108 c109 c110 c111 c112 c113 c114 c115 c116 c117 c118 c119 c120 c121 c122 c123 c124 c125 c126 c127 c128 c129 c130 c131 c132 c133 c134 c135 c136 c137 c138 c139 c140 c141 c142 c143 c144 c145 c146 c147 c148 c149 c150 c151 c152 c153 c154 c155 c156 c157 c158 c159 c160 c161 c162 c179 c180 c181 c182 c183 c184 c185 c186 c187 c188 c189 c190 c191 c192 c193 c194 c195 c196 c197 : Value) (u163 u164 u165 u166 u167 u168 u169 u170 u171 u172 u173 u174 u175 u176 u177 u178 : Value) (h v : Pure.W4) (bh bv : Nat) (hne : bv ≠ bh) (w0 : World) (hH : Blk w0 bh 38 (u32s h.list).toArray) (hV : Blk w0 bv 38 (u32s v.list).toArray) (Q0 : Exit → Act → World → Prop)
    (hQ : ∀ (c : List PanicEntry) (a : Act) (d : Option Nat) (v : Value) (w : World), Q0 (.panic c) (a.put d v) w → Q0 (.panic c) a w)
    (hexit : ∀ (v163 v164 v165 v166 v167 v168 v169 v170 v171 v172 v173 v174 v175 v176 v177 v178 : Value) (wr : World), Blk wr bh 38 (u32s (Pure.W4.list ⟨h.a + v.a, h.b + v.b, h.c + v.c, h.d + v.d⟩)).toArray → Keeps (only bh) w0 wr → Q0 (.exit 6) { tmps := (c0 :: c1 :: c2 :: .slice (some ⟨bh, 0, none⟩) 4 4 :: c4 :: c5 :: c6 :: c7 :: c8 :: c9 :: .slice (some ⟨bv, 0, none⟩) 4 4 :: c11 :: c12 :: c13 :: c14 :: .int .i64 ((4 : Nat) : Int) :: c16 :: c17 :: c18 :: c19 :: c20 :: c21 :: c22 :: c23 :: c24 :: c25 :: c26 :: c27 :: c28 :: c29 :: c30 :: c31 :: c32 :: c33 :: c34 :: c35 :: c36 :: c37 :: c38 :: c39 :: c40 :: c41 :: c42 :: c43 :: c44 :: c45 :: c46 :: c47 :: c48 :: c49 :: c50 :: c51 :: c52 :: c53 :: c54 :: c55 :: c56 :: c57 :: c58 :: c59 :: c60 :: c61 :: c62 :: c63 :: c64 :: c65 :: c66 :: c67 :: c68 :: c69 :: c70 :: c71 :: c72 :: c73 :: c74 :: c75 :: c76 :: c77 :: c78 :: c79 :: c80 :: c81 :: c82 :: c83 :: c84 :: c85 :: c86 :: c87 :: c88 :: c89 :: c90 :: c91 :: c92 :: c93 :: c94 :: c95 :: c96 :: c97 :: c98 :: c99 :: c100 :: c101 :: c102 :: c103 :: c104 :: c105 :: c106 :: c107 :: c108 :: c109 :: c110 :: c111 :: c112 :: c113 :: c114 :: c115 :: c116 :: c117 :: c118 :: c119 :: c120 :: c121 :: c122 :: c123 :: c124 :: c125 :: c126 :: c127 :: c128 :: c129 :: c130 :: c131 :: c132 :: c133 :: c134 :: c135 :: c136 :: c137 :: c138 :: c139 :: c140 :: c141 :: c142 :: c143 :: c144 :: c145 :: c146 :: c147 :: c148 :: c149 :: c150 :: c151 :: c152 :: c153 :: c154 :: c155 :: c156 :: c157 :: c158 :: c159 :: c160 :: c161 :: c162 :: v163 :: v164 :: v165 :: v166 :: v167 :: v168 :: v169 :: v170 :: v171 :: v172 :: v173 :: v174 :: v175 :: v176 :: v177 :: v178 :: c179 :: c180 :: c181 :: c182 :: c183 :: c184 :: c185 :: c186 :: c187 :: c188 :: c189 :: c190 :: c191 :: c192 :: c193 :: c194 :: c195 :: c196 :: c197 :: []).toArray, defers := [] } wr) :
    Code.wp Tryd.prog (Code.loop docBody4) Q0 { tmps := (c0 :: c1 :: c2 :: .slice (some ⟨bh, 0, none⟩) 4 4 :: c4 :: c5 :: c6 :: c7 :: c8 :: c9 :: .slice (some ⟨bv, 0, none⟩) 4 4 :: c11 :: c12 :: c13 :: c14 :: .int .i64 0 :: c16 :: c17 :: c18 :: c19 :: c20 :: c21 :: c22 :: c23 :: c24 :: c25 :: c26 :: c27 :: c28 :: c29 :: c30 :: c31 :: c32 :: c33 :: c34 :: c35 :: c36 :: c37 :: c38 :: c39 :: c40 :: c41 :: c42 :: c43 :: c44 :: c45 :: c46 :: c47 :: c48 :: c49 :: c50 :: c51 :: c52 :: c53 :: c54 :: c55 :: c56 :: c57 :: c58 :: c59 :: c60 :: c61 :: c62 :: c63 :: c64 :: c65 :: c66 :: c67 :: c68 :: c69 :: c70 :: c71 :: c72 :: c73 :: c74 :: c75 :: c76 :: c77 :: c78 :: c79 :: c80 :: c81 :: c82 :: c83 :: c84 :: c85 :: c86 :: c87 :: c88 :: c89 :: c90 :: c91 :: c92 :: c93 :: c94 :: c95 :: c96 :: c97 :: c98 :: c99 :: c100 :: c101 :: c102 :: c103 :: c104 :: c105 :: c106 :: c107 :: c108 :: c109 :: c110 :: c111 :: c112 :: c113 :: c114 :: c115 :: c116 :: c117 :: c118 :: c119 :: c120 :: c121 :: c122 :: c123 :: c124 :: c125 :: c126 :: c127 :: c128 :: c129 :: c130 :: c131 :: c132 :: c133 :: c134 :: c135 :: c136 :: c137 :: c138 :: c139 :: c140 :: c141 :: c142 :: c143 :: c144 :: c145 :: c146 :: c147 :: c148 :: c149 :: c150 :: c151 :: c152 :: c153 :: c154 :: c155 :: c156 :: c157 :: c158 :: c159 :: c160 :: c161 :: c162 :: u163 :: u164 :: u165 :: u166 :: u167 :: u168 :: u169 :: u170 :: u171 :: u172 :: u173 :: u174 :: u175 :: u176 :: u177 :: u178 :: c179 :: c180 :: c181 :: c182 :: c183 :: c184 :: c185 :: c186 :: c187 :: c188 :: c189 :: c190 :: c191 :: c192 :: c193 :: c194 :: c195 :: c196 :: c197 :: []).toArray, defers := [] } w0 := by
  conv => arg 2; arg 1; whnf
  have HH0 := Lib.hid hH
  have HV := Lib.hid hV
  have HNE := Lib.hid hne
  clear hH hV hne
  go_loopw [15] (fun i wr => ∃ q : Nat, q ≤ 4 ∧ i = .int .i64 (q : Int) ∧ Blk wr bh 38 (u32s (Pure.sumTo h v q)).toArray ∧ Keeps (only bh) w0 wr) (fun i _ => 4 - (intOf i).toNat)
  case atStart => exact ⟨0, by omega, rfl, by rw [Pure.sumTo_zero]; exact HH0.out, Keeps.refl _ _⟩
  case round =>
    clear HH0
    obtain ⟨q, hq, rfl, hS, hK⟩ := hrel
    by_cases hql : q < 4
    · clear hexit
      have hi0 : (0 : Int) ≤ (q : Int) := by omega
      have hi1 : (q : Int) < 4 := by omega
      have hV := HV.out.keeps hK (fun e => HNE.out e)
      have hnext := Pure.sumTo_succ h v q hql
      obtain ⟨S, hSS⟩ : ∃ S, S = Pure.sumTo h v q := ⟨_, rfl⟩
      have hS4 : S.length = 4 := by rw [hSS]; rfl
      rw [← hSS] at hS hnext
      obtain ⟨L, hL⟩ : ∃ L, L = v.list := ⟨_, rfl⟩
      have hL4 : L.length = 4 := by rw [hL]; rfl
      rw [← hL] at hV hnext
      obtain ⟨y, hy⟩ : ∃ y, y = S.getD q 0 := ⟨_, rfl⟩
      obtain ⟨z, hz⟩ : ∃ z, z = L.getD q 0 := ⟨_, rfl⟩
      have k0 : wr.cell? ⟨bh, q, none⟩ = some (.int .u32 y.toNat) := by rw [hS.cell, hy, ← u32s_at S q (by omega)]; simp
      have k1 : wr.cell? ⟨bv, q, none⟩ = some (.int .u32 z.toNat) := by rw [hV.cell, hz, ← u32s_at L q (by omega)]; simp
      have f0 : wr.frozen? ⟨bh, q, none⟩ = false := hS.frozen q
      obtain ⟨s, hs⟩ : ∃ s, s = y + z := ⟨_, rfl⟩
      have a1 := add_u32 y z
      rw [← hs] at a1
      rw [← hy, ← hz, ← hs] at hnext
      have HS := Lib.hid hS
      have HN := Lib.hid hnext
      have HK := Lib.hid hK
      clear hV hK hSS hS4 hL hL4 hy hz hs hS hnext
      go_upto_region 30 with fail
      refine wp_region_Z (fun w' => w'.cell? ⟨bh, q, none⟩ = some (.int .u32 y.toNat) ∧ w'.cell? ⟨bv, q, none⟩ = some (.int .u32 z.toNat)) 12 13 rfl (by kernel_rfl) ⟨k0, k1⟩ (fun hHeld => ?_)
      iterate 12
        refine wpAnyZ_next rfl (by kernel_rfl) (fun _ _ _ h => hQ _ _ _ _ _ h) (Or.inl ⟨by rfl, by intro w hSw; obtain ⟨s0, s1⟩ := hSw; go_simp; try with_reducible rfl⟩) hHeld.out ?_
        simp only [Act.put, List.setIfInBounds_toArray, Nat.reduceAdd, List.getElem_toArray, List.getElem_cons_succ, List.getElem_cons_zero, List.set_cons_succ, List.set_cons_zero]
      refine wpAnyZ_step (by kernel_rfl) rfl (fun K hK => ?_)
      clear hHeld
      go_simp
      refine hK.out _ _ (fun h => absurd rfl h) ?_
      clear hK K
      refine wpAnyZ_done (by kernel_rfl) ?_ _
      go_wp2_with fail
      go_roundw
      case rel =>
        refine ⟨q + 1, by omega, by go_num, ?_, ?_⟩
        · rw [HN.out, ← u32s_set, a1]
          exact (HS.out.set q _).drew
        · exact (HK.out.store bh q (fun _ => only_self bh) _).drew
      case measure => simp [intOf]; omega
    · have hqq : q = 4 := by omega
      subst hqq
      clear hq hql
      go_wp2_with fail
      exact hexit _ _ _ _ _ _ _ _ _ _ _ _ _ _ _ _ wr (by rw [← Pure.sumTo_four]; exact hS) hK
end Go.Proofs.YtkllaghfiofnjaaDoor
