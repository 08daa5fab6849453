/- The digests of chapters 6 and 7 over lists of bytes: padding, words, steps, blocks. -/
import Derived.Laws.Tables
import Derived.Laws.CopyOwn
import Derived.BigRegion
import Derived.Control
import Derived.Test.YtmgicbckgpdkcaaGreatDoorC2
namespace Go.Proofs.YtmgicbckgpdkcaaGreatDoor
set_option maxRecDepth 100000
set_option maxHeartbeats 1000000
namespace Pure
def noughts (n : Nat) : Nat := (119 - n % 64) % 64
theorem noughts_spec (n : Nat) : (n + 1 + noughts n) % 64 = 56 := by unfold noughts; omega
theorem noughts_least (n k : Nat) (h : k < noughts n) : (n + 1 + k) % 64 ≠ 56 := by unfold noughts at h; omega
def lenByte (low : Bool) (n i : Nat) : UInt8 := UInt8.ofNat (8 * n / 2 ^ (if low then 8 * i else 56 - 8 * i))
def lenBytes (low : Bool) (n k : Nat) : List UInt8 := (List.range k).map (lenByte low n)
def pad (low : Bool) (b : List UInt8) : List UInt8 := b ++ [128] ++ List.replicate (noughts b.length) 0 ++ lenBytes low b.length 8
theorem ybk (low : Bool) (b : List UInt8) : (pad low b).length = b.length + 1 + noughts b.length + 8 := by simp [pad, lenBytes]; omega
theorem pad_blocks (low : Bool) (b : List UInt8) : (pad low b).length % 64 = 0 := by
 rw [ybk]
 have := noughts_spec b.length
 omega
theorem pad_le (low : Bool) (b : List UInt8) : (pad low b).length ≤ b.length + 72 := by
 rw [ybk]
 unfold noughts
 omega
def rotl (x : UInt32) (n : Nat) : UInt32 := x <<< UInt32.ofNat n ||| x >>> UInt32.ofNat (32 - n)
def y3c (m : List UInt8) (at' : Nat) : Nat → List UInt32
 | 0 => List.replicate 16 0
 | i + 1 => (y3c m at' i).set (i / 4) ((y3c m at' i).getD (i / 4) 0 ||| (m.getD (at' + i) 0).toUInt32 <<< UInt32.ofNat (8 * (i % 4)))
theorem y53 (m : List UInt8) (at' : Nat) : ∀ i, (y3c m at' i).length = 16
 | 0 => rfl
 | i + 1 => by simp only [y3c, List.length_set]; exact y53 m at' i
structure W4 where
 a : UInt32
 b : UInt32
 c : UInt32
 d : UInt32
def md4F (s : Nat) (b c d : UInt32) : UInt32 := if s < 16 then b &&& c ||| ~~~b &&& d else if s < 32 then b &&& c ||| b &&& d ||| c &&& d else b ^^^ c ^^^ d
def md4T (s : Nat) : UInt32 := if s < 16 then 0 else if s < 32 then 0x5a827999 else 0x6ed9eba1
def md4Order : List Nat := [0, 1, 2, 3, 4, 5, 6, 7, 8, 9, 10, 11, 12, 13, 14, 15, 0, 4, 8, 12, 1, 5, 9, 13, 2, 6, 10, 14, 3, 7, 11, 15, 0, 8, 4, 12, 2, 10, 6, 14, 1, 9, 5, 13, 3, 11, 7, 15]
def md4Turns : List Nat := [3, 7, 11, 19, 3, 5, 9, 13, 3, 9, 11, 15]
def md4Step (x : List UInt32) (s : Nat) (v : W4) : W4 :=
 ⟨v.d, rotl (v.a + md4F s v.b v.c v.d + x.getD (md4Order.getD s 0) 0 + md4T s) (md4Turns.getD (s / 16 * 4 + s % 4) 0), v.b, v.c⟩
def md4Steps (x : List UInt32) (v : W4) : Nat → W4
 | 0 => v
 | s + 1 => md4Step x s (md4Steps x v s)
def md4Start : W4 := ⟨0x67452301, 0xefcdab89, 0x98badcfe, 0x10325476⟩
def y5n (m : List UInt8) : Nat → W4
 | 0 => md4Start
 | k + 1 =>
  let h := y5n m k
  let v := md4Steps (y3c m (64 * k) 64) h 48
  ⟨h.a + v.a, h.b + v.b, h.c + v.c, h.d + v.d⟩
def W4.list (v : W4) : List UInt32 := [v.a, v.b, v.c, v.d]
def outLow (h : List UInt32) (i : Nat) : UInt8 := (h.getD (i / 4) 0 >>> UInt32.ofNat (8 * (i % 4))).toUInt8
def md4 (b : List UInt8) : List UInt8 := (List.range 16).map (outLow (y5n (pad true b) ((pad true b).length / 64)).list)
theorem md4_length (b : List UInt8) : (md4 b).length = 16 := by simp [md4]
end Pure
open Go.RowKit
def lenOf : Value → Nat
 | .slice _ n _ => n
 | _ => 0
theorem y6v (low : Bool) (n k : Nat) : (Pure.lenBytes low n k).length = k := by simp [Pure.lenBytes]
theorem new1 (W : World) (x : UInt8) : Row (W.alloc (.cells #[.int .u8 x.toNat] 5)) (fun b => b = W.heap.size) 1 (.slice (some ⟨W.heap.size, 0, none⟩) 1 1) 1 (u8s [x]) := y7g W [x] _ _ rfl rfl (by simp)
theorem left_eq (x : UInt32) (n : Nat) (h1 : 1 ≤ n) (hn : n < 32) : bits .or .u32 ((x.toNat : Int) * 2 ^ n % 4294967296) ((x.toNat : Int) / 2 ^ (32 - n)) = (((Pure.rotl x n).toNat : Nat) : Int) := by
 rw [shl_u32 x n hn, shr_u32 x (32 - n) (by omega), y8z]
 rfl
theorem yd0 (x : UInt32) (n : Nat) (h1 : 1 ≤ n) (hn : n < 32) (w : World) : Calls Tryz.prog 211 #[.int .u32 x.toNat, .int .i64 n] w fun e w' => e = .returned (.int .u32 ((Pure.rotl x n).toNat)) ∧ w' = w := by
 have h0 : (0 : Int) ≤ n := by omega
 have h2 : (n : Int) < 32 := by omega
 have h3 : (n : Int) ≤ 32 := by omega
 have he := left_eq x n h1 hn
 have hm : bits .and .u64 (n : Int) 31 = (n : Int) := by
  have := u64_and_nat n 31 (by omega) (by omega)
  rw [show n &&& 31 = n from by have := Nat.and_two_pow_sub_one_eq_mod n 5; rw [show (2:Nat)^5 - 1 = 31 from rfl] at this; rw [this]; omega] at this
  exact this
 go_enter Tryz.func211, Tryz.ntmps211
 go_wp2
 go_ret
 exact ⟨rfl, rfl⟩
theorem choice_any (x y z r : UInt32) (hr : r = x &&& y ||| ~~~x &&& z) (w : World) : Calls Tryz.prog 212 #[.int .u32 x.toNat, .int .u32 y.toNat, .int .u32 z.toNat] w fun e w' => e = .returned (.int .u32 r.toNat) ∧ w' = w := by
 obtain ⟨a, ha⟩ : ∃ a, a = x &&& y := ⟨_, rfl⟩
 obtain ⟨b, hb⟩ : ∃ b, b = ~~~x := ⟨_, rfl⟩
 obtain ⟨c, hc⟩ : ∃ c, c = b &&& z := ⟨_, rfl⟩
 rw [← ha, ← hb, ← hc] at hr
 have ea := y7b x y
 rw [← ha] at ea
 have eb := not_u32 x
 rw [← hb] at eb
 have ec := y7b b z
 rw [← hc] at ec
 have er := y8z a c
 rw [← hr] at er
 clear ha hb hc hr
 go_enter Tryz.func212, Tryz.ntmps212
 go_wp2
 all_goals go_ret
 all_goals exact ⟨rfl, rfl⟩
theorem yfa (x y z r : UInt32) (hr : r = x &&& y ||| x &&& z ||| y &&& z) (w : World) : Calls Tryz.prog 213 #[.int .u32 x.toNat, .int .u32 y.toNat, .int .u32 z.toNat] w fun e w' => e = .returned (.int .u32 r.toNat) ∧ w' = w := by
 obtain ⟨a, ha⟩ : ∃ a, a = x &&& y := ⟨_, rfl⟩
 obtain ⟨b, hb⟩ : ∃ b, b = x &&& z := ⟨_, rfl⟩
 obtain ⟨c, hc⟩ : ∃ c, c = a ||| b := ⟨_, rfl⟩
 obtain ⟨d, hd⟩ : ∃ d, d = y &&& z := ⟨_, rfl⟩
 rw [← ha, ← hb, ← hc, ← hd] at hr
 have ea := y7b x y
 rw [← ha] at ea
 have eb := y7b x z
 rw [← hb] at eb
 have ec := y8z a b
 rw [← hc] at ec
 have ed := y7b y z
 rw [← hd] at ed
 have er := y8z c d
 rw [← hr] at er
 clear ha hb hc hd hr
 go_enter Tryz.func213, Tryz.ntmps213
 go_wp2
 all_goals go_ret
 all_goals exact ⟨rfl, rfl⟩
theorem parity_any (x y z r : UInt32) (hr : r = x ^^^ y ^^^ z) (w : World) : Calls Tryz.prog 214 #[.int .u32 x.toNat, .int .u32 y.toNat, .int .u32 z.toNat] w fun e w' => e = .returned (.int .u32 r.toNat) ∧ w' = w := by
 obtain ⟨a, ha⟩ : ∃ a, a = x ^^^ y := ⟨_, rfl⟩
 rw [← ha] at hr
 have ea := yda x y
 rw [← ha] at ea
 have er := yda a z
 rw [← hr] at er
 clear ha hr
 go_enter Tryz.func214, Tryz.ntmps214
 go_wp2
 all_goals go_ret
 all_goals exact ⟨rfl, rfl⟩
namespace Pure
def sumTo (h v : W4) (i : Nat) : List UInt32 := [h.a + (if 0 < i then v.a else 0), h.b + (if 1 < i then v.b else 0), h.c + (if 2 < i then v.c else 0), h.d + (if 3 < i then v.d else 0)]
theorem sumTo_zero (h v : W4) : sumTo h v 0 = h.list := by simp [sumTo, W4.list]
theorem sumTo_four (h v : W4) : sumTo h v 4 = W4.list ⟨h.a + v.a, h.b + v.b, h.c + v.c, h.d + v.d⟩ := by simp [sumTo, W4.list]
theorem sumTo_succ (h v : W4) (i : Nat) (hi : i < 4) : sumTo h v (i + 1) = (sumTo h v i).set i ((sumTo h v i).getD i 0 + v.list.getD i 0) := by
 rcases (show i = 0 ∨ i = 1 ∨ i = 2 ∨ i = 3 by omega) with rfl | rfl | rfl | rfl <;> simp [sumTo, W4.list]
theorem md4Turns_range (s : Nat) (hs : s < 48) : 1 ≤ md4Turns.getD (s / 16 * 4 + s % 4) 0 ∧ md4Turns.getD (s / 16 * 4 + s % 4) 0 < 32 := by
 have : ∀ s < 48, 1 ≤ md4Turns.getD (s / 16 * 4 + s % 4) 0 ∧ md4Turns.getD (s / 16 * 4 + s % 4) 0 < 32 := by decide
 exact this s hs
theorem md4Order_range (s : Nat) (hs : s < 48) : md4Order.getD s 0 < 16 := by
 have : ∀ s < 48, md4Order.getD s 0 < 16 := by decide
 exact this s hs
end Pure
theorem Keeps.rowSet {S : Nat → Prop} {a w : World} {g : Nat} (h : Keeps S a w) (hp : g < a.heap.size → S g) (cs : Array Value) : Keeps S a (w.setRow g cs) :=
 ⟨h.os, h.tape, h.output, by simpa using h.size, fun k hk hs => (setRow_other w g k cs (fun e => hs (e ▸ hp (e ▸ hk)))).trans (h.block k hk hs)⟩
theorem Blk.rowSet {w : World} {g : Nat} {t : TypeId} {old : Array Value} (h : Blk w g t old) (cs : Array Value) : Blk (w.setRow g cs) g t cs := setRow_heap w g old cs t (0, 0) h
theorem y2e (l : List UInt32) : (l.map fun (b : UInt32) => Value.int .u32 b.toNat).toArray.all (·.oneCell') = true := by simp [Value.oneCell']
theorem ye5 {P : Program} {o : Oper} {a : Act} {w : World} (ty : TypeId) (x : Operand) (ho : o.op = .load ty x)
  (g : Nat) (hx : a.eval x = .pointer (some ⟨g, 0, none⟩)) (t : TypeId) (cs : Array Value) (fr : Nat × Nat) (d : TypeDesc) (hg : w.heap[g]? = some (.cells cs t fr))
  (hu : P.underlying ty = some d) (hd : (match d with | .struct _ | .array _ _ => true | _ => false) = true) (hi : (P.info? ty).map (·.size) = some cs.size) :
  (execOp a.eval o).run P w = .ok (.value (.agg cs)) w := by
 unfold execOp
 simp only [ho, hx, Instr.loadAt, Instr.sureAddr, Sem.run_bind, Sem.run_pure, Result.andThen_ok, run_loadVar_row w g t ty cs fr d hg hu hd hi]
abbrev warr (l : List UInt32) : Value := .agg (u32s l).toArray
abbrev iarr (l : List Nat) : Value := .agg (ints l).toArray
theorem yel (t e : TypeId) (n : Nat) (cs : Array Value) (q : Nat) (v : Value) (W : World) (h : Tryz.prog.underlying t = some (.array n e)) (hq : q < n) (hv : cs[q]? = some v)
  (i : TypeInfo) (hi : Tryz.prog.info? e = some i) (hs : i.size = 1) (d : TypeDesc) (he : Tryz.prog.underlying e = some d) (hd : (match d with | .struct _ | .array _ _ => true | _ => false) = false) : (Instr.index t (.agg cs) (.int .i64 (q : Int))).run Tryz.prog W = .ok v W := by
 have hc : (0 : Int) ≤ (q : Int) ∧ (q : Int) < (n : Int) := by omega
 have e1 : (Instr.index t (.agg cs) (.int .i64 (q : Int))).run Tryz.prog W = (part e cs q).run Tryz.prog W := by
  have hnq : ¬ n ≤ q := by omega
  simp [Instr.index, run_underlying h, asIntOf, hnq, go_sem, sizeOf, typeInfo, hi, hs]
 rw [e1]
 have hagg : (isAgg e).run Tryz.prog W = .ok false W := by
  unfold isAgg
  rw [Sem.run_bind, run_underlying he W]
  cases d <;> simp_all
 simp [part, Sem.run_bind, hagg, hv]
theorem y4z (l : List Nat) (q : Nat) (v : Nat) (W : World) (hq : q < 16) (hv : (ints l)[q]? = some (.int .i64 (v : Int))) : (Instr.index 292 (.agg (ints l).toArray) (.int .i64 (q : Int))).run Tryz.prog W = .ok (.int .i64 (v : Int)) W := by
 obtain ⟨i0, hi0, hz0, hz1, hz2⟩ := info_parts int_info
 exact yel 292 3 16 _ q _ W Tryz.underlying292 hq (by simpa using hv) i0 hi0 hz1 _ Tryz.underlying3 rfl
namespace Pure
def hash (l : List UInt8) : Nat × List UInt8 := if (secret l).1 = 0 then (0, md4 (secret l).2) else ((secret l).1, [])
theorem hash_ok {l : List UInt8} (h : (secret l).1 = 0) : hash l = (0, md4 (secret l).2) := if_pos h
theorem hash_bad {l : List UInt8} (h : (secret l).1 ≠ 0) : hash l = ((secret l).1, []) := if_neg h
end Pure
end Go.Proofs.YtmgicbckgpdkcaaGreatDoor
