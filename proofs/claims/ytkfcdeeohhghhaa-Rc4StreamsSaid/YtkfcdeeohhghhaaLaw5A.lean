/- What the laws on the cipher begin with. -/
import Derived.Test.YtkfcdeeohhghhaaFrame
import Derived.Test.YtkfcdeeohhghhaaMarked
import Derived.Test.YtkfcdeeohhghhaaRc4E
namespace Go.Proofs.Ytkfcdeeohhghhaa
open Go.RowKit

theorem key_two : ((Pure.Rc.new [75, 101, 121]).xor [80, 108]).2 = [187, 243] := by decide +kernel
theorem key_n : ((Pure.Rc.new [75, 101, 121]).xor [80, 108]).1.n = 2 := by rw [Pure.Rc.xor_n]; rfl
/-- A slice of bytes that was just made. -/
theorem fresh_row {w : World} {base n : Nat} {u : Value} {l : List UInt8} (h : w.ownsRow base 5 1 u n (u8s l)) : Row w (fun b => base ≤ b) 1 u n (u8s l) := (Row.of_own h).mono (fun b hb => ownsRow_ge h b hb)

section
variable {w0 wr : World}
theorem xorL {F : Nat → Prop} {x : Value} {bs : List UInt8} {g : Nat} {c : Pure.Rc} (B : Below w0.heap.size w0 wr) (ho : KObj wr g c) (hg : w0.heap.size ≤ g) (hr : Row wr F 1 x bs.length (u8s bs)) (hF : ¬ F g) (hl : bs.length ≤ 100000000) (hn : c.n ≤ 1000000000) :
    Calls Try.prog 13 #[.pointer (some ⟨g, 0, none⟩), x] wr fun e w' => ∃ A cap, e = .returned (.slice A bs.length cap) ∧ w'.ownsRow wr.heap.size 5 1 (.slice A bs.length cap) bs.length (u8s (c.xor bs).2) ∧
      KObj w' g (c.xor bs).1 ∧ Keeps (only g) wr w' ∧ Below w0.heap.size w0 w' :=
  (xor_key F x bs g c wr hr hF hl ho hn).mono fun e w' ⟨u, he, hu, hk, hK⟩ => by
    obtain ⟨A, cap, rfl⟩ := own_form hu
    exact ⟨A, cap, he, hu, hk, hK, Below.keeps B hK B.size (fun i hi => by unfold only at hi; omega)⟩
theorem xorT {A : Option Addr} {len cap : Nat} {g id n : Nat} (B : Below w0.heap.size w0 wr) (ho : TObj wr g id n) (hg : w0.heap.size ≤ g) (h1 : id < 1024) (h2 : n + len < 1000000000) :
    Calls Try.prog 13 #[.pointer (some ⟨g, 0, none⟩), .slice A len cap] wr fun e w' => ∃ A cap, e = .returned (.slice A len cap) ∧ w'.ownsRow wr.heap.size 5 1 (.slice A len cap) len (u8s (Pure.term id n len)) ∧
      TObj w' g id (n + len) ∧ Keeps (only g) wr w' ∧ Below w0.heap.size w0 w' :=
  (xor_term A len cap g id n wr ho h1 h2).mono fun e w' ⟨u, he, hu, hk, hK⟩ => by
    obtain ⟨A, cap, rfl⟩ := own_form hu
    exact ⟨A, cap, he, hu, hk, hK, Below.keeps B hK B.size (fun i hi => by unfold only at hi; omega)⟩
theorem cloneL {g : Nat} {c : Pure.Rc} (B : Below w0.heap.size w0 wr) (ho : KObj wr g c) :
    Calls Try.prog 16 #[.pointer (some ⟨g, 0, none⟩)] wr fun e w' => ∃ h, e = .returned (.pointer (some ⟨h, 0, none⟩)) ∧ wr.heap.size ≤ h ∧ KObj w' h c ∧ Keeps nobody wr w' ∧ Below w0.heap.size w0 w' :=
  (kclone_any g 1 c.s c.i c.j 0 c.n wr ho.blk ho.ok.s (.inl rfl)).mono fun e w' ⟨he, hb, hB⟩ => ⟨_, he, Nat.le_refl _, ⟨hb, ho.ok⟩, Keeps.new hB, B.trans (hB.mono B.size)⟩
theorem cloneT {g id n : Nat} (B : Below w0.heap.size w0 wr) (ho : TObj wr g id n) :
    Calls Try.prog 16 #[.pointer (some ⟨g, 0, none⟩)] wr fun e w' => ∃ h, e = .returned (.pointer (some ⟨h, 0, none⟩)) ∧ wr.heap.size ≤ h ∧ TObj w' h id n ∧ Keeps nobody wr w' ∧ Below w0.heap.size w0 w' :=
  (kclone_any g 2 zero256 0 0 id n wr ho.blk zero256_length (.inr rfl)).mono fun e w' ⟨he, hb, hB⟩ => ⟨_, he, Nat.le_refl _, ⟨hb⟩, Keeps.new hB, B.trans (hB.mono B.size)⟩
theorem offsetL {g : Nat} {c : Pure.Rc} (ho : KObj wr g c) : Calls Try.prog 18 #[.pointer (some ⟨g, 0, none⟩)] wr fun e w' => e = .returned (.int .i64 c.n) ∧ wr = w' :=
  offset_any g 1 c.s c.i c.j 0 c.n wr ho.blk ho.ok.s (.inl rfl)
theorem offsetT {g id n : Nat} (ho : TObj wr g id n) : Calls Try.prog 18 #[.pointer (some ⟨g, 0, none⟩)] wr fun e w' => e = .returned (.int .i64 n) ∧ wr = w' :=
  offset_any g 2 zero256 0 0 id n wr ho.blk zero256_length (.inr rfl)
theorem newL {F : Nat → Prop} {x : Value} {key : List UInt8} (B : Below w0.heap.size w0 wr) (hr : Row wr F 1 x key.length (u8s key)) (h0 : 0 < key.length) (h1 : key.length ≤ 256) :
    Calls Try.prog 10 #[x] wr fun e w' => ∃ g, e = .returned (.tuple #[.pointer (some ⟨g, 0, none⟩), .int .i64 0]) ∧ wr.heap.size ≤ g ∧ KObj w' g (Pure.Rc.new key) ∧ Keeps nobody wr w' ∧ Below w0.heap.size w0 w' :=
  (new_ok F x key wr hr h0 h1).mono fun e w' ⟨g, he, hg, ho, hB⟩ => ⟨g, he, hg, ho, Keeps.new hB, B.trans (hB.mono B.size)⟩
theorem symbolL {id : Nat} (B : Below w0.heap.size w0 wr) :
    Calls Try.prog 11 #[.int .i64 id] wr fun e w' => ∃ g, e = .returned (.pointer (some ⟨g, 0, none⟩)) ∧ wr.heap.size ≤ g ∧ TObj w' g id 0 ∧ Keeps nobody wr w' ∧ Below w0.heap.size w0 w' :=
  (symbol_any id wr).mono fun e w' ⟨he, ho, hB⟩ => ⟨_, he, Nat.le_refl _, ho, Keeps.new hB, B.trans (hB.mono B.size)⟩
theorem sameL {F G : Nat → Prop} {x y : Value} {a b : List UInt8} (B : Below w0.heap.size w0 wr) (hx : Row wr F 1 x a.length (u8s a)) (hy : Row wr G 1 y b.length (u8s b)) :
    Calls Try.prog 12 #[x, y] wr fun e w' => e = .returned (.bool (decide (a = b))) ∧ Keeps nobody wr w' ∧ Below w0.heap.size w0 w' :=
  (same_any F G x y a b wr hx hy).mono fun e w' ⟨he, hK⟩ => ⟨he, hK, Below.quiet B hK B.size⟩
theorem sameN {F G : Nat → Prop} {x y : Value} {a b : List UInt8} {n m : Nat} (B : Below w0.heap.size w0 wr) (hx : Row wr F 1 x n (u8s a)) (hy : Row wr G 1 y m (u8s b)) (ha : a.length = n) (hb : b.length = m) :
    Calls Try.prog 12 #[x, y] wr fun e w' => e = .returned (.bool (decide (a = b))) ∧ Keeps nobody wr w' ∧ Below w0.heap.size w0 w' := by
  subst ha hb
  exact sameL B hx hy
theorem sameY {F G : Nat → Prop} {x y : Value} {a b : List UInt8} {n m : Nat} (B : Below w0.heap.size w0 wr) (hx : Row wr F 1 x n (u8s a)) (hy : Row wr G 1 y m (u8s b)) (ha : a.length = n) (hab : a = b) :
    Calls Try.prog 12 #[x, y] wr fun e w' => e = .returned (.bool true) ∧ Keeps nobody wr w' ∧ Below w0.heap.size w0 w' := by
  have hm : b.length = m := by have := hy.1; simpa using this
  exact (sameN B hx hy ha hm).mono fun e w' ⟨he, h⟩ => ⟨by rw [he, decide_eq_true hab], h⟩
end
theorem below_drew {B : Nat} {a w : World} (h : Below B a w) : Below B a w.drew := ⟨h.os, h.tape, h.output, h.size, h.block⟩
/-- A slice of bytes that was made, in a later world. -/
theorem own_only {w w' : World} {base g n : Nat} {u : Value} {l : List UInt8} (h : w.ownsRow base 5 1 u n (u8s l)) (k : Keeps (only g) w w') (hg : g < base) : w'.ownsRow base 5 1 u n (u8s l) :=
  ownsRow_keeps h k (fun b hb hs => by have := ownsRow_ge h b hb; unfold only at hs; omega)
theorem own_quiet {w w' : World} {base n : Nat} {u : Value} {l : List UInt8} (h : w.ownsRow base 5 1 u n (u8s l)) (k : Keeps nobody w w') : w'.ownsRow base 5 1 u n (u8s l) := ownsRow_keeps h k (fun _ _ h => h)

set_option maxRecDepth 100000 in
set_option maxHeartbeats 2000000 in
theorem awake_any (w : World) : Calls Try.prog 9 #[] w fun e w' => e = .returned (.bool true) ∧ Below w.heap.size w w' := by
  have kc := fun (w : World) (C : Array Value) (n c : Nat) => Lib.run_convert_bytes_const (P := Try.prog) w 27 5 C n c Try.underlying27 Try.underlying5
  have hr0 : Row (w.alloc (.cells #[.int .u8 75, .int .u8 101, .int .u8 121] 5 (3, 4))) (fun _ => True) 1 (.slice (some ⟨w.heap.size, 0, none⟩) 3 3) [75, 101, 121].length (u8s [75, 101, 121]) :=
    Row.marked w 5 #[.int .u8 75, .int .u8 101, .int .u8 121] (3, 4) trivial rfl (by simp [maxLen]) (Nat.le_refl _)
  have hb0 : Below w.heap.size w (w.alloc (.cells #[.int .u8 75, .int .u8 101, .int .u8 121] 5 (3, 4))) := (Below.refl _ w).alloc (Nat.le_refl _) _
  have HN := Lib.hid (new_ok _ _ _ _ hr0 (by simp) (by simp))
  have B0 := Lib.hid hb0
  clear hr0 hb0
  go_enter Try.func9, Try.ntmps9
  go_wp2_with fail
  refine HN.out.mono ?_
  rintro e w1 ⟨g, rfl, hg, ho, hb⟩
  obtain ⟨c, hc⟩ : ∃ c, c = Pure.Rc.new [75, 101, 121] := ⟨_, rfl⟩
  rw [← hc] at ho
  have hg2 : w.heap.size ≤ g := by have := B0.out.size; omega
  have B1 := Lib.hid (B0.out.trans (hb.mono B0.out.size))
  have O1 := Lib.hid ho
  have h2 := key_two
  have h3 := key_n
  rw [← hc] at h2 h3
  have H2 := Lib.hid h2
  have H3 := Lib.hid h3
  have hr2 : Row (w1.alloc (.cells #[.int .u8 80, .int .u8 108] 5 (2, 3))) (fun b => b = w1.heap.size) 1 (.slice (some ⟨w1.heap.size, 0, none⟩) 2 2) [80, 108].length (u8s [80, 108]) :=
    Row.marked w1 5 #[.int .u8 80, .int .u8 108] (2, 3) rfl rfl (by simp [maxLen]) (Nat.le_refl _)
  have hlt := ho.lt
  have hn0 : c.n = 0 := by rw [hc]; rfl
  have B2 := Lib.hid (B1.out.alloc B1.out.size (.cells #[.int .u8 80, .int .u8 108] 5 (2, 3)))
  have HX := Lib.hid (xorL B2.out ((O1.out.keeps ((Keeps.refl nobody w1).alloc _)) (fun h => h)) hg2 hr2 (by omega) (by simp) (by omega))
  clear hb ho hr2 HN B0 h2 h3 hn0 hc hg
  go_wp2_with fail
  refine HX.out.mono ?_
  rintro e w3 ⟨A3, c3, rfl, hu, hk, hK, hB3⟩
  rw [H2.out] at hu
  have U3 := Lib.hid hu
  have K3 := Lib.hid hk
  have B3 := Lib.hid hB3
  have hsz : w1.heap.size + 1 ≤ w3.heap.size := by have := hK.size; simpa using this
  have hr4 : Row (w3.alloc (.cells #[.int .u8 187, .int .u8 243] 5)) (fun b => b = w3.heap.size) 1 (.slice (some ⟨w3.heap.size, 0, none⟩) 2 2) [187, 243].length (u8s [187, 243]) :=
    row_new w3 [187, 243] #[.int .u8 187, .int .u8 243] 2 rfl rfl (by simp)
  have hk4 : Keeps nobody w3 (w3.alloc (.cells #[.int .u8 187, .int .u8 243] 5)) := (Keeps.refl _ w3).alloc _
  have HS := Lib.hid (sameL (Below.quiet B3.out hk4 B3.out.size) (Row.of_own (own_quiet U3.out hk4)) hr4)
  have K4 := Lib.hid (K3.out.keeps hk4 (fun h => h))
  clear hu hk hK hB3 hr4 hk4 HX
  go_wp2_with fail
  refine HS.out.mono ?_
  rintro e w5 ⟨rfl, hk5, hb5⟩
  have K5 := Lib.hid (K4.out.keeps hk5 (fun h => h))
  have B5 := Lib.hid hb5
  have HO := Lib.hid (offsetL K5.out)
  rw [H3.out] at HO
  clear hk5 hb5 HS kc
  go_wp2_with (go_at_call 18; refine HO.out.mono ?_; rintro e w' ⟨rfl, rfl⟩)
  go_ret
  exact ⟨rfl, B5.out⟩
end Go.Proofs.Ytkfcdeeohhghhaa
