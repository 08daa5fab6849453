/- What package fsm answers; the statements' comparing of lists; awake. -/
import Derived.Test.YtjeekhgkcphnpaaFsmE
namespace Go.Proofs.Ytjeekhgkcphnpaa
open Go.RowKit
/-- What package fsm answers, wherever a machine lies. -/
structure FsmOk (Obj : World → (Nat → Prop) → Value → Pure.Mach → Prop) : Prop where
  keeps : ∀ {w w' : World} {S T : Nat → Prop} {v : Value} {m : Pure.Mach}, Obj w S v m → Keeps T w w' → (∀ b, S b → ¬ T b) → Obj w' S v m
  ptr : ∀ {w : World} {S : Nat → Prop} {v : Value} {m : Pure.Mach}, Obj w S v m → ∃ a, v = .pointer (some a)
  lt : ∀ {w : World} {S : Nat → Prop} {v : Value} {m : Pure.Mach}, Obj w S v m → ∀ b, S b → b < w.heap.size
  new : ∀ (t u : Nat) (w : World), mayBe t u → Calls Try.prog 14 #[.int .i64 t, .int .i64 u] w fun r w' => ∃ S v, r = .returned (.tuple #[v, .int .i64 0]) ∧ Obj w' S v (Pure.newMach t u) ∧ (∀ b, S b → w.heap.size ≤ b) ∧ Keeps nobody w w'
  newBad : ∀ (t u : Int) (w : World), ¬ mayBe t u → Calls Try.prog 14 #[.int .i64 t, .int .i64 u] w fun r w' => r = .returned (.tuple #[.pointer none, .int .i64 1]) ∧ Keeps nobody w w'
  act : ∀ (S : Nat → Prop) (v : Value) (m : Pure.Mach) (e : Int) (w : World), Obj w S v m → m.Good → m.tries ≤ 1000 → m.timeout ≤ 1000 →
    Calls Try.prog 15 #[v, .int .i64 e] w fun r w' => ∃ A c, r = .returned (.slice A (m.act2 e).1.length c) ∧ Row w' (fun b => w.heap.size ≤ b) 1 (.slice A (m.act2 e).1.length c) (m.act2 e).1.length (ints (m.act2 e).1) ∧ Obj w' S v (m.act2 e).2 ∧ Keeps S w w'
  tick : ∀ (S : Nat → Prop) (v : Value) (m : Pure.Mach) (w : World), Obj w S v m → m.Good → m.tries ≤ 1000 → m.timeout ≤ 1000 →
    Calls Try.prog 16 #[v] w fun r w' => ∃ A c, r = .returned (.slice A m.tick.1.length c) ∧ Row w' (fun b => w.heap.size ≤ b) 1 (.slice A m.tick.1.length c) m.tick.1.length (ints m.tick.1) ∧ Obj w' S v m.tick.2 ∧ Keeps S w w'
  state : ∀ (S : Nat → Prop) (v : Value) (m : Pure.Mach) (w : World), Obj w S v m → Calls Try.prog 18 #[v] w fun r w' => r = .returned (.int .i64 (m.state : Nat)) ∧ w = w'
  count : ∀ (S : Nat → Prop) (v : Value) (m : Pure.Mach) (w : World), Obj w S v m → Calls Try.prog 25 #[v] w fun r w' => r = .returned (.int .i64 (m.count : Nat)) ∧ w = w'
  running : ∀ (S : Nat → Prop) (v : Value) (m : Pure.Mach) (w : World), Obj w S v m → Calls Try.prog 19 #[v] w fun r w' => r = .returned (.bool (decide (0 < m.left))) ∧ w = w'
  step : ∀ (s e : Int) (w : World), Calls Try.prog 20 #[.int .i64 s, .int .i64 e] w fun r w' => ∃ A c, r = .returned (.tuple #[.slice A (Pure.fsmStep s e).1.length c, .int .i64 (Pure.fsmStep s e).2]) ∧ Row w' (fun b => w.heap.size ≤ b) 1 (.slice A (Pure.fsmStep s e).1.length c) (Pure.fsmStep s e).1.length (ints (Pure.fsmStep s e).1) ∧ Below w.heap.size w w'
theorem below_drew2 {B : Nat} {a w : World} (h : Below B a w) : Below B a w.drew := ⟨h.os, h.tape, h.output, h.size, h.block⟩
set_option maxRecDepth 100000 in
set_option maxHeartbeats 2000000 in
theorem ints_q (F G : Nat → Prop) (x y : Value) (a b : List Nat) (w : World) (hx : Row w F 1 x a.length (ints a)) (hy : Row w G 1 y b.length (ints b)) :
    Calls Try.prog 17 #[x, y] w fun e w' => e = .returned (.bool (decide (a = b))) ∧ ∃ n, w' = w.drewN n := by
  obtain ⟨A, c, rfl, hc⟩ := hx.form
  obtain ⟨B, d, rfl, hd⟩ := hy.form
  have ha := hx.2.1
  have hb := hy.2.1
  unfold maxLen at ha hb
  by_cases hl : a.length = b.length
  · have e1 : ((a.length : Int) != (b.length : Int)) = false := by rw [hl]; simp
    have HX := Lib.hid hx
    have HY := Lib.hid hy
    clear hx hy
    have HL := Lib.hid hl
    rw [← hl] at HY ⊢
    clear hl hb
    rw [← HL.out] at e1
    go_enter Try.func17, Try.ntmps17
    go_wp2
    clear e1
    go_loopw [5] (fun i wr => ∃ k : Nat, k ≤ a.length ∧ i = .int .i64 k ∧ a.take k = b.take k ∧ ∃ n, wr = w.drewN n) (fun i _ => a.length - (intOf i).toNat)
    case atStart => exact ⟨0, by omega, rfl, by simp, 0, rfl⟩
    case round =>
      obtain ⟨k, hk, rfl, htake, q, hq⟩ := hrel
      have HT := Lib.hid htake
      have HQ := Lib.hid hq
      have HK := Lib.hid (Keeps.of_drewN hq)
      clear htake hq
      by_cases hlt : k < a.length
      · obtain ⟨p, o, rfl, _, hcx⟩ := (HX.out.keeps HK.out (fun _ _ h => h)).cellAt (by omega)
        obtain ⟨p2, o2, rfl, _, hcy⟩ := (HY.out.keeps HK.out (fun _ _ h => h)).cellAt (by omega)
        have hlb : k < b.length := by have := HL.out; omega
        have c1 := hcx k _ (ints_at a k hlt)
        have c2 := hcy k _ (ints_at b k hlb)
        have hi0 : (0 : Int) ≤ (k : Int) := by omega
        have hi1 : (k : Int) < (a.length : Int) := by omega
        obtain ⟨X, hX⟩ : ∃ X : Nat, X = a.getD k 0 := ⟨_, rfl⟩
        obtain ⟨Y, hY⟩ : ∃ Y : Nat, Y = b.getD k 0 := ⟨_, rfl⟩
        rw [← hX] at c1
        rw [← hY] at c2
        have HX1 := Lib.hid hX
        have HY1 := Lib.hid hY
        clear hX hY hcx hcy
        by_cases hxy : X = Y
        · subst hxy
          have hne : ((X : Int) != (X : Int)) = false := by simp
          go_wp2_with fail
          go_quiet (fail)
          go_wp2
          go_roundw
          case rel =>
            refine ⟨k + 1, by omega, by go_num, ?_, _, by rw [HQ.out, World.drewN_drewN]⟩
            rw [List.take_succ_eq_append_getElem hlt, List.take_succ_eq_append_getElem hlb, HT.out]
            have : a[k] = b[k] := by
              have h1 := HX1.out
              have h2 := HY1.out
              rw [List.getD_eq_getElem?_getD, List.getElem?_eq_getElem hlt] at h1
              rw [List.getD_eq_getElem?_getD, List.getElem?_eq_getElem hlb] at h2
              exact h1.symm.trans h2
            rw [this]
          case measure => simp [intOf]; omega
        · have hne : ((X : Int) != (Y : Int)) = true := by rw [bne_iff_ne]; omega
          have hno : decide (a = b) = false := by
            rw [decide_eq_false_iff_not]
            rintro rfl
            exact hxy (HX1.out.trans HY1.out.symm)
          have HNO := Lib.hid hno
          clear hno
          go_wp2_with fail
          go_quiet (fail)
          go_wp2
          go_ret
          exact ⟨by rw [HNO.out]; rfl, _, by rw [HQ.out, World.drewN_drewN]⟩
      · have hk' : k = a.length := by omega
        have hyes : decide (a = b) = true := by
          rw [decide_eq_true_eq]
          have := HT.out
          rw [hk', List.take_length, HL.out, List.take_length] at this
          exact this
        have HYES := Lib.hid hyes
        clear hyes hk'
        go_wp2
        go_ret
        exact ⟨by rw [HYES.out]; rfl, _, HQ.out⟩
  · have e1 : ((a.length : Int) != (b.length : Int)) = true := by rw [bne_iff_ne]; omega
    have hno : decide (a = b) = false := by
      rw [decide_eq_false_iff_not]
      rintro rfl
      exact hl rfl
    have HNO := Lib.hid hno
    clear hno hl hx hy
    go_enter Try.func17, Try.ntmps17
    go_wp2
    go_ret
    exact ⟨by rw [HNO.out]; rfl, 0, rfl⟩
theorem ints_any (F G : Nat → Prop) (x y : Value) (a b : List Nat) (w : World) (hx : Row w F 1 x a.length (ints a)) (hy : Row w G 1 y b.length (ints b)) :
    Calls Try.prog 17 #[x, y] w fun e w' => e = .returned (.bool (decide (a = b))) ∧ Keeps nobody w w' :=
  (ints_q F G x y a b w hx hy).mono fun _ _ ⟨h, _, h2⟩ => ⟨h, Keeps.of_drewN h2⟩
section
variable {Obj : World → (Nat → Prop) → Value → Pure.Mach → Prop}
/-- A machine that a law made, in a later world. -/
structure Has (Obj : World → (Nat → Prop) → Value → Pure.Mach → Prop) (w0 w : World) (S : Nat → Prop) (v : Value) (m : Pure.Mach) : Prop where
  obj : Obj w S v m
  good : m.Good
  tries : m.tries ≤ 1000
  timeout : m.timeout ≤ 1000
  far : ∀ b, S b → w0.heap.size ≤ b
  below : Below w0.heap.size w0 w
theorem Has.keeps (H : FsmOk Obj) {w0 w w' : World} {S T : Nat → Prop} {v : Value} {m : Pure.Mach} (h : Has Obj w0 w S v m) (k : Keeps T w w') (hs : ∀ b, S b → ¬ T b) (hT : ∀ b, T b → w0.heap.size ≤ b) : Has Obj w0 w' S v m :=
  ⟨H.keeps h.obj k hs, h.good, h.tries, h.timeout, h.far, Below.keeps h.below k h.below.size hT⟩
theorem Has.quiet (H : FsmOk Obj) {w0 w w' : World} {S : Nat → Prop} {v : Value} {m : Pure.Mach} (h : Has Obj w0 w S v m) (k : Keeps nobody w w') : Has Obj w0 w' S v m := h.keeps H k (fun _ _ h => h) (fun _ h => h.elim)
theorem FsmOk.make (H : FsmOk Obj) {w0 w : World} (B : Below w0.heap.size w0 w) (t u : Nat) (h : mayBe t u) : Calls Try.prog 14 #[.int .i64 t, .int .i64 u] w fun r w' => ∃ S a, r = .returned (.tuple #[.pointer (some a), .int .i64 0]) ∧ Has Obj w0 w' S (.pointer (some a)) (Pure.newMach t u) ∧ (∀ b, S b → w.heap.size ≤ b) ∧ Keeps nobody w w' :=
  (H.new t u w h).mono fun r w' ⟨S, v, hr, ho, hs, hk⟩ => by
    obtain ⟨a, rfl⟩ := H.ptr ho
    unfold mayBe at h
    exact ⟨S, a, hr, ⟨ho, Pure.newMach_good (by omega) (by omega), by show t ≤ 1000; omega, by show u ≤ 1000; omega, fun b hb => Nat.le_trans B.size (hs b hb), Below.quiet B hk B.size⟩, hs, hk⟩
theorem Has.act (H : FsmOk Obj) {w0 w : World} {S : Nat → Prop} {v : Value} {m : Pure.Mach} (h : Has Obj w0 w S v m) (e : Int) :
    Calls Try.prog 15 #[v, .int .i64 e] w fun r w' => ∃ A c, r = .returned (.slice A (m.act2 e).1.length c) ∧ Row w' (fun b => w.heap.size ≤ b) 1 (.slice A (m.act2 e).1.length c) (m.act2 e).1.length (ints (m.act2 e).1) ∧ Has Obj w0 w' S v (m.act2 e).2 ∧ Keeps S w w' :=
  (H.act S v m e w h.obj h.good h.tries h.timeout).mono fun r w' ⟨A, c, hr, hrow, ho, hk⟩ =>
    ⟨A, c, hr, hrow, ⟨ho, (Pure.act2_good h.good e).1, by rw [(Pure.act2_good h.good e).2.1]; exact h.tries, by rw [(Pure.act2_good h.good e).2.2]; exact h.timeout, h.far, Below.keeps h.below hk h.below.size h.far⟩, hk⟩
theorem Has.tick (H : FsmOk Obj) {w0 w : World} {S : Nat → Prop} {v : Value} {m : Pure.Mach} (h : Has Obj w0 w S v m) :
    Calls Try.prog 16 #[v] w fun r w' => ∃ A c, r = .returned (.slice A m.tick.1.length c) ∧ Row w' (fun b => w.heap.size ≤ b) 1 (.slice A m.tick.1.length c) m.tick.1.length (ints m.tick.1) ∧ Has Obj w0 w' S v m.tick.2 ∧ Keeps S w w' :=
  (H.tick S v m w h.obj h.good h.tries h.timeout).mono fun r w' ⟨A, c, hr, hrow, ho, hk⟩ =>
    ⟨A, c, hr, hrow, ⟨ho, (Pure.tick_good h.good).1, by rw [(Pure.tick_good h.good).2.1]; exact h.tries, by rw [(Pure.tick_good h.good).2.2]; exact h.timeout, h.far, Below.keeps h.below hk h.below.size h.far⟩, hk⟩
/-- The same, where the actions and the next machine are known. -/
theorem Has.actAs (H : FsmOk Obj) {w0 w : World} {S : Nat → Prop} {v : Value} {m m' : Pure.Mach} {l : List Nat} (e : Int) (hm : m.act2 e = (l, m')) (h : Has Obj w0 w S v m) :
    Calls Try.prog 15 #[v, .int .i64 e] w fun r w' => ∃ A c, r = .returned (.slice A l.length c) ∧ Row w' (fun b => w.heap.size ≤ b) 1 (.slice A l.length c) l.length (ints l) ∧ Has Obj w0 w' S v m' ∧ Keeps S w w' := by
  have := h.act H e
  rw [hm] at this
  exact this
theorem Has.tickAs (H : FsmOk Obj) {w0 w : World} {S : Nat → Prop} {v : Value} {m m' : Pure.Mach} {l : List Nat} (hm : m.tick = (l, m')) (h : Has Obj w0 w S v m) :
    Calls Try.prog 16 #[v] w fun r w' => ∃ A c, r = .returned (.slice A l.length c) ∧ Row w' (fun b => w.heap.size ≤ b) 1 (.slice A l.length c) l.length (ints l) ∧ Has Obj w0 w' S v m' ∧ Keeps S w w' := by
  have := h.tick H
  rw [hm] at this
  exact this
theorem awake_mach : ((Pure.newMach 2 3).act2 0) = ([], ⟨2, 0, 0, 2, 3⟩) ∧ ((⟨2, 0, 0, 2, 3⟩ : Pure.Mach).act2 2) = ([4, 6], ⟨6, 1, 3, 2, 3⟩) := by decide +kernel
set_option maxRecDepth 100000 in
set_option maxHeartbeats 2000000 in
theorem awake_any (H : FsmOk Obj) (w : World) : Calls Try.prog 13 #[] w fun e w' => e = .returned (.bool true) ∧ Below w.heap.size w w' := by
  have HN := Lib.hid (H.make (Below.refl _ w) 2 3 (by decide))
  obtain ⟨m2, m3⟩ := awake_mach
  have M2 := Lib.hid m2
  have M3 := Lib.hid m3
  clear m2 m3
  go_enter Try.func13, Try.ntmps13
  go_wp2_with fail
  refine HN.out.mono ?_
  rintro e w1 ⟨S, a, rfl, h1, _, _⟩
  have P1 := Lib.hid (h1.actAs H 0 M2.out)
  clear h1 HN
  go_wp2_with fail
  refine P1.out.mono ?_
  rintro e w2 ⟨A2, c2, rfl, _, h2, _⟩
  have P2 := Lib.hid (h2.actAs H 2 M3.out)
  clear h2 P1
  go_wp2_with fail
  refine P2.out.mono ?_
  rintro e w3 ⟨A3, c3, rfl, hr, h3, _⟩
  obtain ⟨b, off, rfl, _, hc⟩ := hr.cellAt (by decide)
  have k1 : w3.cell? ⟨b, off + 1, none⟩ = some (.int .i64 6) := hc 1 _ rfl
  have Q1 := Lib.hid (H.state S _ _ w3 h3.obj)
  have Q2 := Lib.hid (H.count S _ _ w3 h3.obj)
  have Q3 := Lib.hid (H.running S _ _ w3 h3.obj)
  have HB := Lib.hid h3.below
  clear h3 hr hc P2
  go_wp2_with fail
  refine Q1.out.mono ?_
  rintro e w4 ⟨rfl, rfl⟩
  go_wp2_with fail
  refine Q2.out.mono ?_
  rintro e w4 ⟨rfl, rfl⟩
  go_wp2_with fail
  refine Q3.out.mono ?_
  rintro e w4 ⟨rfl, rfl⟩
  go_wp2
  go_ret
  exact ⟨rfl, HB.out⟩
end
end Go.Proofs.Ytjeekhgkcphnpaa
