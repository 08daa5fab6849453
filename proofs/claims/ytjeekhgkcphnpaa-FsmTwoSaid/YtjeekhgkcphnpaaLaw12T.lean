/- FsmTwo: both are Opened, whichever speaks first. -/
import Derived.Test.YtjeekhgkcphnpaaLaw12L
namespace Go.Proofs.Ytjeekhgkcphnpaa
open Go.RowKit
section
variable {Obj : World → (Nat → Prop) → Value → Pure.Mach → Prop}
theorem rows_info : (Try.prog.info? 27).map (fun i => (i.zero, i.size, i.bytes)) = some (some (.slice none 0 0), 1, 24) := by kernel_rfl
theorem made_rows (n : Nat) : madeCells (Value.slice none 0 0).cells (n * 1) = (List.replicate n (Value.slice none 0 0)).toArray := by
  rw [show (Value.slice none 0 0).cells = #[.slice none 0 0] from rfl]
  apply Array.ext_getElem?
  intro i
  simp only [madeCells, Nat.mul_one]
  by_cases h : i < n
  · simp [h, Nat.mod_one]
  · simp [h]
theorem run_make2 (w : World) : (Instr.makeSlice 44 (.int .i64 2) (.int .i64 2)).run Try.prog w = .ok (.slice (some ⟨w.heap.size, 0, none⟩) 2 2) (w.alloc (.cells #[.slice none 0 0, .slice none 0 0] 27)) := by
  obtain ⟨i0, hi0, hz0, hz1, hz2⟩ := info_parts rows_info
  have hrun := run_make (P := Try.prog) w 44 27 i0 _ Try.underlying44 hi0 hz0 .i64 .i64 2 2 (by omega) (by omega) (by rw [hz2]; omega) (by omega)
  rw [hrun, hz1, show Int.toNat 2 = 2 from rfl, made_rows]
  rfl
def fresh : Pure.Mach := Pure.newMach 100 100
def asked : Pure.Mach := ⟨6, 99, 100, 100, 100⟩
theorem pair_start (H : FsmOk Obj) {w0 w3 : World} {S0 S1 : Nat → Prop} {p0 p1 : Addr} {n : Nat} (h0 : Has Obj w0 w3 S0 (.pointer (some p0)) fresh) (h1 : Has Obj w0 w3 S1 (.pointer (some p1)) fresh) (hS0 : ∀ b, S0 b → b < n) (hS1 : ∀ b, S1 b → n ≤ b) (hn : n ≤ w3.heap.size) :
    Pair Obj w0 ((w3.alloc (.cells #[.pointer (some p0), .pointer (some p1)] 23)).alloc (.cells #[.slice none 0 0, .slice none 0 0] 27)) (w3.heap.size + 1) w3.heap.size 0 (.slice none 0 0) (.slice none 0 0) [] [] p0 p1 fresh fresh := by
  have K : Keeps nobody w3 ((w3.alloc (.cells #[.pointer (some p0), .pointer (some p1)] 23)).alloc (.cells #[.slice none 0 0, .slice none 0 0] 27)) := ((Keeps.refl nobody w3).alloc _).alloc _
  have e1 : (w3.alloc (.cells #[.pointer (some p0), .pointer (some p1)] 23)).heap.size = w3.heap.size + 1 := by simp
  have hb := h0.below.size
  refine ⟨fun b => if b < n then 1 else if b < w3.heap.size then 2 else if b = w3.heap.size then 6 else 5, S0, S1, nobody, nobody, by omega, h0.quiet H K, h1.quiet H K, ⟨_, by rw [← e1]; exact Blk.new _ _ _, rfl, rfl, rfl⟩, ⟨_, (Blk.new w3 _ _).alloc _, rfl, rfl, rfl⟩, Win.nil _ _, Win.nil _ _, ?_, ?_, fun b h => h.elim, fun b h => h.elim, ?_, ?_, by omega⟩
  · intro b hb
    simp only [if_pos (hS0 b hb)]
  · intro b hb
    have h1' := hS1 b hb
    have h2' := H.lt h1.obj b hb
    simp only [if_neg (show ¬ b < n by omega), if_pos h2']
  · simp only [if_neg (show ¬ w3.heap.size + 1 < n by omega), if_neg (show ¬ w3.heap.size + 1 < w3.heap.size by omega), if_neg (show ¬ w3.heap.size + 1 = w3.heap.size by omega)]
  · simp only [if_neg (show ¬ w3.heap.size < n by omega), if_neg (show ¬ w3.heap.size < w3.heap.size by omega), if_true]
/-- How far both are, in the main loop's round k. -/
def Sit (Obj : World → (Nat → Prop) → Value → Pure.Mach → Prop) (w0 w : World) (g mb i k : Nat) : Prop :=
  ∃ Vm Vo pm po Mm Mo a b, Pair Obj w0 w g mb i Vm Vo (Pure.twoQueue a b) (Pure.twoQueue b a) pm po Mm Mo ∧ Mm.state = Pure.twoState a ∧ Mo.state = Pure.twoState b ∧ a + b = k ∧ a ≤ 2 ∧ b ≤ 2 ∧ (a ≠ 0 ∨ b < 2) ∧ (b ≠ 0 ∨ a < 2)
theorem Sit.swap {w0 w : World} {g mb i k : Nat} (h : Sit Obj w0 w g mb i k) : Sit Obj w0 w g mb (1 - i) k := by
  obtain ⟨Vm, Vo, pm, po, Mm, Mo, a, b, h1, h2, h3, h4, h5, h6, h7, h8⟩ := h
  exact ⟨Vo, Vm, po, pm, Mo, Mm, b, a, h1.swap, h3, h2, by omega, h6, h5, h8, h7⟩
theorem Sit.to {w0 w : World} {g mb i k : Nat} (h : Sit Obj w0 w g mb 0 k) (hi : i ≤ 1) : Sit Obj w0 w g mb i k := by
  obtain rfl | rfl : i = 0 ∨ i = 1 := by omega
  · exact h
  · exact h.swap
theorem Sit.back {w0 w : World} {g mb i k : Nat} (h : Sit Obj w0 w g mb i k) (hi : i ≤ 1) : Sit Obj w0 w g mb 0 k := by
  obtain rfl | rfl : i = 0 ∨ i = 1 := by omega
  · exact h
  · exact h.swap
theorem Sit.quiet (H : FsmOk Obj) {w0 w w' : World} {g mb i k : Nat} (h : Sit Obj w0 w g mb i k) (K : Keeps nobody w w') : Sit Obj w0 w' g mb i k := by
  obtain ⟨Vm, Vo, pm, po, Mm, Mo, a, b, h1, r⟩ := h
  exact ⟨Vm, Vo, pm, po, Mm, Mo, a, b, h1.quiet H K, r⟩
theorem Sit.below {w0 w : World} {g mb i k : Nat} (h : Sit Obj w0 w g mb i k) : Below w0.heap.size w0 w := by
  obtain ⟨Vm, Vo, pm, po, Mm, Mo, a, b, h1, r⟩ := h
  exact h1.below
theorem two_len (a b : Nat) : (Pure.twoQueue a b).length ≤ 2 := by
  unfold Pure.twoQueue
  split <;> split <;> decide
theorem two_empty (a b : Nat) (ha : a ≤ 2) (hb : b ≤ 2) (h1 : a ≠ 0 ∨ b < 2) (h2 : b ≠ 0 ∨ a < 2) (e1 : (Pure.twoQueue a b).length = 0) (e2 : (Pure.twoQueue b a).length = 0) : a = 2 ∧ b = 2 := by
  obtain rfl | rfl | rfl : a = 0 ∨ a = 1 ∨ a = 2 := by omega
  all_goals (obtain rfl | rfl | rfl : b = 0 ∨ b = 1 ∨ b = 2 := by omega)
  all_goals (first | exact ⟨rfl, rfl⟩ | (exfalso; revert e1 e2; decide) | omega)
theorem cutV_form (A : Option Addr) (c lo m : Nat) : ∃ A' c', cutV A c lo m = .slice A' m c' := by
  unfold cutV
  split
  · exact ⟨_, _, rfl⟩
  · exact ⟨_, _, rfl⟩
theorem run_tail (A : Option Addr) (n c : Nat) (h : n + 1 ≤ c) (w : World) : (Instr.slice 27 (.slice A (n + 1) c) (some (.int .i64 1)) none none).run Try.prog w = .ok (cutV A c 1 n) w := by
  obtain ⟨i0, hi0, hz0, hz1, hz2⟩ := info_parts int_info
  have e : Try.prog.elem 27 = 3 := by kernel_rfl
  have hu : Try.prog.underlying 27 = some (.slice (Try.prog.elem 27)) := by rw [e]; exact Try.underlying27
  rw [run_slice_l (P := Try.prog) w 27 A (n + 1) c hu .i64 1 (by omega) (by omega), e]
  simp [sizeOf, typeInfo, hi0, hz1, sliced, Result.andThen, cutV]
  split <;> simp_all
theorem two_more (a b n m : Nat) (ha : a ≤ 2) (hb : b ≤ 2) (hn : n = (Pure.twoQueue a b).length) (hm : m = (Pure.twoQueue b a).length) (h : 0 < n + m) : a + b < 4 := by
  by_cases h4 : a = 2 ∧ b = 2
  · obtain ⟨rfl, rfl⟩ := h4
    subst hn hm
    exact absurd h (by decide)
  · omega
/-- A round of the main loop in which this one has something to hear. -/
def SitN (Obj : World → (Nat → Prop) → Value → Pure.Mach → Prop) (w0 w : World) (g mb i k : Nat) : Prop :=
  ∃ Vm Vo pm po Mm Mo a b, Pair Obj w0 w g mb i Vm Vo (Pure.twoQueue a b) (Pure.twoQueue b a) pm po Mm Mo ∧ Mm.state = Pure.twoState a ∧ Mo.state = Pure.twoState b ∧ a + b = k ∧ a ≤ 2 ∧ b ≤ 2 ∧ (a ≠ 0 ∨ b < 2) ∧ (b ≠ 0 ∨ a < 2) ∧ (Pure.twoQueue a b).length ≠ 0
theorem Sit.pick {w0 w : World} {g mb i k : Nat} (h : Sit Obj w0 w g mb i k) (hk : k < 4) : ∃ A n c, w.cell? ⟨g, i, none⟩ = some (.slice A n c) ∧ n ≤ 2 ∧ (n = 0 → SitN Obj w0 w g mb (1 - i) k) ∧ (n ≠ 0 → SitN Obj w0 w g mb i k) := by
  obtain ⟨Vm, Vo, pm, po, Mm, Mo, a, b, h1, h2, h3, h4, h5, h6, h7, h8⟩ := h
  obtain ⟨A, c, rfl⟩ := h1.form
  refine ⟨A, _, c, h1.mine, two_len a b, fun e => ⟨Vo, _, po, pm, Mo, Mm, b, a, h1.swap, h3, h2, by omega, h6, h5, h8, h7, fun e' => ?_⟩, fun e => ⟨_, Vo, pm, po, Mm, Mo, a, b, h1, h2, h3, h4, h5, h6, h7, h8, e⟩⟩
  obtain ⟨e1, e2⟩ := two_empty a b h5 h6 h7 h8 e e'
  omega
theorem SitN.hear {w0 w : World} {g mb i k : Nat} (h : SitN Obj w0 w g mb i k) (hi : i ≤ 1) : ∃ bb oo c x t Vo pm po Mm Mo lo l t' M', Pair Obj w0 w g mb i (.slice (some ⟨bb, oo, none⟩) (t.length + 1) c) Vo (x :: t) lo pm po Mm Mo ∧ w.cell? ⟨bb, oo, none⟩ = some (.int .i64 (x : Nat)) ∧ t.length + 1 ≤ c ∧ t.length ≤ 1 ∧
    Mm.act2 (x : Nat) = (l, M') ∧ Pure.told l = t' ∧ l.length ≤ 1000 ∧ lo.length + t'.length ≤ 100000 ∧ ∀ W Vm' Vo', Pair Obj w0 W g mb i Vm' Vo' t (lo ++ t') pm po M' Mo → Sit Obj w0 W g mb 0 (k + 1) := by
  obtain ⟨Vm, Vo, pm, po, Mm, Mo, a, b, h1, h2, h3, h4, h5, h6, h7, h8, h9⟩ := h
  obtain ⟨x, t, e⟩ : ∃ x t, Pure.twoQueue a b = x :: t := by
    cases hq : Pure.twoQueue a b with
    | nil => rw [hq] at h9; exact absurd rfl h9
    | cons x t => exact ⟨x, t, rfl⟩
  have hle := two_len a b
  have hlo := two_len b a
  rw [e] at h1 hle
  simp only [List.length_cons] at hle
  obtain ⟨bb, oo, c, rfl, hc, hc1, _⟩ := h1.head
  rcases Pure.two_step a (by omega) b (by omega) h7 x t e with ⟨rfl, rfl, ht, hq⟩ | ⟨rfl, rfl, hb1, ht, hq⟩
  · obtain ⟨f1, f2⟩ := Pure.two_first (m := Mm) h2
    refine ⟨bb, oo, c, 6, t, Vo, pm, po, Mm, Mo, _, [7], [8], (Mm.act2 6).2, h1, hc, hc1, by omega, Prod.ext f1 rfl, Pure.two_start.2.2.2.2.1, by decide, by simp; omega, fun W Vm' Vo' hW => Sit.back ⟨Vm', Vo', pm, po, _, Mo, 1, b, ?_, f2, h3, by omega, by omega, h6, by omega, by omega⟩ hi⟩
    rw [ht, hq]
    exact hW
  · obtain ⟨f1, f2⟩ := Pure.two_second (m := Mm) h2
    refine ⟨bb, oo, c, 8, t, Vo, pm, po, Mm, Mo, _, [4, 0], [], (Mm.act2 8).2, h1, hc, hc1, by omega, Prod.ext f1 rfl, Pure.two_start.2.2.2.2.2, by decide, by simp; omega, fun W Vm' Vo' hW => Sit.back ⟨Vm', Vo', pm, po, _, Mo, 2, b, ?_, f2, h3, by omega, by omega, h6, by omega, by omega⟩ hi⟩
    rw [ht, hq]
    rw [List.append_nil] at hW
    exact hW
set_option maxRecDepth 100000 in
set_option maxHeartbeats 8000000 in
theorem fsmTwo_walk' (H : FsmOk Obj) (x : Value) (bs : List UInt8) (w : World) (hx : Row w (fun b => b < w.heap.size) 1 x bs.length (u8s bs)) :
    Calls Try.prog 7 #[x] w fun e w' => e = .returned (.bool true) ∧ Below w.heap.size w w' := by
  obtain ⟨X, xc, rfl, _⟩ := hx.form
  have HX := Lib.hid hx
  have hxl := hx.2.1
  unfold maxLen at hxl
  clear hx
  by_cases hl : bs.length ≤ 200
  · clear hxl
    have d0 : decide ((200 : Int) < (bs.length : Int)) = false := decide_eq_false (by omega)
    have d1 : decide (200 < bs.length) = false := decide_eq_false (by omega)
    go_enter Try.func7, Try.ntmps7
    go_wp2_with fail
    refine (awake_any H w).mono ?_
    rintro e w1 ⟨rfl, hb1⟩
    have N1 := Lib.hid (H.make hb1 100 100 (by decide))
    clear hb1
    go_wp2_with fail
    clear d0 d1
    refine N1.out.mono ?_
    rintro r w2 ⟨S0, p0, rfl, h0, hS0, hk2⟩
    have N2 := Lib.hid (H.make h0.below 100 100 (by decide))
    have H0 := Lib.hid h0
    clear h0 N1 hS0 hk2
    go_wp2_with fail
    refine N2.out.mono ?_
    rintro r w3 ⟨S1, p1, rfl, h1, hS1, hk3⟩
    have HP := Lib.hid (pair_start H (H0.out.quiet H hk3) h1 (fun b hb => H.lt H0.out.obj b hb) hS1 hk3.size)
    clear h1 N2 hS1 hk3 H0
    have hmake := run_make2
    go_wp2_with fail
    clear hmake
    generalize (w3.alloc (.cells #[.pointer (some p0), .pointer (some p1)] 23)).alloc (.cells #[.slice none 0 0, .slice none 0 0] 27) = W at HP ⊢
    generalize w3.heap.size + 1 = g at HP ⊢
    generalize w3.heap.size = mb at HP ⊢
    go_loopw [9] (fun i wr => ∃ k : Nat, k ≤ 2 ∧ i = .int .i64 (k : Int) ∧ ∃ V0 V1, Pair Obj w wr g mb 0 V0 V1 (if k = 2 then [6] else []) (if 1 ≤ k then [6] else []) p0 p1 (if 1 ≤ k then asked else fresh) (if k = 2 then asked else fresh)) (fun i _ => 2 - (intOf i).toNat)
    case atStart => exact ⟨0, by omega, rfl, _, _, HP.out⟩
    case round =>
      obtain ⟨k, hk, rfl, V0, V1, hP⟩ := hrel
      have HP := Lib.hid hP
      clear hP
      by_cases hk2 : k < 2
      · have HD : ∃ Vm Vo lm pm po Mo, Hid (Pair Obj w wr g mb k Vm Vo lm [] pm po fresh Mo ∧ ∀ W' Vo', Pair Obj w W' g mb k Vm Vo' lm [6] pm po asked Mo → ∃ V0 V1, Pair Obj w W' g mb 0 V0 V1 (if k + 1 = 2 then [6] else []) (if 1 ≤ k + 1 then [6] else []) p0 p1 (if 1 ≤ k + 1 then asked else fresh) (if k + 1 = 2 then asked else fresh)) := by
          obtain rfl | rfl : k = 0 ∨ k = 1 := by omega
          · exact ⟨V0, V1, [], p0, p1, fresh, Lib.hid ⟨HP.out, fun W' Vo' h => ⟨_, _, h⟩⟩⟩
          · exact ⟨V1, V0, [6], p1, p0, asked, Lib.hid ⟨HP.out.swap, fun W' Vo' h => ⟨_, _, h.swap⟩⟩⟩
        obtain ⟨Vm, Vo, lm, pm, po, Mo, HD⟩ := HD
        clear HP
        have hP := HD.out.1
        obtain ⟨j, hj⟩ : ∃ j, j = 1 - k := ⟨_, rfl⟩
        have hj1 : j ≤ 1 := by omega
        have k0 : (0 : Int) ≤ (k : Int) := by omega
        have k1 : (k : Int) < 2 := by omega
        have j0 : (0 : Int) ≤ (j : Int) := by omega
        have j1 : (j : Int) < 2 := by omega
        have e1 : (1 : Int) - (k : Int) = (j : Int) := by omega
        have lw : wrap64 (j : Int) = (j : Int) := IntWalk.wrap64_in _ (by omega)
        have lw2 : IntKind.i64.wrap (j : Int) = (j : Int) := IntWalk.i64_in _ (by omega)
        have lw3 : IntKind.i64.wrap (k : Int) = (k : Int) := IntWalk.i64_in _ (by omega)
        have d0 : decide ((k : Int) < 2) = true := decide_eq_true k1
        have HJ := Lib.hid hj
        clear hj
        have HLEN := Lib.hid (show ([] : List Nat).length + ([] : List Nat).length ≤ 100000 by decide)
        go_wp2_with fail
        have co := hP.other
        have cm := hP.mach
        rw [← HJ.out] at co
        have hQ := hP.quiet H (Keeps.refl nobody wr).drew
        clear hP
        refine wp_region_Z (fun w' => w'.cell? ⟨g, j, none⟩ = some Vo ∧ w'.cell? ⟨mb, k, none⟩ = some (.pointer (some pm))) 16 17 rfl (by kernel_rfl) ⟨co, cm⟩ (fun hHeld => ?_)
        iterate 12
          refine wpAnyZ_next rfl (by kernel_rfl) (fun _ _ _ h => h) (Or.inl ⟨by rfl, by intro w hSw; obtain ⟨s0, s1⟩ := hSw; go_simp; try with_reducible rfl⟩) hHeld.out ?_
          simp only [Act.put, List.setIfInBounds_toArray, Nat.reduceAdd, List.getElem_toArray, List.getElem_cons_succ, List.getElem_cons_zero, List.set_cons_succ, List.set_cons_zero]
        refine wpAnyZ_step (by kernel_rfl) rfl (fun K hK => ?_)
        clear hHeld co cm
        go_simp
        refine (hQ.act H 2 (show fresh.act2 2 = _ from Pure.two_start.1)).mono ?_
        rintro e w8a ⟨A8a, c8a, rfl, hra, hPa⟩
        refine hK.out _ _ (fun _ => ⟨by have := hPa.other; rwa [← HJ.out] at this, hPa.mach⟩) ?_
        clear hK K hQ
        try simp only [Act.put, List.setIfInBounds_toArray, Nat.reduceAdd, List.getElem_toArray, List.getElem_cons_succ, List.getElem_cons_zero, List.set_cons_succ, List.set_cons_zero]
        refine wpAnyZ_step (by kernel_rfl) rfl (fun K hK => ?_)
        go_simp
        refine (hPa.told H (t := []) Pure.two_start.2.2.1 (by decide) hra).mono ?_
        rintro e w8b ⟨A8b, c8b, rfl, hrb, hPb⟩
        refine hK.out _ _ (fun _ => ⟨by have := hPb.other; rwa [← HJ.out] at this, hPb.mach⟩) ?_
        clear hK K hPa hra
        try simp only [Act.put, List.setIfInBounds_toArray, Nat.reduceAdd, List.getElem_toArray, List.getElem_cons_succ, List.getElem_cons_zero, List.set_cons_succ, List.set_cons_zero]
        refine wpAnyZ_step (by kernel_rfl) rfl (fun K hK => ?_)
        rw [if_pos (by rfl)]
        obtain ⟨Fo, hwo, hput⟩ := hPb.put H []
        refine wpo_append_win (.tmp 47) (.tmp 53) rfl rfl hwo rfl hrb HLEN.out ?_
        intro v8 w8c hwin hkc
        obtain ⟨cc, ff, mm, hPc⟩ := hput v8 w8c hwin hkc
        rw [← HJ.out] at cc ff hPc
        obtain ⟨A8, k8, hv8⟩ := hwin.form
        subst hv8
        refine hK.out _ _ (fun _ => ⟨cc, mm⟩) ?_
        clear hK K hPb hrb hput hwin hkc hwo
        try simp only [Act.put, List.setIfInBounds_toArray, Nat.reduceAdd, List.getElem_toArray, List.getElem_cons_succ, List.getElem_cons_zero, List.set_cons_succ, List.set_cons_zero]
        have HPc := Lib.hid hPc
        clear hPc
        refine wpAnyZ_step (by kernel_rfl) rfl (fun K hK => ?_)
        go_simp
        refine hK.out _ _ (fun _ => ⟨cc, mm⟩) ?_
        clear hK K
        try simp only [Act.put, List.setIfInBounds_toArray, Nat.reduceAdd, List.getElem_toArray, List.getElem_cons_succ, List.getElem_cons_zero, List.set_cons_succ, List.set_cons_zero]
        refine wpAnyZ_step (by kernel_rfl) rfl (fun K hK => ?_)
        go_simp
        refine hK.out _ _ (fun h => absurd rfl h) ?_
        clear hK K cc ff mm
        refine wpAnyZ_done (by kernel_rfl) ?_ _
        have HP8 := Lib.hid (show Pair Obj w (w8c.setCell ⟨g, j, none⟩ (.slice A8 0 k8)) g mb k Vm (.slice A8 0 k8) lm [] pm po ⟨1, 0, 0, 100, 100⟩ Mo from HPc.out)
        generalize w8c.setCell ⟨g, j, none⟩ (.slice A8 0 k8) = w8 at HP8 ⊢
        clear HPc HLEN
        have HLEN := Lib.hid (show ([] : List Nat).length + ([6] : List Nat).length ≤ 100000 by decide)
        have hP := HP8.out
        go_wp2_with fail
        have co := hP.other
        have cm := hP.mach
        rw [← HJ.out] at co
        have hQ := hP.quiet H (Keeps.refl nobody w8).drew
        clear hP
        refine wp_region_Z (fun w' => w'.cell? ⟨g, j, none⟩ = some (.slice A8 0 k8) ∧ w'.cell? ⟨mb, k, none⟩ = some (.pointer (some pm))) 16 17 rfl (by kernel_rfl) ⟨co, cm⟩ (fun hHeld => ?_)
        iterate 12
          refine wpAnyZ_next rfl (by kernel_rfl) (fun _ _ _ h => h) (Or.inl ⟨by rfl, by intro w hSw; obtain ⟨s0, s1⟩ := hSw; go_simp; try with_reducible rfl⟩) hHeld.out ?_
          simp only [Act.put, List.setIfInBounds_toArray, Nat.reduceAdd, List.getElem_toArray, List.getElem_cons_succ, List.getElem_cons_zero, List.set_cons_succ, List.set_cons_zero]
        refine wpAnyZ_step (by kernel_rfl) rfl (fun K hK => ?_)
        clear hHeld co cm
        go_simp
        refine (hQ.act H 0 (show Pure.Mach.act2 ⟨1, 0, 0, 100, 100⟩ 0 = _ from Pure.two_start.2.1)).mono ?_
        rintro e w9a ⟨A9a, c9a, rfl, hra, hPa⟩
        refine hK.out _ _ (fun _ => ⟨by have := hPa.other; rwa [← HJ.out] at this, hPa.mach⟩) ?_
        clear hK K hQ
        try simp only [Act.put, List.setIfInBounds_toArray, Nat.reduceAdd, List.getElem_toArray, List.getElem_cons_succ, List.getElem_cons_zero, List.set_cons_succ, List.set_cons_zero]
        refine wpAnyZ_step (by kernel_rfl) rfl (fun K hK => ?_)
        go_simp
        refine (hPa.told H (t := [6]) Pure.two_start.2.2.2.1 (by decide) hra).mono ?_
        rintro e w9b ⟨A9b, c9b, rfl, hrb, hPb⟩
        refine hK.out _ _ (fun _ => ⟨by have := hPb.other; rwa [← HJ.out] at this, hPb.mach⟩) ?_
        clear hK K hPa hra
        try simp only [Act.put, List.setIfInBounds_toArray, Nat.reduceAdd, List.getElem_toArray, List.getElem_cons_succ, List.getElem_cons_zero, List.set_cons_succ, List.set_cons_zero]
        refine wpAnyZ_step (by kernel_rfl) rfl (fun K hK => ?_)
        rw [if_pos (by rfl)]
        obtain ⟨Fo, hwo, hput⟩ := hPb.put H [6]
        refine wpo_append_win (.tmp 63) (.tmp 69) rfl rfl hwo rfl hrb HLEN.out ?_
        intro v9 w9c hwin hkc
        obtain ⟨cc, ff, mm, hPc⟩ := hput v9 w9c hwin hkc
        rw [← HJ.out] at cc ff hPc
        obtain ⟨A9, k9, hv9⟩ := hwin.form
        subst hv9
        refine hK.out _ _ (fun _ => ⟨cc, mm⟩) ?_
        clear hK K hPb hrb hput hwin hkc hwo
        try simp only [Act.put, List.setIfInBounds_toArray, Nat.reduceAdd, List.getElem_toArray, List.getElem_cons_succ, List.getElem_cons_zero, List.set_cons_succ, List.set_cons_zero]
        have HPc := Lib.hid hPc
        clear hPc
        refine wpAnyZ_step (by kernel_rfl) rfl (fun K hK => ?_)
        go_simp
        refine hK.out _ _ (fun _ => ⟨cc, mm⟩) ?_
        clear hK K
        try simp only [Act.put, List.setIfInBounds_toArray, Nat.reduceAdd, List.getElem_toArray, List.getElem_cons_succ, List.getElem_cons_zero, List.set_cons_succ, List.set_cons_zero]
        refine wpAnyZ_step (by kernel_rfl) rfl (fun K hK => ?_)
        go_simp
        refine hK.out _ _ (fun h => absurd rfl h) ?_
        clear hK K cc ff mm
        refine wpAnyZ_done (by kernel_rfl) ?_ _
        have HP9 := Lib.hid (show Pair Obj w (w9c.setCell ⟨g, j, none⟩ (.slice A9 1 k9)) g mb k Vm (.slice A9 1 k9) lm [6] pm po asked Mo from HPc.out)
        generalize w9c.setCell ⟨g, j, none⟩ (.slice A9 1 k9) = w9 at HP9 ⊢
        clear HPc HP8 HLEN
        have d0 : decide ((k : Int) < 2) = true := decide_eq_true k1
        go_wp2_with fail
        go_roundw
        case rel => exact ⟨k + 1, by omega, by go_num, HD.out.2 _ _ HP9.out⟩
        case measure => simp [intOf]; omega
      · have hkk : k = 2 := by omega
        subst hkk
        have HSit := Lib.hid (show Sit Obj w wr g mb 0 0 from ⟨V0, V1, p0, p1, asked, asked, 0, 0, HP.out, rfl, rfl, rfl, by omega, by omega, by omega, by omega⟩)
        clear HP hk hk2
        go_wp2_with fail
        go_loopw [10] (fun i wr2 => ∃ k : Nat, i = .int .i64 (k : Int) ∧ Sit Obj w wr2 g mb 0 k) (fun i _ => 400 - (intOf i).toNat)
        case atStart => exact ⟨0, rfl, HSit.out⟩
        case round =>
          obtain ⟨k, rfl, hS⟩ := hrel
          have HS := Lib.hid hS
          obtain ⟨V0, V1, q0, q1, M0, M1, a, b, hP, hs0, hs1, hab, ha, hb, hc1, hc2⟩ := hS
          have c0 := hP.mine
          have c1 := hP.other
          obtain ⟨A0, z0, rfl⟩ := hP.form
          obtain ⟨A1, z1, rfl⟩ := hP.swap.form
          have l0 := two_len a b
          have l1 := two_len b a
          have dk : decide ((k : Int) < 400) = true := decide_eq_true (by omega)
          have HP := Lib.hid hP
          have HE := Lib.hid (two_empty a b ha hb hc1 hc2)
          clear hP
          obtain ⟨n0, hn0⟩ : ∃ n, n = (Pure.twoQueue a b).length := ⟨_, rfl⟩
          obtain ⟨n1, hn1⟩ : ∃ n, n = (Pure.twoQueue b a).length := ⟨_, rfl⟩
          rw [← hn0] at c0 l0
          rw [← hn1] at c1 l1
          have c1 : wr.cell? ⟨g, 1, none⟩ = some (.slice A1 n1 z1) := c1
          obtain ⟨N, hN⟩ : ∃ N, N = n0 + n1 := ⟨_, rfl⟩
          have e1 : (n0 : Int) + (n1 : Int) = (N : Int) := by omega
          have lw : wrap64 (N : Int) = (N : Int) := IntWalk.wrap64_in _ (by omega)
          have HN := Lib.hid hN
          clear hN
          have HN0 := Lib.hid hn0
          have HN1 := Lib.hid hn1
          clear hn0 hn1
          by_cases hz : 0 < N
          · have dz : decide ((0 : Int) < (N : Int)) = true := decide_eq_true (Int.natCast_pos.2 hz)
            have dz2 : decide (0 < N) = true := decide_eq_true hz
            have HK4 := Lib.hid (show k < 4 by have := two_more a b n0 n1 ha hb HN0.out HN1.out (by rw [← HN.out]; exact hz); rw [← hab]; exact this)
            clear hs0 hs1 HP HE HN HN0 HN1 l0 l1 hz hc1 hc2 hab ha hb
            go_wp2_with fail
            go_quiet (fail)
            clear c0 c1 e1 lw dz dz2 dk
            have HS2 := Lib.hid (HS.out.quiet H (Keeps.of_drewN (n := nq) rfl))
            have HB2 := Lib.hid HS2.out.below
            generalize wr.drewN nq = wd at HS2 HB2 ⊢
            clear HS
            go_upto_if 91 with fail
            go_cut [11] from 72 to 136 (fun v wx => wx = wd ∧ ∃ i : Nat, i ≤ 1 ∧ v = .int .i64 (i : Int))
            case first =>
              by_cases hkl : k < bs.length
              · obtain ⟨bX, oX, rfl, _, hcell⟩ := (HX.out.keeps (Keeps.new HB2.out) (fun _ _ h => h)).cellAt (by omega)
                have cX := hcell k _ (u8s_at bs k hkl)
                have d1 : decide ((k : Int) < (bs.length : Int)) = true := decide_eq_true (by omega)
                have d2 : decide (k < bs.length) = true := decide_eq_true hkl
                have k0 : (0 : Int) ≤ (k : Int) := by omega
                have k1 : (k : Int) < (bs.length : Int) := by omega
                obtain ⟨y, hy⟩ : ∃ y, y = (bs.getD k 0).toNat := ⟨_, rfl⟩
                have hyl : y < 256 := by rw [hy]; exact (bs.getD k 0).toNat_lt
                rw [← hy] at cX
                clear hcell hy
                have hm : (wrap64 (y : Int)).tmod 2 = ((y % 2 : Nat) : Int) := by rw [IntWalk.wrap64_in _ (by omega)]; rfl
                have hm2 : y % 2 ≤ 1 := by omega
                go_wp2_with fail
                go_meet
                exact ⟨rfl, y % 2, hm2, by first | rfl | simp⟩
              · have d1 : decide ((k : Int) < (bs.length : Int)) = false := decide_eq_false (by omega)
                have d2 : decide (k < bs.length) = false := decide_eq_false hkl
                go_wp2_with fail
                go_meet
                exact ⟨rfl, 0, by decide, rfl⟩
            case rest =>
            obtain ⟨rfl, i, hi, rfl⟩ := hcut
            obtain ⟨Am, nm, zm, cm, hnm, hpick0, hpick1⟩ := (HS2.out.to hi).pick HK4.out
            have HP0 := Lib.hid hpick0
            have HP1 := Lib.hid hpick1
            have i0 : (0 : Int) ≤ (i : Int) := by omega
            have i1 : (i : Int) < 2 := by omega
            clear hpick0 hpick1 HS2
            go_upto_if 103 with fail
            go_cut [11] from 72 to 136 (fun v wx => wx = wc ∧ ∃ i : Nat, i ≤ 1 ∧ v = .int .i64 (i : Int) ∧ SitN Obj w wc g mb i k)
            case first =>
              by_cases hz : nm = 0
              · have HX0 := Lib.hid (HP0.out hz)
                have dn : ((nm : Int) == 0) = true := by rw [beq_iff_eq, hz]; rfl
                have e1 : (1 : Int) - (i : Int) = ((1 - i : Nat) : Int) := by omega
                have e2 : 1 - i ≤ 1 := by omega
                generalize 1 - i = j at HX0 e1 e2
                have lw : wrap64 (j : Int) = (j : Int) := IntWalk.wrap64_in _ (by omega)
                clear hz
                go_wp2_with fail
                go_meet
                exact ⟨rfl, j, e2, rfl, HX0.out⟩
              · have HX1 := Lib.hid (HP1.out hz)
                have dn : ((nm : Int) == 0) = false := by rw [beq_eq_false_iff_ne]; omega
                clear hz
                go_wp2_with fail
                go_meet
                exact ⟨rfl, i, hi, rfl, HX1.out⟩
            case rest =>
            clear cm hnm HP0 HP1 i0 i1 hi
            obtain ⟨rfl, i, hi, rfl, hN⟩ := hcut
            obtain ⟨bb, oo, zc, x, t, Vo, pm, po, Mm, Mo, lo, l, t', M', hP, cx, hzc, htl, hact, htold, hll, hlen, hback⟩ := hN.hear hi
            have cm := hP.mine
            have fm := hP.free i
            have i0 : (0 : Int) ≤ (i : Int) := by omega
            have i1 : (i : Int) < 2 := by omega
            have HPop := Lib.hid (hP.pop H)
            obtain ⟨T, hT⟩ : ∃ T, T = t.length := ⟨_, rfl⟩
            rw [← hT] at cm HPop hzc
            have hslice := run_tail (some ⟨bb, oo, none⟩) T zc hzc
            have z0 : (0 : Int) < ((T + 1 : Nat) : Int) := by omega
            have z1 : 0 < T + 1 := by omega
            have HACT := Lib.hid hact
            have HTOLD := Lib.hid htold
            have HLL := Lib.hid hll
            have HLEN := Lib.hid hlen
            have HBK := Lib.hid hback
            have HTT := Lib.hid hT
            clear hP hN hact htold hll hlen hback hT htl hzc c1 HB2
            obtain ⟨AV, cV, hV⟩ := cutV_form (some ⟨bb, oo, none⟩) zc 1 T
            rw [hV] at HPop hslice
            clear hV
            go_upto_region 26 with fail
            clear cm fm hslice z0 z1 cx
            generalize wc.setCell ⟨g, i, none⟩ (.slice AV T cV) = w8 at HPop ⊢
            generalize Value.slice AV T cV = VV at HPop ⊢
            obtain ⟨j, hj⟩ : ∃ j, j = 1 - i := ⟨_, rfl⟩
            have hj1 : j ≤ 1 := by omega
            have j0 : (0 : Int) ≤ (j : Int) := by omega
            have j1 : (j : Int) < 2 := by omega
            have e1 : (1 : Int) - (i : Int) = (j : Int) := by omega
            have lw : wrap64 (j : Int) = (j : Int) := IntWalk.wrap64_in _ (by omega)
            have lw2 : IntKind.i64.wrap (j : Int) = (j : Int) := IntWalk.i64_in _ (by omega)
            have lw3 : IntKind.i64.wrap (i : Int) = (i : Int) := IntWalk.i64_in _ (by omega)
            have HJ := Lib.hid hj
            have hP := HPop.out
            clear hj hi hj1
            have co := hP.other
            have cm := hP.mach
            rw [← HJ.out] at co
            have hQ := hP.quiet H (Keeps.refl nobody w8).drew
            clear hP
            refine wp_region_Z (fun w' => w'.cell? ⟨g, j, none⟩ = some Vo ∧ w'.cell? ⟨mb, i, none⟩ = some (.pointer (some pm))) 17 18 rfl (by kernel_rfl) ⟨co, cm⟩ (fun hHeld => ?_)
            iterate 13
              refine wpAnyZ_next rfl (by kernel_rfl) (fun _ _ _ h => h) (Or.inl ⟨by rfl, by intro w hSw; obtain ⟨s0, s1⟩ := hSw; go_simp; try with_reducible rfl⟩) hHeld.out ?_
              simp only [Act.put, List.setIfInBounds_toArray, Nat.reduceAdd, List.getElem_toArray, List.getElem_cons_succ, List.getElem_cons_zero, List.set_cons_succ, List.set_cons_zero]
            refine wpAnyZ_step (by kernel_rfl) rfl (fun K hK => ?_)
            clear hHeld co cm
            go_simp
            refine (hQ.act H (x : Nat) HACT.out).mono ?_
            rintro e w10a ⟨A10a, c10a, rfl, hra, hPa⟩
            refine hK.out _ _ (fun _ => ⟨by have := hPa.other; rwa [← HJ.out] at this, hPa.mach⟩) ?_
            clear hK K hQ
            try simp only [Act.put, List.setIfInBounds_toArray, Nat.reduceAdd, List.getElem_toArray, List.getElem_cons_succ, List.getElem_cons_zero, List.set_cons_succ, List.set_cons_zero]
            refine wpAnyZ_step (by kernel_rfl) rfl (fun K hK => ?_)
            go_simp
            refine (hPa.told H HTOLD.out HLL.out hra).mono ?_
            rintro e w10b ⟨A10b, c10b, rfl, hrb, hPb⟩
            refine hK.out _ _ (fun _ => ⟨by have := hPb.other; rwa [← HJ.out] at this, hPb.mach⟩) ?_
            clear hK K hPa hra
            try simp only [Act.put, List.setIfInBounds_toArray, Nat.reduceAdd, List.getElem_toArray, List.getElem_cons_succ, List.getElem_cons_zero, List.set_cons_succ, List.set_cons_zero]
            refine wpAnyZ_step (by kernel_rfl) rfl (fun K hK => ?_)
            rw [if_pos (by rfl)]
            obtain ⟨Fo, hwo, hput⟩ := hPb.put H t'
            refine wpo_append_win (.tmp 127) (.tmp 134) rfl rfl hwo rfl hrb HLEN.out ?_
            intro v10 w10c hwin hkc
            obtain ⟨cc, ff, mm, hPc⟩ := hput v10 w10c hwin hkc
            rw [← HJ.out] at cc ff hPc
            obtain ⟨A10, k10, hv10⟩ := hwin.form
            subst hv10
            refine hK.out _ _ (fun _ => ⟨cc, mm⟩) ?_
            clear hK K hPb hrb hput hwin hkc hwo
            try simp only [Act.put, List.setIfInBounds_toArray, Nat.reduceAdd, List.getElem_toArray, List.getElem_cons_succ, List.getElem_cons_zero, List.set_cons_succ, List.set_cons_zero]
            have HPc := Lib.hid hPc
            clear hPc
            refine wpAnyZ_step (by kernel_rfl) rfl (fun K hK => ?_)
            go_simp
            refine hK.out _ _ (fun _ => ⟨cc, mm⟩) ?_
            clear hK K
            try simp only [Act.put, List.setIfInBounds_toArray, Nat.reduceAdd, List.getElem_toArray, List.getElem_cons_succ, List.getElem_cons_zero, List.set_cons_succ, List.set_cons_zero]
            refine wpAnyZ_step (by kernel_rfl) rfl (fun K hK => ?_)
            go_simp
            refine hK.out _ _ (fun h => absurd rfl h) ?_
            clear hK K cc ff mm
            refine wpAnyZ_done (by kernel_rfl) ?_ _
            have HS9 := HBK.out _ _ _ HPc.out
            rw [List.length_append] at HS9
            have HS9 := Lib.hid HS9
            generalize w10c.setCell ⟨g, j, none⟩ (.slice A10 (lo.length + t'.length) k10) = w9 at HS9 ⊢
            clear HPc HPop HACT HTOLD HLL HLEN HBK HTT e1 lw lw2 lw3 j0 j1 i0 i1 HJ
            have hk4 : k < 4 := HK4.out
            go_wp2_with fail
            go_roundw
            case rel => first | exact ⟨_, _, _, _, _, _, _, _, _, _, _, _, _, _, _, _, _, _, _, _, _, _, _, _, _, _, _, _, _, _, _, _, _, _, _, _, _, _, _, _, _, _, _, _, _, _, _, _, _, _, _, _, _, _, _, _, _, _, _, _, _, _, _, _, _, _, _, ⟨k + 1, by go_num, HS9.out⟩, rfl⟩ | exact ⟨_, _, _, _, _, _, _, _, _, _, _, _, _, _, _, _, _, _, _, _, _, _, _, _, _, _, _, _, _, _, _, _, _, _, _, _, _, _, _, _, _, _, _, _, _, _, _, _, _, _, _, _, _, _, _, _, _, _, _, _, _, _, _, _, _, _, _, _, ⟨k + 1, by go_num, HS9.out⟩, rfl⟩ | exact ⟨_, _, _, _, _, _, _, _, _, _, _, _, _, _, _, _, _, _, _, _, _, _, _, _, _, _, _, _, _, _, _, _, _, _, _, _, _, _, _, _, _, _, _, _, _, _, _, _, _, _, _, _, _, _, _, _, _, _, _, _, _, _, _, _, _, _, _, _, _, ⟨k + 1, by go_num, HS9.out⟩, rfl⟩ | exact ⟨_, _, _, _, _, _, _, _, _, _, _, _, _, _, _, _, _, _, _, _, _, _, _, _, _, _, _, _, _, _, _, _, _, _, _, _, _, _, _, _, _, _, _, _, _, _, _, _, _, _, _, _, _, _, _, _, _, _, _, _, _, _, _, _, _, _, _, _, _, _, ⟨k + 1, by go_num, HS9.out⟩, rfl⟩ | exact ⟨_, _, _, _, _, _, _, _, _, _, _, _, _, _, _, _, _, _, _, _, _, _, _, _, _, _, _, _, _, _, _, _, _, _, _, _, _, _, _, _, _, _, _, _, _, _, _, _, _, _, _, _, _, _, _, _, _, _, _, _, _, _, _, _, _, _, _, _, _, _, _, ⟨k + 1, by go_num, HS9.out⟩, rfl⟩ | exact ⟨_, _, _, _, _, _, _, _, _, _, _, _, _, _, _, _, _, _, _, _, _, _, _, _, _, _, _, _, _, _, _, _, _, _, _, _, _, _, _, _, _, _, _, _, _, _, _, _, _, _, _, _, _, _, _, _, _, _, _, _, _, _, _, _, _, _, _, _, _, _, _, _, ⟨k + 1, by go_num, HS9.out⟩, rfl⟩ | exact ⟨_, _, _, _, _, _, _, _, _, _, _, _, _, _, _, _, _, _, _, _, _, _, _, _, _, _, _, _, _, _, _, _, _, _, _, _, _, _, _, _, _, _, _, _, _, _, _, _, _, _, _, _, _, _, _, _, _, _, _, _, _, _, _, _, _, _, _, _, _, _, _, _, _, ⟨k + 1, by go_num, HS9.out⟩, rfl⟩ | exact ⟨_, _, _, _, _, _, _, _, _, _, _, _, _, _, _, _, _, _, _, _, _, _, _, _, _, _, _, _, _, _, _, _, _, _, _, _, _, _, _, _, _, _, _, _, _, _, _, _, _, _, _, _, _, _, _, _, _, _, _, _, _, _, _, _, _, _, _, _, _, _, _, _, _, _, ⟨k + 1, by go_num, HS9.out⟩, rfl⟩ | exact ⟨_, _, _, _, _, _, _, _, _, _, _, _, _, _, _, _, _, _, _, _, _, _, _, _, _, _, _, _, _, _, _, _, _, _, _, _, _, _, _, _, _, _, _, _, _, _, _, _, _, _, _, _, _, _, _, _, _, _, _, _, _, _, _, _, _, _, _, _, _, _, _, _, _, _, _, ⟨k + 1, by go_num, HS9.out⟩, rfl⟩ | exact ⟨_, _, _, _, _, _, _, _, _, _, _, _, _, _, _, _, _, _, _, _, _, _, _, _, _, _, _, _, _, _, _, _, _, _, _, _, _, _, _, _, _, _, _, _, _, _, _, _, _, _, _, _, _, _, _, _, _, _, _, _, _, _, _, _, _, _, _, _, _, _, _, _, _, _, _, _, ⟨k + 1, by go_num, HS9.out⟩, rfl⟩ | exact ⟨_, _, _, _, _, _, _, _, _, _, _, _, _, _, _, _, _, _, _, _, _, _, _, _, _, _, _, _, _, _, _, _, _, _, _, _, _, _, _, _, _, _, _, _, _, _, _, _, _, _, _, _, _, _, _, _, _, _, _, _, _, _, _, _, _, _, _, _, _, _, _, _, _, _, _, _, _, ⟨k + 1, by go_num, HS9.out⟩, rfl⟩ | exact ⟨_, _, _, _, _, _, _, _, _, _, _, _, _, _, _, _, _, _, _, _, _, _, _, _, _, _, _, _, _, _, _, _, _, _, _, _, _, _, _, _, _, _, _, _, _, _, _, _, _, _, _, _, _, _, _, _, _, _, _, _, _, _, _, _, _, _, _, _, _, _, _, _, _, _, _, _, _, _, ⟨k + 1, by go_num, HS9.out⟩, rfl⟩ | exact ⟨_, _, _, _, _, _, _, _, _, _, _, _, _, _, _, _, _, _, _, _, _, _, _, _, _, _, _, _, _, _, _, _, _, _, _, _, _, _, _, _, _, _, _, _, _, _, _, _, _, _, _, _, _, _, _, _, _, _, _, _, _, _, _, _, _, _, _, _, _, _, _, _, _, _, _, _, _, _, _, ⟨k + 1, by go_num, HS9.out⟩, rfl⟩ | exact ⟨_, _, _, _, _, _, _, _, _, _, _, _, _, _, _, _, _, _, _, _, _, _, _, _, _, _, _, _, _, _, _, _, _, _, _, _, _, _, _, _, _, _, _, _, _, _, _, _, _, _, ⟨k + 1, by go_num, HS9.out⟩, rfl⟩ | exact ⟨_, _, _, _, _, _, _, _, _, _, _, _, _, _, _, _, _, _, _, _, _, _, _, _, _, _, _, _, _, _, _, _, _, _, _, _, _, _, _, _, _, _, _, _, _, _, _, _, _, _, _, ⟨k + 1, by go_num, HS9.out⟩, rfl⟩ | exact ⟨_, _, _, _, _, _, _, _, _, _, _, _, _, _, _, _, _, _, _, _, _, _, _, _, _, _, _, _, _, _, _, _, _, _, _, _, _, _, _, _, _, _, _, _, _, _, _, _, _, _, _, _, ⟨k + 1, by go_num, HS9.out⟩, rfl⟩ | exact ⟨_, _, _, _, _, _, _, _, _, _, _, _, _, _, _, _, _, _, _, _, _, _, _, _, _, _, _, _, _, _, _, _, _, _, _, _, _, _, _, _, _, _, _, _, _, _, _, _, _, _, _, _, _, ⟨k + 1, by go_num, HS9.out⟩, rfl⟩ | exact ⟨_, _, _, _, _, _, _, _, _, _, _, _, _, _, _, _, _, _, _, _, _, _, _, _, _, _, _, _, _, _, _, _, _, _, _, _, _, _, _, _, _, _, _, _, _, _, _, _, _, _, _, _, _, _, ⟨k + 1, by go_num, HS9.out⟩, rfl⟩ | exact ⟨_, _, _, _, _, _, _, _, _, _, _, _, _, _, _, _, _, _, _, _, _, _, _, _, _, _, _, _, _, _, _, _, _, _, _, _, _, _, _, _, _, _, _, _, _, _, _, _, _, _, _, _, _, _, _, ⟨k + 1, by go_num, HS9.out⟩, rfl⟩ | exact ⟨_, _, _, _, _, _, _, _, _, _, _, _, _, _, _, _, _, _, _, _, _, _, _, _, _, _, _, _, _, _, _, _, _, _, _, _, _, _, _, _, _, _, _, _, _, _, _, _, _, _, _, _, _, _, _, _, ⟨k + 1, by go_num, HS9.out⟩, rfl⟩ | exact ⟨_, _, _, _, _, _, _, _, _, _, _, _, _, _, _, _, _, _, _, _, _, _, _, _, _, _, _, _, _, _, _, _, _, _, _, _, _, _, _, _, _, _, _, _, _, _, _, _, _, _, _, _, _, _, _, _, _, ⟨k + 1, by go_num, HS9.out⟩, rfl⟩ | exact ⟨_, _, _, _, _, _, _, _, _, _, _, _, _, _, _, _, _, _, _, _, _, _, _, _, _, _, _, _, _, _, _, _, _, _, _, _, _, _, _, _, _, _, _, _, _, _, _, _, _, _, _, _, _, _, _, _, _, _, ⟨k + 1, by go_num, HS9.out⟩, rfl⟩ | exact ⟨_, _, _, _, _, _, _, _, _, _, _, _, _, _, _, _, _, _, _, _, _, _, _, _, _, _, _, _, _, _, _, _, _, _, _, _, _, _, _, _, _, _, _, _, _, _, _, _, _, _, _, _, _, _, _, _, _, _, _, ⟨k + 1, by go_num, HS9.out⟩, rfl⟩ | exact ⟨_, _, _, _, _, _, _, _, _, _, _, _, _, _, _, _, _, _, _, _, _, _, _, _, _, _, _, _, _, _, _, _, _, _, _, _, _, _, _, _, _, _, _, _, _, _, _, _, _, _, _, _, _, _, _, _, _, _, _, _, ⟨k + 1, by go_num, HS9.out⟩, rfl⟩ | exact ⟨_, _, _, _, _, _, _, _, _, _, _, _, _, _, _, _, _, _, _, _, _, _, _, _, _, _, _, _, _, _, _, _, _, _, _, _, _, _, _, _, _, _, _, _, _, _, _, _, _, _, _, _, _, _, _, _, _, _, _, _, _, ⟨k + 1, by go_num, HS9.out⟩, rfl⟩ | exact ⟨_, _, _, _, _, _, _, _, _, _, _, _, _, _, _, _, _, _, _, _, _, _, _, _, _, _, _, _, _, _, _, _, _, _, _, _, _, _, _, _, _, _, _, _, _, _, _, _, _, _, _, _, _, _, _, _, _, _, _, _, _, _, ⟨k + 1, by go_num, HS9.out⟩, rfl⟩ | exact ⟨_, _, _, _, _, _, _, _, _, _, _, _, _, _, _, _, _, _, _, _, _, _, _, _, _, _, _, _, _, _, _, _, _, _, _, _, _, _, _, _, _, _, _, _, _, _, _, _, _, _, _, _, _, _, _, _, _, _, _, _, _, _, _, ⟨k + 1, by go_num, HS9.out⟩, rfl⟩ | exact ⟨_, _, _, _, _, _, _, _, _, _, _, _, _, _, _, _, _, _, _, _, _, _, _, _, _, _, _, _, _, _, _, _, _, _, _, _, _, _, _, _, _, _, _, _, _, _, _, _, _, _, _, _, _, _, _, _, _, _, _, _, _, _, _, _, ⟨k + 1, by go_num, HS9.out⟩, rfl⟩ | exact ⟨_, _, _, _, _, _, _, _, _, _, _, _, _, _, _, _, _, _, _, _, _, _, _, _, _, _, _, _, _, _, _, _, _, _, _, _, _, _, _, _, _, _, _, _, _, _, _, _, _, _, _, _, _, _, _, _, _, _, _, _, _, _, _, _, _, ⟨k + 1, by go_num, HS9.out⟩, rfl⟩
            case measure => simp [intOf]; omega
          · have dz : decide ((0 : Int) < (N : Int)) = false := decide_eq_false (fun h => hz (Int.natCast_pos.1 h))
            have dz2 : decide (0 < N) = false := decide_eq_false hz
            have hz0 : n0 + n1 = 0 := by rw [← HN.out]; exact Nat.eq_zero_of_not_pos hz
            obtain ⟨ha2, hb2⟩ := HE.out (by rw [← HN0.out]; exact (Nat.add_eq_zero_iff.1 hz0).1) (by rw [← HN1.out]; exact (Nat.add_eq_zero_iff.1 hz0).2)
            clear hz0
            rw [ha2] at hs0
            rw [hb2] at hs1
            have cm0 := HP.out.mach
            have cm1 : wr.cell? ⟨mb, 1, none⟩ = some (.pointer (some q1)) := HP.out.swap.mach
            have G0 := Lib.hid (show ∀ n, Calls Try.prog 18 #[.pointer (some q0)] (wr.drewN n) fun r w' => r = .returned (.int .i64 9) ∧ wr.drewN n = w' from fun n => by
              have := (HP.out.quiet H (Keeps.of_drewN (n := n) rfl)).state H
              rw [hs0] at this
              exact this)
            have G1 := Lib.hid (show ∀ n, Calls Try.prog 18 #[.pointer (some q1)] (wr.drewN n) fun r w' => r = .returned (.int .i64 9) ∧ wr.drewN n = w' from fun n => by
              have := (HP.out.quiet H (Keeps.of_drewN (n := n) rfl)).swap.state H
              rw [hs1] at this
              exact this)
            have GB := Lib.hid (fun n => (HP.out.quiet H (Keeps.of_drewN (n := n) rfl)).below)
            clear ha2 hb2 hs0 hs1 HS HE HN hz hab ha hb hc1 hc2 HN0 HN1
            go_wp2_with fail
            go_quiet (fail)
            clear c0 c1 e1 lw dz dz2 dk
            go_wp2_with fail
            refine (G0.out _).mono ?_
            rintro e w5 ⟨rfl, rfl⟩
            go_wp2_with fail
            refine (G1.out _).mono ?_
            rintro e w5 ⟨rfl, rfl⟩
            go_wp2
            go_ret
            exact ⟨rfl, GB.out _⟩
  · have d0 : decide ((200 : Int) < (bs.length : Int)) = true := decide_eq_true (by omega)
    have d1 : decide (200 < bs.length) = true := decide_eq_true (by omega)
    go_enter Try.func7, Try.ntmps7
    go_wp2_with fail
    refine (awake_any H w).mono ?_
    rintro e w1 ⟨rfl, hb1⟩
    go_wp2
    go_ret
    exact ⟨rfl, hb1⟩
end
end Go.Proofs.Ytjeekhgkcphnpaa
