/- The walk of the law FcsJoins. -/
import Derived.Test.YtkpagfeglpfhkaaLaw2A
import Derived.Test.YtkpagfeglpfhkaaLast
namespace Go.Proofs.Ytkpagfeglpfhkaa
open Go.RowKit

theorem min_step (x y : Nat) : (if (y : Int) < (x : Int) then (y : Int) else x) = ((min x y : Nat) : Int) := by
  split <;> omega
theorem run_min4 {P : Program} (ts : Array TypeId) (t : TypeId) (x y z u : Nat) (w : World) : (Builtin.min_ ts t #[.int .i64 x, .int .i64 y, .int .i64 z, .int .i64 u]).run P w = .ok (.int .i64 ((min (min (min x y) z) u : Nat) : Int)) w := by
  rw [← min_step, ← min_step, ← min_step]
  simp [Builtin.min_, Builtin.min2]

def xor3 (a b c : List UInt8) : List UInt8 := (a.zip (b.zip c)).map fun x => x.1 ^^^ x.2.1 ^^^ x.2.2
theorem xor3_length (N : Nat) (a b c : List UInt8) (h0 : N ≤ a.length) (h1 : N ≤ b.length) (h2 : N ≤ c.length) : (xor3 (a.take N) (b.take N) (c.take N)).length = N := by
  simp [xor3]; omega
theorem xor3_at (N : Nat) (a b c : List UInt8) (h0 : N ≤ a.length) (h1 : N ≤ b.length) (h2 : N ≤ c.length) (k : Nat) (hk : k < N) :
    (xor3 (a.take N) (b.take N) (c.take N))[k]? = some (a.getD k 0 ^^^ b.getD k 0 ^^^ c.getD k 0) := by
  have e0 : a[k]? = some (a.getD k 0) := by rw [List.getD_eq_getElem?_getD, List.getElem?_eq_getElem (by omega)]; rfl
  have e1 : b[k]? = some (b.getD k 0) := by rw [List.getD_eq_getElem?_getD, List.getElem?_eq_getElem (by omega)]; rfl
  have e2 : c[k]? = some (c.getD k 0) := by rw [List.getD_eq_getElem?_getD, List.getElem?_eq_getElem (by omega)]; rfl
  unfold xor3
  rw [List.getElem?_map, (List.getElem?_zip_eq_some (z := (a.getD k 0, (b.getD k 0, c.getD k 0)))).2 ⟨by rw [List.getElem?_take, if_pos hk]; exact e0, (List.getElem?_zip_eq_some (z := (b.getD k 0, c.getD k 0))).2 ⟨by rw [List.getElem?_take, if_pos hk]; exact e1, by rw [List.getElem?_take, if_pos hk]; exact e2⟩⟩]
  rfl
theorem xor3_crc (P ones : Nat) (a b c : List UInt8) (h1 : a.length = b.length) (h2 : a.length = c.length) : Pure.crc P ones (xor3 a b c) = Pure.crc P ones a ^^^ Pure.crc P ones b ^^^ Pure.crc P ones c := by
  have h := Pure.reg_xor3 P a b c ones ones ones h1 h2
  rw [show ones ^^^ ones ^^^ ones = ones by rw [Nat.xor_self, Nat.zero_xor]] at h
  unfold Pure.crc xor3
  rw [h]
  apply Nat.eq_of_testBit_eq
  intro j
  simp only [Nat.testBit_xor]
  cases (Pure.reg P ones a).testBit j <;> cases (Pure.reg P ones b).testBit j <;> cases (Pure.reg P ones c).testBit j <;> cases ones.testBit j <;> rfl

set_option maxRecDepth 100000 in
set_option maxHeartbeats 2000000 in
theorem fcsJoins_walk (a0 : Option Addr) (len0 cap0 : Nat) (z0 : List Int) (a1 : Option Addr) (len1 cap1 : Nat) (z1 : List Int) (a2 : Option Addr) (len2 cap2 : Nat) (z2 : List Int) (w : World)
    (w0 : IsRow .u8 w a0 len0 cap0 z0) (w1 : IsRow .u8 w a1 len1 cap1 z1) (w2 : IsRow .u8 w a2 len2 cap2 z2) :
    Calls Try.prog 14 #[.slice a0 len0 cap0, .slice a1 len1 cap1, .slice a2 len2 cap2] w fun e w' => e = .returned (.bool true) ∧ Below w.heap.size w w' := by
  obtain ⟨b0, hl0, hrow0⟩ := w0.bytes
  obtain ⟨b1, hl1, hrow1⟩ := w1.bytes
  obtain ⟨b2, hl2, hrow2⟩ := w2.bytes
  have m0 := hrow0.2.1
  have m1 := hrow1.2.1
  have m2 := hrow2.2.1
  have hc0 : len0 ≤ cap0 := by obtain ⟨_, _, e, h⟩ := hrow0.form; injection e with _ _ e; omega
  have hc1 : len1 ≤ cap1 := by obtain ⟨_, _, e, h⟩ := hrow1.form; injection e with _ _ e; omega
  have hc2 : len2 ≤ cap2 := by obtain ⟨_, _, e, h⟩ := hrow2.form; injection e with _ _ e; omega
  unfold maxLen at m0 m1 m2
  have R0 := Lib.hid hrow0
  have R1 := Lib.hid hrow1
  have R2 := Lib.hid hrow2
  clear hrow0 hrow1 hrow2 w0 w1 w2
  subst hl0 hl1 hl2
  go_enter Try.func14, Try.ntmps14
  go_wp2_with fail
  refine (awake2_any w).mono ?_
  rintro e wa ⟨rfl, hb1⟩
  have BA := Lib.hid hb1
  clear hb1
  have hmin : ∀ w : World, (Builtin.min_ #[3, 3, 3, 3] 3 #[.int .i64 b0.length, .int .i64 b1.length, .int .i64 b2.length, .int .i64 1000]).run Try.prog w = .ok (.int .i64 ((min (min (min b0.length b1.length) b2.length) 1000 : Nat) : Int)) w := fun w => run_min4 _ _ _ _ _ 1000 w
  obtain ⟨N, hN⟩ : ∃ N, N = min (min (min b0.length b1.length) b2.length) 1000 := ⟨_, rfl⟩
  rw [← hN] at hmin
  have hN0 : N ≤ b0.length := by omega
  have hN1 : N ≤ b1.length := by omega
  have hN2 : N ≤ b2.length := by omega
  have hN3 : N ≤ 1000 := by omega
  clear hN
  go_wp2_with fail
  clear hmin
  obtain ⟨i0, hi0, hz0, hz1, hz2⟩ := info_parts u8_info
  have I := Lib.hid (And.intro hi0 (And.intro hz0 (And.intro hz1 hz2)))
  clear hi0 hz0 hz1 hz2
  obtain ⟨X, hX⟩ : ∃ X, X = xor3 (b0.take N) (b1.take N) (b2.take N) := ⟨_, rfl⟩
  have hXl : X.length = N := by rw [hX]; exact xor3_length N b0 b1 b2 hN0 hN1 hN2
  have hXa : ∀ k, k < N → X[k]? = some (b0.getD k 0 ^^^ b1.getD k 0 ^^^ b2.getD k 0) := fun k hk => by rw [hX]; exact xor3_at N b0 b1 b2 hN0 hN1 hN2 k hk
  have HX := Lib.hid hX
  have HXl := Lib.hid hXl
  have HXa := Lib.hid hXa
  clear hX hXl hXa
  go_loopw [8, 9] (fun u i wr => ∃ k : Nat, k ≤ N ∧ i = .int .i64 k ∧ wr.ownsRow w.heap.size 5 1 u k (u8s (X.take k)) ∧ Below w.heap.size w wr) (fun _ i _ => N - (intOf i).toNat)
  case atStart => exact ⟨0, by omega, rfl, ⟨by simp, .inl ⟨rfl, rfl⟩⟩, BA.out⟩
  case round =>
    obtain ⟨k, hk, rfl, hown, hb⟩ := hrel
    have O := Lib.hid hown
    have B := Lib.hid hb
    clear hown hb BA
    by_cases hlt : k < N
    · obtain ⟨p0, o0, rfl, hp0, hcell0⟩ := (R0.out.keeps (Keeps.new B.out) (fun _ _ h => h)).cellAt (by omega)
      obtain ⟨p1, o1, rfl, hp1, hcell1⟩ := (R1.out.keeps (Keeps.new B.out) (fun _ _ h => h)).cellAt (by omega)
      obtain ⟨p2, o2, rfl, hp2, hcell2⟩ := (R2.out.keeps (Keeps.new B.out) (fun _ _ h => h)).cellAt (by omega)
      have c0 := hcell0 k _ (u8s_at b0 k (by omega))
      have c1 := hcell1 k _ (u8s_at b1 k (by omega))
      have c2 := hcell2 k _ (u8s_at b2 k (by omega))
      obtain ⟨A0, hA0⟩ : ∃ A : Nat, A = (b0.getD k 0).toNat := ⟨_, rfl⟩
      obtain ⟨A1, hA1⟩ : ∃ A : Nat, A = (b1.getD k 0).toNat := ⟨_, rfl⟩
      obtain ⟨A2, hA2⟩ : ∃ A : Nat, A = (b2.getD k 0).toNat := ⟨_, rfl⟩
      have h0 : A0 < 256 := by rw [hA0]; exact (b0.getD k 0).toNat_lt
      have h1 : A1 < 256 := by rw [hA1]; exact (b1.getD k 0).toNat_lt
      have h2 : A2 < 256 := by rw [hA2]; exact (b2.getD k 0).toNat_lt
      rw [← hA0] at c0
      rw [← hA1] at c1
      rw [← hA2] at c2
      have hx1 := u8_xor_nat A0 A1 h0 h1
      have h01 : A0 ^^^ A1 < 256 := Nat.xor_lt_two_pow (n := 8) h0 h1
      have hx2 := u8_xor_nat (A0 ^^^ A1) A2 h01 h2
      have hXk : X.take (k + 1) = X.take k ++ [b0.getD k 0 ^^^ b1.getD k 0 ^^^ b2.getD k 0] := by rw [List.take_add_one, HXa.out k hlt]; rfl
      have hv : Value.int .u8 ((A0 ^^^ A1 ^^^ A2 : Nat) : Int) = .int .u8 (b0.getD k 0 ^^^ b1.getD k 0 ^^^ b2.getD k 0).toNat := by rw [hA0, hA1, hA2, UInt8.toNat_xor, UInt8.toNat_xor]
      obtain ⟨Y, hY⟩ : ∃ Y, Y = A0 ^^^ A1 ^^^ A2 := ⟨_, rfl⟩
      obtain ⟨Z, hZ⟩ : ∃ Z, Z = A0 ^^^ A1 := ⟨_, rfl⟩
      rw [← hY] at hv hx2
      rw [← hZ] at hx1 hx2
      have HXk := Lib.hid hXk
      have HV := Lib.hid hv
      have hi0 : (0 : Int) ≤ (k : Int) := by omega
      have hi1 : (k : Int) < (b0.length : Int) := by omega
      have hi2 : (k : Int) < (b1.length : Int) := by omega
      have hi3 : (k : Int) < (b2.length : Int) := by omega
      clear hcell0 hcell1 hcell2 hA0 hA1 hA2 h0 h1 h2 h01 hXk hv hY hZ
      go_wp2_with fail
      refine wp_region_Z (fun w' => w'.cell? ⟨p0, o0 + k, none⟩ = some (.int .u8 A0) ∧ w'.cell? ⟨p1, o1 + k, none⟩ = some (.int .u8 A1) ∧ w'.cell? ⟨p2, o2 + k, none⟩ = some (.int .u8 A2)) 16 18 rfl (by kernel_rfl) ⟨c0, c1, c2⟩ (fun hHeld => ?_)
      iterate 15
        refine wpAnyZ_next rfl (by kernel_rfl) (fun _ _ _ h => h) (Or.inl ⟨by rfl, by intro w hSw; obtain ⟨s0, s1, s2⟩ := hSw; go_simp; try with_reducible rfl⟩) hHeld.out ?_
        simp only [Act.put, List.setIfInBounds_toArray, Nat.reduceAdd, List.getElem_toArray, List.getElem_cons_succ, List.getElem_cons_zero, List.set_cons_succ, List.set_cons_zero]
      refine wpAnyZ_step (by kernel_rfl) rfl (fun K hK => ?_)
      clear hHeld
      go_simp
      refine hK.out _ _ (fun _ => ⟨(World.cell?_alloc_lt wr _ ⟨p0, o0 + k, none⟩ (cell_lt c0)).trans c0, (World.cell?_alloc_lt wr _ ⟨p1, o1 + k, none⟩ (cell_lt c1)).trans c1, (World.cell?_alloc_lt wr _ ⟨p2, o2 + k, none⟩ (cell_lt c2)).trans c2⟩) ?_
      clear hK K
      simp only [Nat.reduceAdd]
      have hrow1 : Row (wr.alloc (.cells #[.int .u8 Y] 5)).drew (fun _ => True) 1 (.slice (some ⟨wr.heap.size, 0, none⟩) 1 1) 1 [.int .u8 Y] :=
        Row.block (Blk.new wr 5 #[.int .u8 Y]) trivial rfl (by simp [maxLen]) (Nat.le_refl _)
      have HRow := Lib.hid hrow1
      have hsz := B.out.size
      obtain ⟨hi0', hz0, hz1, hz2⟩ := I.out
      refine wpAnyZ_step (by kernel_rfl) rfl (fun K hK => ?_)
      rw [if_pos (by rfl)]
      refine wp_append_row (.tmp 26) (.tmp 41) _ rfl w.heap.size 5 i0 _ 1 1 Try.underlying26 hi0' hz0 hz1 hz2 rfl (by omega) u8 k (u8s (X.take k))
        rfl (O.out.alloc _).drew _ _ 1 [.int .u8 Y] rfl HRow.out (by simp [Value.oneCell']) (by simp only [maxLen]; omega) (by omega) (by simp; omega) ?_
      intro v3 w3 hown3 hg3 hat3
      rw [HV.out] at hown3
      have hown3' : w3.ownsRow w.heap.size 5 1 v3 (k + 1) (u8s (X.take (k + 1))) := by
        rw [HXk.out, show u8s (X.take k ++ [b0.getD k 0 ^^^ b1.getD k 0 ^^^ b2.getD k 0]) = u8s (X.take k) ++ [.int .u8 (b0.getD k 0 ^^^ b1.getD k 0 ^^^ b2.getD k 0).toNat] by simp only [List.map_append, List.map_cons, List.map_nil]]
        exact hown3
      have hg3' : (wr.alloc (.cells #[.int .u8 Y] 5)).grownBy w3 u8.ownBlock := ⟨hg3.os, hg3.tape, hg3.output, hg3.size, hg3.block⟩
      have hb3 := Below.grown (B.out.alloc hsz (.cells #[.int .u8 Y] 5)) hg3' (by simp; omega) (fun q hq => (ownsRow_ge O.out q hq))
      have hd3 := Lib.hid (And.intro ((hb3.cell (p := ⟨p0, o0 + k, none⟩) hp0).trans ((B.out.cell (p := ⟨p0, o0 + k, none⟩) hp0).symm.trans c0)) (And.intro ((hb3.cell (p := ⟨p1, o1 + k, none⟩) hp1).trans ((B.out.cell (p := ⟨p1, o1 + k, none⟩) hp1).symm.trans c1))
        ((hb3.cell (p := ⟨p2, o2 + k, none⟩) hp2).trans ((B.out.cell (p := ⟨p2, o2 + k, none⟩) hp2).symm.trans c2))))
      have O3 := Lib.hid hown3'
      have B3 := Lib.hid hb3
      refine hK.out _ _ (fun h => absurd rfl h) ?_
      clear hK K hown3 hown3' hg3 hg3' hat3 hb3 hi0' hz0 hz1 hz2 hrow1
      simp only [Act.put, List.setIfInBounds_toArray, Nat.reduceAdd, List.getElem_toArray, List.getElem_cons_succ, List.getElem_cons_zero, List.set_cons_succ, List.set_cons_zero]
      refine wpAnyZ_step (by kernel_rfl) rfl (fun K hK => ?_)
      go_simp
      refine hK.out _ _ (fun _ => hd3.out) ?_
      refine wpAnyZ_done (by kernel_rfl) ?_ _
      clear hK K c0 c1 c2 hd3
      go_wp2
      go_roundw
      case rel => exact ⟨k + 1, by omega, by go_num, O3.out, B3.out⟩
      case measure => simp [intOf]; omega
    · have hk' : k = N := by omega
      have hXf : X.take k = X := List.take_of_length_le (by rw [HXl.out]; omega)
      rw [hXf, hk'] at O
      clear hXf hk'
      have q0 := (R0.out.take1 N hN0).keeps (Keeps.new B.out) (fun _ _ h => h)
      rw [← u8s_take] at q0
      have l0 : (b0.take N).length = N := by simp; omega
      obtain ⟨T0, hT0⟩ : ∃ T, T = b0.take N := ⟨_, rfl⟩
      rw [← hT0] at q0 l0 HX
      have q0' : Row wr (fun b => b < w.heap.size) 1 (.slice a0 N cap0) T0.length (u8s T0) := by rw [l0]; exact q0
      have Q0 := Lib.hid q0'
      have L0 := Lib.hid l0
      clear q0 q0' l0 hT0
      have q1 := (R1.out.take1 N hN1).keeps (Keeps.new B.out) (fun _ _ h => h)
      rw [← u8s_take] at q1
      have l1 : (b1.take N).length = N := by simp; omega
      obtain ⟨T1, hT1⟩ : ∃ T, T = b1.take N := ⟨_, rfl⟩
      rw [← hT1] at q1 l1 HX
      have q1' : Row wr (fun b => b < w.heap.size) 1 (.slice a1 N cap1) T1.length (u8s T1) := by rw [l1]; exact q1
      have Q1 := Lib.hid q1'
      have L1 := Lib.hid l1
      clear q1 q1' l1 hT1
      have q2 := (R2.out.take1 N hN2).keeps (Keeps.new B.out) (fun _ _ h => h)
      rw [← u8s_take] at q2
      have l2 : (b2.take N).length = N := by simp; omega
      obtain ⟨T2, hT2⟩ : ∃ T, T = b2.take N := ⟨_, rfl⟩
      rw [← hT2] at q2 l2 HX
      have q2' : Row wr (fun b => b < w.heap.size) 1 (.slice a2 N cap2) T2.length (u8s T2) := by rw [l2]; exact q2
      have Q2 := Lib.hid q2'
      have L2 := Lib.hid l2
      clear q2 q2' l2 hT2
      obtain ⟨c160, hc160⟩ : ∃ c, Pure.crc16 T0 = c := ⟨_, rfl⟩
      have lt160 : c160 < 65536 := by rw [← hc160]; exact Pure.crc_lt (W := 16) (by omega) (by decide) (by decide) T0
      have C160 := Lib.hid hc160
      obtain ⟨c161, hc161⟩ : ∃ c, Pure.crc16 T1 = c := ⟨_, rfl⟩
      have lt161 : c161 < 65536 := by rw [← hc161]; exact Pure.crc_lt (W := 16) (by omega) (by decide) (by decide) T1
      have C161 := Lib.hid hc161
      obtain ⟨c162, hc162⟩ : ∃ c, Pure.crc16 T2 = c := ⟨_, rfl⟩
      have lt162 : c162 < 65536 := by rw [← hc162]; exact Pure.crc_lt (W := 16) (by omega) (by decide) (by decide) T2
      have C162 := Lib.hid hc162
      have hx16 : Pure.crc16 X = c160 ^^^ c161 ^^^ c162 := by
        rw [HX.out]
        unfold Pure.crc16
        rw [xor3_crc _ _ _ _ _ (by rw [L0.out, L1.out]) (by rw [L0.out, L2.out])]
        rw [← hc160, ← hc161, ← hc162]
        rfl
      have CX16 := Lib.hid hx16
      have xa16 := u16_xor_nat c160 c161 lt160 lt161
      have xl16 : c160 ^^^ c161 < 65536 := Nat.xor_lt_two_pow (n := 16) lt160 lt161
      have xb16 := u16_xor_nat (c160 ^^^ c161) c162 xl16 lt162
      obtain ⟨d16, hd16⟩ : ∃ d, c160 ^^^ c161 = d := ⟨_, rfl⟩
      rw [hd16] at xa16 xb16 CX16
      obtain ⟨f16, hf16⟩ : ∃ f, d16 ^^^ c162 = f := ⟨_, rfl⟩
      rw [hf16] at xb16 CX16
      clear hc160 hc161 hc162 lt160 lt161 lt162 hx16 xl16 hd16 hf16
      obtain ⟨c320, hc320⟩ : ∃ c, Pure.crc32 T0 = c := ⟨_, rfl⟩
      have lt320 : c320 < 4294967296 := by rw [← hc320]; exact Pure.crc_lt (W := 32) (by omega) (by decide) (by decide) T0
      have C320 := Lib.hid hc320
      obtain ⟨c321, hc321⟩ : ∃ c, Pure.crc32 T1 = c := ⟨_, rfl⟩
      have lt321 : c321 < 4294967296 := by rw [← hc321]; exact Pure.crc_lt (W := 32) (by omega) (by decide) (by decide) T1
      have C321 := Lib.hid hc321
      obtain ⟨c322, hc322⟩ : ∃ c, Pure.crc32 T2 = c := ⟨_, rfl⟩
      have lt322 : c322 < 4294967296 := by rw [← hc322]; exact Pure.crc_lt (W := 32) (by omega) (by decide) (by decide) T2
      have C322 := Lib.hid hc322
      have hx32 : Pure.crc32 X = c320 ^^^ c321 ^^^ c322 := by
        rw [HX.out]
        unfold Pure.crc32
        rw [xor3_crc _ _ _ _ _ (by rw [L0.out, L1.out]) (by rw [L0.out, L2.out])]
        rw [← hc320, ← hc321, ← hc322]
        rfl
      have CX32 := Lib.hid hx32
      have xa32 := u32_xor_nat c320 c321 lt320 lt321
      have xl32 : c320 ^^^ c321 < 4294967296 := Nat.xor_lt_two_pow (n := 32) lt320 lt321
      have xb32 := u32_xor_nat (c320 ^^^ c321) c322 xl32 lt322
      obtain ⟨d32, hd32⟩ : ∃ d, c320 ^^^ c321 = d := ⟨_, rfl⟩
      rw [hd32] at xa32 xb32 CX32
      obtain ⟨f32, hf32⟩ : ∃ f, d32 ^^^ c322 = f := ⟨_, rfl⟩
      rw [hf32] at xb32 CX32
      clear hc320 hc321 hc322 lt320 lt321 lt322 hx32 xl32 hd32 hf32
      clear HX
      have nc0 : N ≤ cap0 := by omega
      have nc1 : N ≤ cap1 := by omega
      have nc2 : N ≤ cap2 := by omega
      go_wp2_with fail
      refine wp_region_Z (fun _ => True) 14 15 rfl (by kernel_rfl) trivial (fun _ => ?_)
      refine wpAnyZ_take (i := 0) rfl (by kernel_rfl) (fun _ _ _ h => h) (Or.inl ⟨by rfl, by intro w hSw; go_simp; try with_reducible rfl⟩) trivial ?_
      simp only [Act.put, List.setIfInBounds_toArray, Nat.reduceAdd, List.getElem_toArray, List.getElem_cons_succ, List.getElem_cons_zero, List.set_cons_succ, List.set_cons_zero]
      refine wpAnyZ_take (i := 1) rfl (by kernel_rfl) (fun _ _ _ h => h) (Or.inl ⟨by rfl, by intro w hSw; go_simp; try with_reducible rfl⟩) trivial ?_
      simp only [Act.put, List.setIfInBounds_toArray, Nat.reduceAdd, List.getElem_toArray, List.getElem_cons_succ, List.getElem_cons_zero, List.set_cons_succ, List.set_cons_zero]
      refine wpAnyZ_take (i := 2) rfl (by kernel_rfl) (fun _ _ _ h => h) (Or.inl ⟨by rfl, by intro w hSw; go_simp; try with_reducible rfl⟩) trivial ?_
      simp only [Act.put, List.setIfInBounds_toArray, Nat.reduceAdd, List.getElem_toArray, List.getElem_cons_succ, List.getElem_cons_zero, List.set_cons_succ, List.set_cons_zero]
      refine wpAnyZ_take (i := 4) rfl (by kernel_rfl) (fun _ _ _ h => h) (Or.inl ⟨by rfl, by intro w hSw; go_simp; try with_reducible rfl⟩) trivial ?_
      simp only [Act.put, List.setIfInBounds_toArray, Nat.reduceAdd, List.getElem_toArray, List.getElem_cons_succ, List.getElem_cons_zero, List.set_cons_succ, List.set_cons_zero]
      refine wpAnyZ_take (i := 5) rfl (by kernel_rfl) (fun _ _ _ h => h) (Or.inl ⟨by rfl, by intro w hSw; go_simp; try with_reducible rfl⟩) trivial ?_
      simp only [Act.put, List.setIfInBounds_toArray, Nat.reduceAdd, List.getElem_toArray, List.getElem_cons_succ, List.getElem_cons_zero, List.set_cons_succ, List.set_cons_zero]
      refine wpAnyZ_take (i := 6) rfl (by kernel_rfl) (fun _ _ _ h => h) (Or.inl ⟨by rfl, by intro w hSw; go_simp; try with_reducible rfl⟩) trivial ?_
      simp only [Act.put, List.setIfInBounds_toArray, Nat.reduceAdd, List.getElem_toArray, List.getElem_cons_succ, List.getElem_cons_zero, List.set_cons_succ, List.set_cons_zero]
      refine wpAnyZ_take (i := 9) rfl (by kernel_rfl) (fun _ _ _ h => h) (Or.inl ⟨by rfl, by intro w hSw; go_simp; try with_reducible rfl⟩) trivial ?_
      simp only [Act.put, List.setIfInBounds_toArray, Nat.reduceAdd, List.getElem_toArray, List.getElem_cons_succ, List.getElem_cons_zero, List.set_cons_succ, List.set_cons_zero]
      refine wpAnyZ_take (i := 10) rfl (by kernel_rfl) (fun _ _ _ h => h) (Or.inl ⟨by rfl, by intro w hSw; go_simp; try with_reducible rfl⟩) trivial ?_
      simp only [Act.put, List.setIfInBounds_toArray, Nat.reduceAdd, List.getElem_toArray, List.getElem_cons_succ, List.getElem_cons_zero, List.set_cons_succ, List.set_cons_zero]
      refine wpAnyZ_take (i := 11) rfl (by kernel_rfl) (fun _ _ _ h => h) (Or.inl ⟨by rfl, by intro w hSw; go_simp; try with_reducible rfl⟩) trivial ?_
      simp only [Act.put, List.setIfInBounds_toArray, Nat.reduceAdd, List.getElem_toArray, List.getElem_cons_succ, List.getElem_cons_zero, List.set_cons_succ, List.set_cons_zero]
      refine wpAnyZ_one (i := 3) (by kernel_rfl) rfl (fun K hK => ?_)
      go_simp
      refine (Sum16_any _ _ T0 wr.drew (Q0.out.keeps (Keeps.refl nobody wr).drew (fun _ _ h => h))).mono ?_
      rintro e w' ⟨rfl, rfl⟩
      rw [C160.out]
      refine hK.out _ _ (fun _ => trivial) ?_
      clear hK K
      try simp only [Act.put, List.setIfInBounds_toArray, Nat.reduceAdd, List.getElem_toArray, List.getElem_cons_succ, List.getElem_cons_zero, List.set_cons_succ, List.set_cons_zero]
      refine wpAnyZ_one (i := 7) (by kernel_rfl) rfl (fun K hK => ?_)
      go_simp
      refine (Sum16_any _ _ T1 wr.drew (Q1.out.keeps (Keeps.refl nobody wr).drew (fun _ _ h => h))).mono ?_
      rintro e w' ⟨rfl, rfl⟩
      rw [C161.out]
      refine hK.out _ _ (fun _ => trivial) ?_
      clear hK K
      try simp only [Act.put, List.setIfInBounds_toArray, Nat.reduceAdd, List.getElem_toArray, List.getElem_cons_succ, List.getElem_cons_zero, List.set_cons_succ, List.set_cons_zero]
      refine wpAnyZ_take (i := 8) rfl (by kernel_rfl) (fun _ _ _ h => h) (Or.inl ⟨by rfl, by intro w hSw; go_simp; try with_reducible rfl⟩) trivial ?_
      simp only [Act.put, List.setIfInBounds_toArray, Nat.reduceAdd, List.getElem_toArray, List.getElem_cons_succ, List.getElem_cons_zero, List.set_cons_succ, List.set_cons_zero]
      refine wpAnyZ_one (i := 12) (by kernel_rfl) rfl (fun K hK => ?_)
      go_simp
      refine (Sum16_any _ _ T2 wr.drew (Q2.out.keeps (Keeps.refl nobody wr).drew (fun _ _ h => h))).mono ?_
      rintro e w' ⟨rfl, rfl⟩
      rw [C162.out]
      refine hK.out _ _ (fun _ => trivial) ?_
      clear hK K
      try simp only [Act.put, List.setIfInBounds_toArray, Nat.reduceAdd, List.getElem_toArray, List.getElem_cons_succ, List.getElem_cons_zero, List.set_cons_succ, List.set_cons_zero]
      refine wpAnyZ_take (i := 13) rfl (by kernel_rfl) (fun _ _ _ h => h) (Or.inl ⟨by rfl, by intro w hSw; go_simp; try with_reducible rfl⟩) trivial ?_
      simp only [Act.put, List.setIfInBounds_toArray, Nat.reduceAdd, List.getElem_toArray, List.getElem_cons_succ, List.getElem_cons_zero, List.set_cons_succ, List.set_cons_zero]
      refine wpAnyZ_one (i := 14) (by kernel_rfl) rfl (fun K hK => ?_)
      go_simp
      refine hK.out _ _ (fun _ => trivial) ?_
      refine wpAnyZ_done (by kernel_rfl) ?_ _
      clear hK K
      go_wp2_with fail
      obtain ⟨ww, hww⟩ : ∃ ww, ww = wr.drew := ⟨_, rfl⟩
      have KW := Lib.hid (show Keeps nobody wr ww from hww ▸ (Keeps.refl nobody wr).drew)
      rw [← hww]
      clear hww
      refine wp_region_Z (fun _ => True) 14 15 rfl (by kernel_rfl) trivial (fun _ => ?_)
      refine wpAnyZ_take (i := 0) rfl (by kernel_rfl) (fun _ _ _ h => h) (Or.inl ⟨by rfl, by intro w hSw; go_simp; try with_reducible rfl⟩) trivial ?_
      simp only [Act.put, List.setIfInBounds_toArray, Nat.reduceAdd, List.getElem_toArray, List.getElem_cons_succ, List.getElem_cons_zero, List.set_cons_succ, List.set_cons_zero]
      refine wpAnyZ_take (i := 1) rfl (by kernel_rfl) (fun _ _ _ h => h) (Or.inl ⟨by rfl, by intro w hSw; go_simp; try with_reducible rfl⟩) trivial ?_
      simp only [Act.put, List.setIfInBounds_toArray, Nat.reduceAdd, List.getElem_toArray, List.getElem_cons_succ, List.getElem_cons_zero, List.set_cons_succ, List.set_cons_zero]
      refine wpAnyZ_take (i := 2) rfl (by kernel_rfl) (fun _ _ _ h => h) (Or.inl ⟨by rfl, by intro w hSw; go_simp; try with_reducible rfl⟩) trivial ?_
      simp only [Act.put, List.setIfInBounds_toArray, Nat.reduceAdd, List.getElem_toArray, List.getElem_cons_succ, List.getElem_cons_zero, List.set_cons_succ, List.set_cons_zero]
      refine wpAnyZ_take (i := 4) rfl (by kernel_rfl) (fun _ _ _ h => h) (Or.inl ⟨by rfl, by intro w hSw; go_simp; try with_reducible rfl⟩) trivial ?_
      simp only [Act.put, List.setIfInBounds_toArray, Nat.reduceAdd, List.getElem_toArray, List.getElem_cons_succ, List.getElem_cons_zero, List.set_cons_succ, List.set_cons_zero]
      refine wpAnyZ_take (i := 5) rfl (by kernel_rfl) (fun _ _ _ h => h) (Or.inl ⟨by rfl, by intro w hSw; go_simp; try with_reducible rfl⟩) trivial ?_
      simp only [Act.put, List.setIfInBounds_toArray, Nat.reduceAdd, List.getElem_toArray, List.getElem_cons_succ, List.getElem_cons_zero, List.set_cons_succ, List.set_cons_zero]
      refine wpAnyZ_take (i := 6) rfl (by kernel_rfl) (fun _ _ _ h => h) (Or.inl ⟨by rfl, by intro w hSw; go_simp; try with_reducible rfl⟩) trivial ?_
      simp only [Act.put, List.setIfInBounds_toArray, Nat.reduceAdd, List.getElem_toArray, List.getElem_cons_succ, List.getElem_cons_zero, List.set_cons_succ, List.set_cons_zero]
      refine wpAnyZ_take (i := 9) rfl (by kernel_rfl) (fun _ _ _ h => h) (Or.inl ⟨by rfl, by intro w hSw; go_simp; try with_reducible rfl⟩) trivial ?_
      simp only [Act.put, List.setIfInBounds_toArray, Nat.reduceAdd, List.getElem_toArray, List.getElem_cons_succ, List.getElem_cons_zero, List.set_cons_succ, List.set_cons_zero]
      refine wpAnyZ_take (i := 10) rfl (by kernel_rfl) (fun _ _ _ h => h) (Or.inl ⟨by rfl, by intro w hSw; go_simp; try with_reducible rfl⟩) trivial ?_
      simp only [Act.put, List.setIfInBounds_toArray, Nat.reduceAdd, List.getElem_toArray, List.getElem_cons_succ, List.getElem_cons_zero, List.set_cons_succ, List.set_cons_zero]
      refine wpAnyZ_take (i := 11) rfl (by kernel_rfl) (fun _ _ _ h => h) (Or.inl ⟨by rfl, by intro w hSw; go_simp; try with_reducible rfl⟩) trivial ?_
      simp only [Act.put, List.setIfInBounds_toArray, Nat.reduceAdd, List.getElem_toArray, List.getElem_cons_succ, List.getElem_cons_zero, List.set_cons_succ, List.set_cons_zero]
      refine wpAnyZ_one (i := 3) (by kernel_rfl) rfl (fun K hK => ?_)
      go_simp
      refine (Sum32_any _ _ T0 ww.drew (Q0.out.keeps (KW.out.trans (Keeps.refl nobody ww).drew) (fun _ _ h => h))).mono ?_
      rintro e w' ⟨rfl, rfl⟩
      rw [C320.out]
      refine hK.out _ _ (fun _ => trivial) ?_
      clear hK K
      try simp only [Act.put, List.setIfInBounds_toArray, Nat.reduceAdd, List.getElem_toArray, List.getElem_cons_succ, List.getElem_cons_zero, List.set_cons_succ, List.set_cons_zero]
      refine wpAnyZ_one (i := 7) (by kernel_rfl) rfl (fun K hK => ?_)
      go_simp
      refine (Sum32_any _ _ T1 ww.drew (Q1.out.keeps (KW.out.trans (Keeps.refl nobody ww).drew) (fun _ _ h => h))).mono ?_
      rintro e w' ⟨rfl, rfl⟩
      rw [C321.out]
      refine hK.out _ _ (fun _ => trivial) ?_
      clear hK K
      try simp only [Act.put, List.setIfInBounds_toArray, Nat.reduceAdd, List.getElem_toArray, List.getElem_cons_succ, List.getElem_cons_zero, List.set_cons_succ, List.set_cons_zero]
      refine wpAnyZ_take (i := 8) rfl (by kernel_rfl) (fun _ _ _ h => h) (Or.inl ⟨by rfl, by intro w hSw; go_simp; try with_reducible rfl⟩) trivial ?_
      simp only [Act.put, List.setIfInBounds_toArray, Nat.reduceAdd, List.getElem_toArray, List.getElem_cons_succ, List.getElem_cons_zero, List.set_cons_succ, List.set_cons_zero]
      refine wpAnyZ_one (i := 12) (by kernel_rfl) rfl (fun K hK => ?_)
      go_simp
      refine (Sum32_any _ _ T2 ww.drew (Q2.out.keeps (KW.out.trans (Keeps.refl nobody ww).drew) (fun _ _ h => h))).mono ?_
      rintro e w' ⟨rfl, rfl⟩
      rw [C322.out]
      refine hK.out _ _ (fun _ => trivial) ?_
      clear hK K
      try simp only [Act.put, List.setIfInBounds_toArray, Nat.reduceAdd, List.getElem_toArray, List.getElem_cons_succ, List.getElem_cons_zero, List.set_cons_succ, List.set_cons_zero]
      refine wpAnyZ_take (i := 13) rfl (by kernel_rfl) (fun _ _ _ h => h) (Or.inl ⟨by rfl, by intro w hSw; go_simp; try with_reducible rfl⟩) trivial ?_
      simp only [Act.put, List.setIfInBounds_toArray, Nat.reduceAdd, List.getElem_toArray, List.getElem_cons_succ, List.getElem_cons_zero, List.set_cons_succ, List.set_cons_zero]
      refine wpAnyZ_one (i := 14) (by kernel_rfl) rfl (fun K hK => ?_)
      go_simp
      refine hK.out _ _ (fun _ => trivial) ?_
      refine wpAnyZ_done (by kernel_rfl) ?_ _
      clear hK K
      have hlX : Row ww.drew (fun q => u8.ownBlock = some q) 1 u8 X.length (u8s X) := by rw [HXl.out]; exact (Row.of_own O.out).keeps (KW.out.trans (Keeps.refl nobody ww).drew) (fun _ _ h => h)
      have LX := Lib.hid hlX
      clear hlX
      go_wp2_with fail
      refine (Sum16_any _ _ X ww.drew LX.out).mono ?_
      rintro e w' ⟨rfl, rfl⟩
      rw [CX16.out]
      go_wp2_with fail
      refine (Sum32_any _ _ X ww.drew LX.out).mono ?_
      rintro e w' ⟨rfl, rfl⟩
      rw [CX32.out]
      go_wp2
      go_ret
      exact ⟨rfl, Below.quiet B.out (KW.out.trans (Keeps.refl nobody ww).drew) B.out.size⟩
end Go.Proofs.Ytkpagfeglpfhkaa
