/- Rows of numbers: append, make; rows of bytes that make lays, known whole. -/
import Derived.Test.YtjomcffhbaplcaaQ4
import Derived.Test.YtjomcffhbaplcaaQ10
namespace Go.Proofs.Ytjomcffhbaplcaa
open Go.RowKit
/-- The values of small numbers. -/
abbrev ints (l : List Nat) : List Value := l.map fun (b : Nat) => Value.int .i64 (b : Int)
theorem ints_at (l : List Nat) (j : Nat) (h : j < l.length) : (ints l)[j]? = some (.int .i64 ((l.getD j 0 : Nat) : Int)) := by
  rw [List.getElem?_map, List.getElem?_eq_getElem h, List.getD_eq_getElem?_getD, List.getElem?_eq_getElem h]; rfl
theorem int_info : (Try.prog.info? 3).map (fun i => (i.zero, i.size, i.bytes)) = some (some (.int .i64 0), 1, 8) := by kernel_rfl
theorem ints_cells (l : List Nat) : ∀ u ∈ ints l, u.oneCell' = true := by
  intro u hu
  obtain ⟨b, _, rfl⟩ := List.mem_map.1 hu
  rfl
/-- Numbers that were just made. -/
theorem irow_new (w : World) (l : List Nat) (cs : Array Value) (n : Nat) (hc : cs = (ints l).toArray) (hn : n = l.length) (hl : l.length ≤ 100000) : Row (w.alloc (.cells cs 3)) (fun b => b = w.heap.size) 1 (.slice (some ⟨w.heap.size, 0, none⟩) n n) l.length (ints l) := by
  subst hc hn
  exact Row.block (Blk.new w 3 (ints l).toArray) rfl (by simp) (by unfold maxLen; omega) (Nat.le_refl _)
theorem cell_alloc {w : World} {o : Obj} {a : Addr} {v : Value} (h : w.cell? a = some v) : (w.alloc o).cell? a = some v :=
  (World.cell?_alloc_lt w o a (by rcases Nat.lt_or_ge a.block w.heap.size with hl | hg; exact hl; simp [World.cell?, Array.getElem?_eq_none hg] at h)).trans h
theorem take_snoc {α : Type} (l : List α) (d : α) (k : Nat) (h : k < l.length) : l.take (k + 1) = l.take k ++ [l.getD k d] := by
  rw [List.getD_eq_getElem?_getD, List.getElem?_eq_getElem h]
  exact (List.take_append_getElem h).symm
section
variable {w : World} {ops : Array Oper} {rest : List Oper} {o : Oper} {a : Act} {Q : Exit → Act → World → Prop}
theorem wp_append_int (hgd : o.guard = none) (s x : Operand) (ho : o.op = .call { callee := .builtin .append, args := #[s, x], argTypes := #[85, 85] })
    (base : Nat) (v : Value) (n : Nat) (l : List Nat) (hn : l.length = n) (hs : a.eval s = v) (hown : w.ownsRow base 3 1 v n (ints l))
    (F : Nat → Prop) (y : Value) (m : List Nat) (hx : a.eval x = y) (hr : Row w F 1 y m.length (ints m)) (hlen : n + m.length ≤ 17592186044416) (hbase : base ≤ w.heap.size)
    (h : ∀ v' w', w'.ownsRow base 3 1 v' (l ++ m).length (ints (l ++ m)) → w.grownBy w' v.ownBlock → (v'.ownBlock = v.ownBlock ∨ v'.ownBlock = some w.heap.size) → wpList Try.prog ops Q rest (a.put o.dst v') w') :
    wpList Try.prog ops Q (o :: rest) a w := by
  obtain ⟨i0, hi0, hz0, hz1, hz2⟩ := info_parts int_info
  subst hn
  refine wpList_append_row hgd s x _ ho base 3 i0 _ 1 8 Try.underlying85 hi0 hz0 hz1 hz2 rfl (by omega) v _ (ints l) hs hown F y m.length (ints m) hx hr (ints_cells m) (by simp only [maxLen]; omega) (by omega) hbase ?_
  intro v' w' h1 h2 h3
  refine h v' w' ?_ h2 h3
  rw [List.length_append]
  simpa using h1
theorem wpo_append_int {K : Act → World → Prop} (s x : Operand) (ho : o.op = .call { callee := .builtin .append, args := #[s, x], argTypes := #[85, 85] })
    (base : Nat) (v : Value) (n : Nat) (l : List Nat) (hn : l.length = n) (hs : a.eval s = v) (hown : w.ownsRow base 3 1 v n (ints l))
    (F : Nat → Prop) (y : Value) (m : List Nat) (hx : a.eval x = y) (hr : Row w F 1 y m.length (ints m)) (hlen : n + m.length ≤ 17592186044416) (hbase : base ≤ w.heap.size)
    (h : ∀ v' w', w'.ownsRow base 3 1 v' (l ++ m).length (ints (l ++ m)) → w.grownBy w' v.ownBlock → (v'.ownBlock = v.ownBlock ∨ v'.ownBlock = some w.heap.size) → K (a.put o.dst v') w') :
    o.wp Try.prog a w K Q := by
  obtain ⟨i0, hi0, hz0, hz1, hz2⟩ := info_parts int_info
  subst hn
  refine wp_append_row s x _ ho base 3 i0 _ 1 8 Try.underlying85 hi0 hz0 hz1 hz2 rfl (by omega) v _ (ints l) hs hown F y m.length (ints m) hx hr (ints_cells m) (by simp only [maxLen]; omega) (by omega) hbase ?_
  intro v' w' h1 h2 h3
  refine h v' w' ?_ h2 h3
  rw [List.length_append]
  simpa using h1
theorem made_ints (n : Nat) : madeCells (Value.int .i64 0).cells (n * 1) = (ints (List.replicate n 0)).toArray := by
  rw [show (Value.int .i64 0).cells = #[.int .i64 0] from rfl]
  apply Array.ext_getElem?
  intro i
  simp only [madeCells, Nat.mul_one]
  by_cases h : i < n
  · simp [h, Nat.mod_one]
  · simp [h]
theorem made_bytes (n : Nat) : madeCells (Value.int .u8 0).cells (n * 1) = (u8s (List.replicate n 0)).toArray := by
  rw [show (Value.int .u8 0).cells = #[.int .u8 0] from rfl]
  apply Array.ext_getElem?
  intro i
  simp only [madeCells, Nat.mul_one]
  by_cases h : i < n
  · simp [h, Nat.mod_one]
  · simp [h]
theorem wpList_make_ints (hg : o.guard = none) (l c : Operand) (hop : o.op = Op.makeSlice 85 l c) (n : Nat) (kl kc : IntKind) (hl : a.eval l = .int kl (n : Int)) (hc : a.eval c = .int kc (n : Int)) (hn : n ≤ 1000000)
    (hK : ∀ w', Blk w' w.heap.size 3 (ints (List.replicate n 0)).toArray → Keeps nobody w w' → w'.heap.size = w.heap.size + 1 → wpList Try.prog ops Q rest (a.put o.dst (.slice (some ⟨w.heap.size, 0, none⟩) n n)) w') :
    wpList Try.prog ops Q (o :: rest) a w := by
  obtain ⟨i0, hi0, hz0, hz1, hz2⟩ := info_parts int_info
  refine wpList_plain hg fun K hK' => ?_
  have hrun := run_make (P := Try.prog) w 85 3 i0 _ Try.underlying85 hi0 hz0 kl kc n n (by omega) (by omega) (by rw [hz2]; omega) (by omega)
  rw [hz1, Int.toNat_natCast, made_ints] at hrun
  obtain ⟨w', hw'⟩ : ∃ w', w' = w.alloc (.cells (ints (List.replicate n 0)).toArray 3) := ⟨_, rfl⟩
  rw [← hw'] at hrun
  unfold Oper.wp
  simp [execOp, hop, hl, hc, hrun, Result.andThen]
  exact hK' _ _ (hK w' (by rw [hw']; exact Blk.new w _ _) (by rw [hw']; exact (Keeps.refl _ w).alloc _) (by rw [hw']; simp))
theorem wpList_make_u8 (hg : o.guard = none) (l c : Operand) (hop : o.op = Op.makeSlice 30 l c) (n : Nat) (kl kc : IntKind) (hl : a.eval l = .int kl (n : Int)) (hc : a.eval c = .int kc (n : Int)) (hn : n ≤ 1000000)
    (hK : ∀ w', Blk w' w.heap.size 5 (u8s (List.replicate n 0)).toArray → Keeps nobody w w' → w'.heap.size = w.heap.size + 1 → wpList Try.prog ops Q rest (a.put o.dst (.slice (some ⟨w.heap.size, 0, none⟩) n n)) w') :
    wpList Try.prog ops Q (o :: rest) a w := by
  obtain ⟨i0, hi0, hz0, hz1, hz2⟩ := info_parts u8_info
  refine wpList_plain hg fun K hK' => ?_
  have hrun := run_make (P := Try.prog) w 30 5 i0 _ Try.underlying30 hi0 hz0 kl kc n n (by omega) (by omega) (by rw [hz2]; omega) (by omega)
  rw [hz1, Int.toNat_natCast, made_bytes] at hrun
  obtain ⟨w', hw'⟩ : ∃ w', w' = w.alloc (.cells (u8s (List.replicate n 0)).toArray 5) := ⟨_, rfl⟩
  rw [← hw'] at hrun
  unfold Oper.wp
  simp [execOp, hop, hl, hc, hrun, Result.andThen]
  exact hK' _ _ (hK w' (by rw [hw']; exact Blk.new w _ _) (by rw [hw']; exact (Keeps.refl _ w).alloc _) (by rw [hw']; simp))
end
end Go.Proofs.Ytjomcffhbaplcaa
/- Package nego: encoded. -/
namespace Go.Proofs.Ytjomcffhbaplcaa
open Go.RowKit
theorem set_back (m : Nat) (L : List UInt8) (B : UInt8) : (List.replicate (m + 1) 0 ++ L).set m B = List.replicate m 0 ++ B :: L := by
  rw [List.replicate_succ', List.append_assoc, List.set_append_right _ _ (by simp)]
  simp
theorem wide_at (x n m : Nat) (h : m < n) : (Pure.wide x n).drop m = UInt8.ofNat (x / 256 ^ (n - 1 - m) % 256) :: (Pure.wide x n).drop (m + 1) := by
  have hl : m < (Pure.wide x n).length := by rw [Pure.wide_length]; exact h
  rw [List.drop_eq_getElem_cons hl]
  congr 1
  simp [Pure.wide]
set_option maxRecDepth 100000 in
set_option maxHeartbeats 2000000 in
theorem encoded_any (x n : Nat) (w : World) (hn : n ≤ 4) (_ : x < 4294967296) :
    Calls Try.prog 55 #[.int .i64 x, .int .i64 n] w fun e w' => ∃ A c, e = .returned (.slice A n c) ∧ Row w' (fun b => w.heap.size ≤ b) 1 (.slice A n c) n (u8s (Pure.wide x n)) ∧ Keeps nobody w w' := by
  go_enter Try.func55, Try.ntmps55
  go_wp2_with (at_make; refine stopHere ?_)
  unfold Hid
  refine wpList_make_u8 rfl _ _ rfl n .i64 .i64 rfl rfl (by omega) ?_
  intro w1 hX hk hs
  obtain ⟨g, hg⟩ : ∃ g, g = w.heap.size := ⟨_, rfl⟩
  rw [← hg] at hX ⊢
  have HX := Lib.hid hX
  have HK := Lib.hid hk
  have HG := Lib.hid hg
  clear hX hk hs hg
  go_wp2_with fail
  go_loopw [12] (fun v wr => ∃ k : Nat, k ≤ n ∧ v = .int .i64 (k : Int) ∧ Blk wr g 5 (u8s (List.replicate (n - k) 0 ++ (Pure.wide x n).drop (n - k))).toArray ∧ Keeps (only g) w1 wr) (fun v _ => n - (intOf v).toNat)
  case atStart =>
    refine ⟨0, by omega, rfl, ?_, Keeps.refl _ _⟩
    rw [Nat.sub_zero, List.drop_of_length_le (by rw [Pure.wide_length]; omega), List.append_nil]
    exact HX.out
  case round =>
    clear HX
    obtain ⟨k, hk, rfl, hX, hK⟩ := hrel
    have HX := Lib.hid hX
    have HK2 := Lib.hid hK
    by_cases hkl : k < n
    · obtain ⟨m, hm⟩ : ∃ m, n - 1 - k = m := ⟨_, rfl⟩
      have hnk : n - k = m + 1 := by omega
      have hi0 : (0 : Int) ≤ (n : Int) - 1 - (k : Int) := by omega
      have hi1 : (n : Int) - 1 - (k : Int) < (n : Int) := by omega
      have e1 : wrap64 ((n : Int) - 1) = (n : Int) - 1 := IntWalk.wrap64_in _ (by omega)
      have e3 : wrap64 (8 * (k : Int)) = ((8 * k : Nat) : Int) := by rw [IntWalk.wrap64_in _ (by omega)]; omega
      obtain ⟨B, hBe⟩ : ∃ B, B = UInt8.ofNat (x / 256 ^ k % 256) := ⟨_, rfl⟩
      have hbv : ((x : Int) / 2 ^ (8 * k) % 256) = (B.toNat : Int) := by
        rw [hBe, show (UInt8.ofNat (x / 256 ^ k % 256)).toNat = x / 256 ^ k % 256 by simp, show (256 : Nat) ^ k = 2 ^ (8 * k) by rw [Nat.pow_mul]]
        simp
      rw [hnk] at HX
      have hlen : (List.replicate (m + 1) 0 ++ (Pure.wide x n).drop (m + 1)).length = n := by simp [Pure.wide_length]; omega
      have k0 : wr.cell? ⟨g, m, none⟩ = some (.int .u8 ((List.replicate (m + 1) 0 ++ (Pure.wide x n).drop (m + 1)).getD m 0).toNat) := by rw [HX.out.cell, ← u8s_at _ m (by omega)]; simp only [List.getElem?_toArray]
      obtain ⟨old, hold⟩ : ∃ old, old = (List.replicate (m + 1) 0 ++ (Pure.wide x n).drop (m + 1)).getD m 0 := ⟨_, rfl⟩
      rw [← hold] at k0
      have f0 : wr.frozen? ⟨g, m, none⟩ = false := HX.out.frozen m
      have HS := Lib.hid (show Blk (wr.setCell ⟨g, m, none⟩ (.int .u8 B.toNat)) g 5 (u8s (List.replicate m 0 ++ (Pure.wide x n).drop m)).toArray by
        have h := HX.out.set m (.int .u8 B.toNat)
        have e : (u8s (List.replicate (m + 1) 0 ++ (Pure.wide x n).drop (m + 1))).toArray.setIfInBounds m (.int .u8 B.toNat) = (u8s (List.replicate m 0 ++ (Pure.wide x n).drop m)).toArray := by
          rw [wide_at x n m (by omega), show n - 1 - m = k by omega, ← hBe, ← set_back, List.setIfInBounds_toArray]
          congr 1
          rw [← List.map_set]
        rw [e] at h
        exact h)
      have HKS := Lib.hid (HK2.out.store g m (fun _ => rfl) (.int .u8 B.toNat))
      have HM := Lib.hid (show m = n - (k + 1) by omega)
      subst hm
      clear hX hK hold hlen hBe hnk
      go_wp2_with fail
      go_roundw
      case rel =>
        refine ⟨k + 1, by omega, by go_num, ?_, HKS.out⟩
        rw [← HM.out]
        exact HS.out
      case measure => simp [intOf]; omega
    · have hkk : k = n := by omega
      subst hkk
      have HR := Lib.hid (show Row wr (fun b => w.heap.size ≤ b) 1 (.slice (some ⟨g, 0, none⟩) k k) k (u8s (Pure.wide x k)) by
        have h := HX.out
        rw [Nat.sub_self] at h
        have := Row.block (F := fun b => w.heap.size ≤ b) (size := 1) (n := k) (c := k) h (by rw [HG.out]; exact Nat.le_refl _) (by simp [Pure.wide_length]) (by unfold maxLen; omega) (Nat.le_refl _)
        simpa using this)
      have HKE := Lib.hid (show Keeps nobody w wr from (HK.out.trans' HK2.out (fun i hi hl => by have e : i = g := hi; have := HG.out; omega)))
      clear hX hK HX HK HK2
      go_wp2_with fail
      go_ret
      exact ⟨_, _, rfl, HR.out, HKE.out⟩
end Go.Proofs.Ytjomcffhbaplcaa
