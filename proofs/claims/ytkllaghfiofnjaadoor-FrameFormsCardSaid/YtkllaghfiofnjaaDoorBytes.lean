/- Contracts of package bytes: Equal, HasPrefix and CutPrefix, Clone. -/
import Derived.Laws.BytesArg
import Derived.Lib.Bytes
import Derived.Test.YtkllaghfiofnjaaDoorCut
import Derived.Test.YtkllaghfiofnjaaDoorClone
namespace Go.Proofs.YtkllaghfiofnjaaDoor
open Go.RowKit

theorem bytesOf_nums (l : List UInt8) : Lib.bytesOf (l.map fun b => (b.toNat : Int)) = l := by
  unfold Lib.bytesOf
  rw [List.map_map]
  conv => rhs; rw [← List.map_id l]
  apply List.map_congr_left
  intro b _
  simp
theorem conv_u8s {F : Nat → Prop} {A : Option Addr} {n c : Nat} {bs : List UInt8} {w : World} (hr : Row w F 1 (.slice A n c) n (u8s bs)) (hn : 0 < n) :
    (convert 25 9 (.slice A n c)).run Tryd.prog w = .ok (.string (strOfNums (bs.map fun b => (b.toNat : Int)))) w := by
  obtain ⟨b, off, rfl, _, hc⟩ := hr.cellAt hn
  have hl := hr.1
  simp at hl
  refine run_convert_bytes_arg (P := Tryd.prog) w 25 5 Tryd.underlying25 Tryd.underlying5 b off n c _ (by simpa using hl) (fun i hi => ?_) 9 Tryd.underlying9
  have := hc i _ (u8s_at bs i (by omega))
  rw [this]
  simp [List.getD_eq_getElem?_getD, List.getElem?_eq_getElem (show i < bs.length by omega)]
theorem bequal_any (F G : Nat → Prop) (x y : Value) (a b : List UInt8) (w : World) (hx : Row w F 1 x a.length (u8s a)) (hy : Row w G 1 y b.length (u8s b)) (ha : 0 < a.length) (hb : 0 < b.length) :
    Calls Tryd.prog 89 #[x, y] w fun e w' => e = .returned (.bool (a == b)) ∧ w = w' := by
  obtain ⟨A, c, rfl, hc⟩ := hx.form
  obtain ⟨B, d, rfl, hd⟩ := hy.form
  have h1 := conv_u8s hx ha
  have h2 := conv_u8s hy hb
  have e1 := bytesOf_nums a
  have e2 := bytesOf_nums b
  rw [← Lib.strOfNums_toList] at e1 e2
  have E1 := Lib.hid e1
  have E2 := Lib.hid e2
  clear hx hy e1 e2
  go_enter Tryd.func89, Tryd.ntmps89
  go_wp2
  go_ret
  refine ⟨?_, rfl⟩
  show Ending.returned (Value.bool ((strOfNums (a.map fun b => (b.toNat : Int))).toList == (strOfNums (b.map fun b => (b.toNat : Int))).toList)) = _
  rw [E1.out, E2.out]

set_option maxHeartbeats 1000000 in
theorem hasPrefix_any (F G : Nat → Prop) (x y : Value) (a b : List UInt8) (w : World) (hx : Row w F 1 x a.length (u8s a)) (hy : Row w G 1 y b.length (u8s b)) (hb : 0 < b.length) :
    Calls Tryd.prog 74 #[x, y] w fun e w' => e = .returned (.bool (a.take b.length == b)) ∧ Keeps nobody w w' := by
  obtain ⟨A, c, rfl, hc⟩ := hx.form
  obtain ⟨B, d, rfl, hd⟩ := hy.form
  have HX := Lib.hid hx
  have HY := Lib.hid hy
  have hma := hx.2.1
  have hmb := hy.2.1
  unfold maxLen at hma hmb
  obtain ⟨m, hm⟩ : ∃ m, m = b.length := ⟨_, rfl⟩
  rw [← hm] at HY hd hb hmb ⊢
  have HM := Lib.hid hm
  clear hx hy hm
  by_cases h : m ≤ a.length
  · have h1 : (a.length : Int) ≥ m := by omega
    obtain ⟨p, o, rfl, _, _⟩ := HX.out.cellAt (by omega)
    have ht := HX.out.take1 m h
    rw [← u8s_take] at ht
    have HT := Lib.hid ht
    have hTl : (a.take m).length = m := by simp; omega
    have HTL := Lib.hid hTl
    have HE := Lib.hid (bequal_any F G (.slice (some ⟨p, o, none⟩) m c) (.slice B m d) (a.take m) b w (by rw [hTl]; exact ht) (by rw [← HM.out]; exact HY.out) (by omega) (by rw [← HM.out]; omega))
    clear ht hTl
    go_enter Tryd.func74, Tryd.ntmps74
    go_wp2_with fail
    refine HE.out.mono ?_
    rintro e w1 ⟨rfl, rfl⟩
    go_wp2
    go_ret
    exact ⟨rfl, Keeps.refl _ _⟩
  · have h1 : ¬ (a.length : Int) ≥ m := by omega
    have hno : (a.take m == b) = false := by
      rw [beq_eq_false_iff_ne]
      intro e
      have := congrArg List.length e
      rw [← HM.out] at this
      simp at this
      omega
    have HNO := Lib.hid hno
    clear hno
    go_enter Tryd.func74, Tryd.ntmps74
    go_wp2_with fail
    go_ret
    exact ⟨by rw [HNO.out]; rfl, Keeps.refl _ _⟩

/-- The rest behind what it begins with. -/
def Pure.cutHead (a b : List UInt8) : List UInt8 := if a.take b.length == b then a.drop b.length else a
set_option maxHeartbeats 1000000 in
theorem cutPrefix_any (F G : Nat → Prop) (x y : Value) (a b : List UInt8) (w : World) (hx : Row w F 1 x a.length (u8s a)) (hy : Row w G 1 y b.length (u8s b)) (hb : 0 < b.length) :
    Calls Tryd.prog 59 #[x, y] w fun e w' => ∃ u, e = .returned (.tuple #[u, .bool (a.take b.length == b)]) ∧ Row w' F 1 u (Pure.cutHead a b).length (u8s (Pure.cutHead a b)) ∧ Keeps nobody w w' := by
  have HP := Lib.hid (hasPrefix_any F G x y a b w hx hy hb)
  obtain ⟨A, c, rfl, hc⟩ := hx.form
  obtain ⟨B, d, rfl, hd⟩ := hy.form
  have HX := Lib.hid hx
  have hma := hx.2.1
  have hmb := hy.2.1
  unfold maxLen at hma hmb
  clear hx hy
  obtain ⟨r, hr⟩ : ∃ r, r = (a.take b.length == b) := ⟨_, rfl⟩
  rw [← hr] at HP ⊢
  have HRR := Lib.hid hr
  clear hr
  go_enter Tryd.func59, Tryd.ntmps59
  go_wp2_with fail
  refine HP.out.mono ?_
  rintro e w1 ⟨rfl, hk⟩
  have K := Lib.hid hk
  clear hk
  cases r
  · have hcut : Pure.cutHead a b = a := by unfold Pure.cutHead; rw [← HRR.out]; rfl
    have HC := Lib.hid hcut
    clear hcut
    go_wp2
    go_ret2
    exact ⟨_, rfl, by rw [HC.out]; exact HX.out.keeps K.out (fun _ _ h => h), K.out⟩
  · have hcut : Pure.cutHead a b = a.drop b.length := by unfold Pure.cutHead; rw [← HRR.out]; rfl
    have hle : b.length ≤ a.length := by
      have := congrArg List.length (eq_of_beq HRR.out.symm)
      simp at this
      omega
    have HC := Lib.hid hcut
    clear hcut HRR
    obtain ⟨m, hm⟩ : ∃ m, m = b.length := ⟨_, rfl⟩
    rw [← hm] at hle HC hd hb hmb ⊢
    clear hm
    have hV := Row.cutV HX.out m (a.length - m) (by omega)
    have e1 : (a.drop m).take (a.length - m) = a.drop m := List.take_of_length_le (by simp)
    rw [e1] at hV
    have hlen : (a.drop m).length = a.length - m := by simp
    have HV := Lib.hid hV
    have HL := Lib.hid hlen
    obtain ⟨p, o, rfl, _, _⟩ := HX.out.cellAt (by omega)
    clear e1 hV hlen
    rcases Nat.decEq c m with hz | hz
    · go_wp2
      go_ret2
      refine ⟨_, rfl, ?_, K.out⟩
      rw [HC.out, HL.out]
      have h := HV.out
      unfold cutV at h
      rw [if_neg hz, Option.map_some, addr_add] at h
      exact h.keeps K.out (fun _ _ h => h)
    · go_wp2
      go_ret2
      refine ⟨_, rfl, ?_, K.out⟩
      rw [HC.out, HL.out]
      have h := HV.out
      unfold cutV at h
      rw [if_pos hz] at h
      exact h.keeps K.out (fun _ _ h => h)

set_option maxHeartbeats 1000000 in
theorem bclone_any (F : Nat → Prop) (x : Value) (n : Nat) (l : List UInt8) (w : World) (hr : Row w F 1 x n (u8s l)) (hn : n ≤ 140737488355328) :
    Calls Tryd.prog 37 #[x] w fun e w' => ∃ v, e = .returned v ∧ w'.ownsRow w.heap.size 5 1 v n (u8s l) ∧ Below w.heap.size w w' := by
  obtain ⟨i0, hi0, hz0, hz1, hz2⟩ := info_parts u8_info
  have hr' := hr
  obtain ⟨hl, hm, A, c, rfl, hc, hA, hcell⟩ := hr
  rcases A with _ | ad
  · obtain rfl := hA rfl
    have hl0 : u8s l = [] := List.eq_nil_of_length_eq_zero (by simpa using hl)
    clear hcell hA hl
    have hq := fun (W : World) => Lib.run_eql_slice_nil (P := Tryd.prog) W 25 5 none 0 c 0 0 Tryd.underlying25
    go_enter Tryd.func37, Tryd.ntmps37
    go_wp2
    go_ret
    refine ⟨_, rfl, ⟨by rw [hl0]; rfl, .inl ⟨rfl, rfl⟩⟩, Below.refl _ _⟩
  · have HL := Lib.hid hl
    have hbw : Row (w.alloc (.cells #[] 5)) F 1 (.slice (some ad) n c) n (u8s l) :=
      hr'.cellsOf fun b off u _ hu => (World.cell?_alloc_lt w _ ⟨b, off, none⟩ (cell_lt hu)).trans hu
    clear hl hcell hA hr'
    have hq := fun (W : World) => Lib.run_eql_slice_nil (P := Tryd.prog) W 25 5 (some ad) n c 0 0 Tryd.underlying25
    go_enter Tryd.func37, Tryd.ntmps37
    go_wp2_with (at_builtin; refine stopHere ?_)
    unfold Hid
    refine wpList_append_row rfl (.tmp 5) (.tmp 6) _ rfl w.heap.size 5 i0 _ 1 1 Tryd.underlying25 hi0 hz0 hz1 hz2 rfl (by omega) (.slice (some ⟨w.heap.size, 0, none⟩) 0 0) 0 []
      rfl (ownsRow_made _ _ _ _ (Nat.le_refl _)) F _ n (u8s l) rfl hbw (u8s_cells l) (by omega) (by omega) (by simp) ?_
    intro v1 w1 hown1 hg1 hat1
    go_wp2
    go_ret
    refine ⟨v1, rfl, by simpa using hown1, ((Below.refl _ _).alloc (Nat.le_refl _) _).grown hg1 (by simp) ?_⟩
    intro k hk
    simp [Value.ownBlock] at hk
    omega
end Go.Proofs.YtkllaghfiofnjaaDoor
