/- Contracts of a cipher's methods: Xor, Offset, Clone. -/
import Derived.Test.YtkfcdeeohhghhaaRc4D
namespace Go.Proofs.Ytkfcdeeohhghhaa
open Go.RowKit

theorem kmade_any (g : Nat) (kd : Int) (w : World) (h : w.cell? ⟨g, 0, none⟩ = some (.int .i64 kd)) (h1 : kd = 1 ∨ kd = 2) :
    Calls Try.prog 21 #[.pointer (some ⟨g, 0, none⟩)] w fun e w' => e = .returned (.bool true) ∧ w = w' := by
  rcases h1 with rfl | rfl
  · go_enter Try.func21, Try.ntmps21
    go_wp2
    go_ret
    exact ⟨rfl, rfl⟩
  · go_enter Try.func21, Try.ntmps21
    go_wp2
    go_ret
    exact ⟨rfl, rfl⟩

theorem offset_any (g : Nat) (kd : Int) (s : List UInt8) (i j : Nat) (id n : Int) (w : World) (hb : Blk w g 47 (cc kd s i j id n)) (hs : s.length = 256) (h1 : kd = 1 ∨ kd = 2) :
    Calls Try.prog 18 #[.pointer (some ⟨g, 0, none⟩)] w fun e w' => e = .returned (.int .i64 n) ∧ w = w' := by
  have HM := Lib.hid (kmade_any g kd w (by rw [hb.cell]; exact cc_0) h1)
  have c260 : w.cell? ⟨g, 260, none⟩ = some (.int .i64 n) := by rw [hb.cell]; exact cc_tail hs 3
  clear hb
  go_enter Try.func18, Try.ntmps18
  go_wp2_with (go_at_call 21; refine HM.out.mono ?_; rintro e w' ⟨rfl, rfl⟩)
  go_ret
  exact ⟨rfl, rfl⟩

theorem cipher_info : (Try.prog.info? 47).map (·.size) = some 261 := by kernel_rfl
theorem cipher_zero : ∀ w, (zeroValue 47).run Try.prog w = .ok (.agg (cc 0 zero256 0 0 0 0)) w := fun _ => by kernel_rfl

set_option maxRecDepth 100000 in
set_option maxHeartbeats 1000000 in
theorem kclone_any (g : Nat) (kd : Int) (s : List UInt8) (i j : Nat) (id n : Int) (w : World) (hb : Blk w g 47 (cc kd s i j id n)) (hs : s.length = 256) (h1 : kd = 1 ∨ kd = 2) :
    Calls Try.prog 16 #[.pointer (some ⟨g, 0, none⟩)] w fun e w' => e = .returned (.pointer (some ⟨w.heap.size, 0, none⟩)) ∧ Blk w' w.heap.size 47 (cc kd s i j id n) ∧ Below w.heap.size w w' := by
  have HM := Lib.hid (kmade_any g kd w (by rw [hb.cell]; exact cc_0) h1)
  have HB := Lib.hid hb
  have hz := cipher_zero
  have hi1 : (Try.prog.info? 47).map (·.size) = some (cc kd s i j id n).size := by rw [cipher_info, cc_size hs]
  have HI := Lib.hid hi1
  have ho : (cc 0 zero256 0 0 0 0).size = (cc kd s i j id n).size := by rw [cc_size hs, cc_size zero256_length]
  have HO := Lib.hid ho
  clear hb hi1 ho
  go_enter Try.func16, Try.ntmps16
  go_upto_region 3 with (go_at_call 21; refine HM.out.mono ?_; rintro e w' ⟨rfl, rfl⟩)
  apply wp_region_lit
  iterate 2
    refine wpList_plain rfl (fun K hK => ?_)
    go_simp
    refine hK _ _ ?_
    clear hK K
  refine wpList_load_row rfl 47 (.tmp 8) rfl g rfl 47 _ (0, 0) _ HB.out.raw Try.underlying47 rfl HI.out ?_
  refine wpList_plain rfl (fun K hK => ?_)
  go_simp
  refine hK _ _ ?_
  clear hK K
  refine wpList_store_row rfl 47 (.tmp 3) (.tmp 9) rfl w.heap.size (cc kd s i j id n) rfl rfl 47 (cc 0 zero256 0 0 0 0) (Blk.new w _ _).raw HI.out HO.out cc_one ?_
  obtain ⟨w9, hw9⟩ : ∃ w9, w9 = (w.alloc (.cells (cc 0 zero256 0 0 0 0) 47)).setRow w.heap.size (cc kd s i j id n) := ⟨_, rfl⟩
  have hb9 : Blk w9 w.heap.size 47 (cc kd s i j id n) := by
    rw [hw9]
    exact setRow_heap _ w.heap.size _ _ _ _ (Blk.new w _ _).raw
  have hk9 : Keeps nobody w w9 := by
    rw [hw9]
    exact ((Keeps.refl _ w).alloc _).row (fun h => by omega) _
  have HB9 := Lib.hid hb9
  have HK9 := Lib.hid hk9
  rw [← hw9]
  clear hw9 hb9 hk9 HM HB hz HI HO
  go_wp2
  go_ret
  exact ⟨rfl, HB9.out, HK9.out.to_below⟩

theorem term_set (id n len k : Nat) (hk : k < len) : ((Pure.term id n k) ++ List.replicate (len - k) 0).set k (Pure.termByte id (n + k)) = Pure.term id n (k + 1) ++ List.replicate (len - (k + 1)) 0 := by
  rw [set_next _ _ _ (Pure.term_length _ _ _) hk, Pure.term_succ]
theorem termByte_int (id k : Nat) (h1 : id < 1024) (h2 : k < 1000000000) : ((31 * (id : Int) + 7 * (k : Int)) + (k : Int) / 256) % 256 = (((Pure.termByte id k).toNat : Nat) : Int) := by
  unfold Pure.termByte
  rw [UInt8.toNat_ofNat']
  omega

set_option maxRecDepth 100000 in
set_option maxHeartbeats 2000000 in
theorem symbols_any (g id n len : Nat) (w : World) (ho : TObj w g id n) (h1 : id < 1024) (h2 : n + len < 1000000000) :
    Calls Try.prog 23 #[.pointer (some ⟨g, 0, none⟩), .int .i64 len] w fun e w' => ∃ u, e = .returned u ∧ w'.ownsRow w.heap.size 5 1 u len (u8s (Pure.term id n len)) ∧ Keeps nobody w w' := by
  have HO := Lib.hid ho
  have hlt := ho.lt
  obtain ⟨i0, hi0, hz0, hz1, hz2⟩ := info_parts u8_info
  have I := Lib.hid (And.intro hi0 (And.intro hz0 (And.intro hz1 hz2)))
  clear ho hi0 hz0 hz1 hz2
  go_enter Try.func23, Try.ntmps23
  go_wp2_with (at_make; refine stopHere ?_)
  unfold Hid
  obtain ⟨hi0, hz0, hz1, hz2⟩ := I.out
  refine wpList_make_full _ rfl _ _ 27 rfl w.heap.size 5 i0 _ 1 Try.underlying27 hi0 hz0 hz1 .i64 .i64 _ _ len rfl rfl (by omega) (by omega) (by rw [hz2]; omega) (by unfold maxLen; omega) (Nat.le_refl _) ?_
  intro w0 hown0 hg0
  rw [show (Value.int .u8 0).cells = #[.int .u8 0] from rfl, made_cells rfl] at hown0
  have hk0 : Keeps nobody w w0 := Keeps.new (Below.grown (Below.refl _ w) hg0 (Nat.le_refl _) (by simp))
  have O0 := Lib.hid hown0
  have HK0 := Lib.hid hk0
  clear hown0 hg0 hk0 hi0 hz0 hz1 hz2 I
  go_wp2_with fail
  go_loopw [12] (fun i wr => ∃ k : Nat, k ≤ len ∧ i = .int .i64 k ∧ wr.ownsRow w.heap.size 5 1 (.slice (some ⟨w.heap.size, 0, none⟩) len len) len (u8s (Pure.term id n k ++ List.replicate (len - k) 0)) ∧ Keeps nobody w wr) (fun i _ => len - (intOf i).toNat)
  case atStart => exact ⟨0, by omega, rfl, by simpa [Pure.term] using O0.out, HK0.out⟩
  case round =>
    clear O0 HK0
    obtain ⟨k, hk, rfl, hW, hK⟩ := hrel
    have HW := Lib.hid hW
    have HK := Lib.hid hK
    by_cases hkl : k < len
    · have hi0 : (0 : Int) ≤ (k : Int) := by omega
      have hi1 : (k : Int) < (len : Int) := by omega
      have hb := (HO.out.keeps hK (fun h => h)).blk
      have c259 : wr.cell? ⟨g, 259, none⟩ = some (.int .i64 id) := by rw [hb.cell]; exact cc_tail zero256_length 2
      have c260 : wr.cell? ⟨g, 260, none⟩ = some (.int .i64 n) := by rw [hb.cell]; exact cc_tail zero256_length 3
      have dk := own_at hW k (by simp [Pure.term_length]; omega)
      have fk := own_frozen hW k
      have hn1 : (n : Int) + k < 1000000000 := by omega
      have hid1 : (id : Int) < 1024 := by omega
      have hT := termByte_int id (n + k) h1 (by omega)
      have e : ((n + k : Nat) : Int) = (n : Int) + (k : Int) := by omega
      rw [e] at hT
      have HT := Lib.hid hT
      clear hW hK hb hT e
      go_wp2
      rw [HT.out]
      go_roundw
      case rel =>
        refine ⟨k + 1, by omega, by go_num, ?_, HK.out.store _ _ (fun h => by omega) _⟩
        rw [← term_set id n len k hkl]
        exact own_set HW.out _
      case measure => simp [intOf]; omega
    · have hk' : k = len := by omega
      rw [hk', Nat.sub_self, List.replicate_zero, List.append_nil] at HW
      clear hW hK hk'
      go_wp2
      go_ret
      exact ⟨_, rfl, HW.out, HK.out⟩

set_option maxRecDepth 100000 in
set_option maxHeartbeats 2000000 in
theorem xor_key (F : Nat → Prop) (x : Value) (bs : List UInt8) (g : Nat) (c : Pure.Rc) (w : World) (hr : Row w F 1 x bs.length (u8s bs)) (hF : ¬ F g) (hl : bs.length ≤ 100000000) (ho : KObj w g c) (hn : c.n ≤ 1000000000) :
    Calls Try.prog 13 #[.pointer (some ⟨g, 0, none⟩), x] w fun e w' => ∃ u, e = .returned u ∧ w'.ownsRow w.heap.size 5 1 u bs.length (u8s (c.xor bs).2) ∧ KObj w' g (c.xor bs).1 ∧ Keeps (only g) w w' := by
  obtain ⟨A, cA, rfl, hc⟩ := hr.form
  have HM := Lib.hid (kmade_any g 1 w (by rw [ho.blk.cell]; exact cc_0) (.inl rfl))
  have HS := Lib.hid (streamed_any F _ bs g c w hr hF hl ho)
  have c0 : w.cell? ⟨g, 0, none⟩ = some (.int .i64 1) := by rw [ho.blk.cell]; exact cc_0
  have hglt := ho.lt
  have HOK0 := Lib.hid ho.ok
  clear hr hF ho
  go_enter Try.func13, Try.ntmps13
  go_wp2_with (go_at_call 21; refine HM.out.mono ?_; rintro e w' ⟨rfl, rfl⟩)
  refine HS.out.mono ?_
  rintro e w1 ⟨u, rfl, hu, hb, hk⟩
  obtain ⟨AX, cX, rfl⟩ := own_form hu
  have hok : (c.xor bs).1.Ok := Pure.Rc.Ok.xor bs HOK0.out
  have hs : (c.xor bs).1.s.length = 256 := hok.s
  have e1 : (c.xor bs).1.n = c.n + bs.length := Pure.Rc.xor_n bs c
  obtain ⟨N, hN⟩ : ∃ N, N = c.n := ⟨_, rfl⟩
  rw [← hN] at hb hn e1
  have c260 : w1.cell? ⟨g, 260, none⟩ = some (.int .i64 N) := by rw [hb.cell]; exact cc_tail hs 3
  have f260 := hb.frozen 260
  have HU := Lib.hid hu
  have HB := Lib.hid hb
  have HK := Lib.hid hk
  have HE := Lib.hid e1
  have HOK := Lib.hid hok
  have HSL := Lib.hid hs
  clear HM HS c0 hu hb hk hok hs e1 hN
  go_wp2
  go_ret
  refine ⟨_, rfl, own_store HU.out ?_, ⟨?_, HOK.out⟩, HK.out.store _ _ (fun _ => only_self _) _⟩
  · intro e
    have := ownsRow_ge HU.out g e
    omega
  · have h := HB.out.set 260 (.int .i64 ((N : Int) + (bs.length : Int)))
    rw [cc_set_n HSL.out] at h
    rw [HE.out]
    exact h

set_option maxRecDepth 100000 in
set_option maxHeartbeats 2000000 in
theorem xor_term (A : Option Addr) (len cap : Nat) (g id n : Nat) (w : World) (ho : TObj w g id n) (h1 : id < 1024) (h2 : n + len < 1000000000) :
    Calls Try.prog 13 #[.pointer (some ⟨g, 0, none⟩), .slice A len cap] w fun e w' => ∃ u, e = .returned u ∧ w'.ownsRow w.heap.size 5 1 u len (u8s (Pure.term id n len)) ∧ TObj w' g id (n + len) ∧ Keeps (only g) w w' := by
  have HM := Lib.hid (kmade_any g 2 w (by rw [ho.blk.cell]; exact cc_0) (.inr rfl))
  have HS := Lib.hid (symbols_any g id n len w ho h1 h2)
  have HO := Lib.hid ho
  have c0 : w.cell? ⟨g, 0, none⟩ = some (.int .i64 2) := by rw [ho.blk.cell]; exact cc_0
  have hglt := ho.lt
  clear ho
  go_enter Try.func13, Try.ntmps13
  go_wp2_with (go_at_call 21; refine HM.out.mono ?_; rintro e w' ⟨rfl, rfl⟩)
  refine HS.out.mono ?_
  rintro e w1 ⟨u, rfl, hu, hk⟩
  obtain ⟨AX, cX, rfl⟩ := own_form hu
  have hb := (HO.out.keeps hk (fun h => h)).blk
  have c260 : w1.cell? ⟨g, 260, none⟩ = some (.int .i64 n) := by rw [hb.cell]; exact cc_tail zero256_length 3
  have f260 := hb.frozen 260
  have HU := Lib.hid hu
  have HB := Lib.hid hb
  have HK := Lib.hid hk
  clear HM HS c0 hu hb hk HO
  go_wp2
  go_ret
  refine ⟨_, rfl, own_store HU.out ?_, ⟨?_⟩, (HK.out.mono (fun _ h => h.elim)).store _ _ (fun _ => only_self _) _⟩
  · intro e
    have := ownsRow_ge HU.out g e
    omega
  · have h := HB.out.set 260 (.int .i64 ((n : Int) + (len : Int)))
    rw [cc_set_n zero256_length] at h
    exact h
end Go.Proofs.Ytkfcdeeohhghhaa
