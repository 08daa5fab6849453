/- Contracts of the writer of package bits. -/
import Derived.Test.YtkpagfeglpfhkaaBitsR
import Derived.Test.YtkpagfeglpfhkaaLast
namespace Go.Proofs.Ytkpagfeglpfhkaa
open Go.RowKit

/-- The writer at block g, amid a Put: the bits l are written, 'free' bits of the last byte are not. -/
structure WMid (w : World) (g : Nat) (v : Value) (high : Bool) (l : List Bool) (bs : List UInt8) (free : Nat) : Prop where
  blk : Blk w g 68 #[v, .int .i64 free, placeV high]
  own : w.ownsRow 0 5 1 v bs.length (u8s bs)
  packs : Pure.Packs high l bs free
/-- The writer at block g: the bits l are written. -/
structure WObj (w : World) (g : Nat) (v : Value) (high : Bool) (l : List Bool) (bs : List UInt8) (free : Nat) : Prop extends WMid w g v high l bs free where
  rest : free ≤ 7
/-- The blocks of a writer. -/
def fw (g : Nat) (v : Value) : Nat → Prop := fun k => k = g ∨ v.ownBlock = some k
theorem fw_g (g : Nat) (v : Value) : fw g v g := .inl rfl

theorem WMid.keeps {S : Nat → Prop} {w w' : World} {g : Nat} {v : Value} {high : Bool} {l : List Bool} {bs : List UInt8} {free : Nat} (h : WMid w g v high l bs free) (k : Keeps S w w')
    (hs : ∀ b, fw g v b → ¬ S b) : WMid w' g v high l bs free :=
  ⟨h.blk.keeps k (hs g (fw_g g v)), ownsRow_keeps h.own k (fun b hb => hs b (.inr hb)), h.packs⟩
theorem WObj.keeps {S : Nat → Prop} {w w' : World} {g : Nat} {v : Value} {high : Bool} {l : List Bool} {bs : List UInt8} {free : Nat} (h : WObj w g v high l bs free) (k : Keeps S w w')
    (hs : ∀ b, fw g v b → ¬ S b) : WObj w' g v high l bs free := ⟨h.toWMid.keeps k hs, h.rest⟩

theorem newWriter_ok (high : Bool) (w : World) :
    Calls Try.prog 16 #[.bool high] w fun e w' => ∃ g, e = .returned (.pointer (some ⟨g, 0, none⟩)) ∧ w.heap.size ≤ g ∧
      WObj w' g (.slice none 0 0) high [] [] 0 ∧ Below w.heap.size w w' :=
  (newWriter_any high w).mono fun e w' ⟨he, hw⟩ => ⟨_, he, by omega, ⟨⟨by
      subst hw
      have := Blk.new (w.alloc (.cells #[] 83)) 68 #[.slice none 0 0, .int .i64 0, placeV high]
      simpa using this, ⟨by simp, .inl ⟨rfl, rfl⟩⟩, Pure.Packs.nil high⟩, by omega⟩, by
      subst hw
      exact ((Below.refl _ _).alloc (Nat.le_refl _) _).alloc (by simp) _⟩

theorem len_any (g : Nat) (v : Value) (high : Bool) (l : List Bool) (bs : List UInt8) (free : Nat) (w : World) (h : WObj w g v high l bs free) (hb : l.length ≤ 1099511627776) :
    Calls Try.prog 22 #[.pointer (some ⟨g, 0, none⟩)] w fun e w' => e = .returned (.int .i64 l.length) ∧ ∃ n, w' = w.drewN n := by
  have HM := Lib.hid (wmade_any g high v (.int .i64 free) w h.blk)
  obtain ⟨A, c, rfl⟩ := own_form h.own
  have c0 : w.cell? ⟨g, 0, none⟩ = some (.slice A bs.length c) := by rw [h.blk.cell]; rfl
  have c1 : w.cell? ⟨g, 1, none⟩ = some (.int .i64 free) := by rw [h.blk.cell]; rfl
  have hl := h.packs.len
  have hr := h.rest
  have E : Hid ((bs.length : Int) * 8 - free = l.length) := by
    show (bs.length : Int) * 8 - free = l.length
    omega
  have l3 : (bs.length : Int) ≤ 140737488355328 := by omega
  have l4 : (free : Int) ≤ 7 := by omega
  clear h hl
  go_enter Try.func22, Try.ntmps22
  go_wp2_with (go_at_call 56; refine HM.out.mono ?_; rintro e w' ⟨rfl, rfl⟩)
  go_quiet (fail)
  go_wp2
  go_ret
  exact ⟨by rw [← E.out]; rfl, _, rfl⟩

theorem wbytes_any (g : Nat) (v : Value) (high : Bool) (l : List Bool) (bs : List UInt8) (free : Nat) (w : World) (h : WObj w g v high l bs free) (hb : l.length ≤ 1099511627776) :
    Calls Try.prog 18 #[.pointer (some ⟨g, 0, none⟩)] w fun e w' => ∃ u, e = .returned u ∧ w'.ownsRow w.heap.size 5 1 u bs.length (u8s bs) ∧ Below w.heap.size w w' := by
  have HM := Lib.hid (wmade_any g high v (.int .i64 free) w h.blk)
  have hl := h.packs.len
  have hr := h.rest
  have HC := Lib.hid (clone_any _ v bs.length bs w (Row.of_own h.own) (by omega))
  obtain ⟨A, c, rfl⟩ := own_form h.own
  have c0 : w.cell? ⟨g, 0, none⟩ = some (.slice A bs.length c) := by rw [h.blk.cell]; rfl
  clear h hl
  go_enter Try.func18, Try.ntmps18
  go_wp2_with (first
   | (go_at_call 56; refine HM.out.mono ?_; rintro e w' ⟨rfl, rfl⟩)
   | (go_at_call 59; refine HC.out.mono ?_; rintro e w1 ⟨v1, rfl, hown, hb1⟩))
  go_ret
  exact ⟨v1, rfl, hown, hb1⟩

/-- What a Put, an Align, an Add leaves. -/
def Wrote (w : World) (g : Nat) (v : Value) (high : Bool) (l : List Bool) (w' : World) : Prop :=
  ∃ v' bs' free', WObj w' g v' high l bs' free' ∧ Keeps (fw g v) w w' ∧ ∀ b, v'.ownBlock = some b → v.ownBlock = some b ∨ w.heap.size ≤ b

theorem walign_any (g : Nat) (v : Value) (high : Bool) (l : List Bool) (bs : List UInt8) (free : Nat) (w : World) (h : WObj w g v high l bs free) :
    Calls Try.prog 35 #[.pointer (some ⟨g, 0, none⟩)] w fun e w' => e = .returned (.tuple #[]) ∧
      WObj w' g v high (l ++ List.replicate free false) bs 0 ∧ Keeps (only g) w w' := by
  have HM := Lib.hid (wmade_any g high v (.int .i64 free) w h.blk)
  have c1 : w.cell? ⟨g, 1, none⟩ = some (.int .i64 free) := by rw [h.blk.cell]; rfl
  have f1 : w.frozen? ⟨g, 1, none⟩ = false := h.blk.frozen 1
  have H0 := Lib.hid h
  have k1 : Keeps (only g) w (w.setCell ⟨g, 1, none⟩ (.int .i64 0)) := (Keeps.refl _ w).store g 1 (fun _ => only_self g) _
  have K1 := Lib.hid k1
  clear h k1
  go_enter Try.func35, Try.ntmps35
  go_wp2_with (go_at_call 56; refine HM.out.mono ?_; rintro e w' ⟨rfl, rfl⟩)
  go_end0
  refine ⟨rfl, ⟨⟨?_, ?_, H0.out.packs.align⟩, by omega⟩, K1.out⟩
  · have := H0.out.blk.set 1 (.int .i64 0)
    simpa using this
  · exact ownsRow_keeps H0.out.own K1.out (fun b hb e => by
      have e : b = g := e
      subst e
      exact ownsRow_ne H0.out.own H0.out.blk (by decide) hb)

theorem put_no (g : Nat) (v : Value) (high : Bool) (l : List Bool) (bs : List UInt8) (free : Nat) (x n : Int) (w : World) (h : WObj w g v high l bs free)
    (hn : n < 0 ∨ 32 < n ∨ x < 0 ∨ 2 ^ n.toNat ≤ x) :
    Calls Try.prog 17 #[.pointer (some ⟨g, 0, none⟩), .int .i64 x, .int .i64 n] w fun e w' => e = .returned (.bool false) ∧ w = w' := by
  have HM := Lib.hid (wmade_any g high v (.int .i64 free) w h.blk)
  have HW := Lib.hid (isWidth_any n w)
  clear h
  by_cases hw : (decide ((0 : Int) ≤ n) && decide (n ≤ 32)) = false
  · rw [hw] at HW
    clear hw hn
    go_enter Try.func17, Try.ntmps17
    go_wp2_with (first
      | (go_at_call 56; refine HM.out.mono ?_; rintro e w' ⟨rfl, rfl⟩)
      | (go_at_call 57; refine HW.out.mono ?_; rintro e w' ⟨rfl, rfl⟩))
    go_ret
    exact ⟨rfl, rfl⟩
  · have hw' : (decide ((0 : Int) ≤ n) && decide (n ≤ 32)) = true := by simpa using hw
    rw [hw'] at HW
    have hn0 : 0 ≤ n := by simp at hw'; omega
    have hn1 : n ≤ 32 := by simp at hw'; omega
    clear hw hw'
    by_cases hx : x < 0
    · clear hn
      go_enter Try.func17, Try.ntmps17
      go_wp2_with (first
        | (go_at_call 56; refine HM.out.mono ?_; rintro e w' ⟨rfl, rfl⟩)
        | (go_at_call 57; refine HW.out.mono ?_; rintro e w' ⟨rfl, rfl⟩))
      go_ret
      exact ⟨rfl, rfl⟩
    · have hge : 2 ^ n.toNat ≤ x := by rcases hn with h | h | h | h <;> first | exact h | omega
      have hq : 1 ≤ x / 2 ^ n.toNat := (Int.le_ediv_iff_mul_le (two_pow_pos _)).2 (by omega)
      have hq2 : (x / 2 ^ n.toNat == 0) = false := by rw [beq_eq_false_iff_ne]; omega
      have hq3 : (x / 2 ^ n.toNat != 0) = true := by rw [bne_iff_ne]; omega
      have hq4 : ¬ x / 2 ^ n.toNat = 0 := by omega
      clear hn hge
      go_enter Try.func17, Try.ntmps17
      go_wp2_with (first
        | (go_at_call 56; refine HM.out.mono ?_; rintro e w' ⟨rfl, rfl⟩)
        | (go_at_call 57; refine HW.out.mono ?_; rintro e w' ⟨rfl, rfl⟩))
      go_ret
      exact ⟨rfl, rfl⟩

/-- At the head of Put's rounds. -/
def PutAt (w : World) (g : Nat) (v : Value) (high : Bool) (l : List Bool) (wr : World) (v' : Value) (bs : List UInt8) (free : Nat) : Prop :=
  WMid wr g v' high l bs free ∧ Keeps (fw g v) w wr ∧ ∀ b, v'.ownBlock = some b → v.ownBlock = some b ∨ w.heap.size ≤ b

theorem putMore {w wr w1 : World} {g : Nat} {v v' v1 : Value} {high : Bool} {l : List Bool} {bs : List UInt8} {o : Obj} (h : PutAt w g v high l wr v' bs 0) (hown : w1.ownsRow 0 5 1 v1 (bs.length + 1) (u8s bs ++ [.int .u8 0]))
    (hg : (wr.alloc o).grownBy w1 v'.ownBlock) (ha : v1.ownBlock = v'.ownBlock ∨ v1.ownBlock = some (wr.alloc o).heap.size) :
    PutAt w g v high l ((w1.setCell ⟨g, 0, none⟩ v1).setCell ⟨g, 1, none⟩ (.int .i64 8)) v1 (bs ++ [0]) 8 := by
  have hb1 : Blk w1 g 68 #[v', .int .i64 (0 : Nat), placeV high] :=
    (h.1.blk.alloc _).grown hg (fun e => ownsRow_ne h.1.own h.1.blk (by decide) e.symm)
  have e : u8s (bs ++ [0]) = u8s bs ++ [.int .u8 0] := by simp
  have el : (bs ++ [0]).length = bs.length + 1 := by simp
  have kk : Keeps (fw g v) w w1 := (h.2.1.alloc o).grown hg (fun k hk hlt => .inr (by rcases h.2.2 k hk with h | h <;> first | exact h | omega))
  refine ⟨⟨?_, ?_, h.1.packs.more⟩, (kk.store g 0 (fun _ => fw_g g v) _).store g 1 (fun _ => fw_g g v) _, fun b hb => ?_⟩
  · have := (hb1.set 0 v1).set 1 (.int .i64 8)
    simpa using this
  · rw [e, el]
    exact ownsRow_keeps hown (((Keeps.refl _ w1).store g 0 (fun _ => only_self g) _).store g 1 (fun _ => only_self g) _) (fun b hb e => by
      have e : b = g := e
      subst e
      exact ownsRow_ne hown hb1 (by decide) hb)
  · rcases ha with ha | ha
    · exact h.2.2 b (ha ▸ hb)
    · right
      rw [ha] at hb
      have h1 := h.2.1.size
      simp at hb
      omega

theorem putStep {w W : World} {g b m c : Nat} {v : Value} {high : Bool} {l l2 : List Bool} {bs : List UInt8} {free k X : Nat} {o : Obj} (h : PutAt w g v high l W (.slice (some ⟨b, 0, none⟩) bs.length c) bs free)
    (hbg : b ≠ g) (hk : k ≤ free) (hX : X < 256) (hp : Pure.Packs high l2 (bs.set m (UInt8.ofNat X)) (free - k)) :
    PutAt w g v high l2 (((W.setCell ⟨b, m, none⟩ (.int .u8 X)).setCell ⟨g, 1, none⟩ (.int .i64 ((free : Int) - k))).alloc o).drew (.slice (some ⟨b, 0, none⟩) bs.length c) (bs.set m (UInt8.ofNat X)) (free - k) := by
  have hown := (h.1.own.stored m (.int .u8 X)).1
  have hblk := (((h.1.blk.far (p := ⟨b, m, none⟩) (fun e => hbg e.symm) (.int .u8 X)).set 1 (.int .i64 ((free : Int) - k))).alloc o).drew
  have hu : u8s (bs.set m (UInt8.ofNat X)) = (u8s bs).set m (.int .u8 X) := by
    unfold u8s
    rw [List.map_set]
    congr 1
    rw [UInt8.toNat_ofNat', Nat.mod_eq_of_lt hX]
  have kb : fw g v b ∨ w.heap.size ≤ b := by
    rcases h.2.2 b rfl with h | h
    · exact .inl (.inr h)
    · exact .inr h
  refine ⟨⟨?_, ?_, hp⟩, (((h.2.1.store b m (fun hlt => by rcases kb with h | h; exact h; omega) _).store g 1 (fun _ => fw_g g v) _).alloc o).drew, h.2.2⟩
  · have e : ((free : Int) - k) = ((free - k : Nat) : Int) := by omega
    rw [e] at hblk ⊢
    simpa using hblk
  · rw [hu, List.length_set]
    exact ownsRow_keeps hown ((((Keeps.refl _ _).store g 1 (fun _ => only_self g) _).alloc o).drew) (fun b' hb' e => by
      have e : b' = g := e
      have hb' : some b = some b' := hb'
      injection hb' with hb'
      exact hbg (hb'.trans e))

set_option maxRecDepth 100000 in
set_option maxHeartbeats 4000000 in
theorem put_ok (g : Nat) (v : Value) (high : Bool) (l : List Bool) (bs : List UInt8) (free : Nat) (x n : Nat) (w : World) (h : WObj w g v high l bs free)
    (hn : n ≤ 32) (hx : x < 2 ^ n) (hb : l.length ≤ 1099511627776) :
    Calls Try.prog 17 #[.pointer (some ⟨g, 0, none⟩), .int .i64 x, .int .i64 n] w fun e w' => e = .returned (.bool true) ∧
      Wrote w g v high (l ++ Pure.bitsOf high n x) w' := by
  have HM := Lib.hid (wmade_any g high v (.int .i64 free) w h.blk)
  have HW := Lib.hid (isWidth_any n w)
  have hw' : (decide ((0 : Int) ≤ n) && decide ((n : Int) ≤ 32)) = true := by simp; omega
  rw [hw'] at HW
  have h32 : 2 ^ n ≤ 4294967296 := Nat.pow_le_pow_right (n := 2) (by omega) hn
  have hx2 : x ≤ 4294967295 := by omega
  have hq0 : (x : Int) / 2 ^ n = 0 := Int.ediv_eq_zero_of_lt (by omega) (by exact_mod_cast hx)
  have H0 := Lib.hid h
  have HX := Lib.hid hx
  clear h hx h32 hw'
  go_enter Try.func17, Try.ntmps17
  go_wp2_with (first
    | (go_at_call 56; refine HM.out.mono ?_; rintro e w' ⟨rfl, rfl⟩)
    | (go_at_call 57; refine HW.out.mono ?_; rintro e w' ⟨rfl, rfl⟩))
  clear HM HW hq0
  go_loopw [7] (fun i wr => ∃ d : Nat, d ≤ n ∧ i = .int .i64 d ∧ ∃ v' bs' free', free' ≤ 7 ∧ PutAt w g v high (l ++ (Pure.bitsOf high n x).take d) wr v' bs' free') (fun i _ => n - (intOf i).toNat)
  case atStart => exact ⟨0, by omega, rfl, v, bs, free, H0.out.rest, by simpa using H0.out.toWMid, Keeps.refl _ _, fun b hb => .inl hb⟩
  case round =>
    obtain ⟨d, hd, rfl, v', bs', free', hf7, hrel⟩ := hrel
    have HR := Lib.hid hrel
    clear hrel
    by_cases hlt : d < n
    · have c1 : wr.cell? ⟨g, 1, none⟩ = some (.int .i64 free') := by rw [HR.out.1.blk.cell]; rfl
      go_upto_if 35 with fail
      go_cut [] (fun wx => ∃ v2 bs2 free2, 1 ≤ free2 ∧ PutAt w g v high (l ++ (Pure.bitsOf high n x).take d) wx v2 bs2 free2)
      case first =>
        by_cases hf : free' = 0
        · subst hf
          obtain ⟨i0, hi0, hz0, hz1, hz2⟩ := info_parts u8_info
          have hlen := HR.out.1.packs.len
          have hll : (l ++ (Pure.bitsOf high n x).take d).length ≤ 1099511627776 + d := by simp; omega
          have hbl : bs'.length ≤ 137438953476 := by omega
          clear hlen hll
          obtain ⟨A, c, rfl⟩ := own_form HR.out.1.own
          have c0 : wr.cell? ⟨g, 0, none⟩ = some (.slice A bs'.length c) := by rw [HR.out.1.blk.cell]; rfl
          have hglt := HR.out.1.blk.lt
          have hrow : Row (wr.alloc (.cells #[.int .u8 0] 5)) (fun _ => True) 1 (.slice (some ⟨wr.heap.size, 0, none⟩) 1 1) 1 [.int .u8 0] :=
            Row.block (Blk.new wr 5 #[.int .u8 0]) trivial rfl (by simp [maxLen]) (Nat.le_refl _)
          have HRow := Lib.hid hrow
          clear hrow
          go_wp2_with (at_builtin; refine stopHere ?_)
          unfold Hid
          refine wpList_append_row rfl (.tmp 40) (.tmp 41) _ rfl 0 5 i0 _ 1 1 Try.underlying26 hi0 hz0 hz1 hz2 rfl (by omega) (.slice A bs'.length c) bs'.length (u8s bs')
            rfl (HR.out.1.own.alloc _) _ _ 1 [.int .u8 0] rfl HRow.out (by simp [Value.oneCell']) (by simp only [maxLen]; omega) (by omega) (by omega) ?_
          intro v1 w1 hown1 hg1 hat1
          have hb1 : Blk w1 g 68 #[.slice A bs'.length c, .int .i64 (0 : Nat), placeV high] :=
            (HR.out.1.blk.alloc _).grown hg1 (fun e => ownsRow_ne HR.out.1.own HR.out.1.blk (by decide) e.symm)
          obtain ⟨A1, c1', rfl⟩ := own_form hown1
          have d0 : w1.cell? ⟨g, 0, none⟩ = some (.slice A bs'.length c) := by rw [hb1.cell]; rfl
          have d1 : w1.cell? ⟨g, 1, none⟩ = some (.int .i64 (0 : Nat)) := by rw [hb1.cell]; rfl
          have e0 : w1.frozen? ⟨g, 0, none⟩ = false := hb1.frozen 0
          have e1 : w1.frozen? ⟨g, 1, none⟩ = false := hb1.frozen 1
          have HB1 := Lib.hid hb1
          have HO1 := Lib.hid hown1
          have HG1 := Lib.hid hg1
          have HA1 := Lib.hid hat1
          clear hb1 hown1 hg1 hat1 hi0 hz0 hz1 hz2 c0 c1
          go_wp2
          go_meet
          exact ⟨_, _, 8, by omega, putMore HR.out HO1.out HG1.out HA1.out⟩
        · have hf2 : ((free' : Int) == 0) = false := by rw [beq_eq_false_iff_ne]; omega
          have hf3 : ¬ ((free' : Int) = 0) := by omega
          go_wp2
          go_meet
          exact ⟨_, _, free', by omega, HR.out⟩
      case rest =>
        obtain ⟨v2, bs2, free2, hf1, hrel2⟩ := hcut
        have HR2 := Lib.hid hrel2
        clear hrel2 c1 HR hf7
        have hf8 := HR2.out.1.packs.le
        have c1 : wc.cell? ⟨g, 1, none⟩ = some (.int .i64 free2) := by rw [HR2.out.1.blk.cell]; rfl
        go_upto_region 8 with fail
        go_cut [8] (fun s8 wx => ∃ k : Nat, s8 = .int .i64 k ∧ 0 < k ∧ k ≤ free2 ∧ d + k ≤ n ∧ wx = wc)
        case first =>
          go_wp2
          · go_meet
            exact ⟨free2, rfl, by omega, by omega, by omega, rfl⟩
          · go_meet
            exact ⟨n - d, by congr 1; omega, by omega, by omega, by omega, rfl⟩
        case rest =>
          obtain ⟨k, rfl, hk0, hk1, hk2, rfl⟩ := hcut
          have c2 : wc.cell? ⟨g, 2, none⟩ = some (placeV high) := by rw [HR2.out.1.blk.cell]; rfl
          have hcp := run_callPlace high
          obtain ⟨S, hS⟩ : ∃ S : Nat, S = Pure.up high n d k := ⟨_, rfl⟩
          have hS8 : S ≤ 32 := by rw [hS]; unfold Pure.up; split <;> omega
          have hpl : placeN high n d k = (S : Int) := by rw [hS]; unfold placeN Pure.up; split <;> omega
          have hBS : 0 ≤ (x : Int) / 2 ^ S := Int.ediv_nonneg (by omega) (Int.le_of_lt (two_pow_pos S))
          have hBS2 : (x : Int) / 2 ^ S ≤ 4294967295 := Int.le_trans (Int.ediv_le_self _ (by omega)) (by omega)
          have HS := Lib.hid hS
          clear hS
          go_upto_region 9 with fail
          go_cut [9] (fun s9 wx => s9 = .int .i64 ((x >>> S % 2 ^ k : Nat)) ∧ wx = wc.alloc (.cells #[] 83))
          case first =>
            go_wp2_with (first
              | (with_reducible refine (placeF_any high _ _ _ _ ?_ ?_ ?_ ?_ ?_ ?_).mono ?_; (iterate 6 omega); rintro e w' ⟨rfl, rfl⟩)
              | (go_at_call 58; refine (low_any _ _ _ ?_ ?_ ?_ ?_).mono ?_; (iterate 4 omega); rintro e w' ⟨rfl, rfl⟩))
            go_meet
            refine ⟨?_, rfl⟩
            rw [Nat.shiftRight_eq_div_pow]
            simp
          case rest =>
            obtain ⟨rfl, rfl⟩ := hcut
            have hrel3 : PutAt w g v high (l ++ (Pure.bitsOf high n x).take d) (wc.alloc (.cells #[] 83)) v2 bs2 free2 :=
              ⟨HR2.out.1.keeps (S := fun _ => False) ((Keeps.refl _ wc).alloc _) (fun _ _ h => h), HR2.out.2.1.alloc _, HR2.out.2.2⟩
            obtain ⟨W, hW⟩ : ∃ W, W = wc.alloc (.cells #[] 83) := ⟨_, rfl⟩
            rw [← hW] at hrel3 ⊢
            clear hW HR2 c1 c2 hpl hBS hBS2
            obtain ⟨m, hm⟩ : ∃ m, bs2.length = m + 1 := ⟨bs2.length - 1, by have := hrel3.1.packs.len; omega⟩
            obtain ⟨A, c, rfl⟩ := own_form hrel3.1.own
            obtain ⟨b, rfl, hblt, hcell⟩ := own_cell hrel3.1.own (by omega)
            have hbg : b ≠ g := fun e => ownsRow_ne hrel3.1.own hrel3.1.blk (by decide) (by rw [e]; rfl)
            have cb : W.cell? ⟨b, m, none⟩ = some (.int .u8 ((bs2.getD m 0).toNat)) := hcell _ _ (u8s_at bs2 m (by omega))
            obtain ⟨L, hL⟩ : ∃ L : Nat, L = (bs2.getD m 0).toNat := ⟨_, rfl⟩
            have hL2 : L < 256 := by rw [hL]; exact (bs2.getD m 0).toNat_lt
            rw [← hL] at cb
            have fb : W.frozen? ⟨b, m, none⟩ = false := hrel3.1.own.frozenAt m
            have hml : m < 1099511627776 := by have := hrel3.1.packs.len; simp at this; omega
            have c0 : W.cell? ⟨g, 0, none⟩ = some (.slice (some ⟨b, 0, none⟩) (m + 1) c) := by rw [hrel3.1.blk.cell, hm]; rfl
            have c1 : W.cell? ⟨g, 1, none⟩ = some (.int .i64 free2) := by rw [hrel3.1.blk.cell]; rfl
            have c2 : W.cell? ⟨g, 2, none⟩ = some (placeV high) := by rw [hrel3.1.blk.cell]; rfl
            have f1 : W.frozen? ⟨g, 1, none⟩ = false := hrel3.1.blk.frozen 1
            have hglt := hrel3.1.blk.lt
            have HR3 := Lib.hid hrel3
            have HLL := Lib.hid hL
            have HMM := Lib.hid hm
            clear hrel3 hcell hL hm
            obtain ⟨p, hp⟩ : ∃ p : Nat, p = x >>> S % 2 ^ k := ⟨_, rfl⟩
            rw [← hp]
            have hplt : p < 2 ^ k := by rw [hp]; exact Nat.mod_lt _ (Nat.two_pow_pos k)
            obtain ⟨T, hT⟩ : ∃ T : Nat, T = Pure.up high 8 (8 - free2) k := ⟨_, rfl⟩
            have hT8 : T + k ≤ 8 := by rw [hT]; unfold Pure.up; split <;> omega
            have hpT : p * 2 ^ T < 256 := by
              calc p * 2 ^ T < 2 ^ k * 2 ^ T := Nat.mul_lt_mul_of_pos_right hplt (Nat.two_pow_pos T)
                _ = 2 ^ (k + T) := (Nat.pow_add ..).symm
                _ ≤ 2 ^ 8 := Nat.pow_le_pow_right (by omega) (by omega)
            obtain ⟨Y, hY⟩ : ∃ Y : Nat, Y = p * 2 ^ T := ⟨_, rfl⟩
            have hY256 : Y < 256 := by omega
            have hYi : ((p : Int) * 2 ^ T) = (Y : Int) := by rw [hY]; simp
            have hor : bits .or .u8 (L : Int) (Y : Int) = ((L ||| Y : Nat) : Int) := u8_or_nat L Y hL2 hY256
            have hpl : placeN high 8 (8 - (free2 : Int)) k = (T : Int) := by rw [hT]; unfold placeN Pure.up; split <;> omega
            have hw1 : IntKind.i64.wrap (8 - (free2 : Int)) = 8 - (free2 : Int) := IntWalk.i64_in _ (by omega)
            have hw2 : IntKind.i64.wrap (Y : Int) = (Y : Int) := IntWalk.i64_in _ (by omega)
            have hw3 : IntKind.u8.wrap (Y : Int) = (Y : Int) := IntWalk.u8_in _ (by omega)
            have hm0 : (0 : Int) ≤ (m : Int) := by omega
            have hm1 : (m : Int) < (m : Int) + 1 := by omega
            have hw4 : IntKind.i64.wrap ((m : Int) + 1 - 1) = (m : Int) := by rw [show (m : Int) + 1 - 1 = m by omega]; exact IntWalk.i64_in _ (by omega)
            have hw5 : IntKind.i64.wrap (m : Int) = (m : Int) := IntWalk.i64_in _ (by omega)
            have HP := Lib.hid hp
            have HT := Lib.hid hT
            have HY := Lib.hid hY
            clear hp hT hY hplt hpT
            go_upto_region 10 with fail
            go_cut [] (fun wx => wx = ((W.setCell ⟨b, m, none⟩ (.int .u8 (L ||| Y : Nat))).alloc (.cells #[] 83)).drew)
            case first =>
              refine wp_region_Z (fun w' => w'.cell? ⟨g, 0, none⟩ = some (.slice (some ⟨b, 0, none⟩) (m + 1) c) ∧ w'.cell? ⟨g, 1, none⟩ = some (.int .i64 free2) ∧ w'.cell? ⟨g, 2, none⟩ = some (placeV high) ∧ w'.cell? ⟨b, m, none⟩ = some (.int .u8 L))
                28 29 rfl (by kernel_rfl) ⟨c0, c1, c2, cb⟩ (fun hHeld => ?_)
              iterate 23
                refine wpAnyZ_next rfl (by kernel_rfl) (fun _ _ _ h => h) (Or.inl ⟨by rfl, by intro w hSw; obtain ⟨s0, s1, s2, s3⟩ := hSw; go_simp; try with_reducible rfl⟩) hHeld.out ?_
                simp only [Act.put, List.setIfInBounds_toArray, Nat.reduceAdd]
              refine wpAnyZ_step (by kernel_rfl) rfl (fun K hK => ?_)
              go_simp
              refine (placeF_any high _ _ _ _ ?_ ?_ ?_ ?_ ?_ ?_).mono ?_
              iterate 6 omega
              rintro e w' ⟨rfl, rfl⟩
              refine hK.out _ _ (fun _ => ?_) ?_
              · exact ⟨(World.cell?_alloc_lt _ _ ⟨g, 0, none⟩ hglt).trans c0, (World.cell?_alloc_lt _ _ ⟨g, 1, none⟩ hglt).trans c1, (World.cell?_alloc_lt _ _ ⟨g, 2, none⟩ hglt).trans c2, (World.cell?_alloc_lt _ _ ⟨b, m, none⟩ hblt).trans cb⟩
              clear hK K hHeld
              simp only [Nat.reduceAdd]
              have hHeld : Hid ((W.drew.alloc (.cells #[] 83)).cell? ⟨g, 0, none⟩ = some (.slice (some ⟨b, 0, none⟩) (m + 1) c) ∧ (W.drew.alloc (.cells #[] 83)).cell? ⟨g, 1, none⟩ = some (.int .i64 free2) ∧
                  (W.drew.alloc (.cells #[] 83)).cell? ⟨g, 2, none⟩ = some (placeV high) ∧ (W.drew.alloc (.cells #[] 83)).cell? ⟨b, m, none⟩ = some (.int .u8 L)) :=
                ⟨(World.cell?_alloc_lt _ _ ⟨g, 0, none⟩ hglt).trans c0, (World.cell?_alloc_lt _ _ ⟨g, 1, none⟩ hglt).trans c1, (World.cell?_alloc_lt _ _ ⟨g, 2, none⟩ hglt).trans c2, (World.cell?_alloc_lt _ _ ⟨b, m, none⟩ hblt).trans cb⟩
              iterate 4
                refine wpAnyZ_next rfl (by kernel_rfl) (fun _ _ _ h => h) (Or.inl ⟨by rfl, by intro w hSw; obtain ⟨s0, s1, s2, s3⟩ := hSw; go_simp; try with_reducible rfl⟩) hHeld.out ?_
                simp only [Act.put, List.setIfInBounds_toArray, Nat.reduceAdd]
              clear hHeld
              refine wpAnyZ_step (by kernel_rfl) rfl (fun K hK => ?_)
              go_simp
              refine hK.out _ _ (fun h => absurd rfl h) ?_
              refine wpAnyZ_done (by kernel_rfl) ?_ _
              go_wp2_with fail
              go_meet
              exact rfl
            case rest =>
              obtain rfl := hcut
              clear hpl hw1 hw2 hw3 hw4 hw5 hor hYi hm0 hm1
              have hpk := HR3.out.1.packs.put n x d k hk0 hk1 hk2 L (by rw [HLL.out, HMM.out]; rfl)
              rw [← HS.out, ← HP.out, ← HT.out, ← HY.out, HMM.out] at hpk
              simp only [Nat.add_sub_cancel] at hpk
              rw [List.append_assoc, Pure.range_take n d k hk2] at hpk
              have hlt8 : L ||| Y < 256 := Nat.or_lt_two_pow (n := 8) (by omega) (by omega)
              have hnew := putStep (o := .cells #[] 83) HR3.out hbg hk1 hlt8 hpk
              have HNEW := Lib.hid hnew
              clear hnew hpk HP HT HY HS HLL cb fb c0 c2
              go_wp2
              go_roundw
              case rel => exact ⟨d + k, by omega, by go_num, _, _, free2 - k, by omega, HNEW.out⟩
              case measure => simp [intOf]; omega
    · obtain rfl : d = n := by omega
      have e : (Pure.bitsOf high d x).take d = Pure.bitsOf high d x := List.take_of_length_le (by rw [Pure.bitsOf_length]; omega)
      rw [e] at HR
      have HW := Lib.hid hf7
      clear hf7 e
      go_wp2
      go_ret
      exact ⟨rfl, v', bs', free', ⟨HR.out.1, HW.out⟩, HR.out.2.1, HR.out.2.2⟩
end Go.Proofs.Ytkpagfeglpfhkaa
