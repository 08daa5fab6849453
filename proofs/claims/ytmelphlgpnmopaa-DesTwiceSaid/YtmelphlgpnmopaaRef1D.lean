/- Contracts of the document's own bits: Bytes, Open. -/
import Derived.Test.YtmelphlgpnmopaaRef1C
import Derived.Test.YtmelphlgpnmopaaLast
namespace Go.Proofs.Ytmelphlgpnmopaa
open Go.RowKit
namespace Pure
theorem num_byte (high : Bool) (bs : List UInt8) (q : Nat) : num high (fun k => (bitsOfBytes high bs).getD (q * 8 + k) false) 8 8 = (bs.getD q 0).toNat := by
  refine num_all high _ 8 _ (bs.getD q 0).toNat_lt fun k hk => ?_
  rw [bitsOfBytes_getD]
  unfold bit
  rw [show (q * 8 + k) / 8 = q by omega, show (q * 8 + k) % 8 = k by omega]
end Pure

theorem refBytes_no (g : Nat) (v : Value) (high : Bool) (l : List Bool) (at_ : Nat) (n : Int) (w : World) (h : RefO w g v high l at_) (hle : (at_ + 7) / 8 * 8 ≤ l.length) (hn : n < 0 ∨ ((l.length - (at_ + 7) / 8 * 8) / 8 : Nat) < n) :
    Calls Try.prog 37 #[.pointer (some ⟨g, 0, none⟩), .int .i64 n] w fun e w' => e = .returned (.tuple #[.slice none 0 0, .bool false]) ∧
      RefO w' g v high l ((at_ + 7) / 8 * 8) ∧ Keeps (only g) w w' := by
  have hlen := h.len
  have HA := Lib.hid (refAlign_any g v high l at_ w h (by omega))
  clear h
  go_enter Try.func37, Try.ntmps37
  go_wp2_with fail
  refine HA.out.mono ?_
  rintro e w1 ⟨rfl, h1, hk1⟩
  have H1 := Lib.hid h1
  have K1 := Lib.hid hk1
  clear h1 hk1 HA
  by_cases h0 : n < 0
  · clear hn
    go_wp2
    go_ret2
    exact ⟨rfl, H1.out, K1.out⟩
  · obtain ⟨S, hS⟩ : ∃ S, S = (at_ + 7) / 8 * 8 := ⟨_, rfl⟩
    rw [← hS] at hn hle H1
    have hgt : ((l.length : Int) - S) / 8 < n := by omega
    have hd0 : 0 ≤ (l.length : Int) - S := by omega
    have HS := Lib.hid hS
    clear hn hS
    go_wp2_with fail
    refine (refLeft_any g v high l S w1 H1.out hle).mono ?_
    rintro e w2 ⟨rfl, hk2⟩
    have H2 := Lib.hid (H1.out.keeps hk2 (fun _ _ h => h))
    have K2 := Lib.hid (K1.out.trans (hk2.mono (fun _ h => h.elim)))
    clear hk2 K1 H1
    go_wp2
    go_ret2
    exact ⟨rfl, by rw [← HS.out]; exact H2.out, K2.out⟩

set_option maxHeartbeats 2000000 in
theorem refBytes_ok (g : Nat) (v : Value) (high : Bool) (bs : List UInt8) (at_ n : Nat) (w : World) (h : RefO w g v high (Pure.bitsOfBytes high bs) at_) (hn : (at_ + 7) / 8 + n ≤ bs.length) :
    Calls Try.prog 37 #[.pointer (some ⟨g, 0, none⟩), .int .i64 n] w fun e w' => ∃ u, e = .returned (.tuple #[u, .bool true]) ∧
      RefO w' g v high (Pure.bitsOfBytes high bs) (((at_ + 7) / 8 + n) * 8) ∧ w'.ownsRow w.heap.size 5 1 u n (u8s ((bs.drop ((at_ + 7) / 8)).take n)) ∧ Keeps (only g) w w' := by
  have hlen := h.len
  have hl8 := Pure.bitsOfBytes_length high bs
  have HA := Lib.hid (refAlign_any g v high _ at_ w h (by omega))
  have hgl := h.blk.lt
  have HVL := Lib.hid (fun q hq => ownsRow_lt h.own q hq)
  clear h
  obtain ⟨S, hS⟩ : ∃ S, S = (at_ + 7) / 8 := ⟨_, rfl⟩
  rw [← hS] at HA hn ⊢
  clear hS
  have HL8 := Lib.hid hl8
  rw [hl8] at hlen
  clear hl8
  go_enter Try.func37, Try.ntmps37
  go_wp2_with fail
  refine HA.out.mono ?_
  rintro e w1 ⟨rfl, h1, hk1⟩
  have H1 := Lib.hid h1
  have K1 := Lib.hid hk1
  clear h1 hk1 HA
  go_wp2_with fail
  refine (refLeft_any g v high _ _ w1 H1.out (by rw [HL8.out]; omega)).mono ?_
  rintro e w2 ⟨rfl, hk2⟩
  have H2 := Lib.hid (H1.out.keeps hk2 (fun _ _ h => h))
  have K2 := Lib.hid (K1.out.trans (hk2.mono (fun _ h => h.elim)))
  have el : (((Pure.bitsOfBytes high bs).length : Int) - (S * 8 : Nat)) = (bs.length : Int) * 8 - (S : Int) * 8 := by rw [HL8.out]; omega
  rw [el]
  have hle : ¬ ((bs.length : Int) * 8 - (S : Int) * 8) / 8 < n := by omega
  have hdv : 0 ≤ ((bs.length : Int) * 8 - (S : Int) * 8) := by omega
  clear hk2 K1 H1 el
  go_wp2_with fail
  clear hle hdv
  go_loopw [6, 7] (fun c i wr => ∃ k : Nat, k ≤ n ∧ i = .int .i64 k ∧ RefO wr g v high (Pure.bitsOfBytes high bs) ((S + k) * 8) ∧ wr.ownsRow w.heap.size 5 1 c k (u8s ((bs.drop S).take k)) ∧ Keeps (only g) w wr) (fun _ i _ => n - (intOf i).toNat)
  case atStart => exact ⟨0, by omega, rfl, by simpa using H2.out, ⟨by simp, .inl ⟨rfl, rfl⟩⟩, K2.out⟩
  case round =>
    obtain ⟨k, hk, rfl, hr, ho, hkp⟩ := hrel
    have HR := Lib.hid hr
    have HO := Lib.hid ho
    have HK := Lib.hid hkp
    clear hr ho hkp H2 K2
    by_cases hlt : k < n
    · go_wp2_with fail
      refine (refTake_ok g v high _ ((S + k) * 8) 8 wr HR.out (by omega) (by rw [HL8.out]; omega)).mono ?_
      rintro e w3 ⟨rfl, hr3, hk3⟩
      rw [Pure.num_byte high bs (S + k)]
      obtain ⟨B, hB⟩ : ∃ B, B = bs.getD (S + k) 0 := ⟨_, rfl⟩
      rw [← hB]
      have hB2 : B.toNat < 256 := B.toNat_lt
      have HB := Lib.hid hB
      have hr4 : RefO w3 g v high (Pure.bitsOfBytes high bs) ((S + (k + 1)) * 8) := by
        rw [show (S + (k + 1)) * 8 = (S + k) * 8 + 8 by omega]
        exact hr3
      have HR3 := Lib.hid hr4
      have HK3 := Lib.hid (HK.out.trans hk3)
      have HO3 := Lib.hid (ownsRow_keeps HO.out hk3 (fun q hq e => by
        have e : q = g := e
        have := ownsRow_ge HO.out q hq
        omega))
      clear hr3 hr4 hk3 hB HR HK HO
      obtain ⟨i0, hi0, hz0, hz1, hz2⟩ := info_parts u8_info
      have hrow1 : Row (w3.alloc (.cells #[.int .u8 B.toNat] 5)) (fun _ => True) 1 (.slice (some ⟨w3.heap.size, 0, none⟩) 1 1) 1 [.int .u8 B.toNat] :=
        Row.block (Blk.new w3 5 #[.int .u8 B.toNat]) trivial rfl (by simp [maxLen]) (Nat.le_refl _)
      have HRow := Lib.hid hrow1
      clear hrow1
      have hsz := HK3.out.size
      go_wp2_with (at_builtin; refine stopHere ?_)
      unfold Hid
      refine wpList_append_row rfl (.tmp 31) (.tmp 34) _ rfl w.heap.size 5 i0 _ 1 1 Try.underlying23 hi0 hz0 hz1 hz2 rfl (by omega) u6 k _
        rfl (HO3.out.alloc _) _ _ 1 [.int .u8 B.toNat] rfl HRow.out (by simp [Value.oneCell']) (by simp only [maxLen]; omega) (by omega) (by simp; omega) ?_
      intro v4 w4 hown4 hg4 _
      have e1 : u8s ((bs.drop S).take k) ++ [.int .u8 B.toNat] = u8s ((bs.drop S).take (k + 1)) := by
        rw [List.take_add_one, List.getElem?_drop, List.getElem?_eq_getElem (show S + k < bs.length by omega)]
        have : B = bs[S + k]'(by omega) := by rw [HB.out, List.getD_eq_getElem?_getD, List.getElem?_eq_getElem (show S + k < bs.length by omega)]; rfl
        rw [this]
        simp [u8s]
      rw [e1] at hown4
      have HO4 := Lib.hid hown4
      have hk4 : Keeps (fun q => w.heap.size ≤ q) w3 w4 := ((Keeps.refl _ w3).alloc _).grown hg4 (fun q hq _ => ownsRow_ge HO3.out q hq)
      have HR4 := Lib.hid (HR3.out.keeps (S := fun q => u6.ownBlock = some q) (((Keeps.refl _ w3).alloc _).grown hg4 (fun q hq _ => hq)) (fun q hf hq => by
        rcases hf with rfl | hf
        · exact ownsRow_ne HO3.out HR3.out.blk (by decide) hq
        · have h1 := ownsRow_ge HO3.out q hq
          have := HVL.out q hf
          omega))
      have HK4 := Lib.hid (HK3.out.trans' hk4 (fun q hq hlt => by omega))
      clear hown4 hg4 hk4 e1 hi0 hz0 hz1 hz2
      go_wp2
      go_roundw
      case rel => exact ⟨k + 1, by omega, by go_num, HR4.out, HO4.out, HK4.out⟩
      case measure => simp [intOf]; omega
    · obtain rfl : k = n := by omega
      go_wp2
      go_ret2
      exact ⟨_, rfl, HR.out, HO.out, HK.out⟩

theorem and1_bit (B s : Nat) (hB : B < 256) : bits .and .u8 ((B : Int) / 2 ^ s) 1 = if B.testBit s then 1 else 0 := by
  have e1 : ((B : Int) / 2 ^ s) = ((B >>> s : Nat) : Int) := by rw [Nat.shiftRight_eq_div_pow]; simp
  have hle : B >>> s < 256 := Nat.lt_of_le_of_lt (by rw [Nat.shiftRight_eq_div_pow]; exact Nat.div_le_self _ _) hB
  have h := u8_and_nat (B >>> s) 1 hle (by omega)
  rw [nat_mask1] at h
  rw [e1]
  refine h.trans ?_
  have ht := Nat.toNat_testBit B s
  rw [← Nat.shiftRight_eq_div_pow] at ht
  rw [← ht]
  cases B.testBit s <;> rfl
theorem take_bits (high : Bool) (bs : List UInt8) (i : Nat) (h : i < 8 * bs.length) : bitsV ((Pure.bitsOfBytes high bs).take i) ++ [bitV (Pure.bit high bs i)] = bitsV ((Pure.bitsOfBytes high bs).take (i + 1)) := by
  have hl := Pure.bitsOfBytes_length high bs
  rw [List.take_add_one, List.getElem?_eq_getElem (by omega)]
  have : (Pure.bitsOfBytes high bs)[i]'(by omega) = Pure.bit high bs i := by
    rw [← Pure.bitsOfBytes_getD, List.getD_eq_getElem?_getD, List.getElem?_eq_getElem (by omega)]; rfl
  rw [this]
  simp [bitsV]
/-- What one more bit leaves. -/
theorem RefO.more {w wr w1 : World} {g : Nat} {v v1 : Value} {high : Bool} {l : List Bool} {b : Bool} {o : Obj} (h : RefO wr g v high l 0) (hown : w1.ownsRow 0 5 1 v1 (l.length + 1) (bitsV l ++ [bitV b])) (hg1 : (wr.alloc o).grownBy w1 v.ownBlock)
    (hat : v1.ownBlock = v.ownBlock ∨ v1.ownBlock = some (wr.alloc o).heap.size) (hl : l.length + 1 ≤ 1099511627776) (hb : Below w.heap.size w wr) (hg : w.heap.size ≤ g) (hv : ∀ q, v.ownBlock = some q → w.heap.size ≤ q) :
    RefO (w1.setCell ⟨g, 0, none⟩ v1) g v1 high (l ++ [b]) 0 ∧ Below w.heap.size w (w1.setCell ⟨g, 0, none⟩ v1) ∧ ∀ q, v1.ownBlock = some q → w.heap.size ≤ q := by
  have hblk : Blk w1 g 56 #[v, .int .i64 (0 : Nat), .bool high] := (h.blk.alloc o).grown hg1 (fun e => ownsRow_ne h.own h.blk (by decide) e.symm)
  refine ⟨⟨?_, ?_, by simpa using hl⟩, ?_, fun q hq => ?_⟩
  · have := hblk.set 0 v1
    simpa using this
  · rw [show (l ++ [b]).length = l.length + 1 by simp, show bitsV (l ++ [b]) = bitsV l ++ [bitV b] by simp [bitsV]]
    exact ownsRow_keeps hown ((Keeps.refl _ w1).store g 0 (fun _ => only_self g) _) (fun q hq e => by
      have e : q = g := e
      subst e
      exact ownsRow_ne hown hblk (by decide) hq)
  · exact ((hb.alloc hb.size o).grown hg1 (by simp; have := hb.size; omega) (fun q hq => hv q hq)).setCell (p := ⟨g, 0, none⟩) hg _
  · rcases hat with e | e
    · exact hv q (e ▸ hq)
    · rw [e] at hq
      have := hb.size
      simp at hq
      omega

set_option maxRecDepth 100000 in
set_option maxHeartbeats 4000000 in
theorem refOpen_any (F : Nat → Prop) (x : Value) (high : Bool) (bs : List UInt8) (w : World) (hr : Row w F 1 x bs.length (u8s bs)) (hF : ∀ q, F q → q < w.heap.size) (hn : bs.length ≤ 100000000000) :
    Calls Try.prog 35 #[x, .bool high] w fun e w' => ∃ g v, e = .returned (.pointer (some ⟨g, 0, none⟩)) ∧ w.heap.size ≤ g ∧ RefO w' g v high (Pure.bitsOfBytes high bs) 0 ∧
      (∀ b, v.ownBlock = some b → w.heap.size ≤ b) ∧ Below w.heap.size w w' := by
  obtain ⟨A, c, rfl, _⟩ := hr.form
  have HR := Lib.hid hr
  clear hr
  have hstart : Blk (w.alloc (.cells #[.slice none 0 0, .int .i64 0, .bool high] 56)) w.heap.size 56 #[.slice none 0 0, .int .i64 0, .bool high] := Blk.new w _ _
  have HS := Lib.hid hstart
  have HB := Lib.hid (Pure.bitsOfBytes_length high bs)
  clear hstart
  go_enter Try.func35, Try.ntmps35
  go_wp2_with fail
  go_loopw [6] (fun i wr => ∃ k : Nat, k ≤ bs.length ∧ i = .int .i64 k ∧ Below w.heap.size w wr ∧ ∃ v, RefO wr w.heap.size v high ((Pure.bitsOfBytes high bs).take (8 * k)) 0 ∧ ∀ q, v.ownBlock = some q → w.heap.size ≤ q) (fun i _ => bs.length - (intOf i).toNat)
  case atStart => exact ⟨0, by omega, rfl, (Below.refl _ _).alloc (Nat.le_refl _) _, _, ⟨HS.out, ⟨by simp, .inl ⟨rfl, rfl⟩⟩, by simp⟩, fun q hq => by cases hq⟩
  case round =>
    obtain ⟨k, hk, rfl, hb, v, hro, hvq⟩ := hrel
    have BR := Lib.hid hb
    have RO := Lib.hid hro
    have VQ := Lib.hid hvq
    clear hb hro hvq HS
    by_cases hlt : k < bs.length
    · obtain ⟨wo, rfl⟩ : ∃ wo : World, wo = wr := ⟨_, rfl⟩
      go_wp2_with fail
      go_loopw [7] (fun i wr => ∃ m : Nat, m ≤ 8 ∧ i = .int .i64 m ∧ Below w.heap.size w wr ∧ ∃ v, RefO wr w.heap.size v high ((Pure.bitsOfBytes high bs).take (8 * k + m)) 0 ∧ ∀ q, v.ownBlock = some q → w.heap.size ≤ q) (fun i _ => 8 - (intOf i).toNat)
      case atStart => exact ⟨0, by omega, rfl, BR.out, v, RO.out, VQ.out⟩
      case round =>
        obtain ⟨m, hm, rfl, hb, v2, hro, hvq⟩ := hrel
        have BR2 := Lib.hid hb
        have RO2 := Lib.hid hro
        have VQ2 := Lib.hid hvq
        clear hb hro hvq BR RO VQ
        by_cases hm8 : m < 8
        · have hcr := HR.out.keeps (Keeps.new BR2.out) (fun _ _ h => h)
          obtain ⟨b, off, rfl, hbF, hcell⟩ := hcr.cellAt (by omega)
          have hbw := hF b hbF
          have cb := hcell k _ (u8s_at bs k hlt)
          obtain ⟨B, hB⟩ : ∃ B : Nat, B = (bs.getD k 0).toNat := ⟨_, rfl⟩
          have hB2 : B < 256 := by rw [hB]; exact (bs.getD k 0).toNat_lt
          rw [← hB] at cb
          have HBB := Lib.hid hB
          have hl2 : ((Pure.bitsOfBytes high bs).take (8 * k + m)).length = 8 * k + m := by rw [List.length_take, HB.out]; omega
          have HL2 := Lib.hid hl2
          obtain ⟨A2, c2, hv2⟩ := own_form RO2.out.own
          rw [hl2] at hv2
          subst hv2
          have c0 : wr.cell? ⟨w.heap.size, 0, none⟩ = some (.slice A2 (8 * k + m) c2) := by rw [RO2.out.blk.cell]; rfl
          have f0 : wr.frozen? ⟨w.heap.size, 0, none⟩ = false := RO2.out.blk.frozen 0
          have hk0 : (0 : Int) ≤ (k : Int) := by omega
          have hk1 : (k : Int) < (bs.length : Int) := by omega
          have hw7 : IntKind.i64.wrap (7 - (m : Int)) = 7 - (m : Int) := IntWalk.i64_in _ (by omega)
          have hw8 : IntKind.u64.wrap (7 - (m : Int)) = 7 - (m : Int) := by rw [show (7 : Int) - m = ((7 - m : Nat) : Int) by omega]; simp [IntKind.wrap, IntKind.bits, IntKind.signed]; omega
          have hw9 : IntKind.u64.wrap (m : Int) = (m : Int) := by simp [IntKind.wrap, IntKind.bits, IntKind.signed]; omega
          have ht7 : (7 - (m : Int)).toNat = 7 - m := by omega
          clear hB hl2 hcell hcr
          cases high
          · go_wp2_with fail
            have ha1 := and1_bit B m hB2
            refine wp_region_Z (fun w' => w'.cell? ⟨w.heap.size, 0, none⟩ = some (.slice A2 (8 * k + m) c2) ∧ w'.cell? ⟨b, off + k, none⟩ = some (.int .u8 B)) 17 18 rfl (by kernel_rfl) ⟨c0, cb⟩ (fun hHeld => ?_)
            iterate 13
              refine wpAnyZ_next rfl (by kernel_rfl) (fun _ _ _ h => h) (Or.inl ⟨by rfl, by intro w hSw; obtain ⟨s0, s1⟩ := hSw; go_simp; try with_reducible rfl⟩) hHeld.out ?_
              simp only [Act.put, List.setIfInBounds_toArray, Nat.reduceAdd]
            refine wpAnyZ_step (by kernel_rfl) rfl (fun K hK => ?_)
            clear hHeld
            go_simp
            have hm1 : (wr.alloc (.cells #[.int .u8 (if B.testBit m = true then 1 else 0)] 5)).drew.cell? ⟨w.heap.size, 0, none⟩ = some (.slice A2 (8 * k + m) c2) ∧ (wr.alloc (.cells #[.int .u8 (if B.testBit m = true then 1 else 0)] 5)).drew.cell? ⟨b, off + k, none⟩ = some (.int .u8 B) :=
              ⟨(World.cell?_alloc_lt wr _ ⟨w.heap.size, 0, none⟩ (cell_lt c0)).trans c0, (World.cell?_alloc_lt wr _ ⟨b, off + k, none⟩ (cell_lt cb)).trans cb⟩
            have hHeld := Lib.hid hm1
            clear hm1
            refine hK.out _ _ (fun _ => hHeld.out) ?_
            clear hK K
            simp only [Nat.reduceAdd]
            have hrow1 : Row (wr.alloc (.cells #[bitV (B.testBit m)] 5)).drew (fun _ => True) 1 (.slice (some ⟨wr.heap.size, 0, none⟩) 1 1) 1 [bitV (B.testBit m)] :=
              Row.block (Blk.new wr 5 #[bitV (B.testBit m)]) trivial rfl (by simp [maxLen]) (Nat.le_refl _)
            obtain ⟨i0, hi0, hz0, hz1, hz2⟩ := info_parts u8_info
            refine wpAnyZ_step (by kernel_rfl) rfl (fun K hK => ?_)
            rw [if_pos (by rfl)]
            refine wp_append_row (.tmp 44) (.tmp 53) _ rfl 0 5 i0 _ 1 1 Try.underlying23 hi0 hz0 hz1 hz2 rfl (by omega) (.slice A2 (8 * k + m) c2) (8 * k + m) (bitsV ((Pure.bitsOfBytes false bs).take (8 * k + m)))
              rfl (by have := RO2.out.own; rw [HL2.out] at this; exact (this.alloc _).drew) _ _ 1 _ rfl hrow1 (by intro u hu; simp at hu; subst hu; rfl) (by simp only [maxLen]; omega) (by omega) (by omega) ?_
            intro v3 w3 hown3 hg3 hat3
            obtain ⟨A3, c3, hv3⟩ := own_form hown3
            subst hv3
            have hnew := RefO.more (w := w) (b := B.testBit m) RO2.out (by rw [HL2.out]; exact hown3) ⟨hg3.os, hg3.tape, hg3.output, hg3.size, hg3.block⟩ hat3 (by rw [HL2.out]; omega) BR2.out (Nat.le_refl _) VQ2.out
            have hbit : Pure.bit false bs (8 * k + m) = B.testBit m := by
              unfold Pure.bit
              rw [show (8 * k + m) / 8 = k by omega, show (8 * k + m) % 8 = m by omega, ← HBB.out]
              rfl
            have hcell3 : ∀ q i u, q < wr.heap.size → Value.ownBlock (.slice A2 (8 * k + m) c2) ≠ some q → wr.cell? ⟨q, i, none⟩ = some u → w3.cell? ⟨q, i, none⟩ = some u := fun q i u hq hne hu =>
              (World.cell?_of_block (w := wr) (a := ⟨q, i, none⟩) ((hg3.block q (by simp; omega) (fun e => hne e.symm)).trans (Below.heap_alloc wr _ q hq))).trans hu
            have hgne : Value.ownBlock (.slice A2 (8 * k + m) c2) ≠ some w.heap.size := ownsRow_ne RO2.out.own RO2.out.blk (by decide)
            have hbne : Value.ownBlock (.slice A2 (8 * k + m) c2) ≠ some b := fun e => by have := VQ2.out b e; omega
            have d0 : w3.cell? ⟨w.heap.size, 0, none⟩ = some (.slice A2 (8 * k + m) c2) := hcell3 _ _ _ (cell_lt c0) hgne c0
            have d1 : w3.cell? ⟨b, off + k, none⟩ = some (.int .u8 B) := hcell3 _ _ _ (cell_lt cb) hbne cb
            have f3 : w3.frozen? ⟨w.heap.size, 0, none⟩ = false := by
              have h1 := World.frozen?_of_block (w := wr) (a := ⟨w.heap.size, 0, none⟩) ((hg3.block w.heap.size (by simp; have := cell_lt c0; omega) (fun e => hgne e.symm)).trans (Below.heap_alloc wr _ w.heap.size (cell_lt c0)))
              exact h1.trans f0
            have hl3 : (Pure.bitsOfBytes false bs).take (8 * k + m) ++ [B.testBit m] = (Pure.bitsOfBytes false bs).take (8 * k + (m + 1)) := by
              have hh := HB.out
              rw [show 8 * k + (m + 1) = 8 * k + m + 1 by omega, List.take_add_one, List.getElem?_eq_getElem (by rw [hh]; omega), ← hbit]
              congr 1
              have : (Pure.bitsOfBytes false bs)[8 * k + m]'(by rw [hh]; omega) = Pure.bit false bs (8 * k + m) := by
                rw [← Pure.bitsOfBytes_getD, List.getD_eq_getElem?_getD, List.getElem?_eq_getElem (by rw [hh]; omega)]; rfl
              rw [this]
              rfl
            rw [hl3] at hnew
            have HNEW := Lib.hid hnew
            have hHeld3 := Lib.hid (And.intro d0 d1)
            refine hK.out _ _ (fun _ => hHeld3.out) ?_
            clear hK K hHeld hnew hown3 hg3 hat3 hl3 hbit hcell3 hgne hbne hi0 hz0 hz1 hz2 hrow1 c0 cb f0
            simp only [Act.put, List.setIfInBounds_toArray, Nat.reduceAdd]
            iterate 2
              refine wpAnyZ_next rfl (by kernel_rfl) (fun _ _ _ h => h) (Or.inl ⟨by rfl, by intro w hSw; obtain ⟨s0, s1⟩ := hSw; go_simp; try with_reducible rfl⟩) hHeld3.out ?_
              simp only [Act.put, List.setIfInBounds_toArray, Nat.reduceAdd]
            refine wpAnyZ_step (by kernel_rfl) rfl (fun K hK => ?_)
            clear hHeld3 d1
            go_simp
            refine hK.out _ _ (fun h => absurd rfl h) ?_
            refine wpAnyZ_done (by kernel_rfl) ?_ _
            clear hK K
            go_wp2
            go_roundw
            case rel => exact ⟨m + 1, by omega, by go_num, HNEW.out.2.1, _, HNEW.out.1, HNEW.out.2.2⟩
            case measure => simp [intOf]; omega
          · go_wp2_with fail
            have ha1 := and1_bit B (7 - m) hB2
            refine wp_region_Z (fun w' => w'.cell? ⟨w.heap.size, 0, none⟩ = some (.slice A2 (8 * k + m) c2) ∧ w'.cell? ⟨b, off + k, none⟩ = some (.int .u8 B)) 18 19 rfl (by kernel_rfl) ⟨c0, cb⟩ (fun hHeld => ?_)
            iterate 14
              refine wpAnyZ_next rfl (by kernel_rfl) (fun _ _ _ h => h) (Or.inl ⟨by rfl, by intro w hSw; obtain ⟨s0, s1⟩ := hSw; go_simp; try with_reducible rfl⟩) hHeld.out ?_
              simp only [Act.put, List.setIfInBounds_toArray, Nat.reduceAdd]
            refine wpAnyZ_step (by kernel_rfl) rfl (fun K hK => ?_)
            clear hHeld
            go_simp
            have hm1 : (wr.alloc (.cells #[.int .u8 (if B.testBit (7 - m) = true then 1 else 0)] 5)).drew.cell? ⟨w.heap.size, 0, none⟩ = some (.slice A2 (8 * k + m) c2) ∧ (wr.alloc (.cells #[.int .u8 (if B.testBit (7 - m) = true then 1 else 0)] 5)).drew.cell? ⟨b, off + k, none⟩ = some (.int .u8 B) :=
              ⟨(World.cell?_alloc_lt wr _ ⟨w.heap.size, 0, none⟩ (cell_lt c0)).trans c0, (World.cell?_alloc_lt wr _ ⟨b, off + k, none⟩ (cell_lt cb)).trans cb⟩
            have hHeld := Lib.hid hm1
            clear hm1
            refine hK.out _ _ (fun _ => hHeld.out) ?_
            clear hK K
            simp only [Nat.reduceAdd]
            have hrow1 : Row (wr.alloc (.cells #[bitV (B.testBit (7 - m))] 5)).drew (fun _ => True) 1 (.slice (some ⟨wr.heap.size, 0, none⟩) 1 1) 1 [bitV (B.testBit (7 - m))] :=
              Row.block (Blk.new wr 5 #[bitV (B.testBit (7 - m))]) trivial rfl (by simp [maxLen]) (Nat.le_refl _)
            obtain ⟨i0, hi0, hz0, hz1, hz2⟩ := info_parts u8_info
            refine wpAnyZ_step (by kernel_rfl) rfl (fun K hK => ?_)
            rw [if_pos (by rfl)]
            refine wp_append_row (.tmp 26) (.tmp 36) _ rfl 0 5 i0 _ 1 1 Try.underlying23 hi0 hz0 hz1 hz2 rfl (by omega) (.slice A2 (8 * k + m) c2) (8 * k + m) (bitsV ((Pure.bitsOfBytes true bs).take (8 * k + m)))
              rfl (by have := RO2.out.own; rw [HL2.out] at this; exact (this.alloc _).drew) _ _ 1 _ rfl hrow1 (by intro u hu; simp at hu; subst hu; rfl) (by simp only [maxLen]; omega) (by omega) (by omega) ?_
            intro v3 w3 hown3 hg3 hat3
            obtain ⟨A3, c3, hv3⟩ := own_form hown3
            subst hv3
            have hnew := RefO.more (w := w) (b := B.testBit (7 - m)) RO2.out (by rw [HL2.out]; exact hown3) ⟨hg3.os, hg3.tape, hg3.output, hg3.size, hg3.block⟩ hat3 (by rw [HL2.out]; omega) BR2.out (Nat.le_refl _) VQ2.out
            have hbit : Pure.bit true bs (8 * k + m) = B.testBit (7 - m) := by
              unfold Pure.bit
              rw [show (8 * k + m) / 8 = k by omega, show (8 * k + m) % 8 = m by omega, ← HBB.out]
              rfl
            have hcell3 : ∀ q i u, q < wr.heap.size → Value.ownBlock (.slice A2 (8 * k + m) c2) ≠ some q → wr.cell? ⟨q, i, none⟩ = some u → w3.cell? ⟨q, i, none⟩ = some u := fun q i u hq hne hu =>
              (World.cell?_of_block (w := wr) (a := ⟨q, i, none⟩) ((hg3.block q (by simp; omega) (fun e => hne e.symm)).trans (Below.heap_alloc wr _ q hq))).trans hu
            have hgne : Value.ownBlock (.slice A2 (8 * k + m) c2) ≠ some w.heap.size := ownsRow_ne RO2.out.own RO2.out.blk (by decide)
            have hbne : Value.ownBlock (.slice A2 (8 * k + m) c2) ≠ some b := fun e => by have := VQ2.out b e; omega
            have d0 : w3.cell? ⟨w.heap.size, 0, none⟩ = some (.slice A2 (8 * k + m) c2) := hcell3 _ _ _ (cell_lt c0) hgne c0
            have d1 : w3.cell? ⟨b, off + k, none⟩ = some (.int .u8 B) := hcell3 _ _ _ (cell_lt cb) hbne cb
            have f3 : w3.frozen? ⟨w.heap.size, 0, none⟩ = false := by
              have h1 := World.frozen?_of_block (w := wr) (a := ⟨w.heap.size, 0, none⟩) ((hg3.block w.heap.size (by simp; have := cell_lt c0; omega) (fun e => hgne e.symm)).trans (Below.heap_alloc wr _ w.heap.size (cell_lt c0)))
              exact h1.trans f0
            have hl3 : (Pure.bitsOfBytes true bs).take (8 * k + m) ++ [B.testBit (7 - m)] = (Pure.bitsOfBytes true bs).take (8 * k + (m + 1)) := by
              have hh := HB.out
              rw [show 8 * k + (m + 1) = 8 * k + m + 1 by omega, List.take_add_one, List.getElem?_eq_getElem (by rw [hh]; omega), ← hbit]
              congr 1
              have : (Pure.bitsOfBytes true bs)[8 * k + m]'(by rw [hh]; omega) = Pure.bit true bs (8 * k + m) := by
                rw [← Pure.bitsOfBytes_getD, List.getD_eq_getElem?_getD, List.getElem?_eq_getElem (by rw [hh]; omega)]; rfl
              rw [this]
              rfl
            rw [hl3] at hnew
            have HNEW := Lib.hid hnew
            have hHeld3 := Lib.hid (And.intro d0 d1)
            refine hK.out _ _ (fun _ => hHeld3.out) ?_
            clear hK K hHeld hnew hown3 hg3 hat3 hl3 hbit hcell3 hgne hbne hi0 hz0 hz1 hz2 hrow1 c0 cb f0
            simp only [Act.put, List.setIfInBounds_toArray, Nat.reduceAdd]
            iterate 2
              refine wpAnyZ_next rfl (by kernel_rfl) (fun _ _ _ h => h) (Or.inl ⟨by rfl, by intro w hSw; obtain ⟨s0, s1⟩ := hSw; go_simp; try with_reducible rfl⟩) hHeld3.out ?_
              simp only [Act.put, List.setIfInBounds_toArray, Nat.reduceAdd]
            refine wpAnyZ_step (by kernel_rfl) rfl (fun K hK => ?_)
            clear hHeld3 d1
            go_simp
            refine hK.out _ _ (fun h => absurd rfl h) ?_
            refine wpAnyZ_done (by kernel_rfl) ?_ _
            clear hK K
            go_wp2
            go_roundw
            case rel => exact ⟨m + 1, by omega, by go_num, HNEW.out.2.1, _, HNEW.out.1, HNEW.out.2.2⟩
            case measure => simp [intOf]; omega
        · obtain rfl : m = 8 := by omega
          go_wp2
          go_roundw
          case rel => exact ⟨k + 1, by omega, by go_num, BR2.out, v2, RO2.out, VQ2.out⟩
          case measure => simp [intOf]; omega
    · have hk' : k = bs.length := by omega
      have hfull : (Pure.bitsOfBytes high bs).take (8 * k) = Pure.bitsOfBytes high bs := List.take_of_length_le (by rw [HB.out]; omega)
      rw [hfull] at RO
      clear hfull hk'
      go_wp2
      go_ret
      exact ⟨w.heap.size, v, rfl, Nat.le_refl _, RO.out, VQ.out, BR.out⟩
end Go.Proofs.Ytmelphlgpnmopaa
