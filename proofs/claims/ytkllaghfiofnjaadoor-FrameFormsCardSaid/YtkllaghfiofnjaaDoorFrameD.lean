/- Contract of package frame's Encode. -/
import Derived.Test.YtkllaghfiofnjaaDoorFrameC
namespace Go.Proofs.YtkllaghfiofnjaaDoor
open Go.RowKit

/-- What Encode answers. -/
def Encodes (w : World) (p : Int) (bs : List UInt8) (a q : Bool) (e : Ending) (w' : World) : Prop :=
  Below w.heap.size w w' ∧ ((Pure.sendErr p bs.length ≠ 0 ∧ e = .returned (.tuple #[.slice none 0 0, .int .i64 (Pure.sendErr p bs.length)])) ∨
    (Pure.sendErr p bs.length = 0 ∧ ∃ u, e = .returned (.tuple #[u, .int .i64 0]) ∧ w'.ownsRow w.heap.size 5 1 u (Pure.enc p.toNat bs a q).length (u8s (Pure.enc p.toNat bs a q))))
theorem Pure.sendErr_zero {p : Int} {n : Nat} (h : Pure.sendErr p n = 0) : Pure.may p = true ∧ n ≤ 1516 := by
  unfold Pure.sendErr at h
  split at h
  · rename_i h1
    split at h
    · cases h
    · exact ⟨h1, by omega⟩
  · cases h
set_option maxHeartbeats 2000000 in
theorem Encode_any (F : Nat → Prop) (p : Int) (x : Value) (bs : List UInt8) (a q : Bool) (w : World) (hg : Handle w) (hr : Row w F 1 x bs.length (u8s bs)) (hF : ∀ b, F b → b < w.heap.size) :
    Calls Tryd.prog 13 #[.int .i64 p, x, .agg #[.bool a, .bool q]] w (Encodes w p bs a q) := by
  have HR := Lib.hid hr
  have HF := Lib.hid hF
  obtain ⟨A, c, rfl, hc⟩ := hr.form
  have HG := Lib.hid hg
  have HB := Lib.hid (Blk.new w 24 #[.bool a, .bool q])
  have B0 := Lib.hid ((Below.refl w.heap.size w).alloc (Nat.le_refl _) (.cells #[.bool a, .bool q] 24))
  clear hr hF hg
  go_enter Tryd.func13, Tryd.ntmps13
  go_wp2_with fail
  refine (sendable_any F p _ bs _ (HR.out.keeps (Keeps.new B0.out) (fun _ _ h => h))).mono ?_
  rintro e w1 ⟨v1, rfl, he1, hb1⟩
  have E1 := Lib.hid he1
  have B1 := Lib.hid (B0.out.trans (hb1.mono B0.out.size))
  have W1 := Lib.hid hb1
  clear he1 hb1
  go_wp2_with fail
  refine (number_any v1 _ w1 (HG.out.below B1.out) E1.out).mono ?_
  rintro e w2 ⟨rfl, hb2⟩
  have B2 := Lib.hid (B1.out.trans (hb2.mono B1.out.size))
  have hblk2 : Blk w2 w.heap.size 24 #[.bool a, .bool q] := HB.out.below (W1.out.trans (hb2.mono W1.out.size)) (by simp)
  have HB2 := Lib.hid hblk2
  have c0 : w2.cell? ⟨w.heap.size, 0, none⟩ = some (.bool a) := by rw [hblk2.cell]; rfl
  have c1 : w2.cell? ⟨w.heap.size, 1, none⟩ = some (.bool q) := by rw [hblk2.cell]; rfl
  clear hb2 hblk2
  obtain ⟨k, hk⟩ : ∃ k, k = Pure.sendErr p bs.length := ⟨_, rfl⟩
  rw [← hk]
  have HK := Lib.hid hk
  clear hk E1
  by_cases h0 : k = 0
  · have hn : ((k : Int) != 0) = false := by simp; omega
    obtain ⟨hm, hl⟩ := Pure.sendErr_zero (h0 ▸ HK.out.symm : Pure.sendErr p bs.length = 0)
    obtain ⟨n, rfl, hn1, _⟩ := Pure.may_nat p hm
    have H0 := Lib.hid h0
    clear h0 hm
    go_wp2_with fail
    refine (head_any n a q w2 hn1).mono ?_
    rintro e w3 ⟨u3, rfl, hown3, hb3⟩
    obtain ⟨A3, c3, rfl⟩ := own_form hown3
    obtain ⟨Hd, hHd⟩ : ∃ Hd, Hd = Pure.head n a q := ⟨_, rfl⟩
    have hHl := Pure.head_le n a q
    rw [← hHd] at hown3 hHl ⊢
    have hrow3 : Row w3 (fun b => b < w3.heap.size) 1 (.slice A3 Hd.length c3) Hd.length (u8s Hd) := (Row.of_own hown3).mono (fun b hb => ownsRow_lt hown3 b hb)
    have B3 := Lib.hid (B2.out.trans (hb3.mono B2.out.size))
    have hrow0 : Row w3 (fun b => b < w3.heap.size) 1 (.slice A bs.length c) bs.length (u8s bs) :=
      (HR.out.keeps (Keeps.new B3.out) (fun _ _ h => h)).mono (fun b hb => Nat.lt_of_lt_of_le (HF.out b hb) B3.out.size)
    have hk := (Keeps.refl nobody w3).alloc (.cells #[.slice A3 Hd.length c3, .slice A bs.length c] 25)
    have hparts : Parts (w3.alloc (.cells #[.slice A3 Hd.length c3, .slice A bs.length c] 25)) w3.heap.size (fun b => b < w3.heap.size) [(.slice A3 Hd.length c3, Hd), (.slice A bs.length c, bs)] := by
      refine ⟨Blk.new w3 _ _, fun p hp => ?_⟩
      simp only [List.mem_cons, List.not_mem_nil, or_false] at hp
      rcases hp with rfl | rfl
      · exact hrow3.keeps hk (fun _ _ h => h)
      · exact hrow0.keeps hk (fun _ _ h => h)
    have hj : joined [(.slice A3 Hd.length c3, Hd), (.slice A bs.length c, bs)] = Pure.enc n bs a q := by simp [joined, Pure.enc, hHd]
    have HP := Lib.hid hparts
    have HJ := Lib.hid hj
    have hlen : (Pure.enc n bs a q).length = Hd.length + bs.length := by simp [Pure.enc, hHd]
    have HLEN := Lib.hid hlen
    clear hown3 hb3 hrow3 hrow0 hk hparts hj hlen hHd
    go_wp2_with fail
    refine (concat_any (fun b => b < w3.heap.size) w3.heap.size [(.slice A3 Hd.length c3, Hd), (.slice A bs.length c, bs)] _ HP.out (fun b hb => by simp; omega) (by simp) (by rw [HJ.out, HLEN.out]; omega)).mono ?_
    rintro e w4 ⟨u4, rfl, hown4, hb4⟩
    rw [HJ.out] at hown4
    have O4 := Lib.hid (ownsRow_base (base' := w.heap.size) hown4 (by have := B3.out.size; simp; omega))
    have B4 := Lib.hid ((B3.out.alloc B3.out.size (.cells #[.slice A3 Hd.length c3, .slice A bs.length c] 25)).trans (hb4.mono (by have := B3.out.size; simp; omega)))
    clear hown4 hb4
    go_wp2
    go_ret2
    exact ⟨B4.out, .inr ⟨by rw [← HK.out]; exact H0.out, u4, rfl, by rw [Int.toNat_natCast]; exact O4.out⟩⟩
  · have hn : ((k : Int) != 0) = true := by simp; omega
    have H0 := Lib.hid h0
    clear h0
    go_wp2_with fail
    go_ret2
    exact ⟨B2.out, .inl ⟨by rw [← HK.out]; exact H0.out, by rw [← HK.out]; rfl⟩⟩
end Go.Proofs.YtkllaghfiofnjaaDoor
