/- Contracts of the document's own bits: Fill. -/
import Derived.Test.YtmelphlgpnmopaaRef1D
namespace Go.Proofs.Ytmelphlgpnmopaa
open Go.RowKit

namespace Pure
/-- How many noughts fill a byte that was begun. -/
def pad (n : Nat) : Nat := (8 - n % 8) % 8
theorem packs_whole {high : Bool} {l : List Bool} {bs : List UInt8} (h : Packs high l bs 0) : bitsOfBytes high bs = l := by
  have hl := h.len
  apply List.ext_getElem?
  intro i
  rcases Nat.lt_or_ge i l.length with hi | hi
  · have h1 := h.bits i
    rw [← bitsOfBytes_getD, List.getD_eq_getElem?_getD, List.getD_eq_getElem?_getD] at h1
    rw [List.getElem?_eq_getElem hi, List.getElem?_eq_getElem (by rw [bitsOfBytes_length]; omega)] at h1 ⊢
    simpa using h1
  · rw [List.getElem?_eq_none hi, List.getElem?_eq_none (by rw [bitsOfBytes_length]; omega)]
theorem packs_pad {high : Bool} {l : List Bool} {bs : List UInt8} {free : Nat} (h : Packs high l bs free) (hf : free ≤ 7) : pad l.length = free := by
  have := h.len
  unfold pad
  omega
theorem pad_zero (n : Nat) (h : n % 8 = 0) : pad n = 0 := by unfold pad; omega
theorem pad_succ (n : Nat) (h : n % 8 ≠ 0) : pad n = pad (n + 1) + 1 := by unfold pad; omega
end Pure

/-- What became of the document's bits. -/
def RWrote (w : World) (g : Nat) (v : Value) (high : Bool) (l : List Bool) (at_ : Nat) (w' : World) : Prop :=
  ∃ v', RefO w' g v' high l at_ ∧ Keeps (fw0 g v) w w' ∧ ∀ q, v'.ownBlock = some q → v.ownBlock = some q ∨ w.heap.size ≤ q
theorem RWrote.refl {w : World} {g : Nat} {v : Value} {high : Bool} {l : List Bool} {at_ : Nat} (h : RefO w g v high l at_) : RWrote w g v high l at_ w :=
  ⟨v, h, Keeps.refl _ _, fun _ hq => .inl hq⟩
/-- One append, stored. -/
theorem RWrote.append {w wr w0 w1 : World} {g : Nat} {v v2 v1 : Value} {high : Bool} {l news : List Bool} {at_ : Nat} (h : RefO wr g v2 high l at_) (hk : Keeps (fw0 g v) w wr) (hv : ∀ q, v2.ownBlock = some q → v.ownBlock = some q ∨ w.heap.size ≤ q)
    (h0 : Keeps nobody wr w0) (hown : w1.ownsRow 0 5 1 v1 (l.length + news.length) (bitsV l ++ bitsV news)) (hg1 : w0.grownBy w1 v2.ownBlock)
    (hat : v1.ownBlock = v2.ownBlock ∨ v1.ownBlock = some w0.heap.size) (hl : l.length + news.length ≤ 1099511627776) :
    RWrote w g v high (l ++ news) at_ (w1.setCell ⟨g, 0, none⟩ v1) := by
  have hblk : Blk w1 g 56 #[v2, .int .i64 at_, .bool high] := (h.blk.keeps h0 (fun h => h)).grown hg1 (fun e => ownsRow_ne h.own h.blk (by decide) e.symm)
  have hs0 := h0.size
  have hs := hk.size
  refine ⟨v1, ⟨?_, ?_, by simpa using hl⟩, ?_, fun q hq => ?_⟩
  · have := hblk.set 0 v1
    simpa using this
  · rw [show (l ++ news).length = l.length + news.length by simp, show bitsV (l ++ news) = bitsV l ++ bitsV news by simp [bitsV]]
    exact ownsRow_keeps hown ((Keeps.refl _ w1).store g 0 (fun _ => only_self g) _) (fun q hq e => by
      have e : q = g := e
      subst e
      exact ownsRow_ne hown hblk (by decide) hq)
  · have k1 : Keeps (fw0 g v) w w0 := hk.trans (h0.mono (fun _ h => h.elim))
    exact (k1.grown hg1 (fun q hq hlt => by rcases hv q hq with h | h; exact .inr h; omega)).store g 0 (fun _ => .inl rfl) _
  · rcases hat with e | e
    · exact hv q (e ▸ hq)
    · rw [e] at hq
      simp at hq
      omega

set_option maxHeartbeats 2000000 in
theorem refFill_any (g : Nat) (v : Value) (high : Bool) (l : List Bool) (at_ : Nat) (w : World) (h : RefO w g v high l at_) (hl : l.length ≤ 1099511600000) :
    Calls Try.prog 36 #[.pointer (some ⟨g, 0, none⟩)] w fun e w' => e = .returned (.tuple #[]) ∧
      RWrote w g v high (l ++ List.replicate (Pure.pad l.length) false) at_ w' := by
  have HL := Lib.hid hl
  have H := Lib.hid h
  clear h hl
  obtain ⟨i0, hi0, hz0, hz1, hz2⟩ := info_parts u8_info
  have I := Lib.hid (And.intro hi0 (And.intro hz0 (And.intro hz1 hz2)))
  clear hi0 hz0 hz1 hz2
  go_enter Try.func36, Try.ntmps36
  go_wp2_with fail
  go_loopg [] (Pure.pad l.length) (fun k wr => ∃ L : List Bool, k = Pure.pad L.length ∧ L.length ≤ 1099511600008 ∧ L ++ List.replicate (Pure.pad L.length) false = l ++ List.replicate (Pure.pad l.length) false ∧ RWrote w g v high L at_ wr)
  case atStart => exact ⟨l, rfl, by have := HL.out; omega, rfl, RWrote.refl H.out⟩
  case round =>
    obtain ⟨L, hgk, hll, heq, v2, hr, hkp, hv⟩ := hrel
    subst hgk
    have HE := Lib.hid heq
    have HR := Lib.hid hr
    have HK := Lib.hid hkp
    have HV := Lib.hid hv
    obtain ⟨A2, c2, hv2⟩ := own_form hr.own
    subst hv2
    have c0 : wr.cell? ⟨g, 0, none⟩ = some (.slice A2 L.length c2) := by rw [hr.blk.cell]; rfl
    have f0 : wr.frozen? ⟨g, 0, none⟩ = false := hr.blk.frozen 0
    clear hr hkp hv heq
    by_cases h8 : L.length % 8 = 0
    · have e1 : ((L.length : Int) % 8 != 0) = false := by simp; omega
      have hp := Pure.pad_zero _ h8
      have HP := Lib.hid hp
      clear hp
      go_wp2
      go_end0
      have he := HE.out
      rw [HP.out] at he
      simp only [List.replicate_zero, List.append_nil] at he
      rw [← he]
      exact ⟨rfl, _, HR.out, HK.out, HV.out⟩
    · have e1 : ((L.length : Int) % 8 != 0) = true := by rw [bne_iff_ne]; omega
      have hp := Pure.pad_succ _ h8
      have HP := Lib.hid hp
      have hll8 : L.length ≤ 1099511600007 := by have := HE.out; have e := congrArg List.length this; simp at e; unfold Pure.pad at e hp; have := HL.out; omega
      clear hp
      go_wp2_with (at_builtin; refine stopHere ?_)
      unfold Hid
      have hrow1 : Row (wr.alloc (.cells #[.int .u8 0] 5)) (fun _ => True) 1 (.slice (some ⟨wr.heap.size, 0, none⟩) 1 1) 1 [.int .u8 0] :=
        Row.block (Blk.new wr 5 #[.int .u8 0]) trivial rfl (by simp [maxLen]) (Nat.le_refl _)
      obtain ⟨hi0, hz0, hz1, hz2⟩ := I.out
      refine wpList_append_row rfl (.tmp 13) (.tmp 14) _ rfl 0 5 i0 _ 1 1 Try.underlying23 hi0 hz0 hz1 hz2 rfl (by omega) (.slice A2 L.length c2) L.length (bitsV L)
        rfl (HR.out.own.alloc _) _ _ 1 [.int .u8 0] rfl hrow1 (by simp [Value.oneCell']) (by simp only [maxLen]; omega) (by omega) (by omega) ?_
      intro v3 w3 hown3 hg3 hat3
      obtain ⟨A3, c3, hv3⟩ := own_form hown3
      subst hv3
      have hnew := RWrote.append (w := w) (v := v) (news := [false]) HR.out HK.out HV.out (((Keeps.refl nobody wr).alloc (.cells #[.int .u8 0] 5))) hown3 hg3 hat3 (by simp; omega)
      have hgne : Value.ownBlock (.slice A2 L.length c2) ≠ some g := ownsRow_ne HR.out.own HR.out.blk (by decide)
      have hblk3 := (HR.out.blk.alloc (.cells #[.int .u8 0] 5)).grown hg3 (fun e => hgne e.symm)
      have d0 : w3.cell? ⟨g, 0, none⟩ = some (.slice A2 L.length c2) := by rw [hblk3.cell]; rfl
      have f3 : w3.frozen? ⟨g, 0, none⟩ = false := hblk3.frozen 0
      have HN := Lib.hid hnew
      have he2 : L ++ [false] ++ List.replicate (Pure.pad (L ++ [false]).length) false = l ++ List.replicate (Pure.pad l.length) false := by
        rw [← HE.out, HP.out, List.replicate_succ]
        simp
      have HE2 := Lib.hid he2
      clear hown3 hg3 hat3 hgne hblk3 hi0 hz0 hz1 hz2 hrow1 hnew c0 f0 he2
      go_wp2
      go_roundg (Pure.pad (L.length + 1))
      case rel => exact ⟨L ++ [false], by simp, by simp; omega, HE2.out, HN.out⟩
      case measure => have := HP.out; omega
end Go.Proofs.Ytmelphlgpnmopaa
