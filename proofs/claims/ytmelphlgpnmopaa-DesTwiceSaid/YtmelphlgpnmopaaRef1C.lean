/- Contracts of the document's own bits: Take. -/
import Derived.Test.YtmelphlgpnmopaaRef1B
namespace Go.Proofs.Ytmelphlgpnmopaa
open Go.RowKit

theorem refTake_bad (g : Nat) (n : Int) (w : World) (hn : n < 0 ∨ 32 < n) :
    Calls Try.prog 41 #[.pointer (some ⟨g, 0, none⟩), .int .i64 n] w fun e w' => e = .returned (.tuple #[.int .i64 0, .bool false]) ∧ w = w' := by
  by_cases h0 : n < 0
  · clear hn
    go_enter Try.func41, Try.ntmps41
    go_wp2
    go_ret2
    exact ⟨rfl, rfl⟩
  · have h1 : 32 < n := by omega
    clear hn
    go_enter Try.func41, Try.ntmps41
    go_wp2
    go_ret2
    exact ⟨rfl, rfl⟩
theorem refTake_no (g : Nat) (v : Value) (high : Bool) (l : List Bool) (at_ n : Nat) (w : World) (h : RefO w g v high l at_) (hle : at_ ≤ l.length) (hn : n ≤ 32) (hl : l.length - at_ < n) :
    Calls Try.prog 41 #[.pointer (some ⟨g, 0, none⟩), .int .i64 n] w fun e w' => e = .returned (.tuple #[.int .i64 0, .bool false]) ∧ Keeps nobody w w' := by
  have HL := Lib.hid (refLeft_any g v high l at_ w h hle)
  have h1 : (l.length : Int) - at_ < n := by omega
  clear h
  go_enter Try.func41, Try.ntmps41
  go_wp2_with (go_at_call 40; refine HL.out.mono ?_; rintro e w1 ⟨rfl, hk1⟩)
  go_ret2
  exact ⟨rfl, hk1⟩
theorem refTake_ok (g : Nat) (v : Value) (high : Bool) (l : List Bool) (at_ n : Nat) (w : World) (h : RefO w g v high l at_) (hn : n ≤ 32) (hl : at_ + n ≤ l.length) :
    Calls Try.prog 41 #[.pointer (some ⟨g, 0, none⟩), .int .i64 n] w fun e w' =>
      e = .returned (.tuple #[.int .i64 (Pure.num high (fun k => l.getD (at_ + k) false) n n), .bool true]) ∧ RefO w' g v high l (at_ + n) ∧ Keeps (only g) w w' := by
  have hlen := h.len
  have H := Lib.hid h
  have h1 : ¬ (l.length : Int) - at_ < n := by omega
  clear h
  go_enter Try.func41, Try.ntmps41
  go_wp2_with fail
  refine (refLeft_any g v high l at_ w H.out (by omega)).mono ?_
  rintro e w1 ⟨rfl, hk1⟩
  have H1 := Lib.hid (H.out.keeps hk1 (fun _ _ h => h))
  have K1 := Lib.hid hk1
  clear hk1
  go_wp2_with fail
  refine (refNumber_any g v high l at_ n w1 H1.out (by omega) hn).mono ?_
  rintro e w2 ⟨rfl, hk2⟩
  have H2 := Lib.hid (H1.out.keeps hk2 (fun _ _ h => h))
  have K2 := Lib.hid (K1.out.trans hk2)
  have c1 : w2.cell? ⟨g, 1, none⟩ = some (.int .i64 at_) := by rw [H2.out.blk.cell]; rfl
  have f1 : w2.frozen? ⟨g, 1, none⟩ = false := H2.out.blk.frozen 1
  have hk3 : Keeps (only g) w2 (w2.setCell ⟨g, 1, none⟩ (.int .i64 ((at_ : Int) + n))) := (Keeps.refl _ w2).store g 1 (fun _ => only_self g) _
  have K3 := Lib.hid hk3
  clear hk2 K1 H1 hk3
  go_wp2
  go_ret2
  refine ⟨rfl, ⟨?_, ?_, hlen⟩, (K2.out.mono (fun _ h => h.elim)).trans K3.out⟩
  · have := H2.out.blk.set 1 (.int .i64 ((at_ : Int) + n))
    simpa using this
  · exact ownsRow_keeps H2.out.own K3.out (fun b hb e => by
      have e : b = g := e
      subst e
      exact ownsRow_ne H2.out.own H2.out.blk (by decide) hb)
end Go.Proofs.Ytmelphlgpnmopaa
