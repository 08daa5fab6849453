/- A piece of a row of bytes whose capacity may end where it begins. -/
import Derived.Test.YtmgicbckgpdkcaaGreatDoorQ2
import Derived.RangeFuncNested
import Derived.RangeFuncBound
import Derived.RangeFuncCalls
import Derived.RangeFuncLeaves
import Derived.OwnWalkIn
import Derived.Laws.Tables
import Derived.Laws.CopyOwn
import Derived.Laws.Rows
import Derived.Test.YtmgicbckgpdkcaaGreatDoorQ1
import Derived.OrdersIn
import Derived.RangeFuncWrites
import Derived.Test.YtmgicbckgpdkcaaGreatDoorQ4
namespace Go.Proofs.YtmgicbckgpdkcaaGreatDoor
open Go.RowKit
def cutV (a : Option Addr) (c lo m : Nat) : Value := if c = lo then .slice a m 0 else .slice (a.map (fun x => x.add lo)) m (c - lo)
theorem Row.cutV {w : World} {F : Nat → Prop} {a : Option Addr} {n c : Nat} {bs : List UInt8} (h : Row w F 1 (.slice a n c) n (u8s bs)) (lo m : Nat) (hm : lo + m ≤ n) :
  Row w F 1 (cutV a c lo m) m (u8s ((bs.drop lo).take m)) := by
 have e : u8s ((bs.drop lo).take m) = ((u8s bs).drop lo).take m := by simp
 rw [e]
 unfold Go.Proofs.YtmgicbckgpdkcaaGreatDoor.cutV
 split
 ·rename_i hc
  subst hc
  exact h.cutEnd m hm
 ·exact h.cut1 lo m hm
theorem cut_value' (a : Option Addr) (c q m : Nat) : Value.slice (if c = q then a else Option.map (fun x => x.add q) a) m (c - q) = cutV a c q m := by
 unfold cutV
 by_cases h : c = q
 ·rw [if_pos h, if_pos h, h, Nat.sub_self]
 ·rw [if_neg h, if_neg h]
theorem ownFrom_blk {β : Type} {B g : Nat} {t : TypeId} (hg : g < B) (f : β → Array Value) : OwnFrom B (fun s W => Blk W g t (f s)) := fun s A C row hs hgr hr =>
 Blk.grown hs hgr (fun e => by have := (hr g e.symm).1; omega)
section
variable {F : Fence} {n : Nat} {P : Program}
end
section
variable {P : Program} {ops : Array Oper} {Q : Exit → Act → World → Prop} {md : Region.Mode}
def noDefer (ops : Array Oper) : Bool := ops.toList.all fun o => match o.op with | .defer _ => false | _ => true
theorem noDefer_at {i : Nat} {o : Oper} (h : noDefer ops = true) (ho : ops[i]? = some o) : ∀ c, o.op ≠ .defer c := by
 intro c hc
 have hm : o ∈ ops.toList := by
  rw [← Array.getElem?_toList] at ho
  exact List.mem_of_getElem? ho
 have := List.all_eq_true.1 h o hm
 rw [hc] at this
 cases this
theorem rowsIn_wide {l n : Nat} {row : String} {args : Array Value} {w : World} {R : Value → World → Prop} (h : Rows P row args w R) : RowsIn (Fence.wide.inRound l) n P row args w R :=
 fun c cs _ => let ⟨v, w', r, s⟩ := h c cs; ⟨v, w', r, stepsIn_wide.2 s⟩
theorem wpOpIn_wide {l n : Nat} (hnd : noDefer ops = true) (hQ : ¬ LetsOut Q) {i : Nat} {K : Act → World → Prop} {a : Act} {w : World} (h : wpOp P ops Q i K a w) : wpOpIn (Fence.wide.inRound l) n P ops Q i K a w := by
 unfold wpOp at h
 unfold wpOpIn
 cases ho : ops[i]? with
 | none => simpa [ho] using h
 | some o =>
  simp only [ho] at h ⊢
  by_cases hw : Region.wanted o (yielded ops a.tmps) = true
  ·rw [if_pos hw] at h
   rw [if_pos hw]
   rcases h with h | ⟨_, h⟩
   ·refine ⟨fun _ _ => trivial, ?_⟩
    rw [Oper.semAt_eq _ _ _ (noDefer_at hnd ho)]
    unfold Oper.wp at h
    generalize (execOp a.eval o).run P w = r at h ⊢
    cases r with
    | ok x w' =>
     cases x <;> simp only [Oper.upon, Oper.uponIn] at h ⊢
     case value => exact h
     case skip => exact h
     case defer => exact h
     case enter f args => exact ⟨fun h => absurd h (by simp [Fence.wide, Fence.inRound]), CallsIn.inRound l (callsIn_wide.2 h)⟩
     case row => exact ⟨fun h => absurd h (by simp [Fence.wide, Fence.inRound]), rowsIn_wide h⟩
    | halt x w' => cases x <;> simp only [Oper.upon, Oper.uponIn] at h ⊢ <;> exact h
   ·exact absurd h hQ
  ·rw [if_neg hw] at h
   rw [if_neg hw]
   exact ⟨fun _ _ => trivial, h⟩
theorem wpAnyIn_wide {l n : Nat} (hnd : noDefer ops = true) (hQ : ¬ LetsOut Q) : ∀ (fuel : Nat) (listed : Array Bool) (a : Act) (w : World), wpAny P md ops Q fuel listed a w → wpAnyIn (Fence.wide.inRound l) n P md ops Q fuel listed a w
 | 0, _, _, _, h => h
 | fuel + 1, _, _, _, h => ⟨h.1, fun i hi => wpOpIn_wide hnd hQ (wpOp_mono (fun a' w' h' => wpAnyIn_wide hnd hQ fuel _ a' w' h') (h.2 i hi))⟩
theorem wpIn_region_Z {l n id : Nat} {a : Act} {w : World} (S : World → Prop) (z size : Nat) (hsz : ops.size = size) (hm : P.follows .mixedOrders = true) (hnd : noDefer ops = true) (hQ : ¬ LetsOut Q) (hS : S w.drew)
  (h : Go.RowKit.Hid (S w.drew) → wpAnyZ P .any ops Q S z size (marks size 0) a w.drew) : (Code.region id ops true).wpIn (Fence.wide.inRound l) n P Q a w :=
 wpIn_region_any hm (by rw [hsz]; exact wpAnyIn_wide hnd hQ size _ _ _ (wpAny_of_Z size _ _ _ (h hS)))
end
end Go.Proofs.YtmgicbckgpdkcaaGreatDoor
