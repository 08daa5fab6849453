/- A piece of a row of bytes whose capacity may end where it begins. -/
import Derived.Test.YtjeekhgkcphnpaaBase
namespace Go.Proofs.Ytjeekhgkcphnpaa
open Go.RowKit

/-- A piece of a row of bytes. -/
def cutV (a : Option Addr) (c lo m : Nat) : Value := if c = lo then .slice a m 0 else .slice (a.map (fun x => x.add lo)) m (c - lo)
theorem Row.cutV {w : World} {F : Nat → Prop} {a : Option Addr} {n c : Nat} {bs : List UInt8} (h : Row w F 1 (.slice a n c) n (u8s bs)) (lo m : Nat) (hm : lo + m ≤ n) :
    Row w F 1 (cutV a c lo m) m (u8s ((bs.drop lo).take m)) := by
  have e : u8s ((bs.drop lo).take m) = ((u8s bs).drop lo).take m := by simp
  rw [e]
  unfold Go.Proofs.Ytjeekhgkcphnpaa.cutV
  split
  · rename_i hc
    subst hc
    exact h.cutEnd m hm
  · exact h.cut1 lo m hm
theorem cut_value' (a : Option Addr) (c q m : Nat) : Value.slice (if c = q then a else Option.map (fun x => x.add q) a) m (c - q) = cutV a c q m := by
  unfold cutV
  by_cases h : c = q
  · rw [if_pos h, if_pos h, h, Nat.sub_self]
  · rw [if_neg h, if_neg h]
end Go.Proofs.Ytjeekhgkcphnpaa
