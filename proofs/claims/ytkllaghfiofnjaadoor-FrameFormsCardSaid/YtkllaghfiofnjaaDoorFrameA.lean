/- Contracts of package frame: odd. -/
import Derived.Test.YtkllaghfiofnjaaDoorFault
import Derived.Test.YtkllaghfiofnjaaDoorFramePure
import Derived.Test.YtkllaghfiofnjaaDoorNum
namespace Go.Proofs.YtkllaghfiofnjaaDoor
open Go.RowKit

theorem odd_any (x : Nat) (w : World) (hx : x < 256) : Calls Tryd.prog 38 #[.int .u8 x] w fun e w' => e = .returned (.bool (decide (x % 2 = 1))) ∧ w = w' := by
  have ha : bits .and .u8 (x : Int) 1 = ((x % 2 : Nat) : Int) := by
    have := u8_and_nat x 1 hx (by omega)
    rwa [nat_mask1] at this
  by_cases h : x % 2 = 1
  · rw [h] at ha
    have hd : decide (x % 2 = 1) = true := by simpa using h
    rw [hd]
    clear h hd
    go_enter Tryd.func38, Tryd.ntmps38
    go_wp2
    go_ret
    exact ⟨rfl, rfl⟩
  · have h0 : x % 2 = 0 := by omega
    rw [h0] at ha
    have hd : decide (x % 2 = 1) = false := by simpa using h
    rw [hd]
    clear h h0 hd
    go_enter Tryd.func38, Tryd.ntmps38
    go_wp2
    go_ret
    exact ⟨rfl, rfl⟩

end Go.Proofs.YtkllaghfiofnjaaDoor
