/- utf8.ValidString at this program: the library's contract, laid; the condition on the two tables, and that it stays. -/
import Derived.Test.YtkllaghfiofnjaaDoorRows
import Derived.Test.YtkllaghfiofnjaaDoorKit
import Derived.Test.YtkllaghfiofnjaaDoorUtf
import Derived.Ground.NamesProg
import Derived.Shelf.Unicode.ValidAny
namespace Go.Proofs.YtkllaghfiofnjaaDoor
open Go.Shelf Go.RowKit
def validRen : Go.Shelf.Ren := ⟨fun | 196 => 79 | 259 => 90 | n => n, fun | 9 => 9 | 4 => 4 | 3 => 3 | 5 => 5 | 12 => 12 | 119 => 149 | 0 => 0 | 46 => 50 | 139 => 152 | 138 => 151 | 53 => 108 | n => n, fun | 3 => 1 | 4 => 2 | n => n⟩
theorem validLays : Go.Proofs.Lays.n196 Tryd.prog validRen := {
  mixed := by kernel_rfl
  f196 := Tryd.func79.trans (congrArg some (by kernel_rfl))
  f259 := Tryd.func90.trans (congrArg some (by kernel_rfl))
  t0 := Tryd.underlying0
  a0 := Tryd.isAgg0
  z0 := Tryd.sizeOf0
  v0 := Tryd.zeroValue0
  t3 := Tryd.underlying3
  a3 := Tryd.isAgg3
  z3 := Tryd.sizeOf3
  v3 := Tryd.zeroValue3
  t4 := Tryd.underlying4
  a4 := Tryd.isAgg4
  z4 := Tryd.sizeOf4
  v4 := Tryd.zeroValue4
  t5 := Tryd.underlying5
  a5 := Tryd.isAgg5
  z5 := Tryd.sizeOf5
  v5 := Tryd.zeroValue5
  t9 := Tryd.underlying9
  a9 := Tryd.isAgg9
  z9 := Tryd.sizeOf9
  v9 := Tryd.zeroValue9
  t12 := Tryd.underlying12
  a12 := Tryd.isAgg12
  z12 := Tryd.sizeOf12
  v12 := Tryd.zeroValue12
  t46 := Tryd.underlying50
  a46 := Tryd.isAgg50
  z46 := Tryd.sizeOf50
  v46 := Tryd.zeroValue50
  t53 := Tryd.underlying108
  a53 := Tryd.isAgg108
  z53 := Tryd.sizeOf108
  v53 := Tryd.zeroValue108
  t119 := Tryd.underlying149
  a119 := Tryd.isAgg149
  z119 := Tryd.sizeOf149
  t138 := Tryd.underlying151
  a138 := Tryd.isAgg151
  z138 := Tryd.sizeOf151
  v138 := Tryd.zeroValue151
  t139 := Tryd.underlying152
  a139 := Tryd.isAgg152
  z139 := Tryd.sizeOf152
  v139 := Tryd.zeroValue152
  g3 := by kernel_rfl
  g4 := by kernel_rfl }
/-- What the two tables of package utf8 hold. -/
def Tabs (w : World) : Prop := Lib.Utf8Tabs 1 2 w
theorem Tabs.keeps {S : Nat → Prop} {w w' : World} (h : Tabs w) (k : Keeps S w w') (h1 : ¬ S 1) (h2 : ¬ S 2) : Tabs w' := by
  have one : ∀ g o u, ¬ S g → w.cell? ⟨g, o, none⟩ = some u → w'.cell? ⟨g, o, none⟩ = some u := fun g o u hS hc =>
    (World.cell?_of_block (w := w) (a := ⟨g, o, none⟩) (k.block g (cell_lt hc) hS)).trans hc
  exact ⟨fun c hc => one _ _ _ h1 (h.1 c hc), fun i hi => ⟨one _ _ _ h2 (h.2 i hi).1, one _ _ _ h2 (h.2 i hi).2⟩⟩
theorem Tabs.below {w w' : World} (h : Tabs w) (k : Below w.heap.size w w') : Tabs w' := h.keeps (Keeps.new k) (fun h => h) (fun h => h)
theorem valid_any (s : ByteArray) (l : List UInt8) (hl : s.data.toList = l) (hsz : l.length ≤ 1000000) (w : World) (hT : Tabs w) :
    Calls Tryd.prog 79 #[.string s] w fun e w' => e = .returned (.bool (Pure.units l).isSome) ∧ Below w.heap.size w w' := by
  rw [units_valid, ← hl]
  have hs : s.size = l.length := by rw [← hl]; simp
  exact Any.utf8_ValidString validLays s w (by omega) hT
end Go.Proofs.YtkllaghfiofnjaaDoor
