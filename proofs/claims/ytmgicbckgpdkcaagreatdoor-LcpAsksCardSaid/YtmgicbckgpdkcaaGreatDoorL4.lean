/- utf8.ValidString at this program: the library's contract, laid; the condition on the two tables, and that it stays. -/
import Derived.Ground.NamesProg
import Derived.Shelf.Unicode.ValidAny
import Derived.Test.YtmgicbckgpdkcaaGreatDoorL3
namespace Go.Proofs.YtmgicbckgpdkcaaGreatDoor
open Go.Shelf Go.RowKit
def validRen : Go.Shelf.Ren := ⟨fun | 196 => 179 | 259 => 206 | n => n, fun | 9 => 9 | 4 => 4 | 3 => 3 | 5 => 5 | 12 => 12 | 119 => 280 | 0 => 0 | 46 => 48 | 139 => 283 | 138 => 282 | 53 => 243 | n => n, fun | 3 => 2 | 4 => 3 | n => n⟩
theorem y6v : Go.Proofs.Lays.n196 Tryz.prog validRen := {
 mixed := by kernel_rfl
 f196 := Tryz.func179.trans (congrArg some (by kernel_rfl))
 f259 := Tryz.func206.trans (congrArg some (by kernel_rfl))
 t0 := Tryz.underlying0
 a0 := Tryz.isAgg0
 z0 := Tryz.sizeOf0
 v0 := Tryz.zeroValue0
 t3 := Tryz.underlying3
 a3 := Tryz.isAgg3
 z3 := Tryz.sizeOf3
 v3 := Tryz.zeroValue3
 t4 := Tryz.underlying4
 a4 := Tryz.isAgg4
 z4 := Tryz.sizeOf4
 v4 := Tryz.zeroValue4
 t5 := Tryz.underlying5
 a5 := Tryz.isAgg5
 z5 := Tryz.sizeOf5
 v5 := Tryz.zeroValue5
 t9 := Tryz.underlying9
 a9 := Tryz.isAgg9
 z9 := Tryz.sizeOf9
 v9 := Tryz.zeroValue9
 t12 := Tryz.underlying12
 a12 := Tryz.isAgg12
 z12 := Tryz.sizeOf12
 v12 := Tryz.zeroValue12
 t46 := Tryz.underlying48
 a46 := Tryz.isAgg48
 z46 := Tryz.sizeOf48
 v46 := Tryz.zeroValue48
 t53 := Tryz.underlying243
 a53 := Tryz.isAgg243
 z53 := Tryz.sizeOf243
 v53 := Tryz.zeroValue243
 t119 := Tryz.underlying280
 a119 := Tryz.isAgg280
 z119 := Tryz.sizeOf280
 t138 := Tryz.underlying282
 a138 := Tryz.isAgg282
 z138 := Tryz.sizeOf282
 v138 := Tryz.zeroValue282
 t139 := Tryz.underlying283
 a139 := Tryz.isAgg283
 z139 := Tryz.sizeOf283
 v139 := Tryz.zeroValue283
 g3 := by kernel_rfl
 g4 := by kernel_rfl }
def Tabs (w : World) : Prop := Lib.Utf8Tabs 2 3 w
theorem Tabs.keeps {S : Nat → Prop} {w w' : World} (h : Tabs w) (k : Keeps S w w') (h1 : ¬ S 2) (h2 : ¬ S 3) : Tabs w' := by
 have one : ∀ g o u, ¬ S g → w.cell? ⟨g, o, none⟩ = some u → w'.cell? ⟨g, o, none⟩ = some u := fun g o u hS hc =>
  (World.cell?_of_block (w := w) (a := ⟨g, o, none⟩) (k.block g (y0l hc) hS)).trans hc
 exact ⟨fun c hc => one _ _ _ h1 (h.1 c hc), fun i hi => ⟨one _ _ _ h2 (h.2 i hi).1, one _ _ _ h2 (h.2 i hi).2⟩⟩
theorem Tabs.below {w w' : World} (h : Tabs w) (k : Below w.heap.size w w') : Tabs w' := h.keeps (Keeps.new k) (fun h => h) (fun h => h)
theorem valid_any (s : ByteArray) (l : List UInt8) (hl : s.data.toList = l) (hsz : l.length ≤ 1000000) (w : World) (hT : Tabs w) :
  Calls Tryz.prog 179 #[.string s] w fun e w' => e = .returned (.bool (Pure.units l).isSome) ∧ Below w.heap.size w w' := by
 rw [y9y, ← hl]
 have hs : s.size = l.length := by rw [← hl]; simp
 exact Any.utf8_ValidString y6v s w (by omega) hT
end Go.Proofs.YtmgicbckgpdkcaaGreatDoor
