/- What the frames of chap's laws share: their rows list package errors' variable errorType and package utf8's two tables. -/
import Derived.Test.YtkllaghfiofnjaaDoorDoor
import Derived.Test.YtkllaghfiofnjaaDoorHash
import Derived.PinnedBridge
import Derived.Lay
import Derived.LaidMore
import Derived.Lib.LaidU8T
namespace Go.Proofs.YtkllaghfiofnjaaDoor
open Go.ChangeShapes Go.WideShapes Go.RowKit Go.Deep Go.Shelf
/-- What the rows list. -/
abbrev laid9 : List (String × DataW Unit) := Rows.chapHashesRow.laid
/-- .. but for the type's handle. -/
abbrev plain9 : List (String × DataW Unit) := laid9.filter fun x => x.2.handleName?.isNone
theorem first_same : Rows.laid_unicode_utf8_first = Lib.firstData := Pinned.utf8First_eq
theorem accept_same : (Rows.laid_unicode_utf8_acceptRanges : DataW Unit) = Lib.acceptData := by kernel_rfl
theorem door9_handle {W : World} (h : laidMetH Tryd.prog laid9 W) : Handle W := by
  have h' : laidMet Tryd.prog plain9 W ∧ handlesMet Tryd.prog (laid9.filter fun x => x.2.handleName?.isSome) W := h
  refine door_handle (show laidMet Tryd.prog [] W ∧ handlesMet Tryd.prog doorLaid W from ⟨laidMet_nil _ _, h'.2⟩)
theorem door9_tabs {W : World} (h : laidMetH Tryd.prog laid9 W) : Tabs W := by
  have h' : laidMet Tryd.prog plain9 W ∧ handlesMet Tryd.prog (laid9.filter fun x => x.2.handleName?.isSome) W := h
  have h4 := Lib.laidMet.reads h'.1 (List.Mem.head _)
  have h3 := Lib.laidMet.reads h'.1 (List.Mem.tail _ (List.Mem.head _))
  rw [accept_same] at h4
  rw [first_same] at h3
  exact utf8Tabs_of_readsT (U8Types.of196 validLays) ⟨by kernel_rfl, by kernel_rfl, by kernel_rfl, by kernel_rfl, by kernel_rfl, by kernel_rfl, by kernel_rfl⟩ h3 h4
theorem door9_env {W : World} (h : laidMetH Tryd.prog laid9 W) : Env W := ⟨door9_handle h, door9_tabs h⟩
/-- A world that meets it. -/
noncomputable def doorWorld9 (os : Os) : World := (doorWorld os).layVars Tryd.prog plain9
theorem doorWorld9_os (os : Os) : (doorWorld9 os).os = os := World.layVars_os _ _ _
theorem doorWorld9_shaped (os : Os) (args : Array Value) : ((doorWorld9 os).forCall (fun _ _ => 0) ⟨#[], args, []⟩).Shaped Tryd.prog :=
  World.shaped_of_ZipB (by kernel_rfl) (by kernel_rfl)
theorem doorWorld9_met (os : Os) (args : Array Value) : laidMetH Tryd.prog laid9 ((doorWorld9 os).forCall (fun _ _ => 0) ⟨#[], args, []⟩).memory := by
  refine laidMetH_of_parts ?_ (by kernel_rfl)
  have e1 : (plain9.filter fun x => (plain9.map (·.1)).contains x.1) = plain9 := List.filter_eq_self.2 fun x hx => List.contains_iff_mem.2 (List.mem_map.2 ⟨x, hx, rfl⟩)
  have e2 : (plain9.filter fun x => !(plain9.map (·.1)).contains x.1) = [] := List.filter_eq_nil_iff.2 fun x hx => by rw [List.contains_iff_mem.2 (List.mem_map.2 ⟨x, hx, rfl⟩)]; simp
  have h : laidMet Tryd.prog plain9 (doorWorld9 os) := laidMet_layVars (w0 := doorWorld os) (plain9.map (·.1)) [] (by rw [e1]; rfl) (by rw [e1]; kernel_rfl) (by rw [e1]; kernel_rfl) (by rw [e2]; exact LaidIn.none)
  exact h.of_heap (by simp [World.memory, World.forCall, Input.heap])
end Go.Proofs.YtkllaghfiofnjaaDoor
