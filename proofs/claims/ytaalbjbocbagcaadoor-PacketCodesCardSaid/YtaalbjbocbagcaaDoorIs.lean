/- errors.Is of an error that is nil or a *api.Fault, at an api.Errno; after the guide's worked example on sentinels. -/
import Derived.Test.YtaalbjbocbagcaaDoorFault
import Derived.Lib.IfaceEq
namespace Go.Proofs.YtaalbjbocbagcaaDoor
open Go.RowKit Go.Extern.Stop Go.Stop Go.Extern
theorem unwrap_any (b k : Nat) (w : World) (h : w.cell? ⟨b, 1, none⟩ = some (.int .i64 k)) :
    Calls Tryd.prog 69 #[.pointer (some ⟨b, 0, none⟩)] w fun e w' => e = .returned (.iface 24 (.int .i64 k)) ∧ w = w' := by
  go_enter Tryd.func69, Tryd.ntmps69
  go_wp2
  go_ret
  exact ⟨rfl, rfl⟩
theorem is_typeOf (v : Value) (w : World) : (ReflectliteType.typeOf #[.iface 24 v]).run Tryd.prog w = .ok (.iface 99 (.agg #[.pointer (some ⟨hB, 24, none⟩)])) w := by kernel_rfl
theorem is_comp (w : World) : ((ReflectliteType.method fun t => do Go.Extern.Rtype.noPackHeld "Comparable" t; (fun a => Value.bool a.comparable) <$> typeInfo t) #[.agg #[.pointer (some ⟨hB, 24, none⟩)]]).run Tryd.prog w = .ok (.bool true) w := by kernel_rfl
theorem is_mComp (n : Nat) (v : Value) (w : World) : (Go.method (n + 1) 99 (.agg #[v]) "Comparable").run Tryd.prog w = .ok (75, .agg #[v]) w := by kernel_rfl
theorem is_mUnwrap (n : Nat) (v : Value) (w : World) : (Go.method (n + 1) 73 v "Unwrap").run Tryd.prog w = .ok (69, v) w := by kernel_rfl
theorem is_noIsF (v : Value) (xT : TypeId) (w : World) : (Instr.typeAssert (.iface 73 v) xT 111 true).run Tryd.prog w = .ok (.tuple #[.nilIface, .bool false]) w := run_typeAssert_lacksB Tryd.underlying111 (by kernel_rfl) (by kernel_rfl) v xT w
theorem is_hasF (v : Value) (xT : TypeId) (w : World) : (Instr.typeAssert (.iface 73 v) xT 106 true).run Tryd.prog w = .ok (.tuple #[.iface 73 v, .bool true]) w := run_typeAssert_hasB Tryd.underlying106 (by kernel_rfl) v xT w
theorem is_noIsE (v : Value) (xT : TypeId) (w : World) : (Instr.typeAssert (.iface 24 v) xT 111 true).run Tryd.prog w = .ok (.tuple #[.nilIface, .bool false]) w := run_typeAssert_lacksB Tryd.underlying111 (by kernel_rfl) (by kernel_rfl) v xT w
theorem is_noUnE (v : Value) (xT : TypeId) (w : World) : (Instr.typeAssert (.iface 24 v) xT 106 true).run Tryd.prog w = .ok (.tuple #[.nilIface, .bool false]) w := run_typeAssert_lacksB Tryd.underlying106 (by kernel_rfl) (by kernel_rfl) v xT w
theorem is_noUnsE (v : Value) (xT : TypeId) (w : World) : (Instr.typeAssert (.iface 24 v) xT 108 true).run Tryd.prog w = .ok (.tuple #[.nilIface, .bool false]) w := run_typeAssert_lacksB Tryd.underlying108 (by kernel_rfl) (by kernel_rfl) v xT w
theorem is_nil (n : Int) (w : World) : Calls Tryd.prog 39 #[.nilIface, .iface 24 (.int .i64 n)] w fun e w' => e = .returned (.bool false) ∧ w = w' := by
  have hn := run_eql_iface_nil_left (P := Tryd.prog) w 24 (.int .i64 n) Tryd.underlying59
  go_enter Tryd.func39, Tryd.ntmps39
  go_wp2
  go_ret
  exact ⟨rfl, rfl⟩
set_option maxHeartbeats 1000000 in
set_option maxRecDepth 100000 in
set_option maxHeartbeats 1000000 in
theorem is_inner (b k : Nat) (n : Nat) (w : World) (h : w.cell? ⟨b, 1, none⟩ = some (.int .i64 k)) :
    Calls Tryd.prog 47 #[.iface 73 (.pointer (some ⟨b, 0, none⟩)), .iface 24 (.int .i64 n), .bool true] w fun e w' => e = .returned (.bool (decide (k = n))) ∧ w = w' := by
  have k4 := is_mUnwrap
  have k5 := is_noIsF
  have k6 := is_hasF
  have k7 := is_noIsE
  have k8 := is_noUnE
  have k9 := is_noUnsE
  have hty := run_eql_iface_types (P := Tryd.prog) 73 24 (.pointer (some ⟨b, 0, none⟩)) (.int .i64 n) Tryd.underlying59 (by decide) w
  have heq := Lib.run_eql_iface_int (P := Tryd.prog) w (t := 59) (tx := 24) (k := .i64) (q := .i64) (k : Int) (n : Int) Tryd.underlying59 (by kernel_rfl) Tryd.underlying24
  have HU := Lib.hid (unwrap_any b k w h)
  clear h
  by_cases hkn : k = n
  · rw [show ((k : Int) == (n : Int)) = true by rw [beq_iff_eq]; omega] at heq
    have HD := Lib.hid (decide_eq_true hkn)
    clear hkn
    go_enter Tryd.func47, Tryd.ntmps47
    go_wp2_with fail
    refine wp_loop_rounds 2 ?_
    rw [rounds_succ]
    go_wp2_with fail
    refine HU.out.mono ?_
    rintro e w' ⟨rfl, rfl⟩
    go_wp2_with fail
    rw [rounds_succ]
    go_wp2_with fail
    go_ret
    exact ⟨by rw [HD.out]; rfl, rfl⟩
  · rw [show ((k : Int) == (n : Int)) = false by rw [beq_eq_false_iff_ne]; omega] at heq
    have HD := Lib.hid (decide_eq_false hkn)
    clear hkn
    go_enter Tryd.func47, Tryd.ntmps47
    go_wp2_with fail
    refine wp_loop_rounds 2 ?_
    rw [rounds_succ]
    go_wp2_with fail
    refine HU.out.mono ?_
    rintro e w' ⟨rfl, rfl⟩
    go_wp2_with fail
    rw [rounds_succ]
    go_wp2_with fail
    go_ret
    exact ⟨by rw [HD.out]; rfl, rfl⟩
set_option maxRecDepth 100000 in
set_option maxHeartbeats 1000000 in
theorem is_fault (b k : Nat) (n : Nat) (w : World) (h : w.cell? ⟨b, 1, none⟩ = some (.int .i64 k)) :
    Calls Tryd.prog 39 #[.iface 73 (.pointer (some ⟨b, 0, none⟩)), .iface 24 (.int .i64 n)] w fun e w' => e = .returned (.bool (decide (k = n))) ∧ w = w' := by
  have h1 := @run_callFunc_extern Tryd.prog 46 _ ReflectliteType.typeOf Tryd.func46 (by kernel_rfl) (by kernel_rfl) (by kernel_rfl) (by kernel_rfl)
  have h2 := @run_callFunc_extern Tryd.prog 75 _ (ReflectliteType.method fun t => do Go.Extern.Rtype.noPackHeld "Comparable" t; pure (.bool (← typeInfo t).comparable)) Tryd.func75 (by kernel_rfl) (by kernel_rfl) (by kernel_rfl) (by kernel_rfl)
  have k1 := is_typeOf
  have k2 := is_comp
  have k3 := is_mComp
  have HI := Lib.hid (is_inner b k n w h)
  obtain ⟨r, hr⟩ : ∃ r, r = decide (k = n) := ⟨_, rfl⟩
  rw [← hr] at HI ⊢
  clear h hr
  go_enter Tryd.func39, Tryd.ntmps39
  go_wp2_with fail
  refine HI.out.mono ?_
  rintro e w' ⟨rfl, rfl⟩
  go_wp2
  go_ret
  exact ⟨rfl, rfl⟩
/-- errors.Is of what an error tells. -/
theorem is_any (v : Value) (k n : Nat) (w : World) (h : ErrIs w v k) (hn : n ≠ 0) : Calls Tryd.prog 39 #[v, .iface 24 (.int .i64 n)] w fun e w' => e = .returned (.bool (decide (k = n))) ∧ w = w' := by
  rcases h with ⟨rfl, rfl⟩ | ⟨h1, b, rfl, h3⟩
  · rw [decide_eq_false (fun h => hn h.symm)]
    exact is_nil n w
  · exact is_fault b k n w h3
end Go.Proofs.YtaalbjbocbagcaaDoor
