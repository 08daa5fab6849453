/- errors.Is of an error that is nil or a *nego.drop, at package nego's variable errDropped; after the guide's worked example on sentinels. -/
import Derived.Test.YtjomcffhbaplcaaGreatDoorQ39
import Derived.Test.YtjomcffhbaplcaaGreatDoorQ32
import Derived.Test.YtjomcffhbaplcaaGreatDoorQ2
import Derived.Lay
import Derived.LaidMore
import Derived.Stop.LaidErr
namespace Go.Proofs.YtjomcffhbaplcaaGreatDoor
open Go.RowKit Go.Extern.Stop Go.Stop Go.Extern
/-- The variable errDropped holds an error of errors.New's. -/
def SentAt (w : World) (a : Addr) : Prop := w.cell? ⟨0, 0, none⟩ = some (.iface 187 (.pointer (some a)))
def Sent (w : World) : Prop := ∃ a, SentAt w a
theorem SentAt.lt {w : World} {a : Addr} (h : SentAt w a) : 0 < w.heap.size := cell_lt h
theorem SentAt.keeps {w w' : World} {S : Nat → Prop} {a : Addr} (h : SentAt w a) (k : Keeps S w w') (hS : ¬ S 0) : SentAt w' a :=
  (World.cell?_of_block (w := w) (a := ⟨0, 0, none⟩) (k.block _ h.lt hS)).trans h
theorem Sent.lt {w : World} (h : Sent w) : 0 < w.heap.size := by obtain ⟨a, h⟩ := h; exact h.lt
theorem Sent.keeps {w w' : World} {S : Nat → Prop} (h : Sent w) (k : Keeps S w w') (hS : ¬ S 0) : Sent w' := by obtain ⟨a, h⟩ := h; exact ⟨a, h.keeps k hS⟩
theorem dr_comp : ∃ i, Tryz.prog.info? 187 = some i ∧ i.comparable = true := by
  have h : ((Tryz.prog.info? 187).map (·.comparable)) = some true := by kernel_rfl
  cases hi : Tryz.prog.info? 187 with
  | none => rw [hi] at h; cases h
  | some i => rw [hi] at h; exact ⟨i, rfl, by simpa using h⟩
theorem dr_elem : ∃ j, Tryz.prog.info? 208 = some j := by
  have h : ((Tryz.prog.info? 208).map (·.comparable)).isSome = true := by kernel_rfl
  cases hi : Tryz.prog.info? 208 with
  | none => rw [hi] at h; cases h
  | some i => exact ⟨i, rfl⟩
theorem dr_same (a : Addr) (w : World) : (binOp .eql 84 (.iface 187 (.pointer (some a))) (.iface 187 (.pointer (some a)))).run Tryz.prog w = .ok (.bool true) w := by
  obtain ⟨i, h1, h2⟩ := dr_comp
  obtain ⟨j, h3⟩ := dr_elem
  exact run_eql_iface_ptr_same (w := w) a Tryz.underlying84 Tryz.underlying187 h1 h2 h3
theorem dr_unlike (b : Nat) (a : Addr) (w : World) : (binOp .eql 84 (.iface 106 (.pointer (some ⟨b, 0, none⟩))) (.iface 187 (.pointer (some a)))).run Tryz.prog w = .ok (.bool false) w :=
  run_eql_iface_types (P := Tryz.prog) 106 187 (.pointer (some ⟨b, 0, none⟩)) (.pointer (some a)) Tryz.underlying84 (by decide) w
theorem dr_typeOf (v : Value) (w : World) : (ReflectliteType.typeOf #[.iface 187 v]).run Tryz.prog w = .ok (.iface 131 (.agg #[.pointer (some ⟨hB, 187, none⟩)])) w := by kernel_rfl
theorem dr_cmp (w : World) : ((ReflectliteType.method fun t => do Go.Extern.Rtype.noPackHeld "Comparable" t; (fun a => Value.bool a.comparable) <$> typeInfo t) #[.agg #[.pointer (some ⟨hB, 187, none⟩)]]).run Tryz.prog w = .ok (.bool true) w := by kernel_rfl
theorem dr_mComp (n : Nat) (v : Value) (w : World) : (Go.method (n + 1) 131 (.agg #[v]) "Comparable").run Tryz.prog w = .ok (145, .agg #[v]) w := by kernel_rfl
theorem dr_mUnwrap (n : Nat) (v : Value) (w : World) : (Go.method (n + 1) 106 v "Unwrap").run Tryz.prog w = .ok (142, v) w := by kernel_rfl
theorem dr_noIs (v : Value) (xT : TypeId) (w : World) : (Instr.typeAssert (.iface 106 v) xT 133 true).run Tryz.prog w = .ok (.tuple #[.nilIface, .bool false]) w := run_typeAssert_lacksB Tryz.underlying133 (by kernel_rfl) (by kernel_rfl) v xT w
theorem dr_noUn (v : Value) (xT : TypeId) (w : World) : (Instr.typeAssert (.iface 106 v) xT 136 true).run Tryz.prog w = .ok (.tuple #[.nilIface, .bool false]) w := run_typeAssert_lacksB Tryz.underlying136 (by kernel_rfl) (by kernel_rfl) v xT w
theorem dr_hasUns (v : Value) (xT : TypeId) (w : World) : (Instr.typeAssert (.iface 106 v) xT 138 true).run Tryz.prog w = .ok (.tuple #[.iface 106 v, .bool true]) w := run_typeAssert_hasB Tryz.underlying138 (by kernel_rfl) v xT w
/-- An error is itself. -/
theorem dr_is_same (a : Addr) (w : World) : Calls Tryz.prog 65 #[.iface 187 (.pointer (some a)), .iface 187 (.pointer (some a)), .bool true] w fun e w' => e = .returned (.bool true) ∧ w = w' := by
  have hs := dr_same a w
  go_enter Tryz.func65, Tryz.ntmps65
  go_wp2_with fail
  refine wp_loop_rounds 1 ?_
  rw [rounds_succ]
  go_wp2_with fail
  go_ret
  exact ⟨rfl, rfl⟩
/-- What a drop tells: errDropped and the reason. -/
theorem drop_unwraps (b : Nat) (k : Int) (a : Addr) (w : World) (ha : SentAt w a) (hb : w.cell? ⟨b, 0, none⟩ = some (.int .i64 k)) :
    Calls Tryz.prog 142 #[.pointer (some ⟨b, 0, none⟩)] w fun e w' => ∃ r : Nat, e = .returned (.slice (some ⟨r, 0, none⟩) 2 2) ∧ w'.cell? ⟨r, 0, none⟩ = some (.iface 187 (.pointer (some a))) ∧ Keeps nobody w w' := by
  have ha' : w.cell? ⟨0, 0, none⟩ = some (.iface 187 (.pointer (some a))) := ha
  have HA := Lib.hid ha'
  have HB := Lib.hid hb
  have HKZ0 := Lib.hid (Keeps.refl nobody w)
  clear ha ha' hb
  go_enter Tryz.func142, Tryz.ntmps142
  go_wp2_with fail
  refine wp_region_Z (fun w' => w'.cell? ⟨0, 0, none⟩ = some (.iface 187 (.pointer (some a))) ∧ w'.cell? ⟨b, 0, none⟩ = some (.int .i64 k)) 7 8 rfl (by kernel_rfl) ⟨HA.out, HB.out⟩ (fun hHeld => ?_)
  have HSW := hHeld
  clear hHeld
  have HK0d := Lib.hid (HKZ0.out.drew)
  refine wpAnyZ_take (i := 0) rfl (by kernel_rfl) (fun _ _ _ h => h) (Or.inl ⟨by rfl, by intro w hSw; obtain ⟨s0, s1⟩ := hSw; go_simp; try with_reducible rfl⟩) HSW.out ?_
  simp only [Act.put, List.setIfInBounds_toArray, List.getElem_toArray, List.getElem_cons_zero, List.set_cons_succ, List.set_cons_zero]
  refine wpAnyZ_take (i := 1) rfl (by kernel_rfl) (fun _ _ _ h => h) (Or.inl ⟨by rfl, by intro w hSw; obtain ⟨s0, s1⟩ := hSw; go_simp; try with_reducible rfl⟩) HSW.out ?_
  simp only [Act.put, List.setIfInBounds_toArray, List.getElem_toArray, List.getElem_cons_succ, List.getElem_cons_zero, List.set_cons_succ, List.set_cons_zero]
  refine wpAnyZ_take (i := 2) rfl (by kernel_rfl) (fun _ _ _ h => h) (Or.inl ⟨by rfl, by intro w hSw; obtain ⟨s0, s1⟩ := hSw; go_simp; try with_reducible rfl⟩) HSW.out ?_
  simp only [Act.put, List.setIfInBounds_toArray, List.getElem_toArray, List.getElem_cons_succ, List.getElem_cons_zero, List.set_cons_succ, List.set_cons_zero]
  refine wpAnyZ_take (i := 3) rfl (by kernel_rfl) (fun _ _ _ h => h) (Or.inl ⟨by rfl, by intro w hSw; obtain ⟨s0, s1⟩ := hSw; go_simp; try with_reducible rfl⟩) HSW.out ?_
  simp only [Act.put, List.setIfInBounds_toArray, List.getElem_toArray, List.getElem_cons_succ, List.getElem_cons_zero, List.set_cons_succ, List.set_cons_zero]
  refine wpAnyZ_take (i := 4) rfl (by kernel_rfl) (fun _ _ _ h => h) (Or.inl ⟨by rfl, by intro w hSw; obtain ⟨s0, s1⟩ := hSw; go_simp; try with_reducible rfl⟩) HSW.out ?_
  simp only [Act.put, List.setIfInBounds_toArray, List.getElem_toArray, List.getElem_cons_succ, List.getElem_cons_zero, List.set_cons_succ, List.set_cons_zero]
  refine wpAnyZ_take (i := 5) rfl (by kernel_rfl) (fun _ _ _ h => h) (Or.inl ⟨by rfl, by intro w hSw; obtain ⟨s0, s1⟩ := hSw; go_simp; try with_reducible rfl⟩) HSW.out ?_
  simp only [Act.put, List.setIfInBounds_toArray, List.getElem_toArray, List.getElem_cons_succ, List.getElem_cons_zero, List.set_cons_succ, List.set_cons_zero]
  refine wpAnyZ_one (i := 6) (by kernel_rfl) rfl (fun K hK => ?_)
  try rw [if_pos (by rfl)]
  go_simp
  have HS2 := Lib.hid (And.intro (opt_later (o := .cells #[.iface 187 (.pointer (some a)), .iface 30 (.int .i64 k)] 84) HSW.out.1) (opt_later (o := .cells #[.iface 187 (.pointer (some a)), .iface 30 (.int .i64 k)] 84) HSW.out.2))
  refine hK.out _ _ (fun _ => HS2.out) ?_
  clear hK K
  try simp only [Act.put, List.setIfInBounds_toArray, Nat.reduceAdd, List.getElem_toArray, List.getElem_cons_succ, List.getElem_cons_zero, List.set_cons_succ, List.set_cons_zero]
  refine wpAnyZ_one (i := 7) (by kernel_rfl) rfl (fun K hK => ?_)
  go_simp
  refine hK.out _ _ (fun h => absurd rfl h) ?_
  clear hK K
  refine wpAnyZ_done (by kernel_rfl) ?_ _
  go_wp2_with fail
  go_ret
  exact ⟨_, rfl, by rw [(Blk.new w 84 #[.iface 187 (.pointer (some a)), .iface 30 (.int .i64 k)]).drew.cell]; rfl, (HKZ0.out.alloc _).drew⟩
set_option maxRecDepth 100000 in
set_option maxHeartbeats 1000000 in
theorem drop_inner (b : Nat) (k : Int) (a : Addr) (w : World) (ha : SentAt w a) (hb : w.cell? ⟨b, 0, none⟩ = some (.int .i64 k)) :
    Calls Tryz.prog 65 #[.iface 106 (.pointer (some ⟨b, 0, none⟩)), .iface 187 (.pointer (some a)), .bool true] w fun e w' => e = .returned (.bool true) ∧ Keeps nobody w w' := by
  have k4 := dr_mUnwrap
  have k5 := dr_noIs
  have k6 := dr_noUn
  have k7 := dr_hasUns
  have hne := dr_unlike b a w
  have HU := Lib.hid (drop_unwraps b k a w ha hb)
  have HS := Lib.hid (dr_is_same a)
  clear ha hb
  go_enter Tryz.func65, Tryz.ntmps65
  go_wp2_with fail
  refine wp_loop_rounds 1 ?_
  rw [rounds_succ]
  go_wp2_with fail
  refine HU.out.mono ?_
  rintro e w1 ⟨r, rfl, hr, hk1⟩
  have HK1 := Lib.hid hk1
  clear hk1 HU hne
  go_wp2_with fail
  refine wp_loop_rounds 1 ?_
  rw [rounds_succ]
  go_wp2_with fail
  refine (HS.out w1).mono ?_
  rintro e w2 ⟨rfl, rfl⟩
  go_wp2_with fail
  go_ret
  exact ⟨rfl, HK1.out⟩
set_option maxRecDepth 100000 in
set_option maxHeartbeats 1000000 in
/-- A drop is errDropped. -/
theorem drop_is (b : Nat) (k : Int) (a : Addr) (w : World) (ha : SentAt w a) (hb : w.cell? ⟨b, 0, none⟩ = some (.int .i64 k)) :
    Calls Tryz.prog 41 #[.iface 106 (.pointer (some ⟨b, 0, none⟩)), .iface 187 (.pointer (some a))] w fun e w' => e = .returned (.bool true) ∧ Keeps nobody w w' := by
  have h1 := @run_callFunc_extern Tryz.prog 64 _ ReflectliteType.typeOf Tryz.func64 (by kernel_rfl) (by kernel_rfl) (by kernel_rfl) (by kernel_rfl)
  have h2 := @run_callFunc_extern Tryz.prog 145 _ (ReflectliteType.method fun t => do Go.Extern.Rtype.noPackHeld "Comparable" t; pure (.bool (← typeInfo t).comparable)) Tryz.func145 (by kernel_rfl) (by kernel_rfl) (by kernel_rfl) (by kernel_rfl)
  have k1 := dr_typeOf
  have k2 := dr_cmp
  have k3 := dr_mComp
  have HI := Lib.hid (drop_inner b k a w ha hb)
  clear ha hb
  go_enter Tryz.func41, Tryz.ntmps41
  go_wp2_with fail
  refine HI.out.mono ?_
  rintro e w' ⟨rfl, hk⟩
  have HK := Lib.hid hk
  clear hk
  go_wp2
  go_ret
  exact ⟨rfl, HK.out⟩
/-- nil is not. -/
theorem none_is (a : Addr) (w : World) : Calls Tryz.prog 41 #[.nilIface, .iface 187 (.pointer (some a))] w fun e w' => e = .returned (.bool false) ∧ w = w' := by
  have hn := run_eql_iface_nil_left (P := Tryz.prog) w 187 (.pointer (some a)) Tryz.underlying84
  go_enter Tryz.func41, Tryz.ntmps41
  go_wp2
  go_ret
  exact ⟨rfl, rfl⟩
end Go.Proofs.YtjomcffhbaplcaaGreatDoor
/- What the frames of nego's laws share: their rows list package errors' variable errorType and package nego's errDropped. -/
namespace Go.Proofs.YtjomcffhbaplcaaGreatDoor
open Go.ChangeShapes Go.WideShapes Go.RowKit Go.Deep
/-- What the rows list. -/
abbrev laid13 : List (String × DataW Unit) := Rows.negoMeetsRow.laid
/-- .. but for the type's handle. -/
abbrev plain13 : List (String × DataW Unit) := laid13.filter fun x => x.2.handleName?.isNone
theorem door13_handle {W : World} (h : laidMetH Tryz.prog laid13 W) : Handle W := by
  have h' : laidMet Tryz.prog plain13 W ∧ handlesMet Tryz.prog (laid13.filter fun x => x.2.handleName?.isSome) W := h
  exact door_handle (show laidMet Tryz.prog [] W ∧ handlesMet Tryz.prog doorLaid W from ⟨laidMet_nil _ _, h'.2⟩)
theorem star13 : "*" ++ "errors.errorString" = "*errors.errorString" := by decide
theorem row13 (u : TypeId) (h : Tryz.prog.typeName? 3 u = some "*errors.errorString") : u = 187 :=
  typeName_ptr_named (nm := "errors.errorString") (by rw [star13]; kernel_rfl) (by kernel_rfl) (by decide) u (by rw [star13]; exact h)
theorem sent13_type : (Tryz.prog.globals[0]?).map (·.type) = some 84 := by kernel_rfl
theorem sent13_cells : Tryz.prog.cellsOf 208 = 1 := by kernel_rfl
theorem sent13_cells2 : Tryz.prog.cellsOf 9 = 1 := by kernel_rfl
theorem door13_sent {W : World} (h : laidMetH Tryz.prog laid13 W) : Sent W := by
  have h' : laidMet Tryz.prog plain13 W ∧ handlesMet Tryz.prog (laid13.filter fun x => x.2.handleName?.isSome) W := h
  have hl := h'.1
  have hg : Tryz.prog.globalNamed (plain13.headD default).1 = some 0 := by kernel_rfl
  obtain ⟨a, s, hv, _⟩ := laid_sentinel (n := (plain13.headD default).1) (r := []) (text := [110, 101, 103, 111, 58, 32, 100, 114, 111, 112, 112, 101, 100]) hl hg sent13_type Tryz.underlying84 row13 Tryz.underlying187 Tryz.underlying208 rfl rfl Tryz.underlying9 sent13_cells sent13_cells2
  have h0 : W.cell? ⟨0, 0, none⟩ = some (.iface 187 (.pointer (some a))) := by simpa using World.var?_cell hg hv 0
  exact ⟨a, h0⟩
/-- What the walks ask of the world. -/
structure Env13 (w : World) : Prop where
  handle : Handle w
  sent : Sent w
theorem Env13.keeps {w w' : World} {S : Nat → Prop} (h : Env13 w) (k : Keeps S w w') (hS : ∀ b, b < 2 → ¬ S b) : Env13 w' := ⟨h.handle.keeps k (hS _ (by decide)), h.sent.keeps k (hS _ (by decide))⟩
theorem Env13.below {w w' : World} (h : Env13 w) (k : Below w.heap.size w w') : Env13 w' :=
  ⟨h.handle.below k, h.sent.keeps (Keeps.new k) (fun h => h)⟩
theorem door13_env {W : World} (h : laidMetH Tryz.prog laid13 W) : Env13 W := ⟨door13_handle h, door13_sent h⟩
/-- A world that meets it. -/
noncomputable def doorWorld13 (os : Os) : World := (doorWorld os).layVars Tryz.prog plain13
theorem doorWorld13_os (os : Os) : (doorWorld13 os).os = os := World.layVars_os _ _ _
theorem doorWorld13_shaped (os : Os) (args : Array Value) : ((doorWorld13 os).forCall (fun _ _ => 0) ⟨#[], args, []⟩).Shaped Tryz.prog :=
  World.shaped_of_ZipB (by kernel_rfl) (by kernel_rfl)
theorem doorWorld13_met (os : Os) (args : Array Value) : laidMetH Tryz.prog laid13 ((doorWorld13 os).forCall (fun _ _ => 0) ⟨#[], args, []⟩).memory := by
  refine laidMetH_of_parts ?_ (by kernel_rfl)
  have e1 : (plain13.filter fun x => (plain13.map (·.1)).contains x.1) = plain13 := List.filter_eq_self.2 fun x hx => List.contains_iff_mem.2 (List.mem_map.2 ⟨x, hx, rfl⟩)
  have e2 : (plain13.filter fun x => !(plain13.map (·.1)).contains x.1) = [] := List.filter_eq_nil_iff.2 fun x hx => by rw [List.contains_iff_mem.2 (List.mem_map.2 ⟨x, hx, rfl⟩)]; simp
  have h : laidMet Tryz.prog plain13 (doorWorld13 os) := laidMet_layVars (w0 := doorWorld os) (plain13.map (·.1)) [] (by rw [e1]; rfl) (by rw [e1]; kernel_rfl) (by rw [e1]; kernel_rfl) (by rw [e2]; exact LaidIn.none)
  exact h.of_heap (by simp [World.memory, World.forCall, Input.heap])
end Go.Proofs.YtjomcffhbaplcaaGreatDoor
