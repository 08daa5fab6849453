/- des: the S-boxes. -/
import Derived.Test.YtmelphlgpnmopaaEncB
namespace Go.Proofs.Ytmelphlgpnmopaa
open Go.RowKit
/-- The four rows of S-box i, as the program's array. -/
def rowsV (i : Nat) : Value := .agg #[.int .u64 ((Pure.rowNum i 0 : Nat) : Int), .int .u64 ((Pure.rowNum i 1 : Nat) : Int), .int .u64 ((Pure.rowNum i 2 : Nat) : Int), .int .u64 ((Pure.rowNum i 3 : Nat) : Int)]
theorem rows_num : (List.range 8).map (fun i => (List.range 4).map (Pure.rowNum i)) = [[16488012179080763655, 1113764397941757240, 4749281291471895120, 18195185809194131565], [17405967483452375130, 4415764654582294965, 1043608957710930735, 15609827339204822505], [11573797996806517800, 15494973623493381105, 15441030236710132455, 1932160270023767340], [9071101333259795535, 15615509342846720745, 12002316748721115780, 4541495225823774510], [3188964935493210345, 16945998462220646790, 4763591765972574990, 13314644003829425235], [13956534745840281435, 12628793286134205240, 11454106047154363830, 4840408603680006285], [5417531891170892385, 15039569860459507590, 1494565600232998290, 7770983867020730940], [15169372253730001095, 2294763732068929170, 8881552434739934040, 2443003296559936875]] := by decide +kernel
theorem words4_info : (Try.prog.info? 63).map (·.size) = some 4 := by kernel_rfl
theorem boxRows_any (k : Nat) (hk : k < 8) (w : World) :
    Calls Try.prog 38 #[.int .i64 ((k + 1 : Nat) : Int)] w fun e w' => e = .returned (rowsV k) ∧ Keeps nobody w w' := by
  rcases (show k = 0 ∨ k = 1 ∨ k = 2 ∨ k = 3 ∨ k = 4 ∨ k = 5 ∨ k = 6 ∨ k = 7 by omega) with rfl | rfl | rfl | rfl | rfl | rfl | rfl | rfl
  · have hb := Blk.new w 63 #[.int .u64 16488012179080763655, .int .u64 1113764397941757240, .int .u64 4749281291471895120, .int .u64 18195185809194131565]
    have HI := Lib.hid words4_info
    have HB := Lib.hid hb
    clear hb
    go_enter Try.func38, Try.ntmps38
    go_wp2
    refine bodyPost_ret (results_cell_row rfl _ _ w.heap.size 63 _ (0, 0) _ rfl HB.out Try.underlying63 rfl HI.out) rfl ?_
    exact ⟨by kernel_rfl, (Keeps.refl _ w).alloc _⟩
  · have hb := Blk.new w 63 #[.int .u64 17405967483452375130, .int .u64 4415764654582294965, .int .u64 1043608957710930735, .int .u64 15609827339204822505]
    have HI := Lib.hid words4_info
    have HB := Lib.hid hb
    clear hb
    go_enter Try.func38, Try.ntmps38
    go_wp2
    refine bodyPost_ret (results_cell_row rfl _ _ w.heap.size 63 _ (0, 0) _ rfl HB.out Try.underlying63 rfl HI.out) rfl ?_
    exact ⟨by kernel_rfl, (Keeps.refl _ w).alloc _⟩
  · have hb := Blk.new w 63 #[.int .u64 11573797996806517800, .int .u64 15494973623493381105, .int .u64 15441030236710132455, .int .u64 1932160270023767340]
    have HI := Lib.hid words4_info
    have HB := Lib.hid hb
    clear hb
    go_enter Try.func38, Try.ntmps38
    go_wp2
    refine bodyPost_ret (results_cell_row rfl _ _ w.heap.size 63 _ (0, 0) _ rfl HB.out Try.underlying63 rfl HI.out) rfl ?_
    exact ⟨by kernel_rfl, (Keeps.refl _ w).alloc _⟩
  · have hb := Blk.new w 63 #[.int .u64 9071101333259795535, .int .u64 15615509342846720745, .int .u64 12002316748721115780, .int .u64 4541495225823774510]
    have HI := Lib.hid words4_info
    have HB := Lib.hid hb
    clear hb
    go_enter Try.func38, Try.ntmps38
    go_wp2
    refine bodyPost_ret (results_cell_row rfl _ _ w.heap.size 63 _ (0, 0) _ rfl HB.out Try.underlying63 rfl HI.out) rfl ?_
    exact ⟨by kernel_rfl, (Keeps.refl _ w).alloc _⟩
  · have hb := Blk.new w 63 #[.int .u64 3188964935493210345, .int .u64 16945998462220646790, .int .u64 4763591765972574990, .int .u64 13314644003829425235]
    have HI := Lib.hid words4_info
    have HB := Lib.hid hb
    clear hb
    go_enter Try.func38, Try.ntmps38
    go_wp2
    refine bodyPost_ret (results_cell_row rfl _ _ w.heap.size 63 _ (0, 0) _ rfl HB.out Try.underlying63 rfl HI.out) rfl ?_
    exact ⟨by kernel_rfl, (Keeps.refl _ w).alloc _⟩
  · have hb := Blk.new w 63 #[.int .u64 13956534745840281435, .int .u64 12628793286134205240, .int .u64 11454106047154363830, .int .u64 4840408603680006285]
    have HI := Lib.hid words4_info
    have HB := Lib.hid hb
    clear hb
    go_enter Try.func38, Try.ntmps38
    go_wp2
    refine bodyPost_ret (results_cell_row rfl _ _ w.heap.size 63 _ (0, 0) _ rfl HB.out Try.underlying63 rfl HI.out) rfl ?_
    exact ⟨by kernel_rfl, (Keeps.refl _ w).alloc _⟩
  · have hb := Blk.new w 63 #[.int .u64 5417531891170892385, .int .u64 15039569860459507590, .int .u64 1494565600232998290, .int .u64 7770983867020730940]
    have HI := Lib.hid words4_info
    have HB := Lib.hid hb
    clear hb
    go_enter Try.func38, Try.ntmps38
    go_wp2
    refine bodyPost_ret (results_cell_row rfl _ _ w.heap.size 63 _ (0, 0) _ rfl HB.out Try.underlying63 rfl HI.out) rfl ?_
    exact ⟨by kernel_rfl, (Keeps.refl _ w).alloc _⟩
  · have hb := Blk.new w 63 #[.int .u64 15169372253730001095, .int .u64 2294763732068929170, .int .u64 8881552434739934040, .int .u64 2443003296559936875]
    have HI := Lib.hid words4_info
    have HB := Lib.hid hb
    clear hb
    go_enter Try.func38, Try.ntmps38
    go_wp2
    refine bodyPost_ret (results_cell_row rfl _ _ w.heap.size 63 _ (0, 0) _ rfl HB.out Try.underlying63 rfl HI.out) rfl ?_
    exact ⟨by kernel_rfl, (Keeps.refl _ w).alloc _⟩
end Go.Proofs.Ytmelphlgpnmopaa
