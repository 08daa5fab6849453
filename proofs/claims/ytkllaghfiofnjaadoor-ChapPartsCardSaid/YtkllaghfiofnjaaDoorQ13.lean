/- des: the S-boxes. -/
import Derived.Test.YtkllaghfiofnjaaDoorQ12
import Derived.Test.YtkllaghfiofnjaaDoorQ2
import Derived.Test.YtkllaghfiofnjaaDoorQ4
import Derived.Laws.Rows
import Derived.Laws.EntriesVeiled
namespace Go.Proofs.YtkllaghfiofnjaaDoor
open Go.RowKit
/-- The four rows of S-box i, as the program's array. -/
def rowsV (i : Nat) : Value := .agg #[.int .u64 ((Pure.rowNum i 0 : Nat) : Int), .int .u64 ((Pure.rowNum i 1 : Nat) : Int), .int .u64 ((Pure.rowNum i 2 : Nat) : Int), .int .u64 ((Pure.rowNum i 3 : Nat) : Int)]
theorem rows_num : (List.range 8).map (fun i => (List.range 4).map (Pure.rowNum i)) = [[16488012179080763655, 1113764397941757240, 4749281291471895120, 18195185809194131565], [17405967483452375130, 4415764654582294965, 1043608957710930735, 15609827339204822505], [11573797996806517800, 15494973623493381105, 15441030236710132455, 1932160270023767340], [9071101333259795535, 15615509342846720745, 12002316748721115780, 4541495225823774510], [3188964935493210345, 16945998462220646790, 4763591765972574990, 13314644003829425235], [13956534745840281435, 12628793286134205240, 11454106047154363830, 4840408603680006285], [5417531891170892385, 15039569860459507590, 1494565600232998290, 7770983867020730940], [15169372253730001095, 2294763732068929170, 8881552434739934040, 2443003296559936875]] := by decide +kernel
theorem words4_info : (Tryd.prog.info? 178).map (·.size) = some 4 := by kernel_rfl
theorem boxRows_any (k : Nat) (hk : k < 8) (w : World) :
    Calls Tryd.prog 119 #[.int .i64 ((k + 1 : Nat) : Int)] w fun e w' => e = .returned (rowsV k) ∧ Keeps nobody w w' := by
  rcases (show k = 0 ∨ k = 1 ∨ k = 2 ∨ k = 3 ∨ k = 4 ∨ k = 5 ∨ k = 6 ∨ k = 7 by omega) with rfl | rfl | rfl | rfl | rfl | rfl | rfl | rfl
  · have hb := Blk.new w 178 #[.int .u64 16488012179080763655, .int .u64 1113764397941757240, .int .u64 4749281291471895120, .int .u64 18195185809194131565]
    have HI := Lib.hid words4_info
    have HB := Lib.hid hb
    clear hb
    go_enter Tryd.func119, Tryd.ntmps119
    go_wp2
    refine bodyPost_ret (results_cell_row rfl _ _ w.heap.size 178 _ (0, 0) _ rfl HB.out Tryd.underlying178 rfl HI.out) rfl ?_
    exact ⟨by kernel_rfl, (Keeps.refl _ w).alloc _⟩
  · have hb := Blk.new w 178 #[.int .u64 17405967483452375130, .int .u64 4415764654582294965, .int .u64 1043608957710930735, .int .u64 15609827339204822505]
    have HI := Lib.hid words4_info
    have HB := Lib.hid hb
    clear hb
    go_enter Tryd.func119, Tryd.ntmps119
    go_wp2
    refine bodyPost_ret (results_cell_row rfl _ _ w.heap.size 178 _ (0, 0) _ rfl HB.out Tryd.underlying178 rfl HI.out) rfl ?_
    exact ⟨by kernel_rfl, (Keeps.refl _ w).alloc _⟩
  · have hb := Blk.new w 178 #[.int .u64 11573797996806517800, .int .u64 15494973623493381105, .int .u64 15441030236710132455, .int .u64 1932160270023767340]
    have HI := Lib.hid words4_info
    have HB := Lib.hid hb
    clear hb
    go_enter Tryd.func119, Tryd.ntmps119
    go_wp2
    refine bodyPost_ret (results_cell_row rfl _ _ w.heap.size 178 _ (0, 0) _ rfl HB.out Tryd.underlying178 rfl HI.out) rfl ?_
    exact ⟨by kernel_rfl, (Keeps.refl _ w).alloc _⟩
  · have hb := Blk.new w 178 #[.int .u64 9071101333259795535, .int .u64 15615509342846720745, .int .u64 12002316748721115780, .int .u64 4541495225823774510]
    have HI := Lib.hid words4_info
    have HB := Lib.hid hb
    clear hb
    go_enter Tryd.func119, Tryd.ntmps119
    go_wp2
    refine bodyPost_ret (results_cell_row rfl _ _ w.heap.size 178 _ (0, 0) _ rfl HB.out Tryd.underlying178 rfl HI.out) rfl ?_
    exact ⟨by kernel_rfl, (Keeps.refl _ w).alloc _⟩
  · have hb := Blk.new w 178 #[.int .u64 3188964935493210345, .int .u64 16945998462220646790, .int .u64 4763591765972574990, .int .u64 13314644003829425235]
    have HI := Lib.hid words4_info
    have HB := Lib.hid hb
    clear hb
    go_enter Tryd.func119, Tryd.ntmps119
    go_wp2
    refine bodyPost_ret (results_cell_row rfl _ _ w.heap.size 178 _ (0, 0) _ rfl HB.out Tryd.underlying178 rfl HI.out) rfl ?_
    exact ⟨by kernel_rfl, (Keeps.refl _ w).alloc _⟩
  · have hb := Blk.new w 178 #[.int .u64 13956534745840281435, .int .u64 12628793286134205240, .int .u64 11454106047154363830, .int .u64 4840408603680006285]
    have HI := Lib.hid words4_info
    have HB := Lib.hid hb
    clear hb
    go_enter Tryd.func119, Tryd.ntmps119
    go_wp2
    refine bodyPost_ret (results_cell_row rfl _ _ w.heap.size 178 _ (0, 0) _ rfl HB.out Tryd.underlying178 rfl HI.out) rfl ?_
    exact ⟨by kernel_rfl, (Keeps.refl _ w).alloc _⟩
  · have hb := Blk.new w 178 #[.int .u64 5417531891170892385, .int .u64 15039569860459507590, .int .u64 1494565600232998290, .int .u64 7770983867020730940]
    have HI := Lib.hid words4_info
    have HB := Lib.hid hb
    clear hb
    go_enter Tryd.func119, Tryd.ntmps119
    go_wp2
    refine bodyPost_ret (results_cell_row rfl _ _ w.heap.size 178 _ (0, 0) _ rfl HB.out Tryd.underlying178 rfl HI.out) rfl ?_
    exact ⟨by kernel_rfl, (Keeps.refl _ w).alloc _⟩
  · have hb := Blk.new w 178 #[.int .u64 15169372253730001095, .int .u64 2294763732068929170, .int .u64 8881552434739934040, .int .u64 2443003296559936875]
    have HI := Lib.hid words4_info
    have HB := Lib.hid hb
    clear hb
    go_enter Tryd.func119, Tryd.ntmps119
    go_wp2
    refine bodyPost_ret (results_cell_row rfl _ _ w.heap.size 178 _ (0, 0) _ rfl HB.out Tryd.underlying178 rfl HI.out) rfl ?_
    exact ⟨by kernel_rfl, (Keeps.refl _ w).alloc _⟩
end Go.Proofs.YtkllaghfiofnjaaDoor
/- An element of an array value, by an index of any kind. -/
namespace Go.Proofs.YtkllaghfiofnjaaDoor
open Go.RowKit
theorem run_index_any (kd : IntKind) (t e : TypeId) (n : Nat) (cs : Array Value) (q : Nat) (v : Value) (W : World) (h : Tryd.prog.underlying t = some (.array n e)) (hq : q < n) (hv : cs[q]? = some v)
    (i : TypeInfo) (hi : Tryd.prog.info? e = some i) (hs : i.size = 1) (d : TypeDesc) (he : Tryd.prog.underlying e = some d) (hd : (match d with | .struct _ | .array _ _ => true | _ => false) = false) : (Instr.index t (.agg cs) (.int kd (q : Int))).run Tryd.prog W = .ok v W := by
  have hc : (0 : Int) ≤ (q : Int) ∧ (q : Int) < (n : Int) := by omega
  have e1 : (Instr.index t (.agg cs) (.int kd (q : Int))).run Tryd.prog W = (part e cs q).run Tryd.prog W := by
    have hnq : ¬ n ≤ q := by omega
    simp [Instr.index, run_underlying h, asIntOf, hnq, go_sem, sizeOf, typeInfo, hi, hs]
  rw [e1]
  have hagg : (isAgg e).run Tryd.prog W = .ok false W := by
    unfold isAgg
    rw [Sem.run_bind, run_underlying he W]
    cases d <;> simp_all
  simp [part, Sem.run_bind, hagg, hv]
end Go.Proofs.YtkllaghfiofnjaaDoor
/- des: what the S-boxes make of eight groups of six bits. -/
namespace Go.Proofs.YtkllaghfiofnjaaDoor
open Go.RowKit
theorem six_parts (r k : List Bool) (hk : k.length = 48) (i : Nat) (hi : i < 8) :
    ∃ row col : Nat, row < 4 ∧ col < 16 ∧ Pure.desAt r k i = 16 * row + col ∧ ∃ g, g = Pure.val (Pure.xors (Pure.pick r Pure.expand) k) / 2 ^ (6 * (7 - i)) % 64 ∧ g < 64 ∧ g / 32 * 2 + g % 2 = row ∧ g / 2 % 16 = col := by
  have hl : (Pure.xors (Pure.pick r Pure.expand) k).length = 48 := by rw [Pure.xors_length, Pure.pick_length, Pure.expand_length]
  have h := Pure.six_of _ hl i hi
  have m := fun j hj => Pure.mixed_at r k i j hi hj
  rw [show 6 * i = 6 * i + 0 by rfl, m 0 (by omega)] at h
  simp only [Nat.add_zero] at h
  rw [m 1 (by omega), m 2 (by omega), m 3 (by omega), m 4 (by omega), m 5 (by omega)] at h
  have b := fun j => Bool.toNat_le (Pure.desSix r k i j)
  have b0 := b 0
  have b1 := b 1
  have b2 := b 2
  have b3 := b 3
  have b4 := b 4
  have b5 := b 5
  refine ⟨2 * (Pure.desSix r k i 0).toNat + (Pure.desSix r k i 5).toNat, 8 * (Pure.desSix r k i 1).toNat + 4 * (Pure.desSix r k i 2).toNat + 2 * (Pure.desSix r k i 3).toNat + (Pure.desSix r k i 4).toNat, by omega, by omega, ?_, _, rfl, by omega, ?_, ?_⟩
  · unfold Pure.desAt; omega
  · rw [h]; omega
  · rw [h]; omega
theorem word_info : (Tryd.prog.info? 108).map (fun i => (i.zero, i.size, i.bytes)) = some (some (.int .u64 0), 1, 8) := by kernel_rfl
theorem outs_length (r k : List Bool) : ∀ i, (Pure.desOuts r k i).length = 4 * i
  | 0 => rfl
  | i + 1 => by rw [Pure.desOuts_snoc, List.length_append, outs_length r k i]; rfl
theorem low_nat (n v x : Nat) (hn : 1 ≤ n) (hn2 : n ≤ 32) (hv : v < 18446744073709551616) (y : Int) (hy : y = (v : Int)) (N : Int) (hN : N = (n : Int)) (hx : v % 2 ^ n = x) (w : World) :
    Calls Tryd.prog 104 #[.int .i64 N, .int .u64 y] w fun e w' => e = .returned (.int .u64 (x : Int)) ∧ Keeps nobody w w' := by
  subst hy hN hx
  exact (lowest_any n v hn hn2 hv w).mono fun _ _ ⟨h, q, hq⟩ => ⟨h, Keeps.of_drewN hq⟩
set_option maxHeartbeats 4000000 in
theorem substituted_any (r k : List Bool) (hr : r.length = 32) (hk : k.length = 48) (w : World) :
    Calls Tryd.prog 113 #[.int .u64 ((Pure.val (Pure.xors (Pure.pick r Pure.expand) k) : Nat) : Int)] w fun e w' => e = .returned (.int .u64 ((Pure.val (Pure.desOuts r k 8) : Nat) : Int)) ∧ Keeps nobody w w' := by
  have hG := Pure.val_lt (Pure.xors (Pure.pick r Pure.expand) k)
  rw [Pure.xors_length, Pure.pick_length, Pure.expand_length] at hG
  have HS := Lib.hid (six_parts r k hk)
  obtain ⟨G, hGG⟩ : ∃ G, G = Pure.val (Pure.xors (Pure.pick r Pure.expand) k) := ⟨_, rfl⟩
  rw [← hGG] at hG HS ⊢
  clear hGG hr hk
  go_enter Tryd.func113, Tryd.ntmps113
  go_wp2_with fail
  go_loopw [3, 4] (fun v n wr => ∃ i : Nat, i ≤ 8 ∧ n = .int .i64 ((i + 1 : Nat) : Int) ∧ v = .int .u64 ((Pure.val (Pure.desOuts r k i) : Nat) : Int) ∧ Keeps nobody w wr) (fun _ n _ => 9 - (intOf n).toNat)
  case atStart => exact ⟨0, by omega, rfl, rfl, Keeps.refl _ w⟩
  case round =>
    obtain ⟨i, hi, rfl, rfl, hK⟩ := hrel
    have HK := Lib.hid hK
    clear hK
    by_cases hil : i < 8
    · obtain ⟨row, col, h1, h2, h3, g, hg, h4, h5, h6⟩ := HS.out i hil
      have hv := Pure.val_outs r k i hil
      have hvl := Pure.val_lt (Pure.desOuts r k i)
      have hD : Pure.desNum r k i = Pure.rowNum i row / 2 ^ (4 * (15 - col)) % 2 ^ 4 := by
        unfold Pure.desNum
        rw [h3, ← Pure.rowNum_at i hil row h1 col h2]
      have hRl := Pure.rowNum_lt i hil row h1
      obtain ⟨N, hN⟩ : ∃ N, N = i + 1 := ⟨_, rfl⟩
      have HBR := Lib.hid (boxRows_any i hil)
      rw [← hN] at HBR ⊢
      have n1 : (1 : Int) ≤ (N : Int) := by omega
      have n2 : (N : Int) ≤ 8 := by omega
      obtain ⟨s, hs⟩ : ∃ s, s = 6 * (7 - i) := ⟨_, rfl⟩
      have e1 : 6 * (8 - (N : Int)) = (s : Int) := by omega
      have e0 : (0 : Int) ≤ (s : Int) := by omega
      rw [← hs] at hg
      have hq : G / 2 ^ s < 18446744073709551616 := Nat.lt_of_le_of_lt (Nat.div_le_self _ _) (by omega)
      have e2 : (G : Int) / 2 ^ s = ((G / 2 ^ s : Nat) : Int) := by rw [Int.natCast_ediv, Int.natCast_pow]; rfl
      have HL1 := Lib.hid (low_nat 6 (G / 2 ^ s) g (by omega) (by omega) hq _ e2 6 rfl hg.symm)
      have HL2 := Lib.hid (low_nat 4 (g / 2) col (by omega) (by omega) (by omega) ((g : Int) / 2) (by omega) 4 rfl h6)
      obtain ⟨R, hR⟩ : ∃ R, R = Pure.rowNum i row := ⟨_, rfl⟩
      rw [← hR] at hD hRl
      obtain ⟨d, hd⟩ : ∃ d, d = 15 - col := ⟨_, rfl⟩
      obtain ⟨t, ht⟩ : ∃ t, t = 4 * (15 - col) := ⟨_, rfl⟩
      rw [← ht] at hD
      have e3 : 15 - (col : Int) = (d : Int) := by omega
      have e4 : 4 * (d : Int) = (t : Int) := by omega
      have e5 : (0 : Int) ≤ (t : Int) := by omega
      have hq2 : R / 2 ^ t < 18446744073709551616 := Nat.lt_of_le_of_lt (Nat.div_le_self _ _) hRl
      have e6 : (R : Int) / 2 ^ t = ((R / 2 ^ t : Nat) : Int) := by rw [Int.natCast_ediv, Int.natCast_pow]; rfl
      have hDl : Pure.desNum r k i < 16 := by rw [hD]; exact Nat.mod_lt _ (by omega)
      obtain ⟨D, hDe⟩ : ∃ D, D = Pure.desNum r k i := ⟨_, rfl⟩
      obtain ⟨V, hV⟩ : ∃ V, V = Pure.val (Pure.desOuts r k i) := ⟨_, rfl⟩
      obtain ⟨V', hV'⟩ : ∃ V', V' = Pure.val (Pure.desOuts r k (i + 1)) := ⟨_, rfl⟩
      rw [← hDe] at hD hv hDl
      rw [← hV, ← hV'] at hv
      rw [outs_length, ← hV] at hvl
      rw [← hV]
      have hvl2 : V < 2 ^ 60 := Nat.lt_of_lt_of_le hvl (Nat.pow_le_pow_right (by omega) (by omega))
      have HL3 := Lib.hid (low_nat 4 (R / 2 ^ t) D (by omega) (by omega) hq2 _ e6 4 rfl hD.symm)
      obtain ⟨g2, hg2⟩ : ∃ g2, g2 = g % 2 := ⟨_, rfl⟩
      have e7 : bits .and .u64 (g : Int) 1 = (g2 : Int) := by
        have h := u64_and_nat g 1 (by omega) (by omega)
        rw [Nat.and_one_is_mod, ← hg2] at h
        exact h
      have e8 : bits .or .u64 ((g : Int) / 32 * 2) (g2 : Int) = (row : Int) := by
        have h := or_u64 (g / 32 * 2) g2 row (by rw [← h5, hg2]; exact Pure.or_low (g / 32) 1 (g % 2) (by omega)) (by omega) (by omega)
        simpa using h
      have e9 : bits .or .u64 ((V : Int) * 16) (D : Int) = (V' : Int) := by
        have h := or_u64 (V * 16) D V' hv (by omega) (by omega)
        simpa using h
      have HV' := Lib.hid hV'
      have HN := Lib.hid hN
      have HR := Lib.hid hR
      have hr0 : (0 : Int) ≤ (row : Int) := by omega
      have hr1 : (row : Int) < 4 := by omega
      clear hg h3 hs hD hv hV hV' hDe ht hd hvl h5 h6 hg2 e2 e6 hN hR
      go_wp2_with fail
      refine (HL1.out _).mono ?_
      rintro e w1 ⟨rfl, hk1⟩
      have HK1 := Lib.hid (HK.out.trans hk1)
      clear hk1 HL1
      go_wp2_with fail
      refine (HL2.out _).mono ?_
      rintro e w2 ⟨rfl, hk2⟩
      have HK2 := Lib.hid (HK1.out.trans hk2)
      clear hk2 HL2 HK1
      go_wp2_with fail
      refine (HBR.out _).mono ?_
      rintro e w3 ⟨rfl, hk3⟩
      have HK3 := Lib.hid (HK2.out.trans hk3)
      clear hk3 HBR HK2
      have erow : ∃ cs : Array Value, rowsV i = .agg cs ∧ cs.size = 4 ∧ cs[row]? = some (.int .u64 (R : Int)) := by
        refine ⟨_, rfl, rfl, ?_⟩
        rw [HR.out]
        rcases (show row = 0 ∨ row = 1 ∨ row = 2 ∨ row = 3 by omega) with rfl | rfl | rfl | rfl <;> rfl
      obtain ⟨cs, ecs, ecs2, ecs3⟩ := erow
      rw [ecs]
      obtain ⟨i0, hi0, hz0, hz1, hz2⟩ := info_parts word_info
      have hix := fun W => run_index_any .u64 178 108 4 cs row _ W Tryd.underlying178 h1 ecs3 i0 hi0 hz1 _ Tryd.underlying108 rfl
      clear ecs hi0 hz0 hz1 hz2 ecs3
      go_wp2_with fail
      refine (HL3.out _).mono ?_
      rintro e w4 ⟨rfl, hk4⟩
      have HK4 := Lib.hid (HK3.out.trans hk4)
      clear hk4 HL3 HK3 hix
      go_wp2_with fail
      go_roundw
      case rel => exact ⟨i + 1, by omega, by rw [HN.out]; rfl, by rw [HV'.out], HK4.out⟩
      case measure => have := HN.out; simp [intOf]; omega
    · have hii : i = 8 := by omega
      subst hii
      clear hil hi
      go_wp2
      go_ret
      exact ⟨rfl, HK.out⟩
end Go.Proofs.YtkllaghfiofnjaaDoor
/- des: the function that mixes half a block with the key of a round. -/
namespace Go.Proofs.YtkllaghfiofnjaaDoor
open Go.RowKit
/-- What mixer makes. -/
def Mixes (w : World) (f : Value) : Prop :=
  ∃ a b fp fe, f = .func (.func 112) #[] #[.pointer (some ⟨a, 0, none⟩), .pointer (some ⟨b, 0, none⟩)] ∧ w.cell? ⟨a, 0, none⟩ = some fp ∧ w.cell? ⟨b, 0, none⟩ = some fe ∧ Picks w fp 32 Pure.desP ∧ Picks w fe 32 Pure.expand
theorem Mixes.keeps {w w' : World} {f : Value} (h : Mixes w f) (k : Keeps nobody w w') : Mixes w' f := by
  obtain ⟨a, b, fp, fe, e, h1, h2, h3, h4⟩ := h
  exact ⟨a, b, fp, fe, e, cell_keeps h1 k, cell_keeps h2 k, h3.keeps k, h4.keeps k⟩
theorem desP_in : ∀ k < 32, 1 ≤ Pure.desP.getD k 0 ∧ Pure.desP.getD k 0 ≤ 32 := by decide +kernel
/-- A picker's call, in whatever world that kept it. -/
theorem picks_call {n : Nat} {f : Value} {ps : List Nat} {w : World} (hf : Picks w f n ps) (hn : n ≤ 64) (hp : ps.length ≤ 64) (hin : ∀ k, k < ps.length → 1 ≤ ps.getD k 0 ∧ ps.getD k 0 ≤ n) :
    ∃ a b, f = .func (.func 114) #[] #[.pointer (some ⟨a, 0, none⟩), .pointer (some ⟨b, 0, none⟩)] ∧ ∀ (l : List Bool), l.length = n → ∀ w', Keeps nobody w w' →
      Calls Tryd.prog 114 #[.int .u64 ((Pure.val l : Nat) : Int), .pointer (some ⟨a, 0, none⟩), .pointer (some ⟨b, 0, none⟩)] w' fun e w'' => e = .returned (.int .u64 ((Pure.val (Pure.pick l ps) : Nat) : Int)) ∧ Keeps nobody w' w'' := by
  obtain ⟨a, b, u, e, h1, h2, h3⟩ := hf
  refine ⟨a, b, e, fun l hl w' hk => ?_⟩
  exact (picked_any n f ps w' ⟨a, b, u, e, cell_keeps h1 hk, cell_keeps h2 hk, h3.keeps hk (fun _ _ h => h)⟩ l hl hn hp hin a b e).mono fun _ _ ⟨h, q, hq⟩ => ⟨h, Keeps.of_drewN hq⟩
set_option maxHeartbeats 2000000 in
theorem mixed_any (r k : List Bool) (hr : r.length = 32) (hk : k.length = 48) (f : Value) (w : World) (hf : Mixes w f) (a b : Nat)
    (he : f = .func (.func 112) #[] #[.pointer (some ⟨a, 0, none⟩), .pointer (some ⟨b, 0, none⟩)]) :
    Calls Tryd.prog 112 #[.int .u64 ((Pure.val r : Nat) : Int), .int .u64 ((Pure.val k : Nat) : Int), .pointer (some ⟨a, 0, none⟩), .pointer (some ⟨b, 0, none⟩)] w fun e w' => e = .returned (.int .u64 ((Pure.val (Pure.desF r k) : Nat) : Int)) ∧ Keeps nobody w w' := by
  obtain ⟨a', b', fp, fe, e, h1, h2, h3, h4⟩ := hf
  obtain ⟨rfl, rfl⟩ : a' = a ∧ b' = b := by
    rw [he] at e
    injection e with _ _ e
    simp at e
    exact ⟨e.1.symm, e.2.symm⟩
  clear he e
  obtain ⟨pa, pb, rfl, hP⟩ := picks_call h3 (by omega) (by decide) desP_in
  obtain ⟨ea, eb, rfl, hE⟩ := picks_call h4 (by omega) (by rw [Pure.expand_length]; omega) (by rw [Pure.expand_length]; exact Pure.expand_range)
  have HP := Lib.hid (hP (Pure.desOuts r k 8) (by rw [outs_length]))
  have HE := Lib.hid (hE r hr)
  have HS := Lib.hid (substituted_any r k hr hk)
  have hx := Pure.val_xors (Pure.pick r Pure.expand) k (by rw [Pure.pick_length, Pure.expand_length, hk])
  have l1 := Pure.val_lt (Pure.pick r Pure.expand)
  have l2 := Pure.val_lt k
  rw [Pure.pick_length, Pure.expand_length] at l1
  rw [hk] at l2
  have e1 := xor_u64 _ _ _ hx.symm (by omega) (by omega)
  obtain ⟨V1, hV1⟩ : ∃ V, V = Pure.val (Pure.pick r Pure.expand) := ⟨_, rfl⟩
  obtain ⟨V2, hV2⟩ : ∃ V, V = Pure.val k := ⟨_, rfl⟩
  obtain ⟨V3, hV3⟩ : ∃ V, V = Pure.val (Pure.xors (Pure.pick r Pure.expand) k) := ⟨_, rfl⟩
  rw [← hV1, ← hV2, ← hV3] at e1
  rw [← hV1] at HE
  rw [← hV3] at HS
  rw [← hV2]
  clear hV1 hV2 hV3 h3 h4 hP hE hx l1 l2 hr hk
  go_enter Tryd.func112, Tryd.ntmps112
  go_upto_region 1 with fail
  refine wp_region_Z (fun w' => Keeps nobody w w' ∧ w'.cell? ⟨a', 0, none⟩ = some (.func (.func 114) #[] #[.pointer (some ⟨pa, 0, none⟩), .pointer (some ⟨pb, 0, none⟩)]) ∧ w'.cell? ⟨b', 0, none⟩ = some (.func (.func 114) #[] #[.pointer (some ⟨ea, 0, none⟩), .pointer (some ⟨eb, 0, none⟩)])) 8 9 rfl (by kernel_rfl) ⟨(Keeps.refl _ w).drew, h1, h2⟩ (fun hHeld => ?_)
  refine wpAnyZ_take (i := 0) rfl (by kernel_rfl) (fun _ _ _ h => h) (Or.inl ⟨by rfl, by intro w hSw; obtain ⟨s0, s1, s2⟩ := hSw; go_simp; try with_reducible rfl⟩) hHeld.out ?_
  simp only [Act.put, List.setIfInBounds_toArray, Nat.reduceAdd, List.getElem_toArray, List.getElem_cons_succ, List.getElem_cons_zero, List.set_cons_succ, List.set_cons_zero]
  refine wpAnyZ_take (i := 1) rfl (by kernel_rfl) (fun _ _ _ h => h) (Or.inl ⟨by rfl, by intro w hSw; obtain ⟨s0, s1, s2⟩ := hSw; go_simp; try with_reducible rfl⟩) hHeld.out ?_
  simp only [Act.put, List.setIfInBounds_toArray, Nat.reduceAdd, List.getElem_toArray, List.getElem_cons_succ, List.getElem_cons_zero, List.set_cons_succ, List.set_cons_zero]
  refine wpAnyZ_take (i := 2) rfl (by kernel_rfl) (fun _ _ _ h => h) (Or.inl ⟨by rfl, by intro w hSw; go_simp; try with_reducible rfl⟩) hHeld.out ?_
  simp only [Act.put, List.setIfInBounds_toArray, Nat.reduceAdd, List.getElem_toArray, List.getElem_cons_succ, List.getElem_cons_zero, List.set_cons_succ, List.set_cons_zero]
  refine wpAnyZ_take (i := 4) rfl (by kernel_rfl) (fun _ _ _ h => h) (Or.inl ⟨by rfl, by intro w hSw; go_simp; try with_reducible rfl⟩) hHeld.out ?_
  simp only [Act.put, List.setIfInBounds_toArray, Nat.reduceAdd, List.getElem_toArray, List.getElem_cons_succ, List.getElem_cons_zero, List.set_cons_succ, List.set_cons_zero]
  refine wpAnyZ_one (i := 3) (by kernel_rfl) rfl (fun K hK => ?_)
  go_simp
  refine (HE.out _ hHeld.out.1).mono ?_
  rintro e w1 ⟨rfl, hk1⟩
  have HH1 := Lib.hid (And.intro (hHeld.out.1.trans hk1) (And.intro (cell_keeps hHeld.out.2.1 hk1) (cell_keeps hHeld.out.2.2 hk1)))
  refine hK.out _ _ (fun _ => HH1.out) ?_
  clear hK K hHeld hk1 HE
  refine wpAnyZ_take (i := 5) rfl (by kernel_rfl) (fun _ _ _ h => h) (Or.inl ⟨by rfl, by intro w hSw; go_simp; try with_reducible rfl⟩) HH1.out ?_
  simp only [Act.put, List.setIfInBounds_toArray, Nat.reduceAdd, List.getElem_toArray, List.getElem_cons_succ, List.getElem_cons_zero, List.set_cons_succ, List.set_cons_zero]
  refine wpAnyZ_one (i := 6) (by kernel_rfl) rfl (fun K hK => ?_)
  go_simp
  refine (HS.out _).mono ?_
  rintro e w2 ⟨rfl, hk2⟩
  have HH2 := Lib.hid (And.intro (HH1.out.1.trans hk2) (And.intro (cell_keeps HH1.out.2.1 hk2) (cell_keeps HH1.out.2.2 hk2)))
  refine hK.out _ _ (fun _ => HH2.out) ?_
  clear hK K HH1 hk2 HS
  refine wpAnyZ_one (i := 7) (by kernel_rfl) rfl (fun K hK => ?_)
  go_simp
  refine (HP.out _ HH2.out.1).mono ?_
  rintro e w3 ⟨rfl, hk3⟩
  have HH3 := Lib.hid (And.intro (HH2.out.1.trans hk3) (And.intro (cell_keeps HH2.out.2.1 hk3) (cell_keeps HH2.out.2.2 hk3)))
  refine hK.out _ _ (fun _ => HH3.out) ?_
  clear hK K HH2 hk3 HP
  refine wpAnyZ_one (i := 8) (by kernel_rfl) rfl (fun K hK => ?_)
  go_simp
  refine hK.out _ _ (fun _ => HH3.out) ?_
  clear hK K
  refine wpAnyZ_done (by kernel_rfl) ?_ _
  go_wp2
  go_ret
  exact ⟨rfl, HH3.out.1⟩
end Go.Proofs.YtkllaghfiofnjaaDoor
/- des: the key's table, and the table that puts bits back. -/
namespace Go.Proofs.YtkllaghfiofnjaaDoor
open Go.RowKit
theorem ints_put (l : List Nat) (j x : Nat) : (ints l).toArray.setIfInBounds j (.int .i64 (x : Int)) = (ints (l.set j x)).toArray := by
  apply Array.toList_inj.1
  simp [List.map_set]
theorem Blk.int {w : World} {b : Nat} {t : TypeId} {l : List Nat} (h : Blk w b t (ints l).toArray) (k : Nat) (hk : k < l.length) : w.cell? ⟨b, k, none⟩ = some (.int .i64 ((l.getD k 0 : Nat) : Int)) := by
  rw [h.cell, ← ints_at l k hk]; simp
theorem Blk.rowOf {w : World} {b n c : Nat} {t : TypeId} {l : List Nat} (h : Blk w b t (ints l).toArray) (hn : l.length = n) (hc : n ≤ c) (hm : n ≤ 1000) : Row w (fun _ => True) 1 (.slice (some ⟨b, 0, none⟩) n c) n (ints l) :=
  Row.block h trivial (by simp [hn]) (by unfold maxLen; omega) hc
theorem set_walk (F L : List Nat) (k : Nat) (hk : k < F.length) (hl : F.length = L.length) : (F.take k ++ L.drop k).set k (F.getD k 0) = F.take (k + 1) ++ L.drop (k + 1) := by
  rw [take_snoc F 0 k hk, List.set_append_right _ _ (by rw [List.length_take]; omega), List.length_take, Nat.min_eq_left (by omega), Nat.sub_self, List.drop_eq_getElem_cons (by omega), List.set_cons_zero, List.append_assoc]
  rfl
theorem ip_within : ∀ k < 64, 1 ≤ Pure.desIp.getD k 0 ∧ Pure.desIp.getD k 0 ≤ 64 := by decide +kernel
def keyRaw : List Nat := [57, 49, 41, 33, 25, 17, 9, 1, 58, 50, 42, 34, 26, 18, 10, 2, 59, 51, 43, 35, 27, 19, 11, 3, 60, 52, 44, 36, 63, 55, 47, 39, 31, 23, 15, 7, 62, 54, 46, 38, 30, 22, 14, 6, 61, 53, 45, 37, 29, 21, 13, 5, 28, 20, 12, 4]
def keyPicks : List Nat := Pure.desHalf false ++ Pure.desHalf true
theorem keyPicks_at : ∀ k < 56, keyPicks.getD k 0 = keyRaw.getD k 0 - (keyRaw.getD k 0 - 1) / 8 ∧ 1 ≤ keyRaw.getD k 0 ∧ keyRaw.getD k 0 ≤ 64 := by decide +kernel
theorem keyPicks_in : ∀ k < 56, 1 ≤ keyPicks.getD k 0 ∧ keyPicks.getD k 0 ≤ 56 := by decide +kernel
set_option maxRecDepth 100000 in
set_option maxHeartbeats 2000000 in
theorem keyTable_any (w : World) :
    Calls Tryd.prog 115 #[] w fun e w' => ∃ u, e = .returned u ∧ Row w' (fun _ => True) 1 u keyPicks.length (ints keyPicks) ∧ Keeps nobody w w' := by
  obtain ⟨T, hT⟩ : ∃ T, T = keyPicks := ⟨_, rfl⟩
  obtain ⟨L, hL⟩ : ∃ L, L = keyRaw := ⟨_, rfl⟩
  have hTl : T.length = 56 := by rw [hT]; decide
  have hLl : L.length = 56 := by rw [hL]; decide
  have hTg : ∀ k < 56, T.getD k 0 = L.getD k 0 - (L.getD k 0 - 1) / 8 ∧ 1 ≤ L.getD k 0 ∧ L.getD k 0 ≤ 64 := by rw [hT, hL]; exact keyPicks_at
  rw [← hT]
  clear hT
  have HT := Lib.hid hTl
  have HLL := Lib.hid hLl
  have HG := Lib.hid hTg
  clear hTl hTg hLl
  obtain ⟨b, hb⟩ : ∃ b, b = w.heap.size := ⟨_, rfl⟩
  have HB := Lib.hid hb
  have HL := Lib.hid hL
  clear hL
  go_enter Tryd.func115, Tryd.ntmps115
  go_upto_region 2 with fail
  rw [← hb]
  generalize hw1 : w.alloc _ = w1
  have HS := Lib.hid (show Blk w1 b 3 (ints L).toArray by rw [← hw1, hb, HL.out]; exact Blk.new w _ _)
  have HK1 := Lib.hid (show Keeps nobody w w1 by rw [← hw1]; exact (Keeps.refl _ w).alloc _)
  have HNb := Lib.hid (show ¬ b < w.heap.size by omega)
  clear hw1 hb
  go_wp2_with fail
  go_loopw [7] (fun i wr => ∃ k : Nat, k ≤ 56 ∧ i = .int .i64 (k : Int) ∧ Blk wr b 3 (ints (T.take k ++ L.drop k)).toArray ∧ Keeps (only b) w1 wr) (fun i _ => 56 - (intOf i).toNat)
  case atStart => exact ⟨0, by omega, rfl, HS.out, Keeps.refl _ _⟩
  case round =>
    obtain ⟨k, hk, rfl, hB, hK⟩ := hrel
    have HBr := Lib.hid hB
    have HK := Lib.hid hK
    by_cases hkl : k < 56
    · have hi0 : (0 : Int) ≤ (k : Int) := by omega
      have hi1 : (k : Int) < 56 := by omega
      have hcur : (T.take k ++ L.drop k).getD k 0 = L.getD k 0 := by
        rw [List.getD_eq_getElem?_getD, List.getElem?_append_right (by rw [List.length_take]; omega), List.length_take, HT.out, Nat.min_eq_left (by omega), Nat.sub_self, List.getElem?_drop, List.getD_eq_getElem?_getD]
        rfl
      have c1 := hB.int k (by rw [List.length_append, List.length_take, List.length_drop, HT.out, HLL.out]; omega)
      rw [hcur] at c1
      obtain ⟨g1, g2, g3⟩ := HG.out k hkl
      have hset := hB.set k (.int .i64 ((T.getD k 0 : Nat) : Int))
      rw [ints_put, set_walk T L k (by rw [HT.out]; exact hkl) (by rw [HT.out, HLL.out])] at hset
      obtain ⟨p, hp⟩ : ∃ p, p = L.getD k 0 := ⟨_, rfl⟩
      obtain ⟨m, hm⟩ : ∃ m, m = T.getD k 0 := ⟨_, rfl⟩
      rw [← hp] at c1 g1 g2 g3
      rw [← hm] at g1 hset
      obtain ⟨q, hq⟩ : ∃ q, q = p - 1 := ⟨_, rfl⟩
      have e1 : (p : Int) - 1 = (q : Int) := by omega
      have e2 : (p : Int) - (q : Int) / 8 = (m : Int) := by omega
      have q0 : (0 : Int) ≤ (q : Int) := by omega
      have q1 : (q : Int) < 64 := by omega
      have f1 := hB.frozen k
      have HSet := Lib.hid hset
      have HK3 := Lib.hid (hK.store b k (fun _ => only_self b) (.int .i64 (m : Int)))
      clear hB hK hp hm hq hset g1 hcur
      go_wp2_with fail
      go_roundw
      case rel => exact ⟨k + 1, by omega, by go_num, HSet.out, HK3.out⟩
      case measure => simp [intOf]; omega
    · have hkk : k = 56 := by omega
      subst hkk
      clear hK hB hkl hk
      go_wp2
      go_ret
      have h := HBr.out
      rw [List.take_of_length_le (by have := HT.out; omega), List.drop_eq_nil_of_le (by have := HLL.out; omega), List.append_nil] at h
      have hk2 := HK1.out.trans' HK.out (fun i hi h1 => by unfold only at hi; exact absurd (hi ▸ h1) HNb.out)
      refine ⟨_, rfl, ?_, hk2⟩
      rw [HT.out]
      exact h.rowOf HT.out (by omega) (by omega)
set_option maxRecDepth 100000 in
set_option maxHeartbeats 2000000 in
theorem inverse_any (F : Nat → Prop) (x : Value) (w : World) (hr : Row w F 1 x 64 (ints Pure.desIp)) (hF : ∀ b, F b → b < w.heap.size) :
    Calls Tryd.prog 106 #[x] w fun e w' => ∃ u, e = .returned u ∧ Row w' (fun _ => True) 1 u 64 (ints (Pure.backs 64)) ∧ Keeps nobody w w' := by
  obtain ⟨A, cA, rfl, hc⟩ := hr.form
  have HR := Lib.hid hr
  have HF := Lib.hid hF
  clear hr hF
  obtain ⟨h, hh⟩ : ∃ h, h = w.heap.size := ⟨_, rfl⟩
  have HH := Lib.hid hh
  go_enter Tryd.func106, Tryd.ntmps106
  go_wp2_with (at_make; refine stopHere ?_)
  unfold Hid
  refine wpList_make_ints rfl _ _ rfl 64 .i64 .i64 rfl rfl (by omega) ?_
  rw [← hh]
  intro w1 hb1 hk1 hz1
  have HB1 := Lib.hid hb1
  have HK1 := Lib.hid hk1
  have HR1 := Lib.hid (HR.out.keeps hk1 (fun _ _ h => h))
  clear hb1 hk1 hz1 hh
  go_wp2_with fail
  go_loopw [11] (fun i wr => ∃ k : Nat, k ≤ 64 ∧ i = .int .i64 (k : Int) ∧ Blk wr h 3 (ints (Pure.backs k)).toArray ∧ Keeps (only h) w1 wr) (fun i _ => 64 - (intOf i).toNat)
  case atStart => exact ⟨0, by omega, rfl, HB1.out, Keeps.refl _ _⟩
  case round =>
    obtain ⟨k, hk, rfl, hB, hK⟩ := hrel
    have HB := Lib.hid hB
    have HK := Lib.hid hK
    by_cases hkl : k < 64
    · have hi0 : (0 : Int) ≤ (k : Int) := by omega
      have hi1 : (k : Int) < 64 := by omega
      obtain ⟨bx, ox, rfl, _, hcx⟩ := (HR1.out.keeps hK (fun b hb e => by have := HF.out b hb; have := HH.out; unfold only at e; omega)).cellAt (by omega)
      have cx := hcx k _ (ints_at Pure.desIp k (by rw [Pure.ip_length]; exact hkl))
      have hp0 : 1 ≤ Pure.desIp.getD k 0 ∧ Pure.desIp.getD k 0 ≤ 64 := ip_within k hkl
      obtain ⟨p, hp⟩ : ∃ p, p = Pure.desIp.getD k 0 := ⟨_, rfl⟩
      rw [← hp] at cx hp0
      obtain ⟨q, hq⟩ : ∃ q, q = p - 1 := ⟨_, rfl⟩
      have e1 : (p : Int) - 1 = (q : Int) := by omega
      obtain ⟨m, hm⟩ : ∃ m, m = k + 1 := ⟨_, rfl⟩
      have e2 : (k : Int) + 1 = (m : Int) := by omega
      have q0 : (0 : Int) ≤ (q : Int) := by omega
      have q1 : (q : Int) < 64 := by omega
      have c1 := hB.int q (by rw [Pure.backs_length]; omega)
      have f1 := hB.frozen q
      have hset := hB.set q (.int .i64 (m : Int))
      rw [ints_put] at hset
      have eb : (Pure.backs k).set q m = Pure.backs m := by rw [hm, hq, hp]; rfl
      rw [eb] at hset
      have HSet := Lib.hid hset
      have HK3 := Lib.hid (hK.store h q (fun _ => only_self h) (.int .i64 (m : Int)))
      have HM := Lib.hid hm
      clear hB hK hcx hp hq hset hp0 eb hm
      go_wp2_with fail
      go_roundw
      case rel => exact ⟨m, by have := HM.out; omega, rfl, HSet.out, HK3.out⟩
      case measure => have := HM.out; simp [intOf]; omega
    · have hkk : k = 64 := by omega
      subst hkk
      clear hK hB hkl hk
      go_wp2
      go_ret
      exact ⟨_, rfl, HB.out.rowOf (Pure.backs_length 64) (by omega) (by omega), HK1.out.trans' HK.out (fun i hi h1 => by have := HH.out; unfold only at hi; omega)⟩
end Go.Proofs.YtkllaghfiofnjaaDoor
/- des: the maker of the mixing function; the keys of the rounds. -/
namespace Go.Proofs.YtkllaghfiofnjaaDoor
open Go.RowKit
set_option maxHeartbeats 2000000 in
theorem mixer_any (w : World) :
    Calls Tryd.prog 101 #[] w fun e w' => ∃ f, e = .returned f ∧ Mixes w' f ∧ Keeps nobody w w' := by
  have hmf : ∀ (fn : Fn) (first cap : Array Value) (w : World), (Instr.makeFunc fn first cap).run Tryd.prog w = .ok (.func fn first cap) w := fun _ _ _ _ => rfl
  go_enter Tryd.func101, Tryd.ntmps101
  go_wp2_with fail
  refine (expansionTable_any _).mono ?_
  rintro e w1 ⟨u1, rfl, hr1, hk1⟩
  have HK1 := Lib.hid hk1
  have HP1 := Lib.hid (picker_any _ 32 u1 Pure.expand w1 hr1)
  clear hr1 hk1
  go_wp2_with fail
  refine HP1.out.mono ?_
  rintro e w2 ⟨fe, rfl, hp2, hk2⟩
  obtain ⟨ea, eb, eu, rfl, _, _, _⟩ := id hp2
  have HK2 := Lib.hid (HK1.out.trans hk2)
  have HE2 := Lib.hid hp2
  clear hp2 hk2 HP1 HK1
  go_wp2_with fail
  refine (mixTable_any _).mono ?_
  rintro e w3 ⟨u3, rfl, hr3, hk3⟩
  have HK3 := Lib.hid (HK2.out.trans hk3)
  have HE3 := Lib.hid (HE2.out.keeps hk3)
  have HP3 := Lib.hid (picker_any _ 32 u3 Pure.desP w3 hr3)
  clear hr3 hk3 HK2 HE2
  go_wp2_with fail
  refine HP3.out.mono ?_
  rintro e w4 ⟨fp, rfl, hp4, hk4⟩
  obtain ⟨pa, pb, pu, rfl, _, _, _⟩ := id hp4
  have HK4 := Lib.hid (HK3.out.trans hk4)
  have HE4 := Lib.hid (HE3.out.keeps hk4)
  have HP4 := Lib.hid hp4
  clear hp4 hk4 HP3 HK3 HE3
  go_wp2_with fail
  go_ret
  have h7 := ((Keeps.refl nobody w4).alloc (.cells #[.func (.func 114) #[] #[.pointer (some ⟨ea, 0, none⟩), .pointer (some ⟨eb, 0, none⟩)]] 166)).alloc (.cells #[.func (.func 114) #[] #[.pointer (some ⟨pa, 0, none⟩), .pointer (some ⟨pb, 0, none⟩)]] 166)
  refine ⟨_, rfl, ⟨_, _, _, _, rfl, ?_, ?_, HP4.out.keeps h7, HE4.out.keeps h7⟩, HK4.out.trans h7⟩
  · simp
  · simp
/-- The values of numbers of 64 bits. -/
abbrev u64s (l : List Nat) : List Value := l.map fun (b : Nat) => Value.int .u64 (b : Int)
theorem u64s_set (l : List Nat) (j x : Nat) : (u64s l).toArray.setIfInBounds j (.int .u64 (x : Int)) = (u64s (l.set j x)).toArray := by
  apply Array.toList_inj.1
  simp [List.map_set]
theorem words16_info : (Tryd.prog.info? 170).map (·.size) = some 16 := by kernel_rfl
theorem range_at (f : Nat → Nat) (n k : Nat) (h : k < n) : ((List.range n).map f).getD k 0 = f k := by
  rw [List.getD_eq_getElem?_getD, List.getElem?_map, List.getElem?_range h]; rfl
/-- A row of numbers by their law. -/
theorem nums_of (f : Nat → Nat) (n : Nat) : ∃ T : List Nat, T.length = n ∧ ∀ k, k < n → T.getD k 0 = f k :=
  ⟨(List.range n).map f, by rw [List.length_map, List.length_range], fun k h => range_at f n k h⟩
theorem set_more (F : List Nat) (n k : Nat) (hF : F.length = n) (hk : k < n) : (F.take k ++ List.replicate (n - k) 0).set k (F.getD k 0) = F.take (k + 1) ++ List.replicate (n - (k + 1)) 0 := by
  subst hF
  have e : F.length - k = (F.length - (k + 1)) + 1 := by omega
  rw [take_snoc F 0 k hk, e, List.replicate_succ, List.set_append_right _ _ (by rw [List.length_take]; omega), List.length_take, Nat.min_eq_left (by omega), Nat.sub_self, List.set_cons_zero, List.append_assoc]
  rfl
theorem pc2_within : ∀ k < 48, 1 ≤ Pure.desPc2.getD k 0 ∧ Pure.desPc2.getD k 0 ≤ 56 := by decide +kernel
theorem start_key (K : List Bool) : Pure.val (Pure.pick K keyPicks) / 2 ^ 28 = Pure.val (Pure.desStart K []).c ∧ Pure.val (Pure.pick K keyPicks) % 2 ^ 28 = Pure.val (Pure.desStart K []).d := by
  have e : Pure.pick K keyPicks = Pure.pick K (Pure.desHalf false) ++ Pure.pick K (Pure.desHalf true) := Pure.pick_append K _ _
  have hl : (Pure.pick K (Pure.desHalf true)).length = 28 := by rw [Pure.pick_length]; rfl
  have hlt := Pure.val_lt (Pure.pick K (Pure.desHalf true))
  rw [hl] at hlt
  have hc : (Pure.desStart K []).c = Pure.pick K (Pure.desHalf false) := rfl
  have hd : (Pure.desStart K []).d = Pure.pick K (Pure.desHalf true) := rfl
  rw [e, Pure.val_append, hl, hc, hd]
  generalize Pure.val (Pure.pick K (Pure.desHalf false)) = x
  generalize Pure.val (Pure.pick K (Pure.desHalf true)) = y at hlt ⊢
  omega
theorem by_range (n : Nat) : 1 ≤ Pure.desBy n ∧ Pure.desBy n ≤ 2 := by unfold Pure.desBy; split <;> omega
end Go.Proofs.YtkllaghfiofnjaaDoor
/- des: the keys of the rounds. -/
namespace Go.Proofs.YtkllaghfiofnjaaDoor
open Go.RowKit
set_option maxHeartbeats 8000000 in
theorem roundKeys_any (K : List Bool) (hKl : K.length = 56) (T : List Nat) (hTl : T.length = 16) (hT : ∀ k, k < 16 → T.getD k 0 = Pure.val (Pure.pick ((Pure.desRounds (Pure.desStart K []) (k + 1)).c ++ (Pure.desRounds (Pure.desStart K []) (k + 1)).d) Pure.desPc2)) (w : World) :
    Calls Tryd.prog 105 #[.int .u64 ((Pure.val K : Nat) : Int)] w fun e w' => e = .returned (.agg (u64s T).toArray) ∧ Keeps nobody w w' := by
  have HI := Lib.hid words16_info
  have HGS := Lib.hid (show Pure.Good (Pure.desStart K []) from Pure.Good.start K [])
  have HTl := Lib.hid hTl
  have HT := Lib.hid hT
  clear hTl hT
  obtain ⟨g, hg⟩ : ∃ g, g = w.heap.size := ⟨_, rfl⟩
  go_enter Tryd.func105, Tryd.ntmps105
  go_upto_region 1 with fail
  rw [← hg]
  generalize hw0 : w.alloc _ = w0
  have HB0 := Lib.hid (show Blk w0 g 170 (u64s (List.replicate 16 0)).toArray by rw [← hw0, hg]; exact Blk.new w _ _)
  have HK0 := Lib.hid (show Keeps nobody w w0 by rw [← hw0]; exact (Keeps.refl _ w).alloc _)
  have HG := Lib.hid hg
  clear hw0 hg
  go_wp2_with fail
  refine (keyTable_any _).mono ?_
  rintro e w1 ⟨u1, rfl, hr1, hk1⟩
  have HP1 := Lib.hid (picker_any _ 56 u1 keyPicks w1 hr1)
  have HK1 := Lib.hid hk1
  clear hr1 hk1
  go_wp2_with fail
  refine HP1.out.mono ?_
  rintro e w2 ⟨f2, rfl, hp2, hk2⟩
  obtain ⟨pa, pb, rfl, hP⟩ := picks_call hp2 (by omega) (by decide) keyPicks_in
  have HP := Lib.hid (hP K hKl w2 (Keeps.refl _ _))
  have HK2 := Lib.hid (HK1.out.trans hk2)
  clear hp2 hk2 HP1 HK1 hP hKl
  go_wp2_with fail
  refine HP.out.mono ?_
  rintro e w3 ⟨rfl, hk3⟩
  have HK3 := Lib.hid (HK2.out.trans hk3)
  obtain ⟨s1, s2⟩ := start_key K
  have hvl := Pure.val_lt (Pure.pick K keyPicks)
  rw [Pure.pick_length, show keyPicks.length = 56 by decide] at hvl
  obtain ⟨V, hV⟩ : ∃ V, V = Pure.val (Pure.pick K keyPicks) := ⟨_, rfl⟩
  rw [← hV] at s1 s2 hvl ⊢
  obtain ⟨S, hS⟩ : ∃ S, S = Pure.desStart K [] := ⟨_, rfl⟩
  rw [← hS] at s1 s2 HGS HT
  have HS := Lib.hid hS
  obtain ⟨c0, hc0⟩ : ∃ c, c = Pure.val S.c := ⟨_, rfl⟩
  obtain ⟨d0, hd0⟩ : ∃ d, d = Pure.val S.d := ⟨_, rfl⟩
  rw [← hc0] at s1
  rw [← hd0] at s2
  have HL := Lib.hid (low_nat 28 V d0 (by omega) (by omega) (by omega) _ rfl 28 rfl s2)
  have e1 : (V : Int) / 268435456 = (c0 : Int) := by omega
  have HC0 := Lib.hid hc0
  have HD0 := Lib.hid hd0
  clear hk3 HP HK2 hV s1 s2 hS hc0 hd0
  go_wp2_with fail
  refine (HL.out _).mono ?_
  rintro e w4 ⟨rfl, hk4⟩
  have HK4 := Lib.hid (HK3.out.trans hk4)
  clear hk4 HK3 HL
  go_wp2_with fail
  refine (roundKeyTable_any _).mono ?_
  rintro e w5 ⟨u5, rfl, hr5, hk5⟩
  have HK5 := Lib.hid (HK4.out.trans hk5)
  have HP5 := Lib.hid (picker_any _ 56 u5 Pure.desPc2 w5 hr5)
  clear hr5 hk5 HK4
  go_wp2_with fail
  refine HP5.out.mono ?_
  rintro e w6 ⟨f6, rfl, hp6, hk6⟩
  obtain ⟨qa, qb, rfl, hQ⟩ := picks_call hp6 (by omega) (by decide) pc2_within
  have HQ := Lib.hid hQ
  have HK6 := Lib.hid (HK5.out.trans hk6)
  clear hp6 hk6 HP5 HK5 hQ
  go_upto_region 5 with fail
  obtain ⟨h, hh⟩ : ∃ h, h = w6.heap.size := ⟨_, rfl⟩
  rw [← hh]
  generalize hw7 : w6.alloc _ = w7
  have HB7 := Lib.hid (show Blk w7 h 170 (u64s (List.replicate 16 0)).toArray by rw [← hw7, hh]; exact Blk.new w6 _ _)
  have HK7 := Lib.hid (show Keeps nobody w6 w7 by rw [← hw7]; exact (Keeps.refl _ w6).alloc _)
  have HH := Lib.hid hh
  clear hw7 hh
  go_wp2_with fail
  go_loopw [4, 5, 20] (fun c d i wr => ∃ k : Nat, k ≤ 16 ∧ i = .int .i64 (k : Int) ∧ c = .int .u64 ((Pure.val (Pure.desRounds S k).c : Nat) : Int) ∧ d = .int .u64 ((Pure.val (Pure.desRounds S k).d : Nat) : Int) ∧
    Blk wr h 170 (u64s (T.take k ++ List.replicate (16 - k) 0)).toArray ∧ Keeps nobody w6 wr) (fun _ _ i _ => 16 - (intOf i).toNat)
  case atStart => exact ⟨0, by omega, rfl, by rw [HC0.out]; rfl, by rw [HD0.out]; rfl, by simpa using HB7.out, HK7.out⟩
  case round =>
    clear HC0 HD0 HB7 HK7
    obtain ⟨k, hk, rfl, rfl, rfl, hB, hK⟩ := hrel
    have HB := Lib.hid hB
    have HK := Lib.hid hK
    clear hB hK
    by_cases hkl : k < 16
    · have hi0 : (0 : Int) ≤ (k : Int) := by omega
      have hi1 : (k : Int) < 16 := by omega
      obtain ⟨gc, gd, _, _⟩ := HGS.out.rounds k
      obtain ⟨gc', gd', _, _⟩ := HGS.out.rounds (k + 1)
      obtain ⟨by1, by2⟩ := by_range (k + 1)
      have ec : (Pure.desRounds S (k + 1)).c = Pure.desTurn (Pure.desRounds S k).c (Pure.desBy (k + 1)) := rfl
      have ed : (Pure.desRounds S (k + 1)).d = Pure.desTurn (Pure.desRounds S k).d (Pure.desBy (k + 1)) := rfl
      have HRC := Lib.hid (rotated_any (Pure.desRounds S k).c (Pure.desBy (k + 1)) gc by1 by2)
      have HRD := Lib.hid (rotated_any (Pure.desRounds S k).d (Pure.desBy (k + 1)) gd by1 by2)
      have HTn := Lib.hid (turn_any2 (k + 1) (by omega) (by omega))
      rw [← ec] at HRC
      rw [← ed] at HRD
      have hTk : T.getD k 0 = Pure.val (Pure.pick ((Pure.desRounds S (k + 1)).c ++ (Pure.desRounds S (k + 1)).d) Pure.desPc2) := HT.out k hkl
      have HQk := Lib.hid (HQ.out ((Pure.desRounds S (k + 1)).c ++ (Pure.desRounds S (k + 1)).d) (by rw [List.length_append, gc', gd']))
      have hor := Pure.val_or (Pure.desRounds S (k + 1)).c (Pure.desRounds S (k + 1)).d
      have l1 := Pure.val_lt (Pure.desRounds S (k + 1)).c
      have l2 := Pure.val_lt (Pure.desRounds S (k + 1)).d
      rw [gc'] at l1
      rw [gd'] at hor l2
      obtain ⟨C, hC⟩ : ∃ C, C = Pure.val (Pure.desRounds S k).c := ⟨_, rfl⟩
      obtain ⟨D, hD⟩ : ∃ D, D = Pure.val (Pure.desRounds S k).d := ⟨_, rfl⟩
      obtain ⟨C', hC'⟩ : ∃ C, C = Pure.val (Pure.desRounds S (k + 1)).c := ⟨_, rfl⟩
      obtain ⟨D', hD'⟩ : ∃ D, D = Pure.val (Pure.desRounds S (k + 1)).d := ⟨_, rfl⟩
      obtain ⟨U, hU⟩ : ∃ U, U = Pure.val ((Pure.desRounds S (k + 1)).c ++ (Pure.desRounds S (k + 1)).d) := ⟨_, rfl⟩
      obtain ⟨X, hX⟩ : ∃ X, X = Pure.val (Pure.pick ((Pure.desRounds S (k + 1)).c ++ (Pure.desRounds S (k + 1)).d) Pure.desPc2) := ⟨_, rfl⟩
      obtain ⟨N, hN⟩ : ∃ N, N = k + 1 := ⟨_, rfl⟩
      obtain ⟨Y, hY⟩ : ∃ Y, Y = Pure.desBy (k + 1) := ⟨_, rfl⟩
      rw [← hC, ← hC', ← hY] at HRC
      rw [← hD, ← hD', ← hY] at HRD
      rw [← hY, ← hN] at HTn
      rw [← hU, ← hX] at HQk
      rw [← hC', ← hD', ← hU] at hor
      rw [← hC'] at l1
      rw [← hD'] at l2
      rw [← hX] at hTk
      rw [← hC, ← hD]
      have e1 : (k : Int) + 1 = (N : Int) := by omega
      have e2 : bits .or .u64 ((C' : Int) * 268435456) (D' : Int) = (U : Int) := by
        have h := or_u64 (C' * 2 ^ 28) D' U hor (by omega) (by omega)
        simpa using h
      have hset := set_more T 16 k HTl.out hkl
      rw [hTk] at hset
      have HSET := Lib.hid hset
      have HC' := Lib.hid hC'
      have HD' := Lib.hid hD'
      have HN := Lib.hid hN
      have l3 : C' < 268435456 := l1
      clear hC hD hC' hD' hU hX hN hY gc gd gc' gd' by1 by2 ec ed hTk hor l1 l2 hset
      go_wp2_with fail
      refine (HTn.out _).mono ?_
      rintro e wa ⟨rfl, qa', hwa⟩
      have HKa := Lib.hid (HK.out.trans (Keeps.of_drewN hwa))
      have HBa := Lib.hid (HB.out.keeps (Keeps.of_drewN hwa) (fun x => x))
      clear hwa HTn HB HK
      go_wp2_with fail
      refine (HRC.out _).mono ?_
      rintro e wb ⟨rfl, qb', hwb⟩
      have HKb := Lib.hid (HKa.out.trans (Keeps.of_drewN hwb))
      have HBb := Lib.hid (HBa.out.keeps (Keeps.of_drewN hwb) (fun x => x))
      clear hwb HRC HBa HKa
      go_wp2_with fail
      refine (HRD.out _).mono ?_
      rintro e wc ⟨rfl, qc', hwc⟩
      have HKc := Lib.hid (HKb.out.trans (Keeps.of_drewN hwc))
      have HBc := Lib.hid (HBb.out.keeps (Keeps.of_drewN hwc) (fun x => x))
      clear hwc HRD HBb HKb
      go_wp2_with fail
      with_reducible refine (HQk.out _ HKc.out).mono ?_
      rintro e wd ⟨rfl, hkd⟩
      have HKd := Lib.hid (HKc.out.trans hkd)
      have hBd := HBc.out.keeps hkd (fun x => x)
      have f1 := hBd.frozen k
      have c1 : ∃ u, wd.cell? ⟨h, k, none⟩ = some u := by
        rw [hBd.cell]
        exact ⟨_, Array.getElem?_eq_getElem (by simp [HTl.out]; omega)⟩
      obtain ⟨u, c1⟩ := c1
      have hS := hBd.set k (.int .u64 (X : Int))
      rw [u64s_set, HSET.out] at hS
      have HBs := Lib.hid hS
      have HKs := Lib.hid (HKd.out.store h k (fun hl => by have := HH.out; omega) (.int .u64 (X : Int)))
      clear hkd hBd hS HKc HBc HQk
      go_wp2_with fail
      go_roundw
      case rel => exact ⟨k + 1, by omega, by rw [HN.out], by rw [HC'.out], by rw [HD'.out], HBs.out, HKs.out⟩
      case measure => have := HN.out; simp [intOf]; omega
    · have hkk : k = 16 := by omega
      subst hkk
      clear hkl hk
      have hB := HB.out
      rw [List.take_of_length_le (by have := HTl.out; omega), Nat.sub_self, List.replicate_zero, List.append_nil] at hB
      have hB0 := (HB0.out.keeps HK6.out (fun x => x)).keeps HK.out (fun x => x)
      have HBf := Lib.hid hB
      have HBg := Lib.hid hB0
      clear hB hB0 HB
      go_upto_region 12 with fail
      have hTs := HTl.out
      apply wp_region_lit
      refine wpList_load_row rfl 170 (.tmp 7) rfl h rfl 170 _ (0, 0) _ HBf.out Tryd.underlying170 rfl (by rw [HI.out]; simp; omega) ?_
      refine wpList_store_row rfl 170 (.tmp 2) (.tmp 41) rfl g _ rfl rfl 170 _ HBg.out (by rw [HI.out]; simp; omega) (by simp [hTs]) (by simp [Value.oneCell']) ?_
      have hb9 := Blk.rowSet HBg.out (u64s T).toArray
      have hk9 := ((HK0.out.trans HK6.out).trans HK.out).rowSet (g := g) (fun hl => by have := HG.out; omega) (u64s T).toArray
      have HB9 := Lib.hid hb9
      have HK9 := Lib.hid hk9
      clear hb9 hk9
      go_wp2_with fail
      refine bodyPost_ret (results_cell_row rfl _ _ g 170 _ (0, 0) _ rfl HB9.out Tryd.underlying170 rfl (by rw [HI.out]; simp; omega)) rfl ?_
      exact ⟨rfl, HK9.out⟩
end Go.Proofs.YtkllaghfiofnjaaDoor
