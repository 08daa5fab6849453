/- The document's Des. -/
import Derived.Test.YtmelphlgpnmopaaDesE
import Derived.Test.YtmelphlgpnmopaaDesF
import Derived.Test.YtmelphlgpnmopaaDesH
import Derived.Test.YtmelphlgpnmopaaRef1F
namespace Go.Proofs.Ytmelphlgpnmopaa
open Go.RowKit
theorem own_of_blk {w : World} {g : Nat} {e : TypeId} {l : List Value} {n : Nat} (h : Blk w g e l.toArray) (base : Nat) (hb : base ≤ g) (hn : l.length = n) (hm : n ≤ maxLen) : w.ownsRow base e 1 (.slice (some ⟨g, 0, none⟩) n n) n l :=
  ⟨by rw [hn, Nat.mul_one], .inr ⟨g, n, l.toArray, rfl, hb, h, Nat.le_refl _, hm, by simp [hn], by simp [← hn]⟩⟩
theorem half_length (d : Bool) : (Pure.desHalf d).length = 28 := by cases d <;> rfl
theorem half_range (d : Bool) (k : Nat) (h : k < (Pure.desHalf d).length) : 1 ≤ (Pure.desHalf d).getD k 0 ∧ (Pure.desHalf d).getD k 0 ≤ 56 := by
  have h1 : ∀ d : Bool, ∀ k < 28, 1 ≤ (Pure.desHalf d).getD k 0 ∧ (Pure.desHalf d).getD k 0 ≤ 56 := by decide
  exact h1 d k (by rw [half_length] at h; exact h)
theorem ip_range (k : Nat) (h : k < Pure.desIp.length) : 1 ≤ Pure.desIp.getD k 0 ∧ Pure.desIp.getD k 0 ≤ 64 := by
  have h1 : ∀ k < 64, 1 ≤ Pure.desIp.getD k 0 ∧ Pure.desIp.getD k 0 ≤ 64 := by decide
  exact h1 k (by rw [Pure.ip_length] at h; exact h)
theorem wp_world {P : Program} {c : Code} {Q : Exit → Act → World → Prop} {a : Act} {w w' : World} (h : w' = w) (hh : c.wp P Q a w') : c.wp P Q a w := h ▸ hh
set_option maxRecDepth 100000 in
set_option maxHeartbeats 2000000 in
theorem docdes_bad (F G : Nat → Prop) (x y : Value) (key block : List UInt8) (w : World) (hx : Row w F 1 x key.length (u8s key)) (hy : Row w G 1 y block.length (u8s block)) (hbad : key.length ≠ 7 ∨ block.length ≠ 8) :
    Calls Try.prog 9 #[x, y] w fun e w' => e = .returned (.tuple #[.slice none 0 0, .int .i64 1]) ∧ w' = w := by
  obtain ⟨A, cA, rfl, hc⟩ := hx.form
  obtain ⟨B, cB, rfl, hd⟩ := hy.form
  clear hx hy
  obtain ⟨L, hL⟩ : ∃ L, L = key.length := ⟨_, rfl⟩
  obtain ⟨M, hM⟩ : ∃ M, M = block.length := ⟨_, rfl⟩
  rw [← hL] at hbad hc ⊢
  rw [← hM] at hbad hd ⊢
  clear hL hM hc hd
  by_cases h7 : L = 7
  · subst h7
    have h8 : ((M : Int) != 8) = true := by rw [bne_iff_ne]; omega
    clear hbad
    go_enter Try.func9, Try.ntmps9
    go_wp2
    go_ret2
    exact ⟨rfl, rfl⟩
  · have h8 : ((L : Int) != 7) = true := by rw [bne_iff_ne]; omega
    clear hbad h7
    go_enter Try.func9, Try.ntmps9
    go_wp2
    go_ret2
    exact ⟨rfl, rfl⟩
set_option maxRecDepth 1000000 in
set_option maxHeartbeats 8000000 in
theorem docdes_ok (F G : Nat → Prop) (x y : Value) (key block : List UInt8) (w : World) (hx : Row w F 1 x 7 (u8s key)) (hy : Row w G 1 y 8 (u8s block)) (hk : key.length = 7) (hb : block.length = 8) (hF : ∀ b, F b → b < w.heap.size) (hG : ∀ b, G b → b < w.heap.size) :
    Calls Try.prog 9 #[x, y] w fun e w' => ∃ u, e = .returned (.tuple #[u, .int .i64 0]) ∧ w'.ownsRow w.heap.size 5 1 u 8 (u8s (Pure.des key block)) ∧ Below w.heap.size w w' := by
  obtain ⟨A, cA, rfl, hc⟩ := hx.form
  obtain ⟨B, cB, rfl, hd⟩ := hy.form
  have HX := Lib.hid hx
  have HY := Lib.hid hy
  obtain ⟨kb, hkb⟩ : ∃ kb, kb = Pure.bitsOfBytes true key := ⟨_, rfl⟩
  obtain ⟨xb, hxb⟩ : ∃ xb, xb = Pure.bitsOfBytes true block := ⟨_, rfl⟩
  have hkl : kb.length = 56 := by rw [hkb, Pure.bitsOfBytes_length, hk]
  have hxl : xb.length = 64 := by rw [hxb, Pure.bitsOfBytes_length, hb]
  have HBk : ∀ w', Below w.heap.size w w' → Calls Try.prog 20 #[.slice A 7 cA] w' fun e w'' => ∃ u, e = .returned u ∧ w''.ownsRow w'.heap.size 5 1 u 56 (u8s (Pure.bb kb)) ∧ Below w'.heap.size w' w'' := fun w' hb' => by
    have h := bits_any F (.slice A 7 cA) key w' (by rw [hk]; exact hx.keeps (Keeps.new hb') (fun _ _ h => h)) (fun b hb => Nat.lt_of_lt_of_le (hF b hb) hb'.size) (by omega)
    rw [hk, ← hkb] at h
    exact h
  have HBx : ∀ w', Below w.heap.size w w' → Calls Try.prog 20 #[.slice B 8 cB] w' fun e w'' => ∃ u, e = .returned u ∧ w''.ownsRow w'.heap.size 5 1 u 64 (u8s (Pure.bb xb)) ∧ Below w'.heap.size w' w'' := fun w' hb' => by
    have h := bits_any G (.slice B 8 cB) block w' (by rw [hb]; exact hy.keeps (Keeps.new hb') (fun _ _ h => h)) (fun b hb => Nat.lt_of_lt_of_le (hG b hb) hb'.size) (by omega)
    rw [hb, ← hxb] at h
    exact h
  have HBK := Lib.hid HBk
  have HBX := Lib.hid HBx
  have HKl := Lib.hid hkl
  have HXl := Lib.hid hxl
  have HKb := Lib.hid hkb
  have HXb := Lib.hid hxb
  clear hx hy hkb hxb hkl hxl HBk HBx hF hG HX HY
  go_enter Try.func9, Try.ntmps9
  go_wp2_with fail
  refine (HBK.out w (Below.refl _ w)).mono ?_
  rintro e w1 ⟨u1, rfl, hu1, hb1⟩
  have HU1 := Lib.hid (Row.of_own hu1).lo
  have HK1 := Lib.hid hb1
  have HT := Lib.hid (half_any false w1)
  obtain ⟨A1, c1, rfl⟩ := own_form hu1
  clear hu1 hb1
  go_wp2_with fail
  refine HT.out.mono ?_
  rintro e w2 ⟨u2, rfl, hu2, hb2⟩
  have HU12 := Lib.hid (HU1.out.go hb2)
  have HU2 := Lib.hid (Row.of_own hu2).lo
  have HK2 := Lib.hid (HK1.out.trans (hb2.mono HK1.out.size))
  obtain ⟨A2, c2, rfl⟩ := own_form hu2
  have HPk := Lib.hid (pick_any (fun b => b < w2.heap.size) (fun b => b < w2.heap.size) (.slice A1 56 c1) (.slice A2 28 c2) kb (Pure.desHalf false) w2 (by rw [HKl.out]; exact HU12.out) (by rw [half_length]; exact HU2.out) (fun k hk => by rw [HKl.out]; exact half_range false k hk) (by rw [half_length]; omega) (by rw [HKl.out]; omega))
  clear HT HU1 HK1 hu2 hb2
  go_wp2_with fail
  refine HPk.out.mono ?_
  rintro e w3 ⟨u3, rfl, hu3, hb3⟩
  rw [half_length] at hu3
  have HU3 := Lib.hid (Row.of_own hu3).lo
  have HK3 := Lib.hid (HK2.out.trans (hb3.mono HK2.out.size))
  obtain ⟨A3, c3, rfl⟩ := own_form hu3
  clear HPk HU12 HU2 HK2 hu3 hb3
  go_wp2_with fail
  refine (HBK.out w3 HK3.out).mono ?_
  rintro e w4 ⟨u4, rfl, hu4, hb4⟩
  have HU34 := Lib.hid (HU3.out.go hb4)
  have HU4 := Lib.hid (Row.of_own hu4).lo
  have HK4 := Lib.hid (HK3.out.trans (hb4.mono HK3.out.size))
  have HT := Lib.hid (half_any true w4)
  obtain ⟨A4, c4, rfl⟩ := own_form hu4
  clear hu4 hb4 HU3 HK3
  go_wp2_with fail
  refine HT.out.mono ?_
  rintro e w5 ⟨u5, rfl, hu5, hb5⟩
  have HU35 := Lib.hid (HU34.out.go hb5)
  have HU45 := Lib.hid (HU4.out.go hb5)
  have HU5 := Lib.hid (Row.of_own hu5).lo
  have HK5 := Lib.hid (HK4.out.trans (hb5.mono HK4.out.size))
  obtain ⟨A5, c5, rfl⟩ := own_form hu5
  have HPk := Lib.hid (pick_any (fun b => b < w5.heap.size) (fun b => b < w5.heap.size) (.slice A4 56 c4) (.slice A5 28 c5) kb (Pure.desHalf true) w5 (by rw [HKl.out]; exact HU45.out) (by rw [half_length]; exact HU5.out) (fun k hk => by rw [HKl.out]; exact half_range true k hk) (by rw [half_length]; omega) (by rw [HKl.out]; omega))
  clear HT HU34 HU4 HK4 hu5 hb5
  go_wp2_with fail
  refine HPk.out.mono ?_
  rintro e w6 ⟨u6, rfl, hu6, hb6⟩
  rw [half_length] at hu6
  have HU36 := Lib.hid (HU35.out.go hb6)
  have HU6 := Lib.hid (Row.of_own hu6).lo
  have HK6 := Lib.hid (HK5.out.trans (hb6.mono HK5.out.size))
  obtain ⟨A6, c6, rfl⟩ := own_form hu6
  clear HPk HU35 HU45 HU5 HK5 hu6 hb6
  go_wp2_with fail
  obtain ⟨b9, hb9⟩ : ∃ b9, b9 = w6.heap.size := ⟨_, rfl⟩
  obtain ⟨w7, hw7⟩ : ∃ w7, w7 = w6.alloc (.cells (ints Pure.desStarts).toArray 3) := ⟨_, rfl⟩
  have e7 : w6.alloc (.cells #[.int .i64 58, .int .i64 60, .int .i64 62, .int .i64 64, .int .i64 57, .int .i64 59, .int .i64 61, .int .i64 63] 3) = w7 := hw7.symm
  rw [e7, ← hb9]
  have hB7 : Blk w7 b9 3 (ints Pure.desStarts).toArray := by rw [hw7, hb9]; exact Blk.new w6 _ _
  have hb7 : Below w6.heap.size w6 w7 := by rw [hw7]; exact Keeps.to_below ((Keeps.refl _ w6).alloc _)
  have HU37 := Lib.hid (HU36.out.go hb7)
  have HU67 := Lib.hid (HU6.out.go hb7)
  have HK7 := Lib.hid (HK6.out.trans (hb7.mono HK6.out.size))
  clear hw7 e7 hb7 HU36 HU6 HK6 hb9
  refine desIp_loop _ _ _ _ _ _ _ _ _ _ _ _ _ _ _ _ _ _ _ _ _ _ _ _ _ _ _ _ _ _ _ _ _ _ _ _ _ _ _ _ _ _ _ _ _ _ _ _ _ _ _ _ _ _ _ _ _ _ _ _ _ _ _ _ _ _ _ _ _ _ _ _ _ _ _ _ _ _ _ _ _ _ _ _ _ _ _ _ _ _ _ _ _ _ _ _ _ _ _ _ _ _ _ _ _ _ _ _ _ _ _ _ _ _ _ _ _ _ _ _ _ _ _ _ _ _ _ _ _ _ _ _ _ _ _ _ _ _ _ _ _ _ _ _ _ _ _ _ _ _ _ _ _ _ _ _ _ _ _ _ _ _ _ _ _ _ _ _ _ _ _ _ _ _ _ _ _ _ _ _ _ _ _ _ _ _ _ _ _ _ _ _ _ _ _ _ _ _ _ _ _ _ _ _ _ _ _ _ _ _ _ _ _ _ _ _ _ _ _ _ _ _ _ _ _ _ _ _ _ b9 w7 hB7 _ (fun _ _ d _ _ h => by cases d <;> exact h) ?_
  intros
  rename_i vip w8 hip hb8
  have HU38 := Lib.hid (HU37.out.go hb8)
  have HU68 := Lib.hid (HU67.out.go hb8)
  have HIp := Lib.hid (Row.of_own hip).lo
  have HK8 := Lib.hid (HK7.out.trans (hb8.mono HK7.out.size))
  obtain ⟨Ai, ci, rfl⟩ := own_form hip
  clear hip hb8 hB7 HU37 HU67 HK7
  go_wp2_with fail
  refine (HBX.out w8 HK8.out).mono ?_
  rintro e w9 ⟨u9, rfl, hu9, hb9⟩
  have HU39 := Lib.hid (HU38.out.go hb9)
  have HU69 := Lib.hid (HU68.out.go hb9)
  have HIp9 := Lib.hid (HIp.out.go hb9)
  have HU9 := Lib.hid (Row.of_own hu9).lo
  have HK9 := Lib.hid (HK8.out.trans (hb9.mono HK8.out.size))
  obtain ⟨A9, c9, rfl⟩ := own_form hu9
  have HPk := Lib.hid (pick_any (fun b => b < w9.heap.size) (fun b => b < w9.heap.size) (.slice A9 64 c9) (.slice Ai 64 ci) xb Pure.desIp w9 (by rw [HXl.out]; exact HU9.out) (by rw [Pure.ip_length]; exact HIp9.out) (fun k hk => by rw [HXl.out]; exact ip_range k hk) (by rw [Pure.ip_length]; omega) (by rw [HXl.out]; omega))
  clear HIp HU38 HU68 HK8 hu9 hb9
  go_wp2_with fail
  refine HPk.out.mono ?_
  rintro e w10 ⟨u10, rfl, hu10, hb10⟩
  rw [Pure.ip_length] at hu10
  have HU3a := Lib.hid (HU39.out.go hb10)
  have HU6a := Lib.hid (HU69.out.go hb10)
  have HIpa := Lib.hid (HIp9.out.go hb10)
  have HU10 := Lib.hid (Row.of_own hu10).lo
  have HKa := Lib.hid (HK9.out.trans (hb10.mono HK9.out.size))
  obtain ⟨Ax, cx, hform, hcx⟩ := HU10.out.form
  subst hform
  obtain ⟨bX, oX, rfl, _, _⟩ := HU10.out.cellAt (by omega)
  have hcx2 : ¬ cx = 32 := by omega
  clear HPk HU39 HU69 HIp9 HU9 HK9 hu10 hb10
  go_upto_region 12 with fail
  go_quiet (fail)
  go_wp2_with fail
  obtain ⟨wE, hwE⟩ : ∃ wE, wE = ((w10.drewN nq).alloc (.cells (ints Pure.desPc2).toArray 3)).alloc (.cells (ints Pure.desP).toArray 3) := ⟨_, rfl⟩
  refine wp_world hwE ?_
  obtain ⟨bE, hbE⟩ : ∃ bE, bE = w10.heap.size := ⟨_, rfl⟩
  rw [← hbE]
  have hP1 : Blk wE bE 3 (ints Pure.desPc2).toArray := by
    rw [hwE, hbE]
    have := Blk.new (w10.drewN nq) 3 (ints Pure.desPc2).toArray
    exact this.alloc _
  have hP2 : Blk wE (bE + 1) 3 (ints Pure.desP).toArray := by
    rw [hwE, hbE]
    have := Blk.new ((w10.drewN nq).alloc (.cells (ints Pure.desPc2).toArray 3)) 3 (ints Pure.desP).toArray
    rw [World.size_alloc] at this
    exact this
  have hkE : Below w10.heap.size w10 wE := by rw [hwE]; exact Keeps.to_below ((((Keeps.refl _ w10).drewN nq).alloc _).alloc _)
  have hrl := HU10.out.take1 32 (by omega)
  have hrr := HU10.out.cut1 32 32 (by omega)
  rw [← List.map_take, Pure.bb_take] at hrl
  rw [← List.map_drop, ← List.map_take, Pure.bb_drop, Pure.bb_take] at hrr
  have hpl : (Pure.pick xb Pure.desIp).length = 64 := by rw [Pure.pick_length, Pure.ip_length]
  rw [List.take_of_length_le (by rw [List.length_drop, hpl]; omega)] at hrr
  have HUl := Lib.hid (hrl.go hkE)
  have HUr := Lib.hid ((show Row w10 (fun b => b < w10.heap.size) 1 (.slice (some ⟨bX, oX + 32, none⟩) 32 (cx - 32)) 32 (u8s (Pure.bb ((Pure.pick xb Pure.desIp).drop 32))) by simpa [addr_add] using hrr).go hkE)
  have HU3e := Lib.hid (HU3a.out.go hkE)
  have HU6e := Lib.hid (HU6a.out.go hkE)
  have HIpe := Lib.hid (HIpa.out.go hkE)
  have HKe := Lib.hid (HKa.out.trans (hkE.mono HKa.out.size))
  have HP1 := Lib.hid hP1
  have HP2 := Lib.hid hP2
  clear hwE hP1 hP2 hkE hrl hrr hpl HU10 HU3a HU6a HIpa HKa hbE
  refine desRounds_loop _ _ _ _ _ _ _ _ _ _ _ _ _ _ _ _ _ _ _ _ _ _ _ _ _ _ _ _ _ _ _ _ _ _ _ _ _ _ _ _ _ _ _ _ _ _ _ _ _ _ _ _ _ _ _ _ _ _ _ _ _ _ _ _ _ _ _ _ _ _ _ _ _ _ _ _ _ _ _ _ _ _ _ _ _ _ _ _ _ _ _ _ _ _ _ _ _ _ _ _ _ _ _ _ _ _ _ _ _ _ _ _ _ _ _ _ _ _ _ _ _ _ _ _ _ _ _ _ _ _ _ _ _ _ _ _ _ _ _ _ _ _ _ _ _ _ _ _ _ _ _ _ _ _ _ _ _ _ _ _ _ _ _ _ _ _ _ _ _ _ _ _ _ _ _ _ _ _ _ _ _ _ _ _ _ _ _ _ _ _ _ _ _ _ _ _ _ _ _ _ _ _ _ _ _ _ _ _ _ _ _ _ _ _ _ _ _ _ _ _ _ _ _ _ _ (.slice A3 28 c3) (.slice A6 28 c6) (.slice (some ⟨bX, oX, none⟩) 32 cx) (.slice (some ⟨bX, oX + 32, none⟩) 32 (cx - 32)) bE (bE + 1) (Pure.desStart kb xb) (Pure.Good.start kb xb) _ _ _ _ wE HP1.out HP2.out HU3e.out HU6e.out HUl.out HUr.out _ (fun _ _ d _ _ h => by cases d <;> exact h) ?_
  intros
  rename_i vc' vd' vl' vr' w11 hl hr hb11
  obtain ⟨S, hS⟩ : ∃ S, S = Pure.desRounds (Pure.desStart kb xb) 16 := ⟨_, rfl⟩
  rw [← hS] at hl hr
  have hSg : Pure.Good S := by rw [hS]; exact (Pure.Good.start kb xb).rounds 16
  have HL := Lib.hid hl
  have HR := Lib.hid hr
  have HIpf := Lib.hid (HIpe.out.go hb11)
  have HKf := Lib.hid (HKe.out.trans (hb11.mono HKe.out.size))
  obtain ⟨Al, cl, rfl, hcl⟩ := hl.form
  obtain ⟨Ar, cr, rfl, hcr⟩ := hr.form
  have HSS := Lib.hid hS
  have HSg := Lib.hid hSg
  have hlr : (Pure.bb S.r).length = 32 := by rw [Pure.bb_length, hSg.r]
  have hll : (Pure.bb S.l).length = 32 := by rw [Pure.bb_length, hSg.l]
  have HCp := Lib.hid (copy_any (fun b => b < w11.heap.size) _ (Pure.bb S.r) w11 (by rw [hlr]; exact HR.out) (fun _ h => h) (by rw [hlr]; omega))
  have HLr := Lib.hid hlr
  have HLl := Lib.hid hll
  clear hl hr hb11 HUl HUr HU3e HU6e HIpe HKe HP1 HP2 hS hSg hlr hll
  go_wp2_with fail
  refine HCp.out.mono ?_
  rintro e w12 ⟨u12, rfl, hu12, hb12⟩
  rw [HLr.out] at hu12
  obtain ⟨A12, c12, rfl⟩ := own_form hu12
  have HU12 := Lib.hid hu12
  have HL12 := Lib.hid (HL.out.go hb12)
  have HB12 := Lib.hid hb12
  have hz12 := hb12.size
  clear HCp hu12 hb12 HR
  go_wp2_with (at_builtin; refine stopHere ?_)
  unfold Hid
  refine wp_append_u8 rfl (.tmp 206) (.tmp 207) rfl w11.heap.size (.slice A12 32 c12) 32 (Pure.bb S.r) HLr.out rfl HU12.out _ _ (Pure.bb S.l) rfl (by rw [HLl.out]; exact HL12.out) (by rw [HLl.out]; omega) hz12 ?_
  intro v13 w13 hown13 hg13 hat13
  have hb13 : Below w11.heap.size w11 w13 := HB12.out.grown hg13 hz12 (fun k hk => ownsRow_ge HU12.out k hk)
  have hr13 : Row w13 (fun b => b < w13.heap.size) 1 v13 64 (u8s (Pure.bb (S.r ++ S.l))) := by
    have h := (Row.of_own hown13).lo
    rw [← Pure.bb_append] at h
    rw [Pure.bb_length, List.length_append, HSg.out.r, HSg.out.l] at h
    exact h
  have HY13 := Lib.hid hr13
  have HIp13 := Lib.hid (HIpf.out.go hb13)
  have HK13 := Lib.hid (HKf.out.trans (hb13.mono HKf.out.size))
  obtain ⟨A13, c13, rfl, hc13⟩ := hr13.form
  clear HU12 HL12 HB12 hown13 hg13 hat13 hb13 hr13 HIpf HKf HL hz12
  go_wp2_with (at_make; refine stopHere ?_)
  unfold Hid
  refine wpList_make_u8 rfl _ _ rfl 64 .i64 .i64 rfl rfl (by omega) ?_
  intro w14 hX14 hk14 hs14
  obtain ⟨bn, hbn⟩ : ∃ bn, bn = w13.heap.size := ⟨_, rfl⟩
  rw [← hbn] at hX14 hs14 ⊢
  have HX14 := Lib.hid hX14
  have HK14 := Lib.hid hk14
  have HS14 := Lib.hid hs14
  have HBn := Lib.hid hbn
  clear hX14 hk14 hs14 hbn
  go_wp2_with fail
  obtain ⟨w15, hw15⟩ : ∃ w15, w15 = w14.alloc (.cells #[.slice (some ⟨bn, 0, none⟩) 64 64, .int .i64 ((0 : Nat) : Int), .bool true] 56) := ⟨_, rfl⟩
  refine wp_world hw15 ?_
  obtain ⟨bz, hbz⟩ : ∃ bz, bz = w14.heap.size := ⟨_, rfl⟩
  rw [← hbz]
  have hZ15 : Blk w15 bz 56 #[.slice (some ⟨bn, 0, none⟩) 64 64, .int .i64 ((0 : Nat) : Int), .bool true] := by rw [hw15, hbz]; exact Blk.new w14 _ _
  have hk1 : Keeps nobody w14 w15 := by rw [hw15]; exact (Keeps.refl _ w14).alloc _
  have hX15 : Blk w15 bn 5 (u8s (Pure.bb (Pure.desPut (S.r ++ S.l) 0))).toArray := by
    have e : Pure.bb (Pure.desPut (S.r ++ S.l) 0) = List.replicate 64 0 := by simp [Pure.desPut, Pure.bb, Pure.bb1]
    rw [e]
    exact HX14.out.keeps hk1 (fun h => h)
  have hk15 : Keeps nobody w13 w15 := HK14.out.trans hk1
  have hyl : (S.r ++ S.l).length = 64 := by rw [List.length_append, HSg.out.r, HSg.out.l]
  have hzn : bz ≠ bn := by have := HS14.out; omega
  have HK15 := Lib.hid (Below.quiet HK13.out hk15 HK13.out.size)
  have hwn : w.heap.size ≤ bn := by have := HK13.out.size; have := HBn.out; omega
  have HZn := Lib.hid hzn
  have HZ15 := Lib.hid hZ15
  have hip := HIp13.out.keeps hk15 (fun _ _ h => h)
  have hy15 := HY13.out.keeps hk15 (fun _ _ h => h)
  have hbn13 : ¬ bn < w13.heap.size := by have := HBn.out; omega
  clear hw15 hk1 hk15 hbz HX14 HK14 HS14 HK13 HIp13 HY13 HBn
  refine desPut_loop _ _ _ _ _ _ _ _ _ _ _ _ _ _ _ _ _ _ _ _ _ _ _ _ _ _ _ _ _ _ _ _ _ _ _ _ _ _ _ _ _ _ _ _ _ _ _ _ _ _ _ _ _ _ _ _ _ _ _ _ _ _ _ _ _ _ _ _ _ _ _ _ _ _ _ _ _ _ _ _ _ _ _ _ _ _ _ _ _ _ _ _ _ _ _ _ _ _ _ _ _ _ _ _ _ _ _ _ _ _ _ _ _ _ _ _ _ _ _ _ _ _ _ _ _ _ _ _ _ _ _ _ _ _ _ _ _ _ _ _ _ _ _ _ _ _ _ _ _ _ _ _ _ _ _ _ _ _ _ _ _ _ _ _ _ _ _ _ _ _ _ _ _ _ _ _ _ _ _ _ _ _ _ _ _ _ _ _ _ _ _ _ _ _ _ _ _ _ _ _ _ _ _ _ _ _ _ _ _ _ _ _ _ _ _ _ _ _ _ _ _ _ _ _ _ _ _ _ Ai A13 ci c13 (S.r ++ S.l) hyl bz bn hzn (fun b => b < w13.heap.size) (fun b => b < w13.heap.size) hbn13 hbn13 w15 hip hy15 hZ15 hX15 _ (fun _ _ d _ _ h => by cases d <;> exact h) ?_
  clear hip hy15 hZ15 hX15
  intros
  rename_i w16 hX16 hk16
  have hZ16 := HZ15.out.keeps hk16 (fun e => HZn.out e)
  have hbits : Pure.desPut (S.r ++ S.l) 64 = Pure.bitsOfBytes true (Pure.des key block) := by
    rw [Pure.des_bits, ← HKb.out, ← HXb.out, HSS.out]
    rfl
  have hown : w16.ownsRow 0 5 1 (.slice (some ⟨bn, 0, none⟩) 64 64) (Pure.desPut (S.r ++ S.l) 64).length (bitsV (Pure.desPut (S.r ++ S.l) 64)) := by
    rw [bitsV_bb, Pure.desPut_length]
    exact own_of_blk hX16 0 (Nat.zero_le _) (by rw [List.length_map, Pure.bb_length, Pure.desPut_length]) (by unfold maxLen; decide)
  have hO : RefO w16 bz (.slice (some ⟨bn, 0, none⟩) 64 64) true (Pure.desPut (S.r ++ S.l) 64) 0 := ⟨hZ16, hown, by rw [Pure.desPut_length]; omega⟩
  have HOut := Lib.hid (refOut_any bz _ true (Pure.desPut (S.r ++ S.l) 64) 0 (Pure.des key block) w16 hO (by rw [Pure.desPut_length]; omega) (by
    rw [Pure.desPut_length, show Pure.pad 64 = 0 from rfl, List.replicate_zero, List.append_nil]
    exact hbits))
  have HK16 := Lib.hid (Below.keeps HK15.out hk16 HK15.out.size (fun i hi => by have hi : i = bn := hi; omega))
  clear hX16 hk16 hZ16 hbits hown hO HZ15 HK15
  go_wp2_with fail
  refine HOut.out.mono ?_
  rintro e w17 ⟨u, rfl, hu, hb17⟩
  rw [Pure.des_length] at hu
  have HU := Lib.hid (ownsRow_base hu HK16.out.size)
  have HK17 := Lib.hid (HK16.out.trans (hb17.mono HK16.out.size))
  clear hu hb17 HOut HK16
  go_wp2
  go_ret2
  exact ⟨u, rfl, HU.out, HK17.out⟩
end Go.Proofs.Ytmelphlgpnmopaa
