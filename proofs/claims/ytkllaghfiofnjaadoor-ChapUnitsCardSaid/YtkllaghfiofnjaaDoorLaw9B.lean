/- The law ChapUnits. -/
import Derived.Test.YtkllaghfiofnjaaDoorLaw9A
import Derived.Laws.BytesString
namespace Go.Proofs.YtkllaghfiofnjaaDoor
open Go.RowKit
section
variable {w0 wr : World}
theorem docsumL9 {F : Nat → Prop} {x : Value} {bs : List UInt8} (B : Below w0.heap.size w0 wr) (hr : Row wr F 1 x bs.length (u8s bs)) (hF : ∀ b, F b → b < wr.heap.size) (hl : bs.length ≤ 10000000) :
    Calls Tryd.prog 31 #[x] wr fun e w' => ∃ A c, e = .returned (.slice A 16 c) ∧ w'.ownsRow wr.heap.size 5 1 (.slice A 16 c) 16 (u8s (Pure.md4 bs)) ∧ Keeps nobody wr w' ∧ Below w0.heap.size w0 w' :=
  (docmd4_any F x bs wr hF hl hr).mono fun e w' ⟨u, he, hu, hb⟩ => by
    obtain ⟨A, c, rfl⟩ := own_form hu
    exact ⟨A, c, he, hu, Keeps.new hb, B.trans (hb.mono B.size)⟩
end
theorem and127 (c : UInt8) : bits .and .u8 (c.toNat : Int) 127 = (((c &&& 127).toNat : Nat) : Int) := by
  have h := u8_and_nat c.toNat 127 c.toNat_lt (by omega)
  rw [UInt8.toNat_and]
  exact h
theorem and127_lt (c : UInt8) : (c &&& 127).toNat < 128 := by
  rw [UInt8.toNat_and]
  exact Nat.lt_of_le_of_lt Nat.and_le_right (by decide)
/-- One byte as a string. -/
theorem run_string_one (c : UInt8) (w : World) (b : Nat) (h : Blk w b 5 #[.int .u8 c.toNat]) : (convert 25 9 (.slice (some ⟨b, 0, none⟩) 1 1)).run Tryd.prog w = .ok (.string ⟨#[c]⟩) w := by
  rw [run_convert_bytes_string w 25 9 5 _ 1 1 Tryd.underlying25 Tryd.underlying5 Tryd.underlying9]
  have hl := run_loadCells_list (P := Tryd.prog) (w := w) ⟨b, 0, none⟩ [.int .u8 c.toNat] (fun j v hj => by
    rcases j with _ | j
    · simp at hj
      subst hj
      rw [addr_add, h.cell]; rfl
    · simp at hj)
  have := run_bytesToString (P := Tryd.prog) w ⟨b, 0, none⟩ 1 1 [(c.toNat : Int)] hl
  rw [this]
  simp
  rfl
set_option maxRecDepth 100000 in
set_option maxHeartbeats 2000000 in
theorem chapUnits_walk (a0 : Option Addr) (len0 cap0 : Nat) (z0 : List Int) (w : World) (E : Env w) (w0 : IsRow .u8 w a0 len0 cap0 z0) :
    Calls Tryd.prog 11 #[.slice a0 len0 cap0] w fun e w' => e = .returned (.bool true) ∧ Below w.heap.size w w' := by
  obtain ⟨bs, hbl, hr⟩ := w0.bytes
  rw [← hbl] at hr ⊢
  have HR := Lib.hid hr.strong
  clear hr w0 hbl
  go_enter Tryd.func11, Tryd.ntmps11
  go_wp2_with fail
  refine (awake_any w E).mono ?_
  rintro e w1 ⟨rfl, hb1⟩
  have H1 := Lib.hid hb1
  clear hb1
  by_cases hl : (bs.length : Int) > 256
  · go_wp2
    go_ret
    exact ⟨rfl, H1.out⟩
  · have hl2 : bs.length ≤ 256 := by omega
    have R1 := Lib.hid (HR.out.keeps (Keeps.new H1.out) (fun _ _ h => h))
    obtain ⟨cs, hcs⟩ : ∃ cs, cs = bs.map (· &&& 127) := ⟨_, rfl⟩
    have hcl : cs.length = bs.length := by rw [hcs]; simp
    have hca : ∀ k, k < bs.length → cs.getD k 0 = bs.getD k 0 &&& 127 := by
      intro k hk
      rw [hcs, List.getD_eq_getElem?_getD, List.getElem?_map, List.getElem?_eq_getElem hk, List.getD_eq_getElem?_getD, List.getElem?_eq_getElem hk]; rfl
    have hcp : ∀ c ∈ cs, c.toNat < 128 := by
      intro c hc
      rw [hcs] at hc
      obtain ⟨b, _, rfl⟩ := List.mem_map.1 hc
      exact and127_lt b
    have HCA := Lib.hid hca
    have HCP := Lib.hid hcp
    clear hcs hca hcp
    go_wp2_with fail
    go_loopw [3, 4, 5] (fun s v i wr => ∃ (k : Nat) (S : ByteArray), k ≤ bs.length ∧ i = .int .i64 (k : Int) ∧ s = .string S ∧ S.data.toList = cs.take k ∧ wr.ownsRow w1.heap.size 5 1 v (2 * k) (u8s ((cs.take k).flatMap fun c => [c, 0])) ∧ Below w1.heap.size w1 wr) (fun _ _ i _ => bs.length - (intOf i).toNat)
    case atStart => exact ⟨0, ⟨#[]⟩, by omega, rfl, rfl, rfl, World.ownsRow_nil _ _ _ _, Below.refl _ _⟩
    case round =>
      obtain ⟨k, S, hk, rfl, rfl, hS, hW, hK⟩ := hrel
      have HS := Lib.hid hS
      have HW := Lib.hid hW
      have HK := Lib.hid hK
      obtain ⟨A2, c2, rfl⟩ := own_form hW
      by_cases hkl : k < bs.length
      · have i0 : (0 : Int) ≤ (k : Int) := by omega
        have i1 : (k : Int) < (bs.length : Int) := by omega
        obtain ⟨bx, ox, rfl, _, hcx⟩ := (R1.out.keeps (Keeps.new hK) (fun _ _ h => h)).cellAt (by omega)
        have cx := hcx k _ (u8s_at bs k hkl)
        have ha := and127 (bs.getD k 0)
        rw [← HCA.out k hkl] at ha
        obtain ⟨B, hB⟩ : ∃ B, B = (bs.getD k 0).toNat := ⟨_, rfl⟩
        obtain ⟨c, hc⟩ : ∃ c, c = cs.getD k 0 := ⟨_, rfl⟩
        rw [← hB, ← hc] at ha
        rw [← hB] at cx
        have HC := Lib.hid hc
        clear hS hW hK hcx hB hc
        have hcv := run_string_one c (wr.alloc (.cells #[.int .u8 c.toNat] 5)) wr.heap.size (Blk.new _ _ _)
        have hSz : S.size = k := by
          have := congrArg List.length HS.out
          rw [List.length_take, hcl] at this
          simp at this
          omega
        go_wp2_with (at_builtin; refine stopHere ?_)
        unfold Hid
        obtain ⟨wb, hwb⟩ : ∃ wb, wb = wr.alloc (.cells #[.int .u8 c.toNat] 5) := ⟨_, rfl⟩
        rw [← hwb]
        have hkb : Keeps nobody wr wb := by rw [hwb]; exact (Keeps.refl _ wr).alloc _
        have hzb : wb.heap.size = wr.heap.size + 1 := by rw [hwb]; simp
        have hrb := row_new wb [c, 0] _ 2 rfl rfl (by simp)
        rw [hzb] at hrb
        have HWb := Lib.hid (own_quiet HW.out hkb)
        have HKb := Lib.hid (Below.quiet HK.out hkb HK.out.size)
        have hl1 : ((cs.take k).flatMap fun c => [c, 0]).length = 2 * k := by
          have := HW.out.1
          simpa using this
        clear hwb hkb hcv
        have hszb := HKb.out.size
        refine wp_append_u8 rfl (.tmp 30) (.tmp 32) rfl w1.heap.size (.slice A2 (2 * k) c2) (2 * k) _ hl1 rfl (own_grown HWb.out (World.grownBy_alloc wb _ none) (by simp)) _ _ [c, 0] rfl hrb (by simp; omega) (by simp; omega) ?_
        intro v3 w3 hown3 hg3 hat3
        have HB3 := Lib.hid (show Below w1.heap.size w1 w3 from ((HKb.out.alloc HKb.out.size _).grown hg3 (by simp; omega) (fun k hk => ownsRow_ge HWb.out k hk)))
        have e1 : ((cs.take k).flatMap fun c => [c, 0]) ++ [c, 0] = (cs.take (k + 1)).flatMap fun c => [c, 0] := by
          rw [take_snoc cs 0 k (by omega), List.flatMap_append, HC.out]; simp
        rw [e1] at hown3
        have e2 : ((cs.take (k + 1)).flatMap fun c => [c, 0]).length = 2 * (k + 1) := by rw [← e1, List.length_append, hl1]; rfl
        rw [e2] at hown3
        have HO3 := Lib.hid hown3
        have HS3 := Lib.hid (show (S ++ ⟨#[c]⟩ : ByteArray).data.toList = cs.take (k + 1) by
          rw [take_snoc cs 0 k (by omega), ← HS.out, ← HC.out]; simp)
        clear hown3 hg3 hat3 e1 e2 hl1 hrb hzb
        go_wp2_with fail
        go_roundw
        case rel => exact ⟨k + 1, _, by omega, by go_num, rfl, HS3.out, HO3.out, HB3.out⟩
        case measure => simp [intOf]; omega
      · have hkk : k = bs.length := by omega
        subst hkk
        have hS2 : S.data.toList = cs := by rw [HS.out]; exact List.take_of_length_le (by omega)
        have hW2 := HW.out
        rw [List.take_of_length_le (show cs.length ≤ bs.length by omega)] at hW2
        have hp := hash_plain cs HCP.out (by omega)
        have hfl : (cs.flatMap fun c => [c, 0]).length = 2 * bs.length := by
          have := hW2.1
          simpa using this
        obtain ⟨U, hU⟩ : ∃ U, U = cs.flatMap fun c => [c, 0] := ⟨_, rfl⟩
        rw [← hU] at hp hfl hW2
        have H1r := Lib.hid (H1.out.trans (HK.out.mono H1.out.size))
        have HP := Lib.hid (hashL (w0 := w) E H1r.out hS2 (by omega))
        rw [hp] at HP
        have HUr := Lib.hid hW2
        clear hS hW hK hS2 hW2 hp hU hkl hk HS HW HK
        go_wp2_with fail
        refine HP.out.mono ?_
        rintro e w3 ⟨A3, c3, rfl, hu3, hk3, hb3⟩
        have hu3' : w3.ownsRow wr.heap.size 5 1 (.slice A3 (Pure.md4 U).length c3) (Pure.md4 U).length (u8s (Pure.md4 U)) := hu3
        have hUw := own_quiet HUr.out hk3
        rw [← hfl] at hUw
        have HD := Lib.hid (docsumL9 (w0 := w) hb3 (Row.of_own hUw) (fun b hb => ownsRow_lt hUw b hb) (by omega))
        have HU3 := Lib.hid hu3'
        rw [hfl] at HD
        clear hu3 hu3' hk3 hb3 hUw HP HUr
        go_wp2_with fail
        refine HD.out.mono ?_
        rintro e w4 ⟨A4, c4, rfl, hu4, hk4, hb4⟩
        have e16 : (Pure.md4 U).length = 16 := by have := hu4.1; simpa using this
        have hu3 := HU3.out
        rw [e16] at hu3
        have HSM := Lib.hid (sameY (w0 := w) hb4 (Row.of_own (own_quiet hu3 hk4)) (Row.of_own hu4) e16 rfl)
        rw [e16]
        clear hu4 hk4 hb4 hu3 HU3 HD
        go_wp2_with fail
        refine HSM.out.mono ?_
        rintro e w5 ⟨rfl, _, hb5⟩
        have H5 := Lib.hid hb5
        clear hb5 HSM
        go_wp2
        go_ret
        exact ⟨rfl, H5.out⟩
end Go.Proofs.YtkllaghfiofnjaaDoor
