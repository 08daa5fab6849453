/- The document's Units: a secret's units. -/
import Derived.Test.YtkllaghfiofnjaaDoorChapA
import Derived.Test.YtkllaghfiofnjaaDoorLawL
namespace Go.Proofs.YtkllaghfiofnjaaDoor
open Go.RowKit
set_option maxRecDepth 100000 in
set_option maxHeartbeats 4000000 in
theorem units_any (s : ByteArray) (l : List UInt8) (hl : s.data.toList = l) (hsz : l.length ≤ 1000000) (w : World) :
    Calls Tryd.prog 51 #[.string s] w fun e w' => ∃ v, e = .returned (.tuple #[v, .int .i64 (((Pure.secret l).1 : Nat) : Int)]) ∧ w'.ownsRow w.heap.size 5 1 v (Pure.secret l).2.length (u8s (Pure.secret l).2) ∧ Below w.heap.size w w' := by
  have hs : s.size = l.length := by rw [← hl]; simp
  have HL := Lib.hid hl
  have HSZ := Lib.hid hs
  clear hl
  go_enter Tryd.func51, Tryd.ntmps51
  go_wp2_with fail
  go_loopw [4, 5] (fun v i wr => ∃ (k : Nat) (acc : List UInt8), k ≤ l.length ∧ i = .int .i64 (k : Int) ∧ wr.ownsRow w.heap.size 5 1 v acc.length (u8s acc) ∧ acc.length ≤ 4 * k ∧ Pure.units l = Pure.unitsFrom (l.drop k) acc ∧ Below w.heap.size w wr) (fun _ i _ => l.length - (intOf i).toNat)
  case atStart => exact ⟨0, [], by omega, rfl, World.ownsRow_nil _ _ _ _, by simp, rfl, Below.refl _ _⟩
  case round =>
    obtain ⟨k, acc, hk, rfl, hW, hal, hU, hK⟩ := hrel
    have HW := Lib.hid hW
    have HU := Lib.hid hU
    have HK := Lib.hid hK
    obtain ⟨A2, c2, rfl⟩ := own_form hW
    clear hW hU hK
    by_cases hkl : k < l.length
    · have i0 : (0 : Int) ≤ (k : Int) := by omega
      have i1 : (k : Int) ≤ (s.size : Int) := by omega
      have i2 : (k : Int) < (l.length : Int) := by omega
      have hne : l.drop k ≠ [] := by
        intro e
        have := congrArg List.length e
        rw [List.length_drop] at this
        simp at this
        omega
      have hx : (s.extract k l.length).data.toList = l.drop k := by
        have e : s = ⟨l.toArray⟩ := by rw [← HL.out]
        have e2 := ByteArray.extract_mk l k l.length
        rw [← e] at e2
        rw [e2]
        simp only
        exact List.take_of_length_le (by rw [List.length_drop]; omega)
      have HLet := Lib.hid (letter_any (s.extract k l.length) (l.drop k) hx (List.length_pos_iff.2 hne) (by rw [List.length_drop]; omega))
      obtain ⟨z1, z2⟩ := Pure.letter_size (l.drop k) hne
      have hn := Pure.letter_num (l.drop k)
      rw [List.length_drop] at z1
      have hbad := fun h => HU.out.trans (Pure.unitsFrom_bad acc hne h)
      have hgo := fun h => HU.out.trans (Pure.unitsFrom_step acc hne h)
      rw [List.drop_drop] at hgo
      obtain ⟨n, hn'⟩ : ∃ n, n = (Pure.letter (l.drop k)).1 := ⟨_, rfl⟩
      obtain ⟨z, hz'⟩ : ∃ z, z = (Pure.letter (l.drop k)).2 := ⟨_, rfl⟩
      rw [← hn'] at hn hgo
      rw [← hz'] at z1 z2 hbad hgo
      have HLet' := Lib.hid (show ∀ w, Calls Tryd.prog 68 #[.string (s.extract k l.length)] w fun e w' => e = .returned (.tuple #[.int .i64 (n : Int), .int .i64 (z : Int)]) ∧ Keeps nobody w w' by rw [hn', hz']; exact HLet.out)
      have HBAD := Lib.hid hbad
      have HGO := Lib.hid hgo
      clear hx hbad hgo hn' hz' HLet HU hne
      have hsz1 := HSZ.out
      go_wp2_with fail
      refine (HLet'.out _).mono ?_
      rintro e w1 ⟨rfl, hk1⟩
      have HK1 := Lib.hid (Below.quiet HK.out hk1 HK.out.size)
      have HW1 := Lib.hid (own_quiet HW.out hk1)
      have hszw := HK1.out.size
      clear hk1 HLet' HK HW
      by_cases hz : z = 0
      · subst hz
        have hsec := Pure.secret_none (HBAD.out rfl)
        have HSEC := Lib.hid hsec
        clear hsec HGO
        go_wp2
        go_ret2
        exact ⟨_, by rw [HSEC.out]; rfl, by rw [HSEC.out]; exact World.ownsRow_nil _ _ _ _, HK1.out⟩
      have d0 : ((z : Int) == 0) = false := by rw [beq_eq_false_iff_ne]; omega
      have HGO' := Lib.hid (HGO.out hz)
      obtain ⟨Z, hZ⟩ : ∃ Z, Z = k + z := ⟨_, rfl⟩
      have ez : (k : Int) + (z : Int) = (Z : Int) := by omega
      have hz4 : Z ≤ l.length := by omega
      have HZ := Lib.hid hZ
      clear HBAD HGO hZ
      by_cases hbig : 65535 < n
      · have hun : Pure.unitsOf n = [UInt8.ofNat ((55296 + (n - 65536) / 1024) % 256), UInt8.ofNat ((55296 + (n - 65536) / 1024) / 256 % 256), UInt8.ofNat ((56320 + (n - 65536) % 1024) % 256), UInt8.ofNat ((56320 + (n - 65536) % 1024) / 256 % 256)] := by
          unfold Pure.unitsOf; rw [if_pos hbig]; rfl
        have dn : decide ((65535 : Int) < (n : Int)) = true := decide_eq_true (by omega)
        obtain ⟨m, hm⟩ : ∃ m, m = n - 65536 := ⟨_, rfl⟩
        rw [← hm] at hun
        have em : (n : Int) - 65536 = (m : Int) := by omega
        obtain ⟨a, ha⟩ : ∃ a, a = 55296 + m / 1024 := ⟨_, rfl⟩
        obtain ⟨b, hb⟩ : ∃ b, b = 56320 + m % 1024 := ⟨_, rfl⟩
        rw [← ha, ← hb] at hun
        have ea : 55296 + (m : Int) / 1024 = (a : Int) := by omega
        have etm : (m : Int).tmod 1024 = (m : Int) % 1024 := Int.tmod_eq_emod_of_nonneg (by omega)
        have eb : 56320 + (m : Int) % 1024 = (b : Int) := by omega
        have hab : a < 65536 := by omega
        have hbb : b < 65536 := by omega
        have hm2 : m ≤ 1048575 := by omega
        obtain ⟨x1, hx1⟩ : ∃ x, x = UInt8.ofNat (a % 256) := ⟨_, rfl⟩
        obtain ⟨x2, hx2⟩ : ∃ x, x = UInt8.ofNat (a / 256 % 256) := ⟨_, rfl⟩
        obtain ⟨x3, hx3⟩ : ∃ x, x = UInt8.ofNat (b % 256) := ⟨_, rfl⟩
        obtain ⟨x4, hx4⟩ : ∃ x, x = UInt8.ofNat (b / 256 % 256) := ⟨_, rfl⟩
        rw [← hx1, ← hx2, ← hx3, ← hx4] at hun
        have f1 : (a : Int) % 256 = (x1.toNat : Int) := by rw [hx1, UInt8.toNat_ofNat']; omega
        have f2 : (a : Int) / 256 = (x2.toNat : Int) := by rw [hx2, UInt8.toNat_ofNat']; omega
        have f3 : (b : Int) % 256 = (x3.toNat : Int) := by rw [hx3, UInt8.toNat_ofNat']; omega
        have f4 : (b : Int) / 256 = (x4.toNat : Int) := by rw [hx4, UInt8.toNat_ofNat']; omega
        have HUN := Lib.hid hun
        clear hun hm ha hb hx1 hx2 hx3 hx4 hbig
        go_wp2_with (at_builtin; refine stopHere ?_)
        unfold Hid
        refine wp_append_u8 rfl (.tmp 36) (.tmp 47) rfl w.heap.size (.slice A2 acc.length c2) acc.length acc rfl rfl (own_grown HW1.out (World.grownBy_alloc w1 _ none) (by simp)) _ _ [x1, x2, x3, x4] rfl (row_new w1 [x1, x2, x3, x4] _ 4 rfl rfl (by simp)) (by simp; omega) (by simp; omega) ?_
        intro v3 w3 hown3 hg3 hat3
        have HB3 := Lib.hid (show Below w.heap.size w w3 from ((HK1.out.alloc HK1.out.size _).grown hg3 (by simp; have := HK1.out.size; omega) (fun k hk => ownsRow_ge HW1.out k hk)))
        have HO3 := Lib.hid hown3
        clear hown3 hg3 hat3
        go_wp2_with fail
        go_roundw
        case rel => exact ⟨Z, acc ++ [x1, x2, x3, x4], hz4, rfl, HO3.out, by rw [List.length_append]; simp only [List.length_cons, List.length_nil]; omega, by rw [HZ.out, ← HUN.out]; exact HGO'.out, HB3.out⟩
        case measure => simp [intOf]; omega
      · have hun : Pure.unitsOf n = [UInt8.ofNat (n % 256), UInt8.ofNat (n / 256 % 256)] := by
          unfold Pure.unitsOf; rw [if_neg hbig]; rfl
        have dn : decide ((65535 : Int) < (n : Int)) = false := decide_eq_false (by omega)
        obtain ⟨x1, hx1⟩ : ∃ x, x = UInt8.ofNat (n % 256) := ⟨_, rfl⟩
        obtain ⟨x2, hx2⟩ : ∃ x, x = UInt8.ofNat (n / 256 % 256) := ⟨_, rfl⟩
        rw [← hx1, ← hx2] at hun
        have f1 : (n : Int) % 256 = (x1.toNat : Int) := by rw [hx1, UInt8.toNat_ofNat']; omega
        have f2 : (n : Int) / 256 = (x2.toNat : Int) := by rw [hx2, UInt8.toNat_ofNat']; omega
        have HUN := Lib.hid hun
        clear hun hx1 hx2
        go_wp2_with (at_builtin; refine stopHere ?_)
        unfold Hid
        refine wp_append_u8 rfl (.tmp 49) (.tmp 55) rfl w.heap.size (.slice A2 acc.length c2) acc.length acc rfl rfl (own_grown HW1.out (World.grownBy_alloc w1 _ none) (by simp)) _ _ [x1, x2] rfl (row_new w1 [x1, x2] _ 2 rfl rfl (by simp)) (by simp; omega) (by simp; omega) ?_
        intro v3 w3 hown3 hg3 hat3
        have HB3 := Lib.hid (show Below w.heap.size w w3 from ((HK1.out.alloc HK1.out.size _).grown hg3 (by simp; have := HK1.out.size; omega) (fun k hk => ownsRow_ge HW1.out k hk)))
        have HO3 := Lib.hid hown3
        clear hown3 hg3 hat3
        go_wp2_with fail
        go_roundw
        case rel => exact ⟨Z, acc ++ [x1, x2], hz4, rfl, HO3.out, by rw [List.length_append]; simp only [List.length_cons, List.length_nil]; omega, by rw [HZ.out, ← HUN.out]; exact HGO'.out, HB3.out⟩
        case measure => simp [intOf]; omega
    · have hkk : k = l.length := by omega
      subst hkk
      have hu := HU.out
      rw [List.drop_length, Pure.unitsFrom_nil] at hu
      clear hkl hk
      by_cases hlong : 512 < acc.length
      · have hsec := Pure.secret_long hu hlong
        have HSEC := Lib.hid hsec
        have d1 : decide ((512 : Int) < (acc.length : Int)) = true := decide_eq_true (by omega)
        clear hsec hu HU
        go_wp2
        go_ret2
        exact ⟨_, by rw [HSEC.out]; rfl, by rw [HSEC.out]; exact World.ownsRow_nil _ _ _ _, HK.out⟩
      · have hsec := Pure.secret_some hu hlong
        have HSEC := Lib.hid hsec
        have d1 : decide ((512 : Int) < (acc.length : Int)) = false := decide_eq_false (by omega)
        clear hsec hu HU
        go_wp2
        go_ret2
        exact ⟨_, by rw [HSEC.out]; rfl, by rw [HSEC.out]; exact HW.out, HK.out⟩
end Go.Proofs.YtkllaghfiofnjaaDoor
