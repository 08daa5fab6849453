/- Rows of bytes, slices as rows, and the document's Same. -/
import Derived.Test.YtaalbjbocbagcaaDoorRows
import Derived.Test.YtaalbjbocbagcaaDoorKit
namespace Go.Proofs.YtaalbjbocbagcaaDoor
open Go.RowKit

theorem u8_info : (Tryd.prog.info? 5).map (fun i => (i.zero, i.size, i.bytes)) = some (some (.int .u8 0), 1, 1) := by kernel_rfl

theorem u8s_cells (l : List UInt8) : ∀ u ∈ l.map (fun b => Value.int .u8 b.toNat), u.oneCell' = true := by
  intro u hu
  obtain ⟨b, _, rfl⟩ := List.mem_map.1 hu
  rfl
/-- The values of bytes. -/
abbrev u8s (l : List UInt8) : List Value := l.map fun b => Value.int .u8 b.toNat

theorem own_form {w : World} {base : Nat} {e : TypeId} {size : Nat} {v : Value} {n : Nat} {xs : List Value} (h : w.ownsRow base e size v n xs) : ∃ A c, v = .slice A n c := by
  rcases h.2 with ⟨rfl, rfl⟩ | ⟨g, cap, cur, rfl, _⟩
  · exact ⟨_, _, rfl⟩
  · exact ⟨_, _, rfl⟩

theorem own_cell {w : World} {base : Nat} {t : TypeId} {A : Option Addr} {n c : Nat} {xs : List Value} (h : w.ownsRow base t 1 (.slice A n c) n xs) (hn : 0 < n) :
    ∃ b, A = some ⟨b, 0, none⟩ ∧ b < w.heap.size ∧ ∀ j u, xs[j]? = some u → w.cell? ⟨b, j, none⟩ = some u := by
  have hr := Row.of_own h
  obtain ⟨_, _, A', c', e, _, _, hh⟩ := hr
  injection e with e1 e2 e3
  subst e1
  obtain ⟨b, off, rfl, hf, hc⟩ := hh hn
  rcases h.2 with ⟨e, _⟩ | ⟨g, cap, cur, e, _, hh, _⟩
  · cases e
  · injection e with e1 e2 e3
    injection e1 with e1
    injection e1 with e1 e4
    subst e1 e4
    have hb : Blk w b t cur := by assumption
    exact ⟨b, rfl, hb.lt, fun j u hu => by have := hc j u hu; rwa [Nat.zero_add] at this⟩
theorem u8s_at (bs : List UInt8) (j : Nat) (h : j < bs.length) : (u8s bs)[j]? = some (.int .u8 ((bs.getD j 0).toNat)) := by
  rw [List.getElem?_map, List.getElem?_eq_getElem h, List.getD_eq_getElem?_getD, List.getElem?_eq_getElem h]; rfl

theorem Row.take1 {w : World} {F : Nat → Prop} {A : Option Addr} {n c : Nat} {xs : List Value} (h : Row w F 1 (.slice A n c) n xs) (m : Nat) (hm : m ≤ n) : Row w F 1 (.slice A m c) m (xs.take m) := by
  obtain ⟨h1, h0, A', c', e, h3, h4, h5⟩ := h
  injection e with e1 _ e3
  subst e1 e3
  refine ⟨by simp; omega, by omega, _, _, rfl, by omega, fun e => by have := h4 e; omega, fun hn => ?_⟩
  obtain ⟨b, off, e, hf, hc⟩ := h5 (by omega)
  refine ⟨b, off, e, hf, fun j u hu => hc j u ?_⟩
  rw [List.getElem?_take] at hu
  split at hu
  · exact hu
  · cases hu
theorem u8s_take (l : List UInt8) (n : Nat) : u8s (l.take n) = (u8s l).take n := by simp


theorem Row.form {w : World} {F : Nat → Prop} {size n : Nat} {v : Value} {xs : List Value} (h : Row w F size v n xs) : ∃ A c, v = .slice A n c ∧ n ≤ c := by
  obtain ⟨_, _, A, c, rfl, hc, _⟩ := h
  exact ⟨A, c, rfl, hc⟩
theorem Row.cellAt {w : World} {F : Nat → Prop} {A : Option Addr} {n c : Nat} {xs : List Value} (h : Row w F 1 (.slice A n c) n xs) (hn : 0 < n) :
    ∃ b off, A = some ⟨b, off, none⟩ ∧ F b ∧ ∀ j u, xs[j]? = some u → w.cell? ⟨b, off + j, none⟩ = some u := by
  obtain ⟨_, _, A', c', e, _, _, h⟩ := h
  injection e with e1
  subst e1
  exact h hn

set_option maxHeartbeats 1000000 in
theorem same_q (F G : Nat → Prop) (x y : Value) (a b : List UInt8) (w : World) (hx : Row w F 1 x a.length (u8s a)) (hy : Row w G 1 y b.length (u8s b)) :
    Calls Tryd.prog 13 #[x, y] w fun e w' => e = .returned (.bool (decide (a = b))) ∧ ∃ n, w' = w.drewN n := by
  obtain ⟨A, c, rfl, hc⟩ := hx.form
  obtain ⟨B, d, rfl, hd⟩ := hy.form
  have ha := hx.2.1
  have hb := hy.2.1
  unfold maxLen at ha hb
  by_cases hl : a.length = b.length
  · have e1 : ((a.length : Int) != (b.length : Int)) = false := by rw [hl]; simp
    have HX := Lib.hid hx
    have HY := Lib.hid hy
    clear hx hy
    have HL := Lib.hid hl
    rw [← hl] at HY ⊢
    clear hl hb
    rw [← HL.out] at e1
    go_enter Tryd.func13, Tryd.ntmps13
    go_wp2
    clear e1
    go_loopw [5] (fun i wr => ∃ k : Nat, k ≤ a.length ∧ i = .int .i64 k ∧ a.take k = b.take k ∧ ∃ n, wr = w.drewN n) (fun i _ => a.length - (intOf i).toNat)
    case atStart => exact ⟨0, by omega, rfl, by simp, 0, rfl⟩
    case round =>
      obtain ⟨k, hk, rfl, htake, q, hq⟩ := hrel
      have HT := Lib.hid htake
      have HQ := Lib.hid hq
      have HK := Lib.hid (Keeps.of_drewN hq)
      clear htake hq
      by_cases hlt : k < a.length
      · obtain ⟨p, o, rfl, _, hcx⟩ := (HX.out.keeps HK.out (fun _ _ h => h)).cellAt (by omega)
        obtain ⟨p2, o2, rfl, _, hcy⟩ := (HY.out.keeps HK.out (fun _ _ h => h)).cellAt (by omega)
        have hlb : k < b.length := by have := HL.out; omega
        have c1 := hcx k _ (u8s_at a k hlt)
        have c2 := hcy k _ (u8s_at b k hlb)
        have hi0 : (0 : Int) ≤ (k : Int) := by omega
        have hi1 : (k : Int) < (a.length : Int) := by omega
        obtain ⟨X, hX⟩ : ∃ X : Nat, X = (a.getD k 0).toNat := ⟨_, rfl⟩
        obtain ⟨Y, hY⟩ : ∃ Y : Nat, Y = (b.getD k 0).toNat := ⟨_, rfl⟩
        rw [← hX] at c1
        rw [← hY] at c2
        have HX1 := Lib.hid hX
        have HY1 := Lib.hid hY
        clear hX hY hcx hcy
        by_cases hxy : X = Y
        · subst hxy
          have hne : ((X : Int) != (X : Int)) = false := by simp
          go_wp2_with fail
          go_quiet (fail)
          go_wp2
          go_roundw
          case rel =>
            refine ⟨k + 1, by omega, by go_num, ?_, _, by rw [HQ.out, World.drewN_drewN]⟩
            rw [List.take_succ_eq_append_getElem hlt, List.take_succ_eq_append_getElem hlb, HT.out]
            have : a[k] = b[k] := by
              apply UInt8.toNat_inj.1
              have h1 := HX1.out
              have h2 := HY1.out
              rw [List.getD_eq_getElem?_getD, List.getElem?_eq_getElem hlt] at h1
              rw [List.getD_eq_getElem?_getD, List.getElem?_eq_getElem hlb] at h2
              exact h1.symm.trans h2
            rw [this]
          case measure => simp [intOf]; omega
        · have hne : ((X : Int) != (Y : Int)) = true := by rw [bne_iff_ne]; omega
          have hno : decide (a = b) = false := by
            rw [decide_eq_false_iff_not]
            rintro rfl
            exact hxy (HX1.out.trans HY1.out.symm)
          have HNO := Lib.hid hno
          clear hno
          go_wp2_with fail
          go_quiet (fail)
          go_wp2
          go_ret
          exact ⟨by rw [HNO.out]; rfl, _, by rw [HQ.out, World.drewN_drewN]⟩
      · have hk' : k = a.length := by omega
        have hyes : decide (a = b) = true := by
          rw [decide_eq_true_eq]
          have := HT.out
          rw [hk', List.take_length, HL.out, List.take_length] at this
          exact this
        have HYES := Lib.hid hyes
        clear hyes hk'
        go_wp2
        go_ret
        exact ⟨by rw [HYES.out]; rfl, _, HQ.out⟩
  · have e1 : ((a.length : Int) != (b.length : Int)) = true := by rw [bne_iff_ne]; omega
    have hno : decide (a = b) = false := by
      rw [decide_eq_false_iff_not]
      rintro rfl
      exact hl rfl
    have HNO := Lib.hid hno
    clear hno hl hx hy
    go_enter Tryd.func13, Tryd.ntmps13
    go_wp2
    go_ret
    exact ⟨by rw [HNO.out]; rfl, 0, rfl⟩
theorem same_any (F G : Nat → Prop) (x y : Value) (a b : List UInt8) (w : World) (hx : Row w F 1 x a.length (u8s a)) (hy : Row w G 1 y b.length (u8s b)) :
    Calls Tryd.prog 13 #[x, y] w fun e w' => e = .returned (.bool (decide (a = b))) ∧ Keeps nobody w w' :=
  (same_q F G x y a b w hx hy).mono fun _ _ ⟨h, _, h2⟩ => ⟨h, Keeps.of_drewN h2⟩
end Go.Proofs.YtaalbjbocbagcaaDoor
