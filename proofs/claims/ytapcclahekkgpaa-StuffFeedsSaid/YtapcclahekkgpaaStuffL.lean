/- A [][]byte that came in, and the statements' Small. -/
import Derived.Test.YtapcclahekkgpaaStuffH
import Derived.Test.YtapcclahekkgpaaFrame
namespace Go.Proofs.Ytapcclahekkgpaa
open Go.RowKit

/-- A [][]byte that came in: rows of bytes. -/
theorem frows_of {w : World} {a : Option Addr} {len cap : Nat} (h : IsStructs w [.row .u8] a len cap) :
    ∃ ps : List (Value × List UInt8), ps.length = len ∧ FRow w (fun b => b < w.heap.size) (.slice a len cap) ps := by
  rcases h with ⟨rfl, rfl, rfl⟩ | ⟨x, rfl, hl, hm, hi⟩
  · exact ⟨[], rfl, Row.nil _ _ _, by simp⟩
  · obtain ⟨ps, hpl, hps⟩ := list_choice (P := fun i (d : Value × List UInt8) => w.cell? (x.add i) = some d.1 ∧ Row w (fun b => b < w.heap.size) 1 d.1 d.2.length (u8s d.2)) len (fun i hil => by
      obtain ⟨v, hv, a', l', c', zs, rfl, hr⟩ := hi i hil 0 _ rfl
      obtain ⟨bs, hbl, hrow⟩ := hr.bytes
      refine ⟨(.slice a' l' c', bs), ?_, ?_⟩
      · simpa using hv
      · rw [← hbl] at hrow ⊢
        exact hrow)
    refine ⟨ps, hpl, ⟨by simp, by omega, some x, cap, by rw [hpl], by omega, by simp, fun h0 => ?_⟩, fun p hp => ?_⟩
    · have h1 := (hps 0 ps[0] (List.getElem?_eq_getElem h0)).1
      obtain ⟨b, off, rfl⟩ := addr_of_cell h1
      rw [addr_add] at h1
      refine ⟨b, off, rfl, cell_lt h1, fun j u hu => ?_⟩
      rw [List.getElem?_map] at hu
      obtain ⟨p, hp, rfl⟩ := Option.map_eq_some_iff.1 hu
      have h2 := (hps j p hp).1
      rwa [addr_add] at h2
    · obtain ⟨i, hi', rfl⟩ := List.getElem_of_mem hp
      exact (hps i _ (List.getElem?_eq_getElem hi')).2

/-- Few and small. -/
def Pure.small (ps : List (Value × List UInt8)) (n : Nat) : Bool := decide (ps.length ≤ 40) && ps.all (fun p => decide (p.2.length ≤ n))
set_option maxHeartbeats 1000000 in
theorem small_any (F : Nat → Prop) (x : Value) (ps : List (Value × List UInt8)) (n : Nat) (w : World) (hx : FRow w F x ps) (hn : n ≤ 1000000) :
    Calls Try.prog 17 #[x, .int .i64 n] w fun e w' => e = .returned (.bool (Pure.small ps n)) ∧ w = w' := by
  have HX := Lib.hid hx
  obtain ⟨A, c, rfl, hc⟩ := hx.out.form
  have ha := hx.out.2.1
  unfold maxLen at ha
  clear hx
  by_cases hl : ps.length ≤ 40
  · have e1 : ¬ (ps.length : Int) > 40 := by omega
    obtain ⟨N, hN⟩ : ∃ N, N = ps.length := ⟨_, rfl⟩
    have HN := Lib.hid hN
    have hxr := HX.out.out
    rw [← hN] at hxr ha hc e1 ⊢
    have XR := Lib.hid hxr
    have hl40 : N ≤ 40 := by omega
    clear hl hN hxr
    go_enter Try.func17, Try.ntmps17
    go_wp2
    clear e1
    go_loopw [5] (fun i wr => ∃ k : Nat, k ≤ N ∧ i = .int .i64 k ∧ (ps.take k).all (fun p => decide (p.2.length ≤ n)) = true ∧ w = wr) (fun i _ => N - (intOf i).toNat)
    case atStart => exact ⟨0, by omega, rfl, by simp, rfl⟩
    case round =>
      obtain ⟨k, hk, rfl, htake, rfl⟩ := hrel
      have HT := Lib.hid htake
      clear htake
      by_cases hlt : k < N
      · have hkp : k < ps.length := by have := HN.out; omega
        obtain ⟨p, o, rfl, _, hcx⟩ := XR.out.cellAt (by omega)
        have c1 := hcx k ps[k].1 (by simp [hkp])
        have hp := HX.out.rows ps[k] (List.getElem_mem hkp)
        obtain ⟨A1, n1, hA1, _⟩ := hp.form
        rw [hA1] at c1
        obtain ⟨L, hL⟩ : ∃ L, L = ps[k].2.length := ⟨_, rfl⟩
        have hLm : L ≤ 9223372036854775807 := by have := hp.2.1; unfold maxLen at this; omega
        rw [← hL] at c1
        have LL := Lib.hid hL
        have hi0 : (0 : Int) ≤ (k : Int) := by omega
        have hi1 : (k : Int) < (N : Int) := by omega
        clear hcx hp hA1 hL
        by_cases hbig : (L : Int) > (n : Int)
        · have hno : Pure.small ps n = false := by
            unfold Pure.small
            rw [Bool.and_eq_false_iff]
            right
            rw [List.all_eq_false]
            refine ⟨ps[k], List.getElem_mem hkp, ?_⟩
            have := LL.out
            simp; omega
          have HNO := Lib.hid hno
          clear hno
          go_wp2
          go_ret
          exact ⟨by rw [HNO.out]; rfl, rfl⟩
        · go_wp2
          go_roundw
          case rel =>
            refine ⟨k + 1, by omega, by go_num, ?_, by first | rfl | trivial⟩
            rw [List.take_succ_eq_append_getElem hkp, List.all_append, HT.out]
            have := LL.out
            simp; omega
          case measure => simp [intOf]; omega
      · have hk' : k = N := by omega
        have hyes : Pure.small ps n = true := by
          have := HT.out
          rw [List.take_of_length_le (by have := HN.out; omega)] at this
          unfold Pure.small
          rw [this]
          have := HN.out
          simp; omega
        have HYES := Lib.hid hyes
        clear hyes hk'
        go_wp2
        go_ret
        exact ⟨by rw [HYES.out]; rfl, rfl⟩
  · have e1 : (ps.length : Int) > 40 := by omega
    have hno : Pure.small ps n = false := by unfold Pure.small; simp [hl]
    have HNO := Lib.hid hno
    clear hno hl
    go_enter Try.func17, Try.ntmps17
    go_wp2
    go_ret
    exact ⟨by rw [HNO.out]; rfl, rfl⟩
end Go.Proofs.Ytapcclahekkgpaa
