/- The document's Encode of a packet. -/
import Derived.Test.YtaalbjbocbagcaaDoorPktPure
import Derived.Test.YtaalbjbocbagcaaDoorAppend
import Derived.Test.YtaalbjbocbagcaaDoorLast
namespace Go.Proofs.YtaalbjbocbagcaaDoor
open Go.RowKit
theorem cell_later {w : World} {o : Obj} {a : Addr} {v : Value} (h : w.cell? a = some v) : (w.alloc o).cell? a = some v :=
  (World.cell?_alloc_lt w o a (by rcases Nat.lt_or_ge a.block w.heap.size with hl | hg; exact hl; simp [World.cell?, Array.getElem?_eq_none hg] at h)).trans h
/-- A packet as a value: the row of its data at v. -/
abbrev pktV (p : Pure.Pkt) (v : Value) : Value := .agg #[.int .i64 p.code, .int .i64 p.id, v]
set_option maxRecDepth 100000 in
set_option maxHeartbeats 4000000 in
theorem docencode_any (F : Nat → Prop) (v : Value) (p : Pure.Pkt) (w : World) (hr : Row w F 1 v p.data.length (u8s p.data)) :
    Calls Tryd.prog 14 #[pktV p v] w fun e w' => ∃ u, e = .returned (.tuple #[u, .int .i64 (((Pure.encode p).1 : Nat) : Int)]) ∧ w'.ownsRow w.heap.size 5 1 u (Pure.encode p).2.length (u8s (Pure.encode p).2) ∧ Below w.heap.size w w' := by
  obtain ⟨A, cA, rfl, hc⟩ := hr.form
  have hml := hr.2.1
  unfold maxLen at hml
  have HR := Lib.hid hr
  clear hr
  obtain ⟨c, i, l⟩ := p
  dsimp only at *
  obtain ⟨g, hg⟩ : ∃ g, g = w.heap.size := ⟨_, rfl⟩
  go_enter Tryd.func14, Tryd.ntmps14
  go_upto_region 1 with fail
  rw [← hg]
  generalize hw1 : w.alloc _ = w1
  have HB := Lib.hid (show Blk w1 g 28 #[.int .i64 c, .int .i64 i, .slice A l.length cA] by rw [← hw1, hg]; exact Blk.new w _ _)
  have HK := Lib.hid (show Keeps nobody w w1 by rw [← hw1]; exact (Keeps.refl _ w).alloc _)
  have HZ := Lib.hid (show w1.heap.size = g + 1 by rw [← hw1, hg]; simp)
  have HG := Lib.hid hg
  clear hw1 hg
  have c0 : w1.cell? ⟨g, 0, none⟩ = some (.int .i64 c) := by rw [HB.out.cell]; rfl
  have c1 : w1.cell? ⟨g, 1, none⟩ = some (.int .i64 i) := by rw [HB.out.cell]; rfl
  have c2 : w1.cell? ⟨g, 2, none⟩ = some (.slice A l.length cA) := by rw [HB.out.cell]; rfl
  go_cut [22] (fun v wx => v = .bool (decide (Pure.Pkt.odd ⟨c, i, l⟩)) ∧ wx = w1)
  case first =>
    by_cases h0 : c < 0
    · have d0 : decide (c < 0) = true := decide_eq_true h0
      have ho : decide (Pure.Pkt.odd ⟨c, i, l⟩) = true := decide_eq_true (by unfold Pure.Pkt.odd; dsimp only; omega)
      have HO := Lib.hid ho
      clear ho h0
      go_wp2
      go_meet
      exact ⟨by rw [HO.out], rfl⟩
    have d0 : decide (c < 0) = false := decide_eq_false h0
    by_cases h1 : 255 < c
    · have d1 : decide (255 < c) = true := decide_eq_true h1
      have ho : decide (Pure.Pkt.odd ⟨c, i, l⟩) = true := decide_eq_true (by unfold Pure.Pkt.odd; dsimp only; omega)
      have HO := Lib.hid ho
      clear ho h0 h1
      go_wp2
      go_meet
      exact ⟨by rw [HO.out], rfl⟩
    have d1 : decide (255 < c) = false := decide_eq_false h1
    by_cases h2 : i < 0
    · have d2 : decide (i < 0) = true := decide_eq_true h2
      have ho : decide (Pure.Pkt.odd ⟨c, i, l⟩) = true := decide_eq_true (by unfold Pure.Pkt.odd; dsimp only; omega)
      have HO := Lib.hid ho
      clear ho h0 h1 h2
      go_wp2
      go_meet
      exact ⟨by rw [HO.out], rfl⟩
    have d2 : decide (i < 0) = false := decide_eq_false h2
    by_cases h3 : 255 < i
    · have d3 : decide (255 < i) = true := decide_eq_true h3
      have ho : decide (Pure.Pkt.odd ⟨c, i, l⟩) = true := decide_eq_true (by unfold Pure.Pkt.odd; dsimp only; omega)
      have HO := Lib.hid ho
      clear ho h0 h1 h2 h3
      go_wp2
      go_meet
      exact ⟨by rw [HO.out], rfl⟩
    have d3 : decide (255 < i) = false := decide_eq_false h3
    have ho : decide (Pure.Pkt.odd ⟨c, i, l⟩) = false := decide_eq_false (by unfold Pure.Pkt.odd; dsimp only; omega)
    have HO := Lib.hid ho
    clear ho h0 h1 h2 h3
    go_wp2
    go_meet
    exact ⟨by rw [HO.out], rfl⟩
  case rest =>
    obtain ⟨rfl, rfl⟩ := hcut
    by_cases ho : Pure.Pkt.odd ⟨c, i, l⟩
    · have he := Pure.encode_odd ho
      rw [decide_eq_true ho]
      have HE := Lib.hid he
      clear he ho
      go_wp2
      go_ret2
      exact ⟨_, by rw [HE.out]; rfl, by rw [HE.out]; exact World.ownsRow_nil _ _ _ _, HK.out.to_below⟩
    · rw [decide_eq_false ho]
      have hci : 0 ≤ c ∧ c ≤ 255 ∧ 0 ≤ i ∧ i ≤ 255 := by unfold Pure.Pkt.odd at ho; dsimp only at ho; omega
      by_cases hl : 1496 < l.length
      · have he := Pure.encode_long ho hl
        have HE := Lib.hid he
        have d0 : decide ((1496 : Int) < (l.length : Int)) = true := decide_eq_true (by omega)
        clear he ho
        go_wp2
        go_ret2
        exact ⟨_, by rw [HE.out]; rfl, by rw [HE.out]; exact World.ownsRow_nil _ _ _ _, HK.out.to_below⟩
      · have he := Pure.encode_ok ho hl
        have d0 : decide ((1496 : Int) < (l.length : Int)) = false := decide_eq_false (by omega)
        obtain ⟨n, hn⟩ : ∃ n, n = l.length + 4 := ⟨_, rfl⟩
        have en : (l.length : Int) + 4 = (n : Int) := by omega
        obtain ⟨x1, hx1⟩ : ∃ x, x = UInt8.ofNat c.toNat := ⟨_, rfl⟩
        obtain ⟨x2, hx2⟩ : ∃ x, x = UInt8.ofNat i.toNat := ⟨_, rfl⟩
        obtain ⟨x3, hx3⟩ : ∃ x, x = UInt8.ofNat (n / 256) := ⟨_, rfl⟩
        obtain ⟨x4, hx4⟩ : ∃ x, x = UInt8.ofNat (n % 256) := ⟨_, rfl⟩
        have hby : Pure.Pkt.bytes ⟨c, i, l⟩ = [x1, x2, x3, x4] ++ l := by rw [hx1, hx2, hx3, hx4, hn]; rfl
        rw [hby] at he
        have f1 : c = (x1.toNat : Int) := by rw [hx1, UInt8.toNat_ofNat']; omega
        have f2 : i = (x2.toNat : Int) := by rw [hx2, UInt8.toNat_ofNat']; omega
        have f3 : (n : Int) / 256 = (x3.toNat : Int) := by rw [hx3, UInt8.toNat_ofNat']; omega
        have f4 : (n : Int) % 256 = (x4.toNat : Int) := by rw [hx4, UInt8.toNat_ofNat']; omega
        have hn2 : n ≤ 1500 := by omega
        subst f1 f2
        have HE := Lib.hid he
        have hx1l := x1.toNat_lt
        have hx2l := x2.toNat_lt
        clear he ho hby hx1 hx2 hx3 hx4 hn hci
        have c2' : (wc.alloc (.cells #[.int .u8 x1.toNat, .int .u8 x2.toNat, .int .u8 x3.toNat, .int .u8 x4.toNat] 5)).cell? ⟨g, 2, none⟩ = some (.slice A l.length cA) := cell_later c2
        go_wp2_with (at_builtin; refine stopHere ?_)
        unfold Hid
        clear c2'
        obtain ⟨w2, hw2⟩ : ∃ w2, w2 = wc.alloc (.cells (u8s [x1, x2, x3, x4]).toArray 5) := ⟨_, rfl⟩
        have hw2' : wc.alloc (.cells #[.int .u8 x1.toNat, .int .u8 x2.toNat, .int .u8 x3.toNat, .int .u8 x4.toNat] 5) = w2 := hw2.symm
        rw [hw2']
        have hk2 : Keeps nobody wc w2 := by rw [hw2]; exact (Keeps.refl _ wc).alloc _
        have hb2 : Blk w2 wc.heap.size 5 (u8s [x1, x2, x3, x4]).toArray := by rw [hw2]; exact Blk.new wc _ _
        have hsz := hk2.size
        have ho2 : w2.ownsRow w.heap.size 5 1 (.slice (some ⟨wc.heap.size, 0, none⟩) 4 4) 4 (u8s [x1, x2, x3, x4]) :=
          ⟨by simp, .inr ⟨wc.heap.size, 4, _, rfl, HK.out.size, hb2, Nat.le_refl _, by first | rfl | omega | (unfold maxLen; omega) | simp, by first | rfl | omega | (unfold maxLen; omega) | simp, by first | rfl | omega | (unfold maxLen; omega) | simp⟩⟩
        clear hw2 hw2'
        refine wp_append_u8 rfl (.tmp 42) (.tmp 44) rfl w.heap.size _ 4 [x1, x2, x3, x4] rfl rfl ho2 F (.slice A l.length cA) l rfl ((HR.out.keeps HK.out (fun _ _ h => h)).keeps hk2 (fun _ _ h => h)) (by omega) (by have := HK.out.size; omega) ?_
        intro v3 w3 hown3 hg3 hat3
        have HO3 := Lib.hid hown3
        have HB3 := Lib.hid (show Below w.heap.size w w3 from (Below.quiet HK.out.to_below hk2 HK.out.size).grown hg3 (by have := HK.out.size; omega) (fun k hk => ownsRow_ge ho2 k hk))
        obtain ⟨A3, c3, rfl⟩ := own_form hown3
        clear hown3 hg3 hat3 ho2 hb2 hk2
        go_wp2
        go_ret2
        refine ⟨_, by rw [HE.out]; rfl, ?_, HB3.out⟩
        rw [HE.out]
        exact HO3.out
end Go.Proofs.YtaalbjbocbagcaaDoor
