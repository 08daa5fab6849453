/- Deeds: what is asked of a reader or a writer; room. -/
import Derived.Test.YtkpagfeglpfhkaaLaw1A
import Derived.Test.YtkpagfeglpfhkaaFrame
import Derived.Test.YtkpagfeglpfhkaaRef1A
namespace Go.Proofs.Ytkpagfeglpfhkaa
open Go.RowKit

/-- A deed: its numbers and its bytes. -/
structure DeedD where
  act : Int
  x : Int
  n : Int
  v : Value
  bs : List UInt8
def DeedD.cells (d : DeedD) : List Value := [.int .i64 d.act, .int .i64 d.x, .int .i64 d.n, d.v]
/-- The slice of deeds, as it came in; all of it lies below B. -/
structure Deeds (w : World) (B : Nat) (a : Option Addr) (len cap : Nat) (ds : List DeedD) : Prop where
  count : ds.length = len
  fits : len ≤ cap
  most : cap ≤ maxLen
  fit : ∀ (i : Nat) (d : DeedD), ds[i]? = some d → (-9223372036854775808 ≤ d.act ∧ d.act ≤ 9223372036854775807) ∧ (-9223372036854775808 ≤ d.x ∧ d.x ≤ 9223372036854775807) ∧ (-9223372036854775808 ≤ d.n ∧ d.n ≤ 9223372036854775807)
  row : ∀ (i : Nat) (d : DeedD), ds[i]? = some d → Row w (fun b => b < B) 1 d.v d.bs.length (u8s d.bs)
  cells : ∀ (i : Nat) (d : DeedD), ds[i]? = some d → ∃ b off, a = some ⟨b, off, none⟩ ∧ b < B ∧ ∀ j u, d.cells[j]? = some u → w.cell? ⟨b, off + i * 4 + j, none⟩ = some u

theorem Deeds.keeps {S : Nat → Prop} {w w' : World} {B : Nat} {a : Option Addr} {len cap : Nat} {ds : List DeedD} (h : Deeds w B a len cap ds) (k : Keeps S w w') (hs : ∀ b, b < B → ¬ S b) : Deeds w' B a len cap ds :=
  ⟨h.count, h.fits, h.most, h.fit, fun i d hi => (h.row i d hi).keeps k hs, fun i d hi => by
    obtain ⟨b, off, e, hb, hc⟩ := h.cells i d hi
    exact ⟨b, off, e, hb, fun j u hu => (World.cell?_of_block (w := w) (a := ⟨b, off + i * 4 + j, none⟩) (k.block b (cell_lt (hc j u hu)) (hs b hb))).trans (hc j u hu)⟩⟩

theorem deeds_of {w : World} {a : Option Addr} {len cap : Nat} (h : IsStructs w [.int .i64, .int .i64, .int .i64, .row .u8] a len cap) : ∃ ds, Deeds w w.heap.size a len cap ds := by
  rcases h with ⟨rfl, rfl, rfl⟩ | ⟨x, rfl, hl, hm, hi⟩
  · exact ⟨[], rfl, Nat.le_refl _, by simp [maxLen], fun i d h => by simp at h, fun i d h => by simp at h, fun i d h => by simp at h⟩
  · obtain ⟨ds, hlen, hd⟩ := list_choice (P := fun i (d : DeedD) => ((-9223372036854775808 ≤ d.act ∧ d.act ≤ 9223372036854775807) ∧ (-9223372036854775808 ≤ d.x ∧ d.x ≤ 9223372036854775807) ∧ (-9223372036854775808 ≤ d.n ∧ d.n ≤ 9223372036854775807)) ∧
      Row w (fun b => b < w.heap.size) 1 d.v d.bs.length (u8s d.bs) ∧ (∀ j u, d.cells[j]? = some u → w.cell? (x.add (i * 4 + j)) = some u)) len (fun i hil => by
        obtain ⟨v0, c0, n0, rfl, w0⟩ := hi i hil 0 (.int .i64) rfl
        obtain ⟨v1, c1, n1, rfl, w1⟩ := hi i hil 1 (.int .i64) rfl
        obtain ⟨v2, c2, n2, rfl, w2⟩ := hi i hil 2 (.int .i64) rfl
        obtain ⟨v3, c3, a3, l3, k3, z3, rfl, w3⟩ := hi i hil 3 (.row .u8) rfl
        obtain ⟨bs, hbl, hrow⟩ := w3.bytes
        refine ⟨⟨n0, n1, n2, .slice a3 l3 k3, bs⟩, ⟨i64_of_wf w0, i64_of_wf w1, i64_of_wf w2⟩, by rw [hbl]; exact hrow, fun j u hu => ?_⟩
        match j, hu with
        | 0, hu => simp [DeedD.cells] at hu; subst hu; exact c0
        | 1, hu => simp [DeedD.cells] at hu; subst hu; exact c1
        | 2, hu => simp [DeedD.cells] at hu; subst hu; exact c2
        | 3, hu => simp [DeedD.cells] at hu; subst hu; exact c3
        | j + 4, hu => simp [DeedD.cells] at hu)
    refine ⟨ds, hlen, hl, hm, fun i d h => (hd i d h).1, fun i d h => (hd i d h).2.1, fun i d h => ?_⟩
    have h0 : 0 < len := by have := (List.getElem?_eq_some_iff.1 h).1; omega
    obtain ⟨v0, c0, _⟩ := hi 0 h0 0 (.int .i64) rfl
    obtain ⟨b, off, rfl⟩ := addr_of_cell (by simpa using c0)
    have c0' := c0
    rw [addr_add] at c0'
    exact ⟨b, off, rfl, cell_lt c0', fun j u hu => by rw [Nat.add_assoc, ← addr_add]; exact (hd i d h).2.2 j u hu⟩

/-- Are deeds few and small? -/
def roomB (ds : List DeedD) : Bool := decide (ds.length ≤ 100) && ds.all fun d => decide (d.bs.length ≤ 50)

set_option maxHeartbeats 1000000 in
theorem room_any (B : Nat) (a : Option Addr) (len cap : Nat) (ds : List DeedD) (w : World) (h : Deeds w B a len cap ds) :
    Calls Try.prog 23 #[.slice a len cap] w fun e w' => e = .returned (.bool (roomB ds)) ∧ w = w' := by
  have hm := h.most
  have hc := h.fits
  unfold maxLen at hm
  have H := Lib.hid h
  have hcount := h.count
  clear h
  subst hcount
  by_cases h1 : 100 < ds.length
  · have e : roomB ds = false := by simp [roomB]; omega
    have E := Lib.hid e
    clear e
    go_enter Try.func23, Try.ntmps23
    go_wp2
    go_ret
    exact ⟨by rw [E.out]; rfl, rfl⟩
  · go_enter Try.func23, Try.ntmps23
    go_wp2
    go_loop [3] (fun i => ∃ k : Nat, k ≤ ds.length ∧ i = .int .i64 k ∧ (ds.take k).all (fun d => decide (d.bs.length ≤ 50)) = true) (fun i => ds.length - (intOf i).toNat)
    case atStart => exact ⟨0, by omega, rfl, by simp⟩
    case round =>
      obtain ⟨k, hk, rfl, hall⟩ := hrel
      have HA := Lib.hid hall
      clear hall
      by_cases hlt : k < ds.length
      · obtain ⟨d, hd⟩ : ∃ d, ds[k]? = some d := ⟨_, List.getElem?_eq_getElem hlt⟩
        obtain ⟨b, off, rfl, _, hcell⟩ := H.out.cells k d hd
        have c3 := hcell 3 _ rfl
        obtain ⟨Ad, cd, hv, _⟩ := (H.out.row k d hd).form
        rw [hv] at c3
        have HV := Lib.hid hv
        have HD := Lib.hid hd
        clear hv hd hcell
        have hmd := (H.out.row k d HD.out).2.1
        unfold maxLen at hmd
        by_cases h5 : 50 < d.bs.length
        · have e : roomB ds = false := by
            unfold roomB
            rw [Bool.and_eq_false_iff]
            right
            rw [List.all_eq_false]
            exact ⟨d, List.mem_of_getElem? HD.out, by simp; omega⟩
          have E := Lib.hid e
          clear e
          go_wp2
          go_ret
          exact ⟨by rw [E.out]; rfl, rfl⟩
        · go_wp2
          go_round
          case rel =>
            refine ⟨k + 1, by omega, by go_num, ?_⟩
            rw [List.take_add_one, HD.out, List.all_append, HA.out]
            simp; omega
          case measure => simp [intOf]; omega
      · have hk' : k = ds.length := by omega
        have e : roomB ds = true := by
          have := HA.out
          rw [hk', List.take_length] at this
          unfold roomB
          rw [this]
          simp; omega
        have E := Lib.hid e
        clear e hk'
        go_wp2
        go_ret
        exact ⟨by rw [E.out]; rfl, rfl⟩
end Go.Proofs.Ytkpagfeglpfhkaa
