/- What a walk is told of a slice of integers that came in. -/
import Derived.Test.YtjomcffhbaplcaaQ1
import Derived.Deep.Slices
import Derived.Deep.Fields
import Derived.ChangeSame
import Derived.ProofKit
import Derived.OpenShut
import Derived.Test.YtjomcffhbaplcaaRows
import Derived.WalkKit
namespace Go.Proofs.Ytjomcffhbaplcaa
open Go.RowKit
/-- It is nil, or it leads to a row of 'cap' cells, the numbers zs: the first 'len' are its elements. -/
def IsRow (k : IntKind) (w : World) (a : Option Addr) (len cap : Nat) (zs : List Int) : Prop :=
  (a = none ∧ len = 0 ∧ cap = 0 ∧ zs = []) ∨
  ∃ x, a = some x ∧ len ≤ cap ∧ cap ≤ maxLen ∧ zs.length = cap ∧ (∀ i, i < zs.length → w.cell? (x.add i) = some (.int k (zs.getD i 0))) ∧ ∀ n ∈ zs, (Lit.int k n).wf = true

theorem addr_of_cell {w : World} {x : Addr} {u : Value} (h : w.cell? (x.add 0) = some u) : ∃ b off, x = ⟨b, off, none⟩ := by
  obtain ⟨b, off, spot⟩ := x
  cases spot with
  | none => exact ⟨b, off, rfl⟩
  | some s =>
    exfalso
    have hs : (Addr.add ⟨b, off, some s⟩ 0).spot = some s := rfl
    unfold World.cell? at h
    rw [hs] at h
    split at h
    · simp at h
    · cases h

/-- As a row of cells. -/
theorem IsRow.row {k : IntKind} {w : World} {a : Option Addr} {len cap : Nat} {zs : List Int} (h : IsRow k w a len cap zs) :
    Row w (fun b => b < w.heap.size) 1 (.slice a len cap) len ((zs.take len).map (Value.int k)) ∧ ∀ n ∈ zs.take len, (Lit.int k n).wf = true := by
  rcases h with ⟨rfl, rfl, rfl, rfl⟩ | ⟨x, rfl, hl, hm, hz, hc, hw⟩
  · exact ⟨⟨by simp, by simp [maxLen], none, 0, rfl, Nat.le_refl _, fun _ => rfl, fun h => absurd h (by omega)⟩, by simp⟩
  · refine ⟨⟨by simp; omega, by omega, _, cap, rfl, hl, by simp, fun hn => ?_⟩, fun n hn => hw n (List.mem_of_mem_take hn)⟩
    obtain ⟨b, off, rfl⟩ := addr_of_cell (hc 0 (by omega))
    have h0 := hc 0 (by omega)
    rw [addr_add] at h0
    refine ⟨b, off, rfl, cell_lt h0, fun j u hu => ?_⟩
    have hj : j < len := by
      have := (List.getElem?_eq_some_iff.1 hu).1
      simp at this
      omega
    have hcj := hc j (by omega)
    rw [addr_add] at hcj
    rw [hcj]
    rw [List.getElem?_map, List.getElem?_take, if_pos hj, List.getElem?_eq_getElem (by omega)] at hu
    rw [List.getD_eq_getElem?_getD, List.getElem?_eq_getElem (by omega)]
    exact hu

theorem u8_of_wf {n : Int} (h : (Lit.int .u8 n).wf = true) : 0 ≤ n ∧ n ≤ 255 := by
  simpa [Lit.wf, IntKind.min, IntKind.max, IntKind.signed, IntKind.bits] using h
/-- The bytes of a slice of bytes. -/
theorem IsRow.bytes {w : World} {a : Option Addr} {len cap : Nat} {zs : List Int} (h : IsRow .u8 w a len cap zs) :
    ∃ bs : List UInt8, bs.length = len ∧ Row w (fun b => b < w.heap.size) 1 (.slice a len cap) len (bs.map fun b => Value.int .u8 b.toNat) := by
  obtain ⟨hr, hw⟩ := h.row
  have hl := hr.1
  refine ⟨(zs.take len).map fun z => UInt8.ofNat z.toNat, by simpa using hl, ?_⟩
  have e : (((zs.take len).map fun z => UInt8.ofNat z.toNat).map fun b : UInt8 => Value.int .u8 b.toNat) = (zs.take len).map (Value.int .u8) := by
    rw [List.map_map]
    apply List.map_congr_left
    intro z hz
    have := u8_of_wf (hw z hz)
    have h2 : z.toNat < 2 ^ 8 := by omega
    simp only [Function.comp, UInt8.toNat_ofNat', Nat.mod_eq_of_lt h2]
    congr 1
    omega
  rw [e]
  exact hr

/-- The kinds of fields that are read. -/
inductive FK where
  | int (k : IntKind)
  | bool
  | str
  | row (k : IntKind)
/-- What is known of a field's cell. -/
def FK.ok (w : World) : FK → Value → Prop
  | .int k, v => ∃ n, v = .int k n ∧ (Lit.int k n).wf = true
  | .bool, v => ∃ b, v = .bool b
  | .str, v => ∃ s, v = .string s ∧ s.size ≤ maxLen
  | .row k, v => ∃ a len cap zs, v = .slice a len cap ∧ IsRow k w a len cap zs
/-- Is the type of that kind? -/
def FK.fits (P : Program) : FK → TypeId → Prop
  | .int k, t => P.underlying t = some (.int k)
  | .bool, t => P.underlying t = some .bool
  | .str, t => P.underlying t = some .string
  | .row k, t => ∃ e, P.underlying t = some (.slice e) ∧ P.underlying e = some (.int k) ∧ P.cellsOf e = 1
/-- Types and kinds, one by one. -/
def fitsAll (P : Program) : List FK → List Field → Prop
  | [], [] => True
  | k :: ks, f :: fs => k.fits P f.type ∧ fitsAll P ks fs
  | _, _ => False
theorem fitsAll_get {P : Program} : ∀ {ks : List FK} {fs : List Field}, fitsAll P ks fs → ks.length = fs.length ∧ ∀ (j : Nat) (k : FK), ks[j]? = some k → ∃ f, fs[j]? = some f ∧ k.fits P f.type
  | [], [], _ => ⟨rfl, fun j k h => by simp at h⟩
  | [], _ :: _, h => h.elim
  | _ :: _, [], h => h.elim
  | k :: ks, f :: fs, h => by
    obtain ⟨h1, h2⟩ := fitsAll_get h.2
    refine ⟨by simp [h1], fun j k' hj => ?_⟩
    cases j with
    | zero => simp at hj; subst hj; exact ⟨f, rfl, h.1⟩
    | succ j => exact h2 j k' (by simpa using hj)

open Go.ChangeShapes Go.WideShapes Go.Deep
section
variable {H : Type} {enc : TypeId × Value → H} {P : Program} {w : World} {base : Nat} {held : Bool}
theorem row_of {t e : TypeId} {k : IntKind} {fuel : Nat} {v : Value} {x : DataW H × List MemPlace} (ht : P.underlying t = some (.slice e)) (he : P.underlying e = some (.int k)) (hc : P.cellsOf e = 1)
    (h : DataW.trod enc P w base (fun _ => true) held fuel t [v] = some x) : ∃ a len cap zs, v = .slice a len cap ∧ IsRow k w a len cap zs := by
  rcases open_ints ht he hc h with ⟨hcs, _⟩ | ⟨a, len, cap, zs, hcs, _, hl, hm, hz, _, hcell, hwz⟩
  · simp at hcs
    exact ⟨none, 0, 0, [], hcs, .inl ⟨rfl, rfl, rfl, rfl⟩⟩
  · simp at hcs
    exact ⟨_, len, cap, zs, hcs, .inr ⟨a, rfl, hl, hm, by simpa using hz, hcell, hwz⟩⟩
theorem FK.read {fk : FK} {t : TypeId} {fuel : Nat} {v : Value} {x : DataW H × List MemPlace} (hf : fk.fits P t) (h : DataW.trod enc P w base (fun _ => true) held fuel t [v] = some x) : fk.ok w v := by
  cases fk with
  | int k => obtain ⟨n, e, _, hw⟩ := DataW.trod_int hf h; simp at e; exact ⟨n, e, hw⟩
  | bool => obtain ⟨b, e, _⟩ := DataW.trod_bool hf h; simp at e; exact ⟨b, e⟩
  | str => obtain ⟨s, e, _, hs⟩ := DataW.trod_string hf h; simp at e; exact ⟨s, e, hs⟩
  | row k => obtain ⟨e, h1, h2, h3⟩ := hf; exact row_of h1 h2 h3 h
end

/-- What the walk is told of a slice of structs: nil, or rows of cells, one a field. -/
def IsStructs (w : World) (ks : List FK) (a : Option Addr) (len cap : Nat) : Prop :=
  (a = none ∧ len = 0 ∧ cap = 0) ∨
  ∃ x, a = some x ∧ len ≤ cap ∧ cap ≤ maxLen ∧ ∀ i, i < len → ∀ (j : Nat) (k : FK), ks[j]? = some k → ∃ v, w.cell? (x.add (i * ks.length + j)) = some v ∧ k.ok w v

section
variable {H : Type} {enc : TypeId × Value → H} {P : Program} {w : World} {base : Nat} {held : Bool}
theorem structs_of {t e : TypeId} {fs : Array Field} {ks : List FK} {fuel : Nat} {v : Value} {x : DataW H × List MemPlace} (ht : P.underlying t = some (.slice e)) (he : P.underlying e = some (.struct fs))
    (hone : oneCellFields P fs = true) (hC : P.cellsOf e = fs.size) (hfit : fitsAll P ks fs.toList) (h : DataW.trod enc P w base (fun _ => true) held fuel t [v] = some x) :
    ∃ a len cap, v = .slice a len cap ∧ IsStructs w ks a len cap := by
  obtain ⟨hlen, hget⟩ := fitsAll_get hfit
  have hsz : ks.length = fs.size := by simpa using hlen
  rcases open_slice ht h with ⟨h0, _⟩ | ⟨a, len, cap, m, n, D, Pl, hcs, _, hl, hm, hmm, _, hi⟩
  · simp at h0
    exact ⟨none, 0, 0, h0, .inl ⟨rfl, rfl, rfl⟩⟩
  · simp at hcs
    refine ⟨_, len, cap, hcs, .inr ⟨a, rfl, hl, hm, fun i hil j k hk => ?_⟩⟩
    obtain ⟨f, hf, hfk⟩ := hget j k hk
    have hf' : fs[j]? = some f := by rw [← Array.getElem?_toList]; exact hf
    have hjl : j < fs.size := (Array.getElem?_eq_some_iff.1 hf').1
    obtain ⟨cs', hc, ht'⟩ := hi i (by rw [hmm]; simp; omega)
    rw [hC] at hc
    obtain ⟨ys, n', _, _, hcl', hyl, hfields⟩ := DataW.trod_struct he ht'
    obtain ⟨_, hcl, hat⟩ := World.cells?_some hc
    obtain ⟨ho, hk1⟩ := hone_of hone j f hf'
    have hcell := hat j hjl
    have h1 := hfields j f hf'
    rw [ho, hk1] at h1
    have hone' : (cs'.drop j).take 1 = [cs'[j]'(by omega)] := by
      rw [List.drop_eq_getElem_cons (by omega)]
      rfl
    rw [hone', List.getElem?_eq_getElem (show j < ys.length by omega)] at h1
    refine ⟨cs'[j]'(by omega), ?_, FK.read hfk h1⟩
    rw [hsz, ← Go.Deep.add_add, hcell]
    exact List.getElem?_eq_getElem (by omega)
end

section
variable {H : Type} {enc : TypeId × Value → H} {P : Program} {w : World} {base : Nat} {held : Bool}
/-- A slice of elements of one cell each (a [][]byte: k = .row .u8). -/
theorem slices_of {t e : TypeId} {k : FK} {fuel : Nat} {v : Value} {x : DataW H × List MemPlace} (ht : P.underlying t = some (.slice e)) (hC : P.cellsOf e = 1) (hk : k.fits P e)
    (h : DataW.trod enc P w base (fun _ => true) held fuel t [v] = some x) : ∃ a len cap, v = .slice a len cap ∧ IsStructs w [k] a len cap := by
  rcases open_slice ht h with ⟨h0, _⟩ | ⟨a, len, cap, m, n, D, Pl, hcs, _, hl, hm, hmm, _, hi⟩
  · simp at h0
    exact ⟨none, 0, 0, h0, .inl ⟨rfl, rfl, rfl⟩⟩
  · simp at hcs
    refine ⟨_, len, cap, hcs, .inr ⟨a, rfl, hl, hm, fun i hil j k' hk' => ?_⟩⟩
    obtain ⟨rfl, rfl⟩ : j = 0 ∧ k' = k := by
      cases j with
      | zero => simp at hk'; exact ⟨rfl, hk'.symm⟩
      | succ j => simp at hk'
    obtain ⟨cs', hc, ht'⟩ := hi i (by rw [hmm]; simp; omega)
    rw [hC] at hc
    obtain ⟨_, hcl, hat⟩ := World.cells?_some hc
    have hcell := hat 0 (by omega)
    obtain ⟨u, rfl⟩ : ∃ u, cs' = [u] := by
      match cs', hcl with
      | [u], _ => exact ⟨u, rfl⟩
    refine ⟨u, ?_, FK.read hk ht'⟩
    show w.cell? (a.add (i * 1 + 0)) = some u
    rw [← Go.Deep.add_add, hcell]
    rfl
end

theorem list_choice {α : Type} {P : Nat → α → Prop} : ∀ (n : Nat), (∀ i, i < n → ∃ d, P i d) → ∃ ds : List α, ds.length = n ∧ ∀ (i : Nat) (d : α), ds[i]? = some d → P i d
  | 0, _ => ⟨[], rfl, fun i d h => by simp at h⟩
  | n + 1, h => by
    obtain ⟨ds, hl, hp⟩ := list_choice n (fun i hi => h i (by omega))
    obtain ⟨d, hd⟩ := h n (by omega)
    refine ⟨ds ++ [d], by simp [hl], fun i d' hi => ?_⟩
    rw [List.getElem?_append] at hi
    split at hi
    · exact hp i d' hi
    · have : i = n := by
        have := (List.getElem?_eq_some_iff.1 hi).1
        simp at this
        omega
      subst this
      simp [hl] at hi
      exact hi ▸ hd
theorem i64_of_wf {n : Int} (h : (Lit.int .i64 n).wf = true) : -9223372036854775808 ≤ n ∧ n ≤ 9223372036854775807 := by
  simpa [Lit.wf, IntKind.min, IntKind.max, IntKind.signed, IntKind.bits] using h
theorem u32_of_wf {n : Int} (h : (Lit.int .u32 n).wf = true) : 0 ≤ n ∧ n ≤ 4294967295 := by
  simpa [Lit.wf, IntKind.min, IntKind.max, IntKind.signed, IntKind.bits] using h
theorem u16_of_wf {n : Int} (h : (Lit.int .u16 n).wf = true) : 0 ≤ n ∧ n ≤ 65535 := by
  simpa [Lit.wf, IntKind.min, IntKind.max, IntKind.signed, IntKind.bits] using h
end Go.Proofs.Ytjomcffhbaplcaa
/- Rows of bytes, slices as rows, and the document's Same. -/
namespace Go.Proofs.Ytjomcffhbaplcaa
open Go.RowKit

theorem u8_info : (Try.prog.info? 5).map (fun i => (i.zero, i.size, i.bytes)) = some (some (.int .u8 0), 1, 1) := by kernel_rfl

theorem u8s_cells (l : List UInt8) : ∀ u ∈ l.map (fun b => Value.int .u8 b.toNat), u.oneCell' = true := by
  intro u hu
  obtain ⟨b, _, rfl⟩ := List.mem_map.1 hu
  rfl
/-- The values of bytes. -/
abbrev u8s (l : List UInt8) : List Value := l.map fun b => Value.int .u8 b.toNat

theorem own_form {w : World} {base : Nat} {e : TypeId} {size : Nat} {v : Value} {n : Nat} {xs : List Value} (h : w.ownsRow base e size v n xs) : ∃ A c, v = .slice A n c := by
  rcases h.2 with ⟨rfl, rfl⟩ | ⟨g, cap, cur, rfl, _⟩
  · exact ⟨_, _, rfl⟩
  · exact ⟨_, _, rfl⟩

theorem own_cell {w : World} {base : Nat} {t : TypeId} {A : Option Addr} {n c : Nat} {xs : List Value} (h : w.ownsRow base t 1 (.slice A n c) n xs) (hn : 0 < n) :
    ∃ b, A = some ⟨b, 0, none⟩ ∧ b < w.heap.size ∧ ∀ j u, xs[j]? = some u → w.cell? ⟨b, j, none⟩ = some u := by
  have hr := Row.of_own h
  obtain ⟨_, _, A', c', e, _, _, hh⟩ := hr
  injection e with e1 e2 e3
  subst e1
  obtain ⟨b, off, rfl, hf, hc⟩ := hh hn
  rcases h.2 with ⟨e, _⟩ | ⟨g, cap, cur, e, _, hh, _⟩
  · cases e
  · injection e with e1 e2 e3
    injection e1 with e1
    injection e1 with e1 e4
    subst e1 e4
    have hb : Blk w b t cur := by assumption
    exact ⟨b, rfl, hb.lt, fun j u hu => by have := hc j u hu; rwa [Nat.zero_add] at this⟩
theorem u8s_at (bs : List UInt8) (j : Nat) (h : j < bs.length) : (u8s bs)[j]? = some (.int .u8 ((bs.getD j 0).toNat)) := by
  rw [List.getElem?_map, List.getElem?_eq_getElem h, List.getD_eq_getElem?_getD, List.getElem?_eq_getElem h]; rfl

theorem Row.take1 {w : World} {F : Nat → Prop} {A : Option Addr} {n c : Nat} {xs : List Value} (h : Row w F 1 (.slice A n c) n xs) (m : Nat) (hm : m ≤ n) : Row w F 1 (.slice A m c) m (xs.take m) := by
  obtain ⟨h1, h0, A', c', e, h3, h4, h5⟩ := h
  injection e with e1 _ e3
  subst e1 e3
  refine ⟨by simp; omega, by omega, _, _, rfl, by omega, fun e => by have := h4 e; omega, fun hn => ?_⟩
  obtain ⟨b, off, e, hf, hc⟩ := h5 (by omega)
  refine ⟨b, off, e, hf, fun j u hu => hc j u ?_⟩
  rw [List.getElem?_take] at hu
  split at hu
  · exact hu
  · cases hu
theorem u8s_take (l : List UInt8) (n : Nat) : u8s (l.take n) = (u8s l).take n := by simp


theorem Row.form {w : World} {F : Nat → Prop} {size n : Nat} {v : Value} {xs : List Value} (h : Row w F size v n xs) : ∃ A c, v = .slice A n c ∧ n ≤ c := by
  obtain ⟨_, _, A, c, rfl, hc, _⟩ := h
  exact ⟨A, c, rfl, hc⟩
theorem Row.cellAt {w : World} {F : Nat → Prop} {A : Option Addr} {n c : Nat} {xs : List Value} (h : Row w F 1 (.slice A n c) n xs) (hn : 0 < n) :
    ∃ b off, A = some ⟨b, off, none⟩ ∧ F b ∧ ∀ j u, xs[j]? = some u → w.cell? ⟨b, off + j, none⟩ = some u := by
  obtain ⟨_, _, A', c', e, _, _, h⟩ := h
  injection e with e1
  subst e1
  exact h hn

set_option maxHeartbeats 1000000 in
theorem same_q (F G : Nat → Prop) (x y : Value) (a b : List UInt8) (w : World) (hx : Row w F 1 x a.length (u8s a)) (hy : Row w G 1 y b.length (u8s b)) :
    Calls Try.prog 19 #[x, y] w fun e w' => e = .returned (.bool (decide (a = b))) ∧ ∃ n, w' = w.drewN n := by
  obtain ⟨A, c, rfl, hc⟩ := hx.form
  obtain ⟨B, d, rfl, hd⟩ := hy.form
  have ha := hx.2.1
  have hb := hy.2.1
  unfold maxLen at ha hb
  by_cases hl : a.length = b.length
  · have e1 : ((a.length : Int) != (b.length : Int)) = false := by rw [hl]; simp
    have HX := Lib.hid hx
    have HY := Lib.hid hy
    clear hx hy
    have HL := Lib.hid hl
    rw [← hl] at HY ⊢
    clear hl hb
    rw [← HL.out] at e1
    go_enter Try.func19, Try.ntmps19
    go_wp2
    clear e1
    go_loopw [5] (fun i wr => ∃ k : Nat, k ≤ a.length ∧ i = .int .i64 k ∧ a.take k = b.take k ∧ ∃ n, wr = w.drewN n) (fun i _ => a.length - (intOf i).toNat)
    case atStart => exact ⟨0, by omega, rfl, by simp, 0, rfl⟩
    case round =>
      obtain ⟨k, hk, rfl, htake, q, hq⟩ := hrel
      have HT := Lib.hid htake
      have HQ := Lib.hid hq
      have HK := Lib.hid (Keeps.of_drewN hq)
      clear htake hq
      by_cases hlt : k < a.length
      · obtain ⟨p, o, rfl, _, hcx⟩ := (HX.out.keeps HK.out (fun _ _ h => h)).cellAt (by omega)
        obtain ⟨p2, o2, rfl, _, hcy⟩ := (HY.out.keeps HK.out (fun _ _ h => h)).cellAt (by omega)
        have hlb : k < b.length := by have := HL.out; omega
        have c1 := hcx k _ (u8s_at a k hlt)
        have c2 := hcy k _ (u8s_at b k hlb)
        have hi0 : (0 : Int) ≤ (k : Int) := by omega
        have hi1 : (k : Int) < (a.length : Int) := by omega
        obtain ⟨X, hX⟩ : ∃ X : Nat, X = (a.getD k 0).toNat := ⟨_, rfl⟩
        obtain ⟨Y, hY⟩ : ∃ Y : Nat, Y = (b.getD k 0).toNat := ⟨_, rfl⟩
        rw [← hX] at c1
        rw [← hY] at c2
        have HX1 := Lib.hid hX
        have HY1 := Lib.hid hY
        clear hX hY hcx hcy
        by_cases hxy : X = Y
        · subst hxy
          have hne : ((X : Int) != (X : Int)) = false := by simp
          go_wp2_with fail
          go_quiet (fail)
          go_wp2
          go_roundw
          case rel =>
            refine ⟨k + 1, by omega, by go_num, ?_, _, by rw [HQ.out, World.drewN_drewN]⟩
            rw [List.take_succ_eq_append_getElem hlt, List.take_succ_eq_append_getElem hlb, HT.out]
            have : a[k] = b[k] := by
              apply UInt8.toNat_inj.1
              have h1 := HX1.out
              have h2 := HY1.out
              rw [List.getD_eq_getElem?_getD, List.getElem?_eq_getElem hlt] at h1
              rw [List.getD_eq_getElem?_getD, List.getElem?_eq_getElem hlb] at h2
              exact h1.symm.trans h2
            rw [this]
          case measure => simp [intOf]; omega
        · have hne : ((X : Int) != (Y : Int)) = true := by rw [bne_iff_ne]; omega
          have hno : decide (a = b) = false := by
            rw [decide_eq_false_iff_not]
            rintro rfl
            exact hxy (HX1.out.trans HY1.out.symm)
          have HNO := Lib.hid hno
          clear hno
          go_wp2_with fail
          go_quiet (fail)
          go_wp2
          go_ret
          exact ⟨by rw [HNO.out]; rfl, _, by rw [HQ.out, World.drewN_drewN]⟩
      · have hk' : k = a.length := by omega
        have hyes : decide (a = b) = true := by
          rw [decide_eq_true_eq]
          have := HT.out
          rw [hk', List.take_length, HL.out, List.take_length] at this
          exact this
        have HYES := Lib.hid hyes
        clear hyes hk'
        go_wp2
        go_ret
        exact ⟨by rw [HYES.out]; rfl, _, HQ.out⟩
  · have e1 : ((a.length : Int) != (b.length : Int)) = true := by rw [bne_iff_ne]; omega
    have hno : decide (a = b) = false := by
      rw [decide_eq_false_iff_not]
      rintro rfl
      exact hl rfl
    have HNO := Lib.hid hno
    clear hno hl hx hy
    go_enter Try.func19, Try.ntmps19
    go_wp2
    go_ret
    exact ⟨by rw [HNO.out]; rfl, 0, rfl⟩
theorem same_any (F G : Nat → Prop) (x y : Value) (a b : List UInt8) (w : World) (hx : Row w F 1 x a.length (u8s a)) (hy : Row w G 1 y b.length (u8s b)) :
    Calls Try.prog 19 #[x, y] w fun e w' => e = .returned (.bool (decide (a = b))) ∧ Keeps nobody w w' :=
  (same_q F G x y a b w hx hy).mono fun _ _ ⟨h, _, h2⟩ => ⟨h, Keeps.of_drewN h2⟩
end Go.Proofs.Ytjomcffhbaplcaa
/- What chapter 11 says of packets and options. Nothing of the program. -/
namespace Go.Proofs.Ytjomcffhbaplcaa
namespace Pure
/-- A control packet. -/
structure Pkt where
  code : Int
  id : Int
  data : List UInt8
/-- What a packet may not be. -/
def Pkt.odd (p : Pkt) : Prop := p.code < 0 ∨ 255 < p.code ∨ p.id < 0 ∨ 255 < p.id
instance (p : Pkt) : Decidable p.odd := by unfold Pkt.odd; infer_instance
def Pkt.bytes (p : Pkt) : List UInt8 :=
  [UInt8.ofNat p.code.toNat, UInt8.ofNat p.id.toNat, UInt8.ofNat ((p.data.length + 4) / 256), UInt8.ofNat ((p.data.length + 4) % 256)] ++ p.data
/-- What is wrong with a packet, or nothing, and its bytes. -/
def encode (p : Pkt) : Nat × List UInt8 := if p.odd then (1, []) else if 1496 < p.data.length then (3, []) else (0, p.bytes)
theorem encode_odd {p : Pkt} (h : p.odd) : encode p = (1, []) := if_pos h
theorem encode_long {p : Pkt} (h : ¬ p.odd) (hl : 1496 < p.data.length) : encode p = (3, []) := by unfold encode; rw [if_neg h, if_pos hl]
theorem encode_ok {p : Pkt} (h : ¬ p.odd) (hl : ¬ 1496 < p.data.length) : encode p = (0, p.bytes) := by unfold encode; rw [if_neg h, if_neg hl]
def noPkt : Pkt := ⟨0, 0, []⟩
/-- The length that a packet states. -/
def stated (b : List UInt8) : Nat := (b.getD 2 0).toNat * 256 + (b.getD 3 0).toNat
def decode (b : List UInt8) : Nat × Pkt :=
  if b.length < 4 then (2, noPkt) else if stated b < 4 then (4, noPkt) else if b.length < stated b then (2, noPkt) else if 1500 < stated b then (3, noPkt)
  else (0, ⟨(b.getD 0 0).toNat, (b.getD 1 0).toNat, (b.drop 4).take (stated b - 4)⟩)
theorem decode_short {b : List UInt8} (h : b.length < 4) : decode b = (2, noPkt) := if_pos h
theorem decode_form {b : List UInt8} (h : ¬ b.length < 4) (h2 : stated b < 4) : decode b = (4, noPkt) := by unfold decode; rw [if_neg h, if_pos h2]
theorem decode_cut {b : List UInt8} (h : ¬ b.length < 4) (h2 : ¬ stated b < 4) (h3 : b.length < stated b) : decode b = (2, noPkt) := by unfold decode; rw [if_neg h, if_neg h2, if_pos h3]
theorem decode_long {b : List UInt8} (h : ¬ b.length < 4) (h2 : ¬ stated b < 4) (h3 : ¬ b.length < stated b) (h4 : 1500 < stated b) : decode b = (3, noPkt) := by unfold decode; rw [if_neg h, if_neg h2, if_neg h3, if_pos h4]
theorem decode_ok {b : List UInt8} (h : ¬ b.length < 4) (h2 : ¬ stated b < 4) (h3 : ¬ b.length < stated b) (h4 : ¬ 1500 < stated b) : decode b = (0, ⟨(b.getD 0 0).toNat, (b.getD 1 0).toNat, (b.drop 4).take (stated b - 4)⟩) := by unfold decode; rw [if_neg h, if_neg h2, if_neg h3, if_neg h4]
/-- An option: its type, its bytes. -/
abbrev Opt := Int × List UInt8
def Opt.odd (o : Opt) : Prop := o.1 < 0 ∨ 255 < o.1 ∨ 253 < o.2.length
instance (o : Opt) : Decidable (Opt.odd o) := by unfold Opt.odd; infer_instance
def Opt.bytes (o : Opt) : List UInt8 := [UInt8.ofNat o.1.toNat, UInt8.ofNat (o.2.length + 2)] ++ o.2
def joined (l : List Opt) : List UInt8 := l.flatMap Opt.bytes
def options (l : List Opt) : Nat × List UInt8 := if 32 < l.length then (3, []) else if ∃ o ∈ l, Opt.odd o then (1, []) else (0, joined l)
theorem options_long {l : List Opt} (h : 32 < l.length) : options l = (3, []) := if_pos h
theorem options_odd {l : List Opt} (h : ¬ 32 < l.length) (o : Opt) (ho : o ∈ l) (hodd : Opt.odd o) : options l = (1, []) := by unfold options; rw [if_neg h, if_pos ⟨o, ho, hodd⟩]
theorem options_ok {l : List Opt} (h : ¬ 32 < l.length) (ho : ∀ o ∈ l, ¬ Opt.odd o) : options l = (0, joined l) := by
  unfold options
  rw [if_neg h, if_neg (fun ⟨o, h1, h2⟩ => ho o h1 h2)]
/-- Options read, behind those that were read. -/
def splitGo : Nat → List UInt8 → List Opt → Nat × List Opt
  | 0, _, acc => (0, acc)
  | f + 1, b, acc =>
    if b = [] then (0, acc)
    else if acc.length = 32 then (3, [])
    else if b.length < 2 ∨ (b.getD 1 0).toNat < 2 ∨ b.length < (b.getD 1 0).toNat then (4, [])
    else splitGo f (b.drop (b.getD 1 0).toNat) (acc ++ [(((b.getD 0 0).toNat : Int), (b.drop 2).take ((b.getD 1 0).toNat - 2))])
theorem splitGo_fuel : ∀ (f g : Nat) (b : List UInt8) (acc : List Opt), b.length ≤ f → b.length ≤ g → splitGo f b acc = splitGo g b acc
  | 0, 0, _, _, _, _ => rfl
  | 0, g + 1, b, acc, hf, _ => by
    have : b = [] := List.eq_nil_of_length_eq_zero (by omega)
    subst this; simp [splitGo]
  | f + 1, 0, b, acc, _, hg => by
    have : b = [] := List.eq_nil_of_length_eq_zero (by omega)
    subst this; simp [splitGo]
  | f + 1, g + 1, b, acc, hf, hg => by
    unfold splitGo
    split
    · rfl
    · split
      · rfl
      · split
        · rfl
        · rename_i h
          exact splitGo_fuel f g _ _ (by rw [List.length_drop]; omega) (by rw [List.length_drop]; omega)
def splitFrom (b : List UInt8) (acc : List Opt) : Nat × List Opt := splitGo b.length b acc
theorem splitFrom_nil (acc : List Opt) : splitFrom [] acc = (0, acc) := rfl
theorem splitFrom_cons {b : List UInt8} (acc : List Opt) (hb : b ≠ []) : splitFrom b acc =
    if acc.length = 32 then (3, []) else if b.length < 2 ∨ (b.getD 1 0).toNat < 2 ∨ b.length < (b.getD 1 0).toNat then (4, [])
    else splitFrom (b.drop (b.getD 1 0).toNat) (acc ++ [(((b.getD 0 0).toNat : Int), (b.drop 2).take ((b.getD 1 0).toNat - 2))]) := by
  have h0 : 0 < b.length := List.length_pos_iff.2 hb
  obtain ⟨n, hn⟩ : ∃ n, b.length = n + 1 := ⟨b.length - 1, by omega⟩
  conv => lhs; unfold splitFrom; rw [hn]; unfold splitGo
  rw [if_neg hb]
  split
  · rfl
  · split
    · rfl
    · rename_i h
      exact splitGo_fuel _ _ _ _ (by rw [List.length_drop]; omega) (Nat.le_refl _)
def split (b : List UInt8) : Nat × List Opt := splitFrom b []
theorem splitFrom_full {b : List UInt8} {acc : List Opt} (hb : b ≠ []) (h : acc.length = 32) : splitFrom b acc = (3, []) := by rw [splitFrom_cons acc hb, if_pos h]
theorem splitFrom_bad {b : List UInt8} {acc : List Opt} (hb : b ≠ []) (h : acc.length ≠ 32) (h2 : b.length < 2 ∨ (b.getD 1 0).toNat < 2 ∨ b.length < (b.getD 1 0).toNat) : splitFrom b acc = (4, []) := by rw [splitFrom_cons acc hb, if_neg h, if_pos h2]
theorem splitFrom_step {b : List UInt8} {acc : List Opt} (hb : b ≠ []) (h : acc.length ≠ 32) (h2 : ¬ (b.length < 2 ∨ (b.getD 1 0).toNat < 2 ∨ b.length < (b.getD 1 0).toNat)) :
    splitFrom b acc = splitFrom (b.drop (b.getD 1 0).toNat) (acc ++ [(((b.getD 0 0).toNat : Int), (b.drop 2).take ((b.getD 1 0).toNat - 2))]) := by rw [splitFrom_cons acc hb, if_neg h, if_neg h2]
end Pure
end Go.Proofs.Ytjomcffhbaplcaa
