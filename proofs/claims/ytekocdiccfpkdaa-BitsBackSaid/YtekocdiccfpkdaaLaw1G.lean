/- The walk of the law BitsBack. -/
import Derived.Test.YtekocdiccfpkdaaLaw1F
namespace Go.Proofs.Ytekocdiccfpkdaa
open Go.RowKit

/-- Rows of unlike element types lie apart. -/
theorem ownsRow_apart {w : World} {b1 b2 : Nat} {e t : TypeId} {s1 s2 n1 n2 : Nat} {v u : Value} {xs ys : List Value} (h : w.ownsRow b1 e s1 v n1 xs) (h' : w.ownsRow b2 t s2 u n2 ys) (hne : e ≠ t) (q : Nat) (hq : v.ownBlock = some q) : u.ownBlock ≠ some q := by
  rcases h.2 with ⟨rfl, _⟩ | ⟨g, cap, cur, rfl, _, hh, _⟩
  · cases hq
  · have : g = q := by simpa [Value.ownBlock] using hq
    subst this
    exact ownsRow_ne h' (show Blk w g e cur from hh) (fun x => hne x.symm)

/-- May the number be put? -/
def DeedD.fits (d : DeedD) : Bool := decide (0 ≤ d.n) && decide (d.n ≤ 32) && decide (0 ≤ d.x) && decide (d.x < 2 ^ d.n.toNat)
def kept (l : List DeedD) : List DeedD := l.filter DeedD.fits
def bitsAll (high : Bool) (l : List DeedD) : List Bool := l.flatMap fun d => Pure.bitsOf high d.n.toNat d.x.toNat
def cellsAll (l : List DeedD) : List Value := l.flatMap DeedD.cells

theorem fits_iff (d : DeedD) (h : d.fits = true) : ∃ X N : Nat, d.x = X ∧ d.n = N ∧ N ≤ 32 ∧ X < 2 ^ N := by
  unfold DeedD.fits at h
  simp only [Bool.and_eq_true, decide_eq_true_eq] at h
  obtain ⟨⟨⟨h1, h2⟩, h3⟩, h4⟩ := h
  refine ⟨d.x.toNat, d.n.toNat, by omega, by omega, by omega, ?_⟩
  have : ((2 ^ d.n.toNat : Nat) : Int) = 2 ^ d.n.toNat := by simp
  omega
theorem not_fits (d : DeedD) (h : d.fits = false) : d.n < 0 ∨ 32 < d.n ∨ d.x < 0 ∨ 2 ^ d.n.toNat ≤ d.x := by
  unfold DeedD.fits at h
  simp only [Bool.and_eq_false_iff, decide_eq_false_iff_not] at h
  omega
theorem bitsAll_length (high : Bool) (l : List DeedD) (h : ∀ d ∈ l, d.fits = true) : (bitsAll high l).length ≤ 32 * l.length := by
  induction l with
  | nil => simp [bitsAll]
  | cons d l ih =>
    have h1 := ih (fun x hx => h x (List.mem_cons_of_mem _ hx))
    obtain ⟨X, N, _, hN, hle, _⟩ := fits_iff d (h d List.mem_cons_self)
    have e : (bitsAll high (d :: l)).length = d.n.toNat + (bitsAll high l).length := by simp [bitsAll, Pure.bitsOf_length]
    rw [e, List.length_cons]
    omega
theorem cellsAll_length (l : List DeedD) : (cellsAll l).length = l.length * 4 := by
  induction l with
  | nil => rfl
  | cons d l ih =>
    have e : cellsAll (d :: l) = d.cells ++ cellsAll l := rfl
    rw [e, List.length_append, ih, List.length_cons]
    have : d.cells.length = 4 := rfl
    omega
theorem cellsAll_get (l : List DeedD) (i j : Nat) (d : DeedD) (h : l[i]? = some d) (hj : j < 4) : (cellsAll l)[i * 4 + j]? = d.cells[j]? := by
  induction l generalizing i with
  | nil => simp at h
  | cons e l ih =>
    have e1 : cellsAll (e :: l) = e.cells ++ cellsAll l := rfl
    have e4 : e.cells.length = 4 := rfl
    rw [e1, List.getElem?_append]
    cases i with
    | zero =>
      simp at h
      subst h
      rw [if_pos (by omega)]
      congr 1
      omega
    | succ i =>
      rw [if_neg (by omega)]
      have := ih i (by simpa using h)
      rw [← this]
      congr 1
      omega
theorem kept_fits (l : List DeedD) : ∀ d ∈ kept l, d.fits = true := fun _ hd => (List.mem_filter.1 hd).2
theorem kept_take (l : List DeedD) (k : Nat) (d : DeedD) (h : l[k]? = some d) : kept (l.take (k + 1)) = kept (l.take k) ++ (if d.fits then [d] else []) := by
  unfold kept
  rw [List.take_add_one, h, List.filter_append]
  by_cases hf : d.fits = true
  · simp [hf]
  · simp [hf]
theorem kept_len (l : List DeedD) (k : Nat) : (kept (l.take k)).length ≤ l.length := by
  have h1 := List.length_filter_le DeedD.fits (l.take k)
  have h2 := List.length_take_le k l
  have h3 : (l.take k).length ≤ l.length := by rw [List.length_take]; omega
  unfold kept
  omega
theorem oneCells (l : List DeedD) (h : ∀ d ∈ l, d.v.oneCell' = true) : ∀ u ∈ cellsAll l, u.oneCell' = true := by
  intro u hu
  obtain ⟨d, hd, hu⟩ := List.mem_flatMap.1 hu
  simp only [DeedD.cells, List.mem_cons, List.not_mem_nil, or_false] at hu
  rcases hu with rfl | rfl | rfl | rfl
  · rfl
  · rfl
  · rfl
  · exact h d hd

/-- At the head of the first loop's rounds. -/
def BackAt (w : World) (g : Nat) (high : Bool) (l : List DeedD) (c : Value) (wr : World) : Prop :=
  w.heap.size ≤ g ∧ Below w.heap.size w wr ∧ wr.ownsRow w.heap.size 38 4 c l.length (cellsAll l) ∧
  ∃ v bs free, WObj wr g v high (bitsAll high l) bs free ∧ ∀ q, v.ownBlock = some q → w.heap.size ≤ q

theorem deed_info : (Try.prog.info? 38).map (fun i => (i.zero, i.size, i.bytes)) = some (some (.agg #[.int .i64 0, .int .i64 0, .int .i64 0, .slice none 0 0]), 4, 48) := by kernel_rfl

theorem BackAt.drew {w wr : World} {g : Nat} {high : Bool} {l : List DeedD} {c : Value} (h : BackAt w g high l c wr) : BackAt w g high l c wr.drew := by
  obtain ⟨h1, h2, h3, v, bs, free, h4, h5⟩ := h
  exact ⟨h1, h2.drew, h3, v, bs, free, ⟨⟨h4.blk, h4.own, h4.packs⟩, h4.rest⟩, h5⟩
/-- The first loop's step, where the number was put and the deed appended. -/
theorem BackAt.step {w wr w2 w3 : World} {g : Nat} {high : Bool} {l : List DeedD} {d : DeedD} {c c3 v v2 : Value} {bs bs2 : List UInt8} {free f2 : Nat} {o : Obj} (hg : w.heap.size ≤ g) (hb : Below w.heap.size w wr)
    (hc : wr.ownsRow w.heap.size 38 4 c l.length (cellsAll l)) (hw : WObj wr g v high (bitsAll high l) bs free) (hv : ∀ q, v.ownBlock = some q → w.heap.size ≤ q)
    (ho2 : WObj w2 g v2 high (bitsAll high l ++ Pure.bitsOf high d.n.toNat d.x.toNat) bs2 f2) (hk2 : Keeps (fw g v) wr w2) (hv2 : ∀ q, v2.ownBlock = some q → v.ownBlock = some q ∨ wr.heap.size ≤ q)
    (hc3 : w3.ownsRow w.heap.size 38 4 c3 (l.length + 1) (cellsAll l ++ d.cells)) (hg3 : (w2.alloc o).grownBy w3 c.ownBlock) : BackAt w g high (l ++ [d]) c3 w3 := by
  have hcw2 : w2.ownsRow w.heap.size 38 4 c l.length (cellsAll l) := ownsRow_keeps hc hk2 (fun q hq hf => by
    rcases hf with rfl | hf
    · exact ownsRow_ne hc hw.blk (by decide) hq
    · exact ownsRow_apart hc hw.own (by decide) q hq hf)
  have hk3 : Keeps (fun q => c.ownBlock = some q) w2 w3 := ((Keeps.refl _ w2).alloc o).grown hg3 (fun q hq _ => hq)
  have hb2 : Below w.heap.size w w2 := Below.keeps hb hk2 hb.size (fun q hq => by rcases hq with rfl | hq; exact hg; exact hv q hq)
  have hb3 : Below w.heap.size w w3 := Below.keeps hb2 hk3 hb2.size (fun q hq => ownsRow_ge hc q hq)
  refine ⟨hg, hb3, ?_, v2, bs2, f2, ?_, fun q hq => ?_⟩
  · have e : cellsAll (l ++ [d]) = cellsAll l ++ d.cells := by simp [cellsAll]
    rw [e, List.length_append]
    exact hc3
  · have e : bitsAll high (l ++ [d]) = bitsAll high l ++ Pure.bitsOf high d.n.toNat d.x.toNat := by simp [bitsAll]
    rw [e]
    refine ho2.keeps hk3 (fun q hf hq => ?_)
    rcases hf with rfl | hf
    · exact ownsRow_ne hcw2 ho2.blk (by decide) hq
    · exact ownsRow_apart hcw2 ho2.own (by decide) q hq hf
  · rcases hv2 q hq with h | h
    · exact hv q h
    · exact Nat.le_trans hb.size h

set_option maxRecDepth 100000 in
set_option maxHeartbeats 4000000 in
theorem bitsBack_walk (a0 : Bool) (a1 : Option Addr) (len1 cap1 : Nat) (w : World) (w1 : IsStructs w [.int .i64, .int .i64, .int .i64, .row .u8] a1 len1 cap1) :
    Calls Try.prog 6 #[.bool a0, .slice a1 len1 cap1] w fun e w' => e = .returned (.bool true) ∧ Below w.heap.size w w' := by
  obtain ⟨ds, hds⟩ := deeds_of w1
  have D0 := Lib.hid hds
  have hcnt := hds.count
  have hmost := hds.most
  have hfits := hds.fits
  unfold maxLen at hmost
  clear hds w1
  subst hcnt
  go_enter Try.func6, Try.ntmps6
  go_wp2_with fail
  refine (awake_any w).mono ?_
  rintro e wa ⟨rfl, hb0⟩
  have BA := Lib.hid hb0
  have D1 := Lib.hid (D0.out.keeps (Keeps.new hb0) (fun _ _ h => h))
  clear hb0
  go_wp2_with fail
  refine (room_any _ _ _ _ ds wa D1.out).mono ?_
  rintro e wb ⟨rfl, rfl⟩
  by_cases hroom : roomB ds = false
  · rw [hroom]
    clear hroom
    go_wp2
    go_ret
    exact ⟨rfl, BA.out⟩
  · have hroom' : roomB ds = true := by simpa using hroom
    have h100 : ds.length ≤ 100 := by
      unfold roomB at hroom'
      simp only [Bool.and_eq_true, decide_eq_true_eq] at hroom'
      exact hroom'.1
    rw [hroom']
    clear hroom hroom'
    go_wp2_with fail
    refine (newWriter_ok a0 _).mono ?_
    rintro e wc ⟨g, rfl, hg, ho, hb⟩
    have hstart : BackAt w g a0 [] (.slice none 0 0) wc := ⟨Nat.le_trans BA.out.size hg, BA.out.trans (hb.mono BA.out.size), ⟨rfl, .inl ⟨rfl, rfl⟩⟩, _, _, _, ho, fun q hq => by cases hq⟩
    have HS := Lib.hid hstart
    clear hstart hg ho hb BA D1
    go_wp2_with fail
    go_loopw [6, 7] (fun c i wr => ∃ k : Nat, k ≤ ds.length ∧ i = .int .i64 k ∧ BackAt w g a0 (kept (ds.take k)) c wr) (fun _ i _ => ds.length - (intOf i).toNat)
    case atStart => exact ⟨0, by omega, rfl, HS.out⟩
    case round =>
      obtain ⟨k, hk, rfl, hrel⟩ := hrel
      have HR := Lib.hid hrel
      clear hrel HS
      by_cases hlt : k < ds.length
      · obtain ⟨d, hd⟩ : ∃ d, ds[k]? = some d := ⟨_, List.getElem?_eq_getElem hlt⟩
        have D1 := Lib.hid (D0.out.keeps (Keeps.new HR.out.2.1) (fun _ _ h => h))
        obtain ⟨b, off, rfl, hbB, hcell⟩ := D1.out.cells k d hd
        have c1 := hcell 1 _ rfl
        have c2 := hcell 2 _ rfl
        have HC := Lib.hid hcell
        have HD := Lib.hid hd
        have HKT := Lib.hid (kept_take ds k d hd)
        clear hcell hd
        have hi0 : (0 : Int) ≤ (k : Int) := by omega
        have hi1 : (k : Int) < (ds.length : Int) := by omega
        obtain ⟨hgw, hbw, hput, v, bs, free, hwo, hvq⟩ := HR.out
        have WO := Lib.hid hwo
        have PO := Lib.hid hput
        have BO := Lib.hid hbw
        have VQ := Lib.hid hvq
        have hkl := kept_len ds k
        have hbl := bitsAll_length a0 _ (kept_fits (ds.take k))
        clear hwo hput hbw hvq HR
        obtain ⟨act, x, n, dv, dbs⟩ := d
        obtain ⟨Ad, cd, hdv, _⟩ := (D0.out.row k _ HD.out).form
        have hdv : dv = .slice Ad dbs.length cd := hdv
        subst hdv
        have c1 : wr.cell? ⟨b, off + k * 4 + 1, none⟩ = some (.int .i64 x) := c1
        have c2 : wr.cell? ⟨b, off + k * 4 + 2, none⟩ = some (.int .i64 n) := c2
        go_upto_region 12 with fail
        refine wp_region_Z (fun w' => w'.cell? ⟨b, off + k * 4 + 1, none⟩ = some (.int .i64 x) ∧ w'.cell? ⟨b, off + k * 4 + 2, none⟩ = some (.int .i64 n)) 11 12 rfl (by kernel_rfl) ⟨c1, c2⟩ (fun hHeld => ?_)
        iterate 11
          refine wpAnyZ_next rfl (by kernel_rfl) (fun _ _ _ h => h) (Or.inl ⟨by rfl, by intro w hSw; obtain ⟨s0, s1⟩ := hSw; go_simp; try with_reducible rfl⟩) hHeld.out ?_
          simp only [Act.put, List.setIfInBounds_toArray, Nat.reduceAdd]
        refine wpAnyZ_step (by kernel_rfl) rfl (fun K hK => ?_)
        clear hHeld
        go_simp
        by_cases hfit : DeedD.fits ⟨act, x, n, .slice Ad dbs.length cd, dbs⟩ = true
        · obtain ⟨X, N, hX, hN, hN32, hXlt⟩ := fits_iff _ hfit
          have hX : x = X := hX
          have hN : n = N := hN
          rw [if_pos hfit] at HKT
          subst hX hN
          refine (put_ok g v a0 _ bs free X N wr.drew (WO.out.keeps (Keeps.refl nobody wr).drew (fun _ _ h => h)) hN32 hXlt (by omega)).mono ?_
          rintro e w2 ⟨rfl, v2, bs2, f2, ho2, hk2, hv2⟩
          refine hK.out _ _ (fun h => absurd rfl h) ?_
          refine wpAnyZ_done (by kernel_rfl) ?_ _
          clear hK K
          have hk2' : Keeps (fw g v) wr w2 := (Keeps.refl (fw g v) wr).drew.trans hk2
          have hcell2 : ∀ j u, (DeedD.cells ⟨act, X, N, .slice Ad dbs.length cd, dbs⟩)[j]? = some u → w2.cell? ⟨b, off + k * 4 + j, none⟩ = some u := fun j u hu =>
            (World.cell?_of_block (w := wr) (a := ⟨b, off + k * 4 + j, none⟩) (hk2'.block b (cell_lt (HC.out j u hu)) (fun hf => by rcases hf with h | h; omega; have := VQ.out b h; omega))).trans (HC.out j u hu)
          have e0 : w2.cell? ⟨b, off + k * 4, none⟩ = some (.int .i64 act) := hcell2 0 _ rfl
          have e1 : w2.cell? ⟨b, off + k * 4 + 1, none⟩ = some (.int .i64 X) := hcell2 1 _ rfl
          have e2 : w2.cell? ⟨b, off + k * 4 + 2, none⟩ = some (.int .i64 N) := hcell2 2 _ rfl
          have e3 : w2.cell? ⟨b, off + k * 4 + 3, none⟩ = some (.slice Ad dbs.length cd) := hcell2 3 _ rfl
          have PO2 := Lib.hid (ownsRow_keeps PO.out hk2' (fun q hq hf => by
            rcases hf with rfl | hf
            · exact ownsRow_ne PO.out WO.out.blk (by decide) hq
            · exact ownsRow_apart PO.out WO.out.own (by decide) q hq hf))
          have hsz2 : w.heap.size ≤ w2.heap.size := Nat.le_trans BO.out.size hk2'.size
          have HO2 := Lib.hid ho2
          have HK2 := Lib.hid hk2'
          have HV2 := Lib.hid hv2
          obtain ⟨i0, hi0', hz0, hz1, hz2⟩ := info_parts deed_info
          have hrow1 : Row (w2.alloc (.cells #[.int .i64 act, .int .i64 X, .int .i64 N, .slice Ad dbs.length cd] 38)) (fun _ => True) 4 (.slice (some ⟨w2.heap.size, 0, none⟩) 1 1) 1 [.int .i64 act, .int .i64 X, .int .i64 N, .slice Ad dbs.length cd] :=
            Row.block (Blk.new w2 38 #[.int .i64 act, .int .i64 X, .int .i64 N, .slice Ad dbs.length cd]) trivial rfl (by simp [maxLen]) (Nat.le_refl _)
          have HRow := Lib.hid hrow1
          clear hrow1 ho2 hk2 hk2' hv2 hcell2 c1 c2
          go_wp2_with (at_builtin; refine stopHere ?_)
          unfold Hid
          refine wpList_append_row rfl (.tmp 44) (.tmp 49) _ rfl w.heap.size 38 i0 _ 4 48 Try.underlying33 hi0' hz0 hz1 hz2 rfl (by omega) u6 (kept (ds.take k)).length _
            rfl (PO2.out.alloc _) _ _ 1 _ rfl HRow.out (by simp [Value.oneCell']) (by simp only [maxLen]; omega) (by omega) (by simp; omega) ?_
          intro c3 w3 hown3 hg3 _
          have hnew := BackAt.step (d := ⟨act, X, N, .slice Ad dbs.length cd, dbs⟩) hgw BO.out PO.out WO.out VQ.out HO2.out HK2.out HV2.out hown3 hg3
          rw [← HKT.out] at hnew
          have HNEW := Lib.hid hnew
          clear hnew hown3 hg3 e0 e1 e2 e3 hi0' hz0 hz1 hz2
          go_wp2
          go_roundw
          case rel => exact ⟨k + 1, by omega, by go_num, HNEW.out⟩
          case measure => simp [intOf]; omega
        · have hfit' : DeedD.fits ⟨act, x, n, .slice Ad dbs.length cd, dbs⟩ = false := by simpa using hfit
          rw [if_neg hfit, List.append_nil] at HKT
          refine (put_no g v a0 _ bs free x n wr.drew (WO.out.keeps (Keeps.refl nobody wr).drew (fun _ _ h => h)) (not_fits _ hfit')).mono ?_
          rintro e w2 ⟨rfl, rfl⟩
          refine hK.out _ _ (fun h => absurd rfl h) ?_
          refine wpAnyZ_done (by kernel_rfl) ?_ _
          have hnew : BackAt w g a0 (kept (ds.take (k + 1))) u6 wr.drew := by
            rw [HKT.out]
            exact BackAt.drew ⟨hgw, BO.out, PO.out, v, bs, free, WO.out, VQ.out⟩
          have HNEW := Lib.hid hnew
          clear hK K hnew hfit hfit' c1 c2
          go_wp2
          go_roundw
          case rel => exact ⟨k + 1, by omega, by go_num, HNEW.out⟩
          case measure => simp [intOf]; omega
      · obtain rfl : k = ds.length := by omega
        rw [List.take_length] at HR
        obtain ⟨hgw, hbw, hput, v, bs, free, hwo, hvq⟩ := HR.out
        have hbl := bitsAll_length a0 _ (kept_fits ds)
        have hkl : (kept ds).length ≤ ds.length := List.length_filter_le _ _
        have hpk := hwo.packs
        have hfr := hwo.rest
        have hl8 : 8 * bs.length = (bitsAll a0 (kept ds)).length + free := hpk.len
        have PK := Lib.hid hpk
        have HF := Lib.hid (kept_fits ds)
        obtain ⟨K, hK⟩ : ∃ K, K = kept ds := ⟨_, rfl⟩
        rw [← hK] at hput hwo hbl hkl hl8 PK HF
        have WO := Lib.hid hwo
        have PO := Lib.hid hput
        have BO := Lib.hid hbw
        obtain ⟨Ap, cp, hup⟩ := own_form hput
        clear hpk hwo hput hbw hvq HR hK
        subst hup
        go_wp2_with fail
        refine (wbytes_any g v a0 _ _ _ wr WO.out (by omega)).mono ?_
        rintro e w2 ⟨u, rfl, hown2, hb2⟩
        have U2 := Lib.hid hown2
        have B2 := Lib.hid (BO.out.trans (hb2.mono BO.out.size))
        have P2 := Lib.hid (ownsRow_keeps PO.out (Keeps.new hb2) (fun _ _ h => h))
        obtain ⟨Au, cu, rfl⟩ := own_form hown2
        clear hown2 hb2 WO PO BO
        go_wp2_with fail
        refine (newReader_any _ _ a0 bs w2 (Row.of_own U2.out) (by omega)).mono ?_
        rintro e w3 ⟨g3, v3, rfl, hg3, hr3, hv3, hb3⟩
        have R3 := Lib.hid hr3
        have B3 := Lib.hid (B2.out.trans (hb3.mono B2.out.size))
        have P3 := Lib.hid (ownsRow_keeps P2.out (Keeps.new hb3) (fun _ _ h => h))
        have hg3' : w.heap.size ≤ g3 := Nat.le_trans B2.out.size hg3
        have hpq : ∀ q, (Value.slice Ap K.length cp).ownBlock = some q → ¬ only g3 q := fun q hq e => by
          have e : q = g3 := e
          have := ownsRow_lt P2.out q hq
          omega
        have PQ := Lib.hid hpq
        clear hr3 hv3 hb3 hg3 B2 P2 U2 hpq
        go_wp2_with fail
        go_loopw [9] (fun i wr => ∃ j : Nat, j ≤ K.length ∧ i = .int .i64 j ∧ RObj wr g3 v3 a0 bs (bitsAll a0 (K.take j)).length ∧ Below w.heap.size w wr ∧ wr.ownsRow w.heap.size 38 4 (.slice Ap K.length cp) K.length (cellsAll K)) (fun i _ => K.length - (intOf i).toNat)
        case atStart => exact ⟨0, by omega, rfl, R3.out, B3.out, P3.out⟩
        case round =>
          obtain ⟨j, hj, rfl, hr, hb, hp⟩ := hrel
          have RR := Lib.hid hr
          have BR := Lib.hid hb
          have PR := Lib.hid hp
          clear hr hb hp R3 B3 P3
          by_cases hlt : j < K.length
          · obtain ⟨d, hd⟩ : ∃ d, K[j]? = some d := ⟨_, List.getElem?_eq_getElem hlt⟩
            obtain ⟨X, N, hX, hN, hN32, hXlt⟩ := fits_iff d (HF.out d (List.mem_of_getElem? hd))
            have hsplit : bitsAll a0 K = bitsAll a0 (K.take j) ++ Pure.bitsOf a0 N X ++ bitsAll a0 (K.drop (j + 1)) := by
              have h1 : K = K.take j ++ [d] ++ K.drop (j + 1) := by
                have h2 : K.take (j + 1) = K.take j ++ [d] := by rw [List.take_add_one, hd]; rfl
                rw [← h2, List.take_append_drop]
              have h3 : bitsAll a0 (K.take j ++ [d] ++ K.drop (j + 1)) = bitsAll a0 (K.take j) ++ Pure.bitsOf a0 N X ++ bitsAll a0 (K.drop (j + 1)) := by
                simp [bitsAll, hX, hN]
              rw [← h3, ← h1]
            have hnext : (bitsAll a0 (K.take (j + 1))).length = (bitsAll a0 (K.take j)).length + N := by
              have h2 : K.take (j + 1) = K.take j ++ [d] := by rw [List.take_add_one, hd]; rfl
              rw [h2]
              simp [bitsAll, Pure.bitsOf_length, hN]
            have hpk := PK.out
            rw [hsplit] at hpk
            have hpe := hpk.peek hXlt
            obtain ⟨pb, rfl, hpblt, hcell⟩ : ∃ pb, Ap = some ⟨pb, 0, none⟩ ∧ pb < wr.heap.size ∧ ∀ q u, (cellsAll K)[q]? = some u → wr.cell? ⟨pb, q, none⟩ = some u := by
              obtain ⟨_, _, A', c', e, _, _, hh⟩ := Row.of_own PR.out
              injection e with e1 e2 e3
              subst e1
              obtain ⟨pb, off, rfl, hf, hc⟩ := hh (by omega)
              have hoff : off = 0 := by
                rcases PR.out.2 with ⟨e, _⟩ | ⟨g', cap', cur', e, _⟩
                · cases e
                · injection e with e1
                  injection e1 with e1
                  injection e1 with e1 e4
              subst hoff
              have hpe0 : (cellsAll K)[0]? = some (.int .i64 (K[0]'(by omega)).act) := by
                have := cellsAll_get K 0 0 (K[0]'(by omega)) (List.getElem?_eq_getElem (by omega)) (by omega)
                exact this
              exact ⟨pb, rfl, cell_lt (hc 0 _ hpe0), fun q u hu => by have := hc q u hu; rwa [Nat.zero_add] at this⟩
            have c1 : wr.cell? ⟨pb, j * 4 + 1, none⟩ = some (.int .i64 X) := hcell _ _ (by rw [cellsAll_get K j 1 d hd (by omega)]; simp [DeedD.cells, hX])
            have c2 : wr.cell? ⟨pb, j * 4 + 2, none⟩ = some (.int .i64 N) := hcell _ _ (by rw [cellsAll_get K j 2 d hd (by omega)]; simp [DeedD.cells, hN])
            have hj0 : (0 : Int) ≤ (j : Int) := by omega
            have hj1 : (j : Int) < (K.length : Int) := by omega
            have PE := Lib.hid hpe
            have HNX := Lib.hid hnext
            have hpbq : pb ≠ g3 := fun e => PQ.out pb rfl e
            clear hcell hpk hsplit hpe hnext hX hN hd
            go_wp2_with fail
            refine (peek_any g3 v3 a0 bs _ N wr RR.out hN32).mono ?_
            rintro e w4 ⟨rfl, hb4⟩
            have R4 := Lib.hid (RR.out.keeps (Keeps.new hb4) (fun h => h) (fun _ _ h => h))
            have B4 := Lib.hid (BR.out.trans (hb4.mono BR.out.size))
            have P4 := Lib.hid (ownsRow_keeps PR.out (Keeps.new hb4) (fun _ _ h => h))
            have d1 : w4.cell? ⟨pb, j * 4 + 1, none⟩ = some (.int .i64 X) := (hb4.cell (p := ⟨pb, j * 4 + 1, none⟩) hpblt).trans c1
            have d2 : w4.cell? ⟨pb, j * 4 + 2, none⟩ = some (.int .i64 N) := (hb4.cell (p := ⟨pb, j * 4 + 2, none⟩) hpblt).trans c2
            have hpb4 : pb < w4.heap.size := Nat.lt_of_lt_of_le hpblt hb4.size
            have emin : ((min N (8 * bs.length - (bitsAll a0 (K.take j)).length) : Nat) : Int) = (N : Int) := by have := PE.out.2; omega
            rw [PE.out.1, emin]
            clear emin hb4 RR BR PR c1 c2 hpblt
            go_wp2_with fail
            refine (take_ok g3 v3 a0 bs _ N w4 R4.out hN32 (by have := PE.out.2; omega)).mono ?_
            rintro e w5 ⟨rfl, hr5, hk5⟩
            have R5 := Lib.hid hr5
            have B5 := Lib.hid (Below.keeps B4.out hk5 B4.out.size (fun i hi => by have hi : i = g3 := hi; omega))
            have P5 := Lib.hid (ownsRow_keeps P4.out hk5 PQ.out)
            have f1 : w5.cell? ⟨pb, j * 4 + 1, none⟩ = some (.int .i64 X) := (World.cell?_of_block (w := w4) (a := ⟨pb, j * 4 + 1, none⟩) (hk5.block pb hpb4 (fun e => hpbq e))).trans d1
            have f2 : w5.cell? ⟨pb, j * 4 + 2, none⟩ = some (.int .i64 N) := (World.cell?_of_block (w := w4) (a := ⟨pb, j * 4 + 2, none⟩) (hk5.block pb hpb4 (fun e => hpbq e))).trans d2
            rw [PE.out.1]
            rw [← HNX.out] at R5
            clear hr5 hk5 R4 B4 P4 d1 d2
            have hne1 : ((X : Int) != (X : Int)) = false := by simp
            have hne2 : ((N : Int) != (N : Int)) = false := by simp
            go_wp2
            go_roundw
            case rel => exact ⟨j + 1, by omega, by go_num, R5.out, B5.out, P5.out⟩
            case measure => simp [intOf]; omega
          · obtain rfl : j = K.length := by omega
            rw [List.take_length] at RR
            have hz : Pure.peek a0 bs (bitsAll a0 K).length free = 0 := by
              unfold Pure.peek
              apply Nat.eq_of_testBit_eq
              intro i
              rw [Pure.num_testBit, PK.out.bits, List.getD_eq_getElem?_getD, List.getElem?_eq_none (by omega)]
              simp
            have HZ := Lib.hid hz
            clear hz PR
            go_wp2_with fail
            refine (left_any g3 v3 a0 bs _ wr RR.out).mono ?_
            rintro e w4 ⟨rfl, n4, hw4⟩
            have R4 := Lib.hid (RR.out.keeps (Keeps.of_drewN hw4) (fun h => h) (fun _ _ h => h))
            have B4 := Lib.hid (Below.quiet BR.out (Keeps.of_drewN hw4) BR.out.size)
            have efr : (bs.length : Int) * 8 - ((bitsAll a0 K).length : Nat) = (free : Int) := by omega
            rw [efr]
            clear efr hw4 RR BR
            go_wp2_with fail
            refine (take_ok g3 v3 a0 bs _ free w4 R4.out (by omega) (by omega)).mono ?_
            rintro e w5 ⟨rfl, _, hk5⟩
            have B5 := Lib.hid (Below.keeps B4.out hk5 B4.out.size (fun i hi => by have hi : i = g3 := hi; omega))
            rw [HZ.out]
            clear hk5 R4 B4
            go_wp2
            go_ret
            exact ⟨rfl, B5.out⟩
end Go.Proofs.Ytekocdiccfpkdaa
