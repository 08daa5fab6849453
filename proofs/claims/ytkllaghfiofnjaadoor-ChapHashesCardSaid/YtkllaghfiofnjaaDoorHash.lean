/- chap.told, chap.hashOf, chap.Hash. -/
import Derived.Test.YtkllaghfiofnjaaDoorHashU
import Derived.Test.YtkllaghfiofnjaaDoorChapC
import Derived.Test.YtkllaghfiofnjaaDoorDigS
namespace Go.Proofs.YtkllaghfiofnjaaDoor
open Go.RowKit
/-- What the walks of chap ask of a world: package errors' variable, and package utf8's tables. -/
structure Env (w : World) : Prop where
  hd : Handle w
  tb : Tabs w
theorem Env.below {w w' : World} (h : Env w) (k : Below w.heap.size w w') : Env w' := ⟨h.hd.below k, h.tb.below k⟩
theorem rows_apart {w : World} {base base' n n' : Nat} {e t : TypeId} {size size' : Nat} {v v' : Value} {xs xs' : List Value} (h : w.ownsRow base e size v n xs) (h' : w.ownsRow base' t size' v' n' xs') (hne : e ≠ t) : ∀ b, v.ownBlock = some b → v'.ownBlock ≠ some b := by
  intro b hb
  rcases h'.2 with ⟨rfl, _⟩ | ⟨g', cap, cur, rfl, _, hh, _⟩
  · simp [Value.ownBlock]
  · intro he
    have : g' = b := by simpa [Value.ownBlock] using he
    subst this
    exact ownsRow_ne h (show Blk w g' t cur from hh) hne hb
theorem told_any (A : Option Addr) (n c : Nat) (x : Value) (k : Nat) (w : World) (hg : Handle w) (h : ErrIs w x k) : Calls Tryd.prog 49 #[.slice A n c, x] w fun e w' => e = .returned (.tuple #[.slice A n c, .int .i64 (k : Int)]) ∧ Below w.heap.size w w' := by
  have HN := Lib.hid (number_any x k w hg h)
  clear hg h
  go_enter Tryd.func49, Tryd.ntmps49
  go_wp2_with fail
  refine HN.out.mono ?_
  rintro e w1 ⟨rfl, hb⟩
  have HB := Lib.hid hb
  clear hb HN
  go_wp2
  go_ret2
  exact ⟨rfl, HB.out⟩
/-- What hashOf answers. -/
def HashOk (w0 : World) (l : List UInt8) (e : Ending) (w' : World) : Prop :=
  ∃ A c x, e = .returned (.tuple #[.slice A (Pure.hash l).2.length c, x]) ∧ ErrIs w' x (Pure.hash l).1 ∧ w'.ownsRow w0.heap.size 5 1 (.slice A (Pure.hash l).2.length c) (Pure.hash l).2.length (u8s (Pure.hash l).2) ∧ Below w0.heap.size w0 w'
set_option maxRecDepth 100000 in
set_option maxHeartbeats 4000000 in
theorem hashOf_any (s : ByteArray) (l : List UInt8) (hl : s.data.toList = l) (hsz : l.length ≤ 1000000) (w : World) (hE : Env w) :
    Calls Tryd.prog 50 #[.string s] w (HashOk w l) := by
  have HU := Lib.hid (unitsOf_any s l hl hsz w hE.tb)
  have HOK := Lib.hid (fun h => Pure.hash_ok (l := l) h)
  have HBAD := Lib.hid (fun h => Pure.hash_bad (l := l) h)
  clear hl hE
  go_enter Tryd.func50, Tryd.ntmps50
  go_wp2_with fail
  refine HU.out.mono ?_
  rintro e w1 ⟨v, x, us, rfl, hx, hus, hb1⟩
  have HB := Lib.hid hb1
  rcases hx with ⟨rfl, h0⟩ | ⟨h0, b, rfl, hc⟩
  · obtain ⟨hu, hlow, hul⟩ := hus h0
    obtain ⟨A1, c1, rfl⟩ := own_form hu
    have HH := Lib.hid (HOK.out h0)
    rw [← hlow] at HH
    have HW := Lib.hid hu
    clear hb1 HU HOK HBAD h0 hlow hu hus
    go_wp2_with fail
    go_loopw [6, 19] (fun v i wr => ∃ (k : Nat), k ≤ us.length ∧ i = .int .i64 (k : Int) ∧ wr.ownsRow w.heap.size 5 1 v (Pure.low (us.take k)).length (u8s (Pure.low (us.take k))) ∧ wr.ownsRow w.heap.size 52 1 (.slice A1 us.length c1) us.length (u16s us) ∧ Below w.heap.size w wr) (fun _ i _ => us.length - (intOf i).toNat)
    case atStart => exact ⟨0, by omega, rfl, World.ownsRow_nil _ _ _ _, HW.out, HB.out⟩
    case round =>
      obtain ⟨k, hk, rfl, hO, hW, hK⟩ := hrel
      obtain ⟨A2, c2, rfl⟩ := own_form hO
      by_cases hkl : k < us.length
      · obtain ⟨b, rfl, _, hc⟩ := own_cell hW (by omega)
        have ck := hc k _ (u16s_at us k hkl)
        have HO := Lib.hid hO
        have HW2 := Lib.hid hW
        have HK := Lib.hid hK
        have i0 : (0 : Int) ≤ (k : Int) := by omega
        have i2 : (k : Int) < (us.length : Int) := by omega
        obtain ⟨u, hu⟩ : ∃ u, u = us.getD k 0 := ⟨_, rfl⟩
        rw [← hu] at ck
        obtain ⟨x1, hx1⟩ : ∃ x, x = UInt8.ofNat (u % 256) := ⟨_, rfl⟩
        obtain ⟨x2, hx2⟩ : ∃ x, x = UInt8.ofNat (u / 256 % 256) := ⟨_, rfl⟩
        have f1 : (u : Int) % 256 = (x1.toNat : Int) := by rw [hx1, UInt8.toNat_ofNat']; omega
        have f2 : (u : Int) / 256 % 256 = (x2.toNat : Int) := by rw [hx2, UInt8.toNat_ofNat']; omega
        have hlow : Pure.low (us.take (k + 1)) = Pure.low (us.take k) ++ [x1, x2] := by
          have e : us.take (k + 1) = us.take k ++ [u] := by
            rw [hu, List.getD_eq_getElem?_getD, List.getElem?_eq_getElem hkl]
            exact (List.take_append_getElem hkl).symm
          rw [e, Pure.low_append, hx1, hx2]; rfl
        have hll := Pure.low_length (us.take k)
        rw [List.length_take] at hll
        have HLL := Lib.hid hll
        have HLOW := Lib.hid hlow
        clear hO hW hK hc HW HB hx1 hx2 hu hlow hll
        go_wp2_with (at_builtin; refine stopHere ?_)
        unfold Hid
        refine wp_append_u8 rfl (.tmp 23) (.tmp 29) rfl w.heap.size (.slice A2 (Pure.low (us.take k)).length c2) _ (Pure.low (us.take k)) rfl rfl (own_grown HO.out (World.grownBy_alloc wr _ none) (by simp)) _ _ [x1, x2] rfl (row_new wr [x1, x2] _ 2 rfl rfl (by simp)) (by simp; have := HLL.out; omega) (by simp; have := HK.out.size; omega) ?_
        intro v3 w3 hown3 hg3 hat3
        have HB3 := Lib.hid (show Below w.heap.size w w3 from ((HK.out.alloc HK.out.size _).grown hg3 (by simp; have := HK.out.size; omega) (fun k hk => ownsRow_ge HO.out k hk)))
        have HW3 := Lib.hid (own_grown (own_grown HW2.out (World.grownBy_alloc wr _ none) (by simp)) hg3 (fun b hb h => rows_apart HO.out HW2.out (by decide) b h hb))
        rw [← HLOW.out] at hown3
        have HO3 := Lib.hid hown3
        clear hown3 hg3 hat3
        go_wp2_with fail
        go_roundw
        case rel => exact ⟨k + 1, by omega, rfl, HO3.out, HW3.out, HB3.out⟩
        case measure => simp [intOf]; omega
      · have hkk : k = us.length := by omega
        subst hkk
        rw [List.take_length] at hO
        have hll := Pure.low_length us
        have HM := Lib.hid (sum_any (fun b => (Value.slice A2 (Pure.low us).length c2).ownBlock = some b) _ (Pure.low us) wr (fun b hb => ownsRow_lt hO b hb) (by omega) (Row.of_own hO))
        have HK := Lib.hid hK
        have HO := Lib.hid hO
        have e16 : (Pure.md4 (Pure.low us)).length = 16 := Pure.md4_length _
        have E16 := Lib.hid e16
        clear hO hW hK HW HB hll e16
        rw [List.take_length]
        go_wp2_with fail
        refine HM.out.mono ?_
        rintro e w2 ⟨u, rfl, hu2, hb2⟩
        obtain ⟨A3, c3, rfl⟩ := own_form hu2
        have HW2 := Lib.hid hu2
        have HB2 := Lib.hid hb2
        clear hu2 hb2 HM
        go_wp2
        go_ret2
        refine ⟨A3, c3, _, by rw [HH.out, show ((0, Pure.md4 (Pure.low us)) : Nat × List UInt8).2 = Pure.md4 (Pure.low us) from rfl, E16.out]; rfl, by rw [HH.out]; exact .inl ⟨rfl, rfl⟩, ?_, HK.out.trans (HB2.out.mono HK.out.size)⟩
        rw [HH.out, show ((0, Pure.md4 (Pure.low us)) : Nat × List UInt8).2 = Pure.md4 (Pure.low us) from rfl, E16.out]
        exact ownsRow_base HW2.out HK.out.size
  · have HH := Lib.hid (HBAD.out h0)
    have HE := Lib.hid (show ErrIs w1 (.iface 88 (.pointer (some ⟨b, 0, none⟩))) (Pure.secret l).1 from .inr ⟨h0, b, rfl, hc⟩)
    clear HOK HBAD HU hus hb1 h0 hc
    go_wp2_with fail
    go_ret2
    refine ⟨none, 0, _, by rw [HH.out]; rfl, by rw [HH.out]; exact HE.out, by rw [HH.out]; exact World.ownsRow_nil _ _ _ _, HB.out⟩
theorem hash_any (s : ByteArray) (l : List UInt8) (hl : s.data.toList = l) (hsz : l.length ≤ 1000000) (w : World) (hE : Env w) :
    Calls Tryd.prog 28 #[.string s] w fun e w' => ∃ v, e = .returned (.tuple #[v, .int .i64 (((Pure.hash l).1 : Nat) : Int)]) ∧ w'.ownsRow w.heap.size 5 1 v (Pure.hash l).2.length (u8s (Pure.hash l).2) ∧ Below w.heap.size w w' := by
  have HH := Lib.hid (hashOf_any s l hl hsz w hE)
  have HE := Lib.hid hE.hd
  clear hl hE
  go_enter Tryd.func28, Tryd.ntmps28
  go_wp2_with fail
  refine HH.out.mono ?_
  rintro e w1 ⟨A, c, x, rfl, hx, hu, hb1⟩
  have HT := Lib.hid (told_any A (Pure.hash l).2.length c x (Pure.hash l).1 w1 (HE.out.below hb1) hx)
  have HU := Lib.hid hu
  have HB := Lib.hid hb1
  clear hx hu hb1 HH HE
  go_wp2_with fail
  refine HT.out.mono ?_
  rintro e w2 ⟨rfl, hb2⟩
  have HU2 := Lib.hid (ownsRow_keeps HU.out (Keeps.new hb2) (fun _ _ h => h))
  have HB2 := Lib.hid (HB.out.trans (hb2.mono HB.out.size))
  clear hb2 HT HU HB
  go_wp2
  go_ret2
  exact ⟨_, rfl, HU2.out, HB2.out⟩
end Go.Proofs.YtkllaghfiofnjaaDoor
