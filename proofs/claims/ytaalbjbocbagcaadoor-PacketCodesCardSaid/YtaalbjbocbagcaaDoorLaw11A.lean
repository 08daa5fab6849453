/- What package packet answers; awake; the law PacketOptions, out of it. -/
import Derived.Test.YtaalbjbocbagcaaDoorPktC
import Derived.Test.YtaalbjbocbagcaaDoorFault
import Derived.Test.YtaalbjbocbagcaaDoorPktB
import Derived.Test.YtaalbjbocbagcaaDoorOptD
import Derived.Test.YtaalbjbocbagcaaDoorLawL
namespace Go.Proofs.YtaalbjbocbagcaaDoor
open Go.RowKit
def EncodeOk : Prop := ∀ (F : Nat → Prop) (v : Value) (p : Pure.Pkt) (w : World), (∀ b, F b → b < w.heap.size) → Row w F 1 v p.data.length (u8s p.data) →
  Calls Tryd.prog 10 #[pktV p v] w fun e w' => ∃ u, e = .returned (.tuple #[u, .int .i64 (((Pure.encode p).1 : Nat) : Int)]) ∧ w'.ownsRow w.heap.size 5 1 u (Pure.encode p).2.length (u8s (Pure.encode p).2) ∧ Below w.heap.size w w'
def DecodeOk : Prop := ∀ (F : Nat → Prop) (x : Value) (bs : List UInt8) (w : World), Handle w → (∀ b, F b → b < w.heap.size) → Row w F 1 x bs.length (u8s bs) →
  Calls Tryd.prog 12 #[x] w fun e w' => ∃ u, e = .returned (.tuple #[pktV (Pure.decode bs).2 u, .int .i64 (((Pure.decode bs).1 : Nat) : Int)]) ∧ Row w' (fun b => w.heap.size ≤ b) 1 u (Pure.decode bs).2.data.length (u8s (Pure.decode bs).2.data) ∧ Below w.heap.size w w'
def OptionsOk : Prop := ∀ (F : Nat → Prop) (x : Value) (ps : List (Value × Pure.Opt)) (w : World), (∀ b, F b → b < w.heap.size) → ORow w F x ps →
  Calls Tryd.prog 18 #[x] w fun e w' => ∃ u, e = .returned (.tuple #[u, .int .i64 (((Pure.options (optsOf ps)).1 : Nat) : Int)]) ∧ w'.ownsRow w.heap.size 5 1 u (Pure.options (optsOf ps)).2.length (u8s (Pure.options (optsOf ps)).2) ∧ Below w.heap.size w w'
def SplitOk : Prop := ∀ (F : Nat → Prop) (x : Value) (bs : List UInt8) (w : World), Handle w → (∀ b, F b → b < w.heap.size) → Row w F 1 x bs.length (u8s bs) →
  Calls Tryd.prog 11 #[x] w fun e w' => ∃ u ps, e = .returned (.tuple #[u, .int .i64 (((Pure.split bs).1 : Nat) : Int)]) ∧ optsOf ps = (Pure.split bs).2 ∧ ORow w' (fun b => w.heap.size ≤ b) u ps ∧ Below w.heap.size w w'
def SameOk : Prop := ∀ (F G : Nat → Prop) (x y : Value) (ps qs : List (Value × Pure.Opt)) (w : World), ORow w F x ps → ORow w G y qs →
  Calls Tryd.prog 22 #[x, y] w fun e w' => e = .returned (.bool (decide (optsOf ps = optsOf qs))) ∧ Keeps nobody w w'
theorem awake_bytes : Pure.encode ⟨1, 7, [9]⟩ = (0, [1, 7, 0, 5, 9]) := by decide +kernel
theorem awake_packet : (Pure.decode [1, 7, 0, 5, 9]).1 = 0 ∧ (Pure.decode [1, 7, 0, 5, 9]).2.code = 1 ∧ (Pure.decode [1, 7, 0, 5, 9]).2.id = 7 ∧ (Pure.decode [1, 7, 0, 5, 9]).2.data = [9] := by decide +kernel
set_option maxRecDepth 100000 in
set_option maxHeartbeats 2000000 in
theorem awake_any (HEn : EncodeOk) (HDe : DecodeOk) (w : World) (hg : Handle w) : Calls Tryd.prog 9 #[] w fun e w' => e = .returned (.bool true) ∧ Below w.heap.size w w' := by
  have hE := HEn (fun b => b = w.heap.size) (.slice (some ⟨w.heap.size, 0, none⟩) 1 1) ⟨1, 7, [9]⟩ (w.alloc (.cells #[.int .u8 9] 5)) (fun b hb => by have hb : b = w.heap.size := hb; simp [hb]) (row_new w [9] #[.int .u8 9] 1 rfl rfl (by simp))
  rw [awake_bytes] at hE
  have HE := Lib.hid hE
  have HG := Lib.hid hg
  clear hg
  have HB0 := Lib.hid (show Below w.heap.size w (w.alloc (.cells #[.int .u8 9] 5)) from (Below.refl _ w).alloc (Nat.le_refl _) _)
  clear hE
  go_enter Tryd.func9, Tryd.ntmps9
  go_wp2_with fail
  refine HE.out.mono ?_
  rintro e w1 ⟨u, rfl, hu, hb1⟩
  have hu : w1.ownsRow (w.alloc (.cells #[.int .u8 9] 5)).heap.size 5 1 u 5 (u8s [1, 7, 0, 5, 9]) := hu
  have HB1 := Lib.hid (HB0.out.trans (hb1.mono HB0.out.size))
  have hD := HDe (fun b => u.ownBlock = some b) u [1, 7, 0, 5, 9] w1 (HG.out.below HB1.out) (fun b hb => ownsRow_lt hu b hb) (Row.of_own hu)
  obtain ⟨q1, q2, q3, q4⟩ := awake_packet
  unfold pktV at hD
  rw [q1, q2, q3, q4] at hD
  have HD := Lib.hid hD
  obtain ⟨A, c, rfl⟩ := own_form hu
  clear hu hb1 hD HE HB0 q1 q2 q3 q4
  go_wp2_with fail
  refine HD.out.mono ?_
  rintro e w2 ⟨v, rfl, hv, hb2⟩
  obtain ⟨A2, c2, rfl, _⟩ := hv.form
  have HB2 := Lib.hid (HB1.out.trans (hb2.mono HB1.out.size))
  clear hv hb2 HD HB1
  go_wp2
  go_ret
  exact ⟨rfl, HB2.out.alloc HB2.out.size _⟩
end Go.Proofs.YtaalbjbocbagcaaDoor
