/- md4.Sum. -/
import Derived.Test.YtmgicbckgpdkcaaGreatDoorQ12
import Derived.Test.YtmgicbckgpdkcaaGreatDoorQ3
import Derived.Test.YtmgicbckgpdkcaaGreatDoorQ5
import Derived.WalkKit
import Derived.Test.YtmgicbckgpdkcaaGreatDoorQ1
import Derived.Test.YtmgicbckgpdkcaaGreatDoorQ2
import Derived.Test.YtmgicbckgpdkcaaGreatDoorQ4
import Derived.Laws.Rows
namespace Go.Proofs.YtmgicbckgpdkcaaGreatDoor
set_option maxRecDepth 100000
set_option maxHeartbeats 4000000
open Lib renaming hid → xhd
open Go.RowKit
theorem sum_any (F : Nat → Prop) (x : Value) (bs : List UInt8) (w : World) (hF : ∀ b, F b → b < w.heap.size) (hbig : bs.length ≤ 100000000) (hr : Row w F 1 x bs.length (u8s bs)) :
  Calls Tryz.prog 150 #[x] w
   fun e w' => ∃ u, e = .returned u ∧ w'.ownsRow w.heap.size 5 1 u 16 (u8s (Pure.md4 bs)) ∧ Below w.heap.size w w' := by
 obtain ⟨A, cA, rfl, hc⟩ := hr.form
 have HR := xhd hr
 have HF := xhd hF
 have HC := xhd hc
 have HBig := xhd hbig
 clear hr hF hc hbig
 obtain ⟨st, hst⟩ : ∃ st, st = Pure.md4Start.list := ⟨_, rfl⟩
 have hsl : st.length = 4 := by rw [hst]; rfl
 have HST := xhd hst
 go_enter Tryz.func150, Tryz.ntmps150
 go_upto_region 2 with fail
 obtain ⟨b0, hb0⟩ : ∃ b0, b0 = w.heap.size := ⟨_, rfl⟩
 obtain ⟨w1, hw1⟩ : ∃ w1, w1 = w.alloc (.cells (u32s Pure.md4Start.list).toArray 238) := ⟨_, rfl⟩
 have e1 : w.alloc (.cells #[.int .u32 1732584193, .int .u32 4023233417, .int .u32 2562383102, .int .u32 271733878] 238) = w1 := hw1.symm
 rw [e1, ← hb0]
 have h1 : Blk w1 b0 238 (u32s st).toArray := by rw [hst, hw1, hb0]; exact Blk.new w _ _
 have hk1 : Keeps nobody w w1 := by rw [hw1]; exact (Keeps.refl _ w).alloc _
 have H1 := xhd h1
 have HK1 := xhd hk1
 have HB0 := xhd hb0
 have HSL := xhd hsl
 clear hw1 e1 h1 hk1 hb0 hst hsl
 apply wp_region_lit
 refine wpList_load_row rfl 238 (.tmp 3) rfl b0 rfl 238 _ (0, 0) _ H1.out Tryz.underlying238 rfl (by rw [state_info]; simp [HSL.out]) ?_
 go_wp2_with fail
 refine (fold_any false Pure.md4Of Pure.md4Of_length (fun x s w hx hs => after_list x s w hx hs) st HSL.out F _ bs w1 (fun b hb => Nat.lt_of_lt_of_le (HF.out b hb) HK1.out.size) HBig.out (HR.out.keeps HK1.out (fun _ _ h => h))).mono ?_
 rintro e w2 ⟨rfl, hb2⟩
 have h2 := H1.out.below hb2 H1.out.lt
 have HK2 := xhd ((Keeps.to_below HK1.out).trans (hb2.mono HK1.out.size))
 have H2 := xhd h2
 obtain ⟨R, hR⟩ : ∃ R, R = Pure.foldOf false Pure.md4Of st bs := ⟨_, rfl⟩
 have hRl : R.length = 4 := by
  rw [hR]
  exact Pure.via_len (n := 4) (fun _ _ => rfl) _ (Pure.via_len (n := 4) (fun _ _ => rfl) _ HSL.out _ _) _ _
 have hmd : Pure.md4 bs = Pure.wordBytes false R := by rw [Pure.md4_fold, hR, HST.out]
 rw [← hR]
 rename_i hKK
 refine hKK _ _ ?_
 refine wpList_store_row rfl 238 (.tmp 3) (.tmp 7) rfl b0 _ rfl rfl 238 _ h2 (by rw [state_info]; simp [hRl]) (by simp [hRl, HSL.out]) (all_words _) ?_
 obtain ⟨w3, hw3⟩ : ∃ w3, w3 = w2.setRow b0 (u32s R).toArray := ⟨_, rfl⟩
 have h3 : Blk w3 b0 238 (u32s R).toArray := by rw [hw3]; exact Blk.rowSet h2 _
 have hk3 : Below w.heap.size w w3 := by rw [hw3]; exact below_setRow HK2.out (by have := HB0.out; omega) _
 have e3 : w2.setRow b0 (u32s R).toArray = w3 := hw3.symm
 rw [e3]
 have HB := xhd (bytes_any false (fun b => b = b0) (.slice (some ⟨b0, 0, none⟩) 4 4) R (by omega) w3 (by
  rw [hRl]
  exact Row.block h3 rfl (by simp [hRl]) (by unfold maxLen; omega) (by omega)))
 have HK3 := xhd hk3
 have HMD := xhd hmd
 have HRL := xhd hRl
 clear hw3 h3 hk3 e3 h2 hb2 hKK hR hmd hRl H1 HK1 H2 HK2 HR
 go_wp2_with fail
 refine HB.out.mono ?_
 rintro e w4 ⟨u, rfl, hu, hb4⟩
 have HU := xhd hu
 have HK4 := xhd (HK3.out.trans (hb4.mono HK3.out.size))
 have hsz := HK3.out.size
 have HSZ := xhd hsz
 clear hu hb4 HB HK3 hsz
 go_wp2
 go_ret
 refine ⟨_, rfl, ?_, HK4.out⟩
 rw [HMD.out]
 have h := HU.out
 rw [HRL.out] at h
 exact ownsRow_base h HSZ.out
structure Env (w : World) : Prop where
 hd : Handle w
 tb : Tabs w
theorem Env.below {w w' : World} (h : Env w) (k : Below w.heap.size w w') : Env w' := ⟨h.hd.below k, h.tb.below k⟩
theorem rows_apart {w : World} {base base' n n' : Nat} {e t : TypeId} {size size' : Nat} {v v' : Value} {xs xs' : List Value} (h : w.ownsRow base e size v n xs) (h' : w.ownsRow base' t size' v' n' xs') (hne : e ≠ t) : ∀ b, v.ownBlock = some b → v'.ownBlock ≠ some b := by
 intro b hb
 rcases h'.2 with ⟨rfl, _⟩ | ⟨g', cap, cur, rfl, _, hh, _⟩
 ·simp [Value.ownBlock]
 ·intro he
  have : g' = b := by simpa [Value.ownBlock] using he
  subst this
  exact ownsRow_ne h (show Blk w g' t cur from hh) hne hb
theorem told_any (A : Option Addr) (n c : Nat) (x : Value) (k : Nat) (w : World) (hg : Handle w) (h : ErrIs w x k) : Calls Tryz.prog 107 #[.slice A n c, x] w fun e w' => e = .returned (.tuple #[.slice A n c, .int .i64 (k : Int)]) ∧ Below w.heap.size w w' := by
 have HN := xhd (number_any x k w hg h)
 clear hg h
 go_enter Tryz.func107, Tryz.ntmps107
 go_wp2_with fail
 refine HN.out.mono ?_
 rintro e w1 ⟨rfl, hb⟩
 have HB := xhd hb
 clear hb HN
 go_wp2
 go_ret2
 exact ⟨rfl, HB.out⟩
def HashOk (w0 : World) (l : List UInt8) (e : Ending) (w' : World) : Prop :=
 ∃ A c x, e = .returned (.tuple #[.slice A (Pure.hash l).2.length c, x]) ∧ ErrIs w' x (Pure.hash l).1 ∧ w'.ownsRow w0.heap.size 5 1 (.slice A (Pure.hash l).2.length c) (Pure.hash l).2.length (u8s (Pure.hash l).2) ∧ Below w0.heap.size w0 w'
theorem hashOf_any (s : ByteArray) (l : List UInt8) (hl : s.data.toList = l) (hsz : l.length ≤ 1000000) (w : World) (hE : Env w) :
  Calls Tryz.prog 108 #[.string s] w (HashOk w l) := by
 have HU := xhd (unitsOf_any s l hl hsz w hE.tb)
 have HOK := xhd (fun h => Pure.hash_ok (l := l) h)
 have HBAD := xhd (fun h => Pure.hash_bad (l := l) h)
 clear hl hE
 go_enter Tryz.func108, Tryz.ntmps108
 go_wp2_with fail
 refine HU.out.mono ?_
 rintro e w1 ⟨v, x, us, rfl, hx, hus, hb1⟩
 have HB := xhd hb1
 rcases hx with ⟨rfl, h0⟩ | ⟨h0, b, rfl, hc⟩
 ·obtain ⟨hu, hlow, hul⟩ := hus h0
  obtain ⟨A1, c1, rfl⟩ := own_form hu
  have HH := xhd (HOK.out h0)
  rw [← hlow] at HH
  have HW := xhd hu
  clear hb1 HU HOK HBAD h0 hlow hu hus
  go_wp2_with fail
  go_loopw [6, 19] (fun v i wr => ∃ (k : Nat), k ≤ us.length ∧ i = .int .i64 (k : Int) ∧ wr.ownsRow w.heap.size 5 1 v (Pure.low (us.take k)).length (u8s (Pure.low (us.take k))) ∧ wr.ownsRow w.heap.size 100 1 (.slice A1 us.length c1) us.length (u16s us) ∧ Below w.heap.size w wr) (fun _ i _ => us.length - (intOf i).toNat)
  case atStart => exact ⟨0, by omega, rfl, World.ownsRow_nil _ _ _ _, HW.out, HB.out⟩
  case round =>
   obtain ⟨k, hk, rfl, hO, hW, hK⟩ := hrel
   obtain ⟨A2, c2, rfl⟩ := own_form hO
   by_cases hkl : k < us.length
   ·obtain ⟨b, rfl, _, hc⟩ := own_cell hW (by omega)
    have ck := hc k _ (u16s_at us k hkl)
    have HO := xhd hO
    have HW2 := xhd hW
    have HK := xhd hK
    have i0 : (0 : Int) ≤ (k : Int) := by omega
    have i2 : (k : Int) < (us.length : Int) := by omega
    obtain ⟨u, hu⟩ : ∃ u, u = us.getD k 0 := ⟨_, rfl⟩
    rw [← hu] at ck
    obtain ⟨x1, hx1⟩ : ∃ x, x = UInt8.ofNat (u % 256) := ⟨_, rfl⟩
    obtain ⟨x2, hx2⟩ : ∃ x, x = UInt8.ofNat (u / 256 % 256) := ⟨_, rfl⟩
    have f1 : (u : Int) % 256 = (x1.toNat : Int) := by rw [hx1, UInt8.toNat_ofNat']; omega
    have f2 : (u : Int) / 256 % 256 = (x2.toNat : Int) := by rw [hx2, UInt8.toNat_ofNat']; omega
    have hlow : Pure.low (us.take (k + 1)) = Pure.low (us.take k) ++ [x1, x2] := by
     have e : us.take (k + 1) = us.take k ++ [u] := by
      rw [hu, List.getD_eq_getElem?_getD, List.getElem?_eq_getElem hkl]
      exact (List.take_append_getElem hkl).symm
     rw [e, Pure.low_append, hx1, hx2]; rfl
    have hll := Pure.low_length (us.take k)
    rw [List.length_take] at hll
    have HLL := xhd hll
    have HLOW := xhd hlow
    clear hO hW hK hc HW HB hx1 hx2 hu hlow hll
    go_wp2_with (at_builtin; refine stopHere ?_)
    unfold Hid
    refine wp_append_u8 rfl (.tmp 23) (.tmp 29) rfl w.heap.size (.slice A2 (Pure.low (us.take k)).length c2) _ (Pure.low (us.take k)) rfl rfl (own_grown HO.out (World.grownBy_alloc wr _ none) (by simp)) _ _ [x1, x2] rfl (row_new wr [x1, x2] _ 2 rfl rfl (by simp)) (by simp; have := HLL.out; omega) (by simp; have := HK.out.size; omega) ?_
    intro v3 w3 hown3 hg3 hat3
    have HB3 := xhd (show Below w.heap.size w w3 from ((HK.out.alloc HK.out.size _).grown hg3 (by simp; have := HK.out.size; omega) (fun k hk => ownsRow_ge HO.out k hk)))
    have HW3 := xhd (own_grown (own_grown HW2.out (World.grownBy_alloc wr _ none) (by simp)) hg3 (fun b hb h => rows_apart HO.out HW2.out (by decide) b h hb))
    rw [← HLOW.out] at hown3
    have HO3 := xhd hown3
    clear hown3 hg3 hat3
    go_wp2_with fail
    go_roundw
    case rel => exact ⟨k + 1, by omega, rfl, HO3.out, HW3.out, HB3.out⟩
    case measure => simp [intOf]; omega
   ·have hkk : k = us.length := by omega
    subst hkk
    rw [List.take_length] at hO
    have hll := Pure.low_length us
    have HM := xhd (sum_any (fun b => (Value.slice A2 (Pure.low us).length c2).ownBlock = some b) _ (Pure.low us) wr (fun b hb => ownsRow_lt hO b hb) (by omega) (Row.of_own hO))
    have HK := xhd hK
    have HO := xhd hO
    have e16 : (Pure.md4 (Pure.low us)).length = 16 := Pure.md4_length _
    have E16 := xhd e16
    clear hO hW hK HW HB hll e16
    rw [List.take_length]
    go_wp2_with fail
    refine HM.out.mono ?_
    rintro e w2 ⟨u, rfl, hu2, hb2⟩
    obtain ⟨A3, c3, rfl⟩ := own_form hu2
    have HW2 := xhd hu2
    have HB2 := xhd hb2
    clear hu2 hb2 HM
    go_wp2
    go_ret2
    refine ⟨A3, c3, _, by rw [HH.out, show ((0, Pure.md4 (Pure.low us)) : Nat × List UInt8).2 = Pure.md4 (Pure.low us) from rfl, E16.out]; rfl, by rw [HH.out]; exact .inl ⟨rfl, rfl⟩, ?_, HK.out.trans (HB2.out.mono HK.out.size)⟩
    rw [HH.out, show ((0, Pure.md4 (Pure.low us)) : Nat × List UInt8).2 = Pure.md4 (Pure.low us) from rfl, E16.out]
    exact ownsRow_base HW2.out HK.out.size
 ·have HH := xhd (HBAD.out h0)
  have HE := xhd (show ErrIs w1 (.iface 229 (.pointer (some ⟨b, 0, none⟩))) (Pure.secret l).1 from .inr ⟨h0, b, rfl, hc⟩)
  clear HOK HBAD HU hus hb1 h0 hc
  go_wp2_with fail
  go_ret2
  refine ⟨none, 0, _, by rw [HH.out]; rfl, by rw [HH.out]; exact HE.out, by rw [HH.out]; exact World.ownsRow_nil _ _ _ _, HB.out⟩
theorem hash_any (s : ByteArray) (l : List UInt8) (hl : s.data.toList = l) (hsz : l.length ≤ 1000000) (w : World) (hE : Env w) :
  Calls Tryz.prog 53 #[.string s] w fun e w' => ∃ v, e = .returned (.tuple #[v, .int .i64 (((Pure.hash l).1 : Nat) : Int)]) ∧ w'.ownsRow w.heap.size 5 1 v (Pure.hash l).2.length (u8s (Pure.hash l).2) ∧ Below w.heap.size w w' := by
 have HH := xhd (hashOf_any s l hl hsz w hE)
 have HE := xhd hE.hd
 clear hl hE
 go_enter Tryz.func53, Tryz.ntmps53
 go_wp2_with fail
 refine HH.out.mono ?_
 rintro e w1 ⟨A, c, x, rfl, hx, hu, hb1⟩
 have HT := xhd (told_any A (Pure.hash l).2.length c x (Pure.hash l).1 w1 (HE.out.below hb1) hx)
 have HU := xhd hu
 have HB := xhd hb1
 clear hx hu hb1 HH HE
 go_wp2_with fail
 refine HT.out.mono ?_
 rintro e w2 ⟨rfl, hb2⟩
 have HU2 := xhd (ownsRow_keeps HU.out (Keeps.new hb2) (fun _ _ h => h))
 have HB2 := xhd (HB.out.trans (hb2.mono HB.out.size))
 clear hb2 HT HU HB
 go_wp2
 go_ret2
 exact ⟨_, rfl, HU2.out, HB2.out⟩
namespace Pure
structure Pkt where
 code : Int
 id : Int
 data : List UInt8
def Pkt.odd (p : Pkt) : Prop := p.code < 0 ∨ 255 < p.code ∨ p.id < 0 ∨ 255 < p.id
instance (p : Pkt) : Decidable p.odd := by unfold Pkt.odd; infer_instance
def Pkt.bytes (p : Pkt) : List UInt8 :=
 [UInt8.ofNat p.code.toNat, UInt8.ofNat p.id.toNat, UInt8.ofNat ((p.data.length + 4) / 256), UInt8.ofNat ((p.data.length + 4) % 256)] ++ p.data
def encode (p : Pkt) : Nat × List UInt8 := if p.odd then (1, []) else if 1496 < p.data.length then (3, []) else (0, p.bytes)
theorem encode_odd {p : Pkt} (h : p.odd) : encode p = (1, []) := if_pos h
theorem encode_long {p : Pkt} (h : ¬ p.odd) (hl : 1496 < p.data.length) : encode p = (3, []) := by unfold encode; rw [if_neg h, if_pos hl]
theorem encode_ok {p : Pkt} (h : ¬ p.odd) (hl : ¬ 1496 < p.data.length) : encode p = (0, p.bytes) := by unfold encode; rw [if_neg h, if_neg hl]
def noPkt : Pkt := ⟨0, 0, []⟩
def stated (b : List UInt8) : Nat := (b.getD 2 0).toNat * 256 + (b.getD 3 0).toNat
def decode (b : List UInt8) : Nat × Pkt :=
 if b.length < 4 then (2, noPkt) else if stated b < 4 then (4, noPkt) else if b.length < stated b then (2, noPkt) else if 1500 < stated b then (3, noPkt)
 else (0, ⟨(b.getD 0 0).toNat, (b.getD 1 0).toNat, (b.drop 4).take (stated b - 4)⟩)
abbrev Opt := Int × List UInt8
def Opt.odd (o : Opt) : Prop := o.1 < 0 ∨ 255 < o.1 ∨ 253 < o.2.length
instance (o : Opt) : Decidable (Opt.odd o) := by unfold Opt.odd; infer_instance
def Opt.bytes (o : Opt) : List UInt8 := [UInt8.ofNat o.1.toNat, UInt8.ofNat (o.2.length + 2)] ++ o.2
def joined (l : List Opt) : List UInt8 := l.flatMap Opt.bytes
def options (l : List Opt) : Nat × List UInt8 := if 32 < l.length then (3, []) else if ∃ o ∈ l, Opt.odd o then (1, []) else (0, joined l)
theorem options_long {l : List Opt} (h : 32 < l.length) : options l = (3, []) := if_pos h
theorem options_odd {l : List Opt} (h : ¬ 32 < l.length) (o : Opt) (ho : o ∈ l) (hodd : Opt.odd o) : options l = (1, []) := by unfold options; rw [if_neg h, if_pos ⟨o, ho, hodd⟩]
theorem options_ok {l : List Opt} (h : ¬ 32 < l.length) (ho : ∀ o ∈ l, ¬ Opt.odd o) : options l = (0, joined l) := by
 unfold options
 rw [if_neg h, if_neg (fun ⟨o, h1, h2⟩ => ho o h1 h2)]
def splitGo : Nat → List UInt8 → List Opt → Nat × List Opt
 | 0, _, acc => (0, acc)
 | f + 1, b, acc =>
  if b = [] then (0, acc)
  else if acc.length = 32 then (3, [])
  else if b.length < 2 ∨ (b.getD 1 0).toNat < 2 ∨ b.length < (b.getD 1 0).toNat then (4, [])
  else splitGo f (b.drop (b.getD 1 0).toNat) (acc ++ [(((b.getD 0 0).toNat : Int), (b.drop 2).take ((b.getD 1 0).toNat - 2))])
theorem splitGo_fuel : ∀ (f g : Nat) (b : List UInt8) (acc : List Opt), b.length ≤ f → b.length ≤ g → splitGo f b acc = splitGo g b acc
 | 0, 0, _, _, _, _ => rfl
 | 0, g + 1, b, acc, hf, _ => by
  have : b = [] := List.eq_nil_of_length_eq_zero (by omega)
  subst this; simp [splitGo]
 | f + 1, 0, b, acc, _, hg => by
  have : b = [] := List.eq_nil_of_length_eq_zero (by omega)
  subst this; simp [splitGo]
 | f + 1, g + 1, b, acc, hf, hg => by
  unfold splitGo
  split
  ·rfl
  ·split
   ·rfl
   ·split
    ·rfl
    ·rename_i h
     exact splitGo_fuel f g _ _ (by rw [List.length_drop]; omega) (by rw [List.length_drop]; omega)
def splitFrom (b : List UInt8) (acc : List Opt) : Nat × List Opt := splitGo b.length b acc
theorem splitFrom_nil (acc : List Opt) : splitFrom [] acc = (0, acc) := rfl
theorem splitFrom_cons {b : List UInt8} (acc : List Opt) (hb : b ≠ []) : splitFrom b acc =
  if acc.length = 32 then (3, []) else if b.length < 2 ∨ (b.getD 1 0).toNat < 2 ∨ b.length < (b.getD 1 0).toNat then (4, [])
  else splitFrom (b.drop (b.getD 1 0).toNat) (acc ++ [(((b.getD 0 0).toNat : Int), (b.drop 2).take ((b.getD 1 0).toNat - 2))]) := by
 have h0 : 0 < b.length := List.length_pos_iff.2 hb
 obtain ⟨n, hn⟩ : ∃ n, b.length = n + 1 := ⟨b.length - 1, by omega⟩
 conv => lhs; unfold splitFrom; rw [hn]; unfold splitGo
 rw [if_neg hb]
 split
 ·rfl
 ·split
  ·rfl
  ·rename_i h
   exact splitGo_fuel _ _ _ _ (by rw [List.length_drop]; omega) (Nat.le_refl _)
def split (b : List UInt8) : Nat × List Opt := splitFrom b []
theorem splitFrom_step {b : List UInt8} {acc : List Opt} (hb : b ≠ []) (h : acc.length ≠ 32) (h2 : ¬ (b.length < 2 ∨ (b.getD 1 0).toNat < 2 ∨ b.length < (b.getD 1 0).toNat)) :
  splitFrom b acc = splitFrom (b.drop (b.getD 1 0).toNat) (acc ++ [(((b.getD 0 0).toNat : Int), (b.drop 2).take ((b.getD 1 0).toNat - 2))]) := by rw [splitFrom_cons acc hb, if_neg h, if_neg h2]
end Pure
abbrev optCells (ps : List (Value × Pure.Opt)) : List Value := ps.flatMap fun p => [.int .i64 p.2.1, p.1]
theorem optCells_length (ps : List (Value × Pure.Opt)) : (optCells ps).length = ps.length * 2 := by
 induction ps with
 | nil => rfl
 | cons p ps ih => rw [optCells, List.flatMap_cons, List.length_append, ih]; simp; omega
theorem optCells_at (ps : List (Value × Pure.Opt)) (k : Nat) (p : Value × Pure.Opt) (h : ps[k]? = some p) : (optCells ps)[2 * k]? = some (.int .i64 p.2.1) ∧ (optCells ps)[2 * k + 1]? = some p.1 := by
 induction ps generalizing k with
 | nil => simp at h
 | cons q ps ih =>
  rcases k with _ | k
  ·simp at h
   subst h
   exact ⟨rfl, rfl⟩
  ·have := ih k (by simpa using h)
   rw [optCells, List.flatMap_cons]
   rw [List.getElem?_append_right (by simp; omega), List.getElem?_append_right (by simp; omega)]
   simpa [Nat.mul_add, Nat.add_assoc] using this
structure ORow (w : World) (F : Nat → Prop) (x : Value) (ps : List (Value × Pure.Opt)) : Prop where
 out : Row w F 2 x ps.length (optCells ps)
 rows : ∀ p ∈ ps, Row w F 1 p.1 p.2.2.length (u8s p.2.2)
theorem ORow.keeps {S F : Nat → Prop} {w w' : World} {x : Value} {ps : List (Value × Pure.Opt)} (h : ORow w F x ps) (k : Keeps S w w') (hs : ∀ b, F b → ¬ S b) : ORow w' F x ps :=
 ⟨h.out.keeps k hs, fun p hp => (h.rows p hp).keeps k hs⟩
theorem ORow.mono {F G : Nat → Prop} {w : World} {x : Value} {ps : List (Value × Pure.Opt)} (h : ORow w F x ps) (hG : ∀ b, F b → G b) : ORow w G x ps :=
 ⟨h.out.mono hG, fun p hp => (h.rows p hp).mono hG⟩
theorem ORow.nil (w : World) (F : Nat → Prop) : ORow w F (.slice none 0 0) [] := ⟨Row.nil _ _ _, by simp⟩
theorem ORow.form {w : World} {F : Nat → Prop} {x : Value} {ps : List (Value × Pure.Opt)} (h : ORow w F x ps) : ∃ A c, x = .slice A ps.length c ∧ ps.length ≤ c := by
 obtain ⟨_, _, A, c, rfl, hc, _⟩ := h.out
 exact ⟨A, c, rfl, hc⟩
theorem ORow.pick {w : World} {F : Nat → Prop} {X : Option Addr} {n cx : Nat} {ps : List (Value × Pure.Opt)} (h : ORow w F (.slice X n cx) ps) (k : Nat) (hk : k < ps.length) :
  ∃ p o A c t bs, X = some ⟨p, o, none⟩ ∧ F p ∧ w.cell? ⟨p, o + k * 2, none⟩ = some (.int .i64 t) ∧ w.cell? ⟨p, o + k * 2 + 1, none⟩ = some (.slice A bs.length c) ∧ Row w F 1 (.slice A bs.length c) bs.length (u8s bs) ∧ ps[k]? = some (.slice A bs.length c, t, bs) := by
 obtain ⟨_, _, A', c', e, _, _, hh⟩ := h.out
 obtain ⟨p, o, rfl, hF, hc⟩ := hh (by omega)
 injection e with e1 _ _
 have hget := List.getElem?_eq_getElem hk
 have hr := h.rows ps[k] (List.getElem_mem hk)
 obtain ⟨A, c, hform, _⟩ := hr.form
 obtain ⟨o1, o2⟩ := optCells_at ps k _ hget
 have c1 := hc _ _ o1
 have c2 := hc _ _ o2
 rw [hform] at c2 hr
 rw [← Nat.add_assoc] at c2
 rw [Nat.mul_comm 2 k] at c1 c2
 refine ⟨p, o, A, c, ps[k].2.1, ps[k].2.2, e1, hF, c1, c2, hr, ?_⟩
 rw [hget, ← hform]
abbrev optV (p : Value × Pure.Opt) : Value := .agg #[.int .i64 p.2.1, p.1]
theorem opt_quiet {w w' : World} {b off : Nat} {u : Value} (h : w.cell? ⟨b, off, none⟩ = some u) (k : Keeps nobody w w') : w'.cell? ⟨b, off, none⟩ = some u :=
 (World.cell?_of_block (w := w) (a := ⟨b, off, none⟩) (k.block b (cell_lt h) (fun x => x))).trans h
abbrev optsOf (ps : List (Value × Pure.Opt)) : List Pure.Opt := ps.map Prod.snd
theorem opt_later {w : World} {o : Obj} {a : Addr} {v : Value} (h : w.cell? a = some v) : (w.alloc o).cell? a = some v :=
 (World.cell?_alloc_lt w o a (by rcases Nat.lt_or_ge a.block w.heap.size with hl | hg; exact hl; simp [World.cell?, Array.getElem?_eq_none hg] at h)).trans h
theorem ojoined_snoc (l : List Pure.Opt) (o : Pure.Opt) : Pure.joined (l ++ [o]) = Pure.joined l ++ Pure.Opt.bytes o := by simp [Pure.joined]
theorem opt_take (l : List Pure.Opt) (k : Nat) (o : Pure.Opt) (h : l[k]? = some o) : l.take (k + 1) = l.take k ++ [o] := by
 have hk := (List.getElem?_eq_some_iff.1 h).1
 rw [List.take_succ_eq_append_getElem hk]
 rw [List.getElem?_eq_getElem hk] at h
 injection h with h
 rw [h]
theorem opt_info : (Tryz.prog.info? 31).map (fun i => (i.zero, i.size, i.bytes)) = some (some (.agg #[.int .i64 0, .slice none 0 0]), 2, 32) := by kernel_rfl
theorem optCells_one (ps : List (Value × Pure.Opt)) (h : ∀ p ∈ ps, p.1.oneCell' = true) : ∀ u ∈ optCells ps, u.oneCell' = true := by
 intro u hu
 obtain ⟨p, hp, hu⟩ := List.mem_flatMap.1 hu
 simp at hu
 rcases hu with rfl | rfl
 ·rfl
 ·exact h p hp
structure Read (w0 w : World) (v : Value) (ps : List (Value × Pure.Opt)) : Prop where
 own : w.ownsRow w0.heap.size 31 2 v ps.length (optCells ps)
 rows : ∀ p ∈ ps, Row w (fun b => w0.heap.size ≤ b ∧ v.ownBlock ≠ some b ∧ b < w.heap.size) 1 p.1 p.2.2.length (u8s p.2.2)
 below : Below w0.heap.size w0 w
theorem cell_quiet {w w' : World} {b off : Nat} {u : Value} (h : w.cell? ⟨b, off, none⟩ = some u) (k : Keeps nobody w w') : w'.cell? ⟨b, off, none⟩ = some u :=
 (World.cell?_of_block (w := w) (a := ⟨b, off, none⟩) (k.block b (cell_lt h) (fun x => x))).trans h
end Go.Proofs.YtmgicbckgpdkcaaGreatDoor
