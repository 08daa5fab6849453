/- Package packet's reader: next. -/
import Derived.Test.YtjomcffhbaplcaaGreatDoorQ31
import Derived.OwnWalk
import Derived.Test.YtjomcffhbaplcaaGreatDoorQ3
import Derived.Test.YtjomcffhbaplcaaGreatDoorQ14
import Derived.Test.YtjomcffhbaplcaaGreatDoorQ4
import Derived.Test.YtjomcffhbaplcaaGreatDoorQ5
import Derived.Test.YtjomcffhbaplcaaGreatDoorQ9
import Derived.Lib.IfaceEq
namespace Go.Proofs.YtjomcffhbaplcaaGreatDoor
open Go.RowKit
set_option maxRecDepth 100000 in
set_option maxHeartbeats 4000000 in
theorem next_any (F : Nat → Prop) (g size len : Nat) (l : List UInt8) (w : World) (hrd : Rd w F g l) (hF : ∀ b, F b → b ≠ g) (hs : size ≤ 4) (h1 : 0 < len) (h2 : len ≤ 2) (h3 : len ≤ size) :
    Calls Tryz.prog 113 #[.pointer (some ⟨g, 0, none⟩), .int .i64 size, .int .i64 len] w fun e w' => ∃ a b u, e = .returned (.tuple #[a, b, u]) ∧ ErrIs w' u (Pure.nextErr size len l) ∧ Keeps (only g) w w' ∧
      (Pure.nextErr size len l = 0 → Row w' F 1 a size (u8s (l.take size)) ∧ Row w' F 1 b (Pure.told size len l - size) (u8s ((l.drop size).take (Pure.told size len l - size))) ∧ Rd w' F g (l.drop (Pure.told size len l))) := by
  by_cases hls : l.length < size
  · have HE := Lib.hid (show Pure.nextErr size len l = 2 from if_pos hls)
    have HT := Lib.hid (take_short F g size l w hrd hls (by omega))
    clear hrd hF
    go_enter Tryz.func113, Tryz.ntmps113
    go_wp2_with fail
    refine HT.out.mono ?_
    rintro e w1 ⟨u, rfl, hu, hk⟩
    obtain ⟨b, rfl, hu2⟩ : ∃ b, u = .iface 162 (.pointer (some ⟨b, 0, none⟩)) ∧ ErrIs w1 u 2 := by
      rcases hu with ⟨_, h⟩ | ⟨h1, b, h2, h3⟩
      · cases h
      · exact ⟨b, h2, .inr ⟨h1, b, h2, h3⟩⟩
    have HU := Lib.hid hu2
    have HK := Lib.hid (hk.mono (T := only g) (fun i h => h.elim))
    clear hu hu2 hk HT
    go_wp2
    go_ret3
    exact ⟨_, _, _, rfl, by rw [HE.out]; exact HU.out, HK.out, fun h => absurd (HE.out.symm.trans h) (by omega)⟩
  · have HNE : ∀ k, Pure.nextErr size len l = k ↔ (if Pure.told size len l < size then 2 + 2 else if l.length < Pure.told size len l then 2 else 0) = k := fun k => by unfold Pure.nextErr; rw [if_neg hls]
    have HT := Lib.hid (take_ok F g size l w hrd hF (by omega))
    have HF := Lib.hid hF
    have hlt := Lib.hid (show Pure.told size len l < 65536 from Pure.num_lt _ (by rw [List.length_drop, List.length_take]; omega))
    obtain ⟨st, hst⟩ : ∃ st, st = Pure.told size len l := ⟨_, rfl⟩
    rw [← hst] at HNE hlt ⊢
    have HST := Lib.hid hst
    have HNE := Lib.hid HNE
    clear hst
    obtain ⟨q, hq⟩ : ∃ q, q = size - len := ⟨_, rfl⟩
    have eq : (size : Int) - (len : Int) = (q : Int) := by omega
    have q1 : (q : Int) ≤ (size : Int) := by omega
    have qz : size - q = len := by omega
    have QS := Lib.hid (show q + len ≤ size by omega)
    have HQ := Lib.hid hq
    clear hrd hF hq
    go_enter Tryz.func113, Tryz.ntmps113
    go_wp2_with fail
    refine HT.out.mono ?_
    rintro e w1 ⟨v, rfl, hv, hrd1, hk⟩
    obtain ⟨A, c, rfl, hc⟩ := hv.form
    have HV := Lib.hid hv
    have HRD := Lib.hid hrd1
    have HK := Lib.hid hk
    have qc : (q : Int) ≤ (c : Int) := by omega
    have htd : Pure.told size len l = Pure.num ((l.take size).drop q) := by rw [HQ.out]; rfl
    have HN := Lib.hid (show Calls Tryz.prog 87 #[cutV A c q len] w1 fun e w' => e = .returned (.int .i64 (st : Nat)) ∧ w1 = w' by
      have h := pnum_any F (cutV A c q len) len ((l.take size).drop q) w1 (by
        have h := hv.cutV q len (by omega)
        rwa [List.take_of_length_le (by rw [List.length_drop, List.length_take]; omega)] at h) (by rw [List.length_drop, List.length_take]; omega)
      rw [HST.out, htd]
      exact h)
    clear hv hrd1 hk HT htd
    have hst2 := hlt.out
    go_upto_region 4 with fail
    go_cut [9] (fun s wx => s = .int .i64 (st : Nat) ∧ w1 = wx)
    case first =>
      by_cases hcq : c = q
      · subst hcq
        unfold cutV at HN
        rw [if_pos rfl] at HN
        go_wp2_with fail
        refine HN.out.mono ?_
        rintro e w2 ⟨rfl, rfl⟩
        go_wp2
        go_meet
        exact ⟨rfl, rfl⟩
      · unfold cutV at HN
        rw [if_neg hcq] at HN
        go_wp2_with fail
        refine HN.out.mono ?_
        rintro e w2 ⟨rfl, rfl⟩
        go_wp2
        go_meet
        exact ⟨rfl, rfl⟩
    case rest =>
      obtain ⟨rfl, rfl⟩ := hcut
      clear HN
      by_cases h1 : st < size
      · have HE := Lib.hid ((HNE.out 4).2 (if_pos h1))
        have HO := Lib.hid (fun s => of_any s 4 w1 (by omega))
        have d0 : decide (st < size) = true := decide_eq_true h1
        clear HNE
        go_wp2_with fail
        refine (HO.out _).mono ?_
        rintro e w2 ⟨u, rfl, hu, hb⟩
        have HU := Lib.hid hu
        have HK2 := Lib.hid (HK.out.trans ((Keeps.new hb).mono (fun i h => h.elim)))
        clear hu hb HO
        go_wp2
        go_ret3
        exact ⟨_, _, _, rfl, by rw [HE.out]; exact HU.out, HK2.out, fun h => absurd (HE.out.symm.trans h) (by omega)⟩
      · have d0 : decide (st < size) = false := decide_eq_false h1
        obtain ⟨m, hm⟩ : ∃ m, m = st - size := ⟨_, rfl⟩
        have em : (st : Int) - (size : Int) = (m : Int) := by omega
        have em2 : st - size = m := hm.symm
        have hml : (m : Int) ≤ 65536 := by omega
        have HM := Lib.hid hm
        by_cases h2 : l.length < st
        · have HE := Lib.hid ((HNE.out 2).2 (by rw [if_neg h1, if_pos h2]))
          have HT2 := Lib.hid (take_short F g m (l.drop size) w1 HRD.out (by rw [List.length_drop]; omega) (by omega))
          clear HNE hm
          go_wp2_with fail
          refine HT2.out.mono ?_
          rintro e w2 ⟨u, rfl, hu, hk2⟩
          obtain ⟨b, rfl, hu2⟩ : ∃ b, u = .iface 162 (.pointer (some ⟨b, 0, none⟩)) ∧ ErrIs w2 u 2 := by
            rcases hu with ⟨_, h⟩ | ⟨h1, b, h2, h3⟩
            · cases h
            · exact ⟨b, h2, .inr ⟨h1, b, h2, h3⟩⟩
          have HU := Lib.hid hu2
          have HK2 := Lib.hid (HK.out.trans (hk2.mono (T := only g) (fun i h => h.elim)))
          clear hu hu2 hk2 HT2
          go_wp2
          go_ret3
          exact ⟨_, _, _, rfl, by rw [HE.out]; exact HU.out, HK2.out, fun h => absurd (HE.out.symm.trans h) (by omega)⟩
        · have HE := Lib.hid ((HNE.out 0).2 (by rw [if_neg h1, if_neg h2]))
          have HT2 := Lib.hid (take_ok F g m (l.drop size) w1 HRD.out HF.out (by rw [List.length_drop]; omega))
          have HDD := Lib.hid (show (l.drop size).drop m = l.drop st by rw [List.drop_drop]; congr 1; omega)
          clear HNE hm
          go_wp2_with fail
          refine HT2.out.mono ?_
          rintro e w2 ⟨v2, rfl, hv2, hrd2, hk2⟩
          obtain ⟨A2, c2, rfl, _⟩ := hv2.form
          have HV2 := Lib.hid hv2
          rw [HDD.out] at hrd2
          have HRD2 := Lib.hid hrd2
          have HK2 := Lib.hid (HK.out.trans hk2)
          have HVk := Lib.hid (HV.out.keeps hk2 HF.out)
          clear hv2 hrd2 hk2 HT2
          go_wp2
          go_ret3
          exact ⟨_, _, _, rfl, by rw [HE.out]; exact .inl ⟨rfl, rfl⟩, HK2.out, fun _ => ⟨HVk.out, by first | exact HV2.out | (rw [← HM.out]; exact HV2.out), HRD2.out⟩⟩
end Go.Proofs.YtjomcffhbaplcaaGreatDoor
/- The document's Copy. -/
namespace Go.Proofs.YtjomcffhbaplcaaGreatDoor
open Go.RowKit

set_option maxHeartbeats 1000000 in
theorem copy_any (F : Nat → Prop) (x : Value) (bs : List UInt8) (w : World) (hr : Row w F 1 x bs.length (u8s bs)) (hF : ∀ b, F b → b < w.heap.size) (hl : bs.length ≤ 100000000000000) :
    Calls Tryz.prog 22 #[x] w fun e w' => ∃ u, e = .returned u ∧ w'.ownsRow w.heap.size 5 1 u bs.length (u8s bs) ∧ Below w.heap.size w w' := by
  obtain ⟨A, c, rfl, hc⟩ := hr.form
  have hm := hr.2.1
  unfold maxLen at hm
  have HR := Lib.hid hr
  have HF := Lib.hid hF
  clear hr hF
  obtain ⟨i0, hi0, hz0, hz1, hz2⟩ := info_parts u8_info
  have I := Lib.hid (And.intro hi0 (And.intro hz0 (And.intro hz1 hz2)))
  clear hi0 hz0 hz1 hz2
  go_enter Tryz.func22, Tryz.ntmps22
  go_wp2_with fail
  go_loopw [3, 4] (fun u i wr => ∃ k : Nat, k ≤ bs.length ∧ i = .int .i64 k ∧ wr.ownsRow w.heap.size 5 1 u k (u8s (bs.take k)) ∧ Below w.heap.size w wr) (fun _ i _ => bs.length - (intOf i).toNat)
  case atStart => exact ⟨0, by omega, rfl, ⟨by simp, .inl ⟨rfl, rfl⟩⟩, Below.refl _ _⟩
  case round =>
    obtain ⟨k, hk, rfl, hown, hb⟩ := hrel
    have O := Lib.hid hown
    have B := Lib.hid hb
    clear hown hb
    by_cases hlt : k < bs.length
    · obtain ⟨b, off, rfl, hbF, hcell⟩ := (HR.out.keeps (Keeps.new B.out) (fun _ _ h => h)).cellAt (by omega)
      have cb := hcell k _ (u8s_at bs k hlt)
      obtain ⟨X, hX⟩ : ∃ X : Nat, X = (bs.getD k 0).toNat := ⟨_, rfl⟩
      have hX2 : X < 256 := by rw [hX]; exact (bs.getD k 0).toNat_lt
      rw [← hX] at cb
      have HXX := Lib.hid hX
      have hi0 : (0 : Int) ≤ (k : Int) := by omega
      have hi1 : (k : Int) < (bs.length : Int) := by omega
      have hrow1 : Row (wr.alloc (.cells #[.int .u8 X] 5)) (fun _ => True) 1 (.slice (some ⟨wr.heap.size, 0, none⟩) 1 1) 1 [.int .u8 X] :=
        Row.block (Blk.new wr 5 #[.int .u8 X]) trivial rfl (by simp [maxLen]) (Nat.le_refl _)
      have HRow := Lib.hid hrow1
      have hsz := B.out.size
      clear hX hcell hrow1
      go_wp2_with (at_builtin; refine stopHere ?_)
      unfold Hid
      obtain ⟨hi0', hz0, hz1, hz2⟩ := I.out
      refine wpList_append_row rfl (.tmp 11) (.tmp 16) _ rfl w.heap.size 5 i0 _ 1 1 Tryz.underlying23 hi0' hz0 hz1 hz2 rfl (by omega) u3 k (u8s (bs.take k))
        rfl (O.out.alloc _) _ _ 1 [.int .u8 X] rfl HRow.out (by simp [Value.oneCell']) (by simp only [maxLen]; omega) (by omega) (by simp; omega) ?_
      intro v3 w3 hown3 hg3 hat3
      have hown3' : w3.ownsRow w.heap.size 5 1 v3 (k + 1) (u8s (bs.take (k + 1))) := by
        have e1 : u8s (bs.take k) ++ [.int .u8 X] = u8s (bs.take (k + 1)) := by
          rw [List.take_succ_eq_append_getElem hlt]
          have := HXX.out
          rw [List.getD_eq_getElem?_getD, List.getElem?_eq_getElem hlt] at this
          rw [this]
          simp only [List.map_append, List.map_cons, List.map_nil, Option.getD_some]
        rw [← e1]
        exact hown3
      have hb3 := Below.grown (B.out.alloc hsz (.cells #[.int .u8 X] 5)) hg3 (by simp; omega) (fun q hq => (ownsRow_ge O.out q hq))
      have O3 := Lib.hid hown3'
      have B3 := Lib.hid hb3
      clear hown3 hown3' hg3 hat3 hb3 hi0' hz0 hz1 hz2 cb
      go_wp2
      go_roundw
      case rel => exact ⟨k + 1, by omega, by go_num, O3.out, B3.out⟩
      case measure => simp [intOf]; omega
    · have hk' : k = bs.length := by omega
      have e : bs.take k = bs := by rw [hk', List.take_length]
      rw [e, hk'] at O
      clear e hk'
      go_wp2
      go_ret
      exact ⟨_, rfl, O.out, B.out⟩

end Go.Proofs.YtjomcffhbaplcaaGreatDoor
/- The document's Decode of a packet. -/
namespace Go.Proofs.YtjomcffhbaplcaaGreatDoor
open Go.RowKit
theorem pkt_info : (Tryz.prog.info? 40).map (·.size) = some 3 := by kernel_rfl
end Go.Proofs.YtjomcffhbaplcaaGreatDoor
/- Package packet's reader: packet. -/
namespace Go.Proofs.YtjomcffhbaplcaaGreatDoor
open Go.RowKit
namespace Pure
theorem told_packet (b : List UInt8) (h : 4 ≤ b.length) : told 4 2 b = stated b := by
  match b, h with
  | a :: b :: c :: d :: l, _ => simp [told, stated, num]
theorem decode_bad {b : List UInt8} (h : nextErr 4 2 b ≠ 0) : decode b = (nextErr 4 2 b, noPkt) := by
  unfold nextErr at *
  by_cases h1 : b.length < 4
  · rw [if_pos h1]; exact decode_short h1
  · rw [if_neg h1] at h ⊢
    rw [told_packet b (by omega)] at *
    by_cases h2 : stated b < 4
    · rw [if_pos h2]; exact decode_form h1 h2
    · rw [if_neg h2] at h ⊢
      by_cases h3 : b.length < stated b
      · rw [if_pos h3]; exact decode_cut h1 h2 h3
      · rw [if_neg h3] at h; exact absurd rfl h
theorem next_packet {b : List UInt8} (h : nextErr 4 2 b = 0) : 4 ≤ b.length ∧ told 4 2 b = stated b ∧ 4 ≤ stated b ∧ stated b ≤ b.length := by
  unfold nextErr at h
  by_cases h1 : b.length < 4
  · rw [if_pos h1] at h; cases h
  · rw [if_neg h1] at h
    have e := told_packet b (by omega)
    rw [e] at h
    by_cases h2 : stated b < 4
    · rw [if_pos h2] at h; cases h
    · rw [if_neg h2] at h
      by_cases h3 : b.length < stated b
      · rw [if_pos h3] at h; cases h
      · exact ⟨by omega, e, by omega, by omega⟩
theorem getD_take (b : List UInt8) (n i : Nat) (h : i < n) : (b.take n).getD i 0 = b.getD i 0 := by
  simp [List.getD_eq_getElem?_getD, h]
end Pure
theorem err_form {w : World} {v : Value} {k : Nat} (h : ErrIs w v k) (hk : k ≠ 0) : ∃ b, v = .iface 162 (.pointer (some ⟨b, 0, none⟩)) := by
  rcases h with ⟨_, h⟩ | ⟨_, b, h, _⟩
  · exact absurd h hk
  · exact ⟨b, h⟩
theorem err_nil {w : World} {v : Value} (h : ErrIs w v 0) : v = .nilIface := by
  rcases h with ⟨h, _⟩ | ⟨h, _⟩
  · exact h
  · exact absurd rfl h
theorem ErrIs.far {w w' : World} {v : Value} {k p : Nat} (h : ErrIs w v k) (hk : Keeps (only p) w w') (hz : ∀ n : Int, n ≠ 0 → w.cell? ⟨p, 1, none⟩ ≠ some (.int .i64 n)) : ErrIs w' v k := by
  rcases h with h | ⟨h1, b, h2, h3⟩
  · exact .inl h
  · have hb : b ≠ p := fun e => hz k (by omega) (e ▸ h3)
    exact .inr ⟨h1, b, h2, (World.cell?_of_block (w := w) (a := ⟨b, 1, none⟩) (hk.block b (cell_lt h3) (fun e => hb e))).trans h3⟩
end Go.Proofs.YtjomcffhbaplcaaGreatDoor
/- Package packet: Decode. -/
namespace Go.Proofs.YtjomcffhbaplcaaGreatDoor
open Go.RowKit
/-- A new reader. -/
theorem Rd.new {F : Nat → Prop} {v : Value} {l : List UInt8} {w : World} (hr : Row w F 1 v l.length (u8s l)) : Rd (w.alloc (.cells #[v] 151)) F w.heap.size l :=
  ⟨v, Blk.new w _ _, hr.keeps (Keeps.refl nobody w |>.alloc _) (fun _ _ h => h)⟩
theorem below_drew' {B : Nat} {a w : World} (h : Below B a w) : Below B a w.drew := ⟨h.os, h.tape, h.output, h.size, h.block⟩
end Go.Proofs.YtjomcffhbaplcaaGreatDoor
/- errors.Is of an error that is nil or a *api.Fault, at an api.Errno; after the guide's worked example on sentinels. -/
namespace Go.Proofs.YtjomcffhbaplcaaGreatDoor
open Go.RowKit Go.Extern.Stop Go.Stop Go.Extern
theorem unwrap_any (b k : Nat) (w : World) (h : w.cell? ⟨b, 1, none⟩ = some (.int .i64 k)) :
    Calls Tryz.prog 155 #[.pointer (some ⟨b, 0, none⟩)] w fun e w' => e = .returned (.iface 30 (.int .i64 k)) ∧ w = w' := by
  go_enter Tryz.func155, Tryz.ntmps155
  go_wp2
  go_ret
  exact ⟨rfl, rfl⟩
theorem is_typeOf (v : Value) (w : World) : (ReflectliteType.typeOf #[.iface 30 v]).run Tryz.prog w = .ok (.iface 131 (.agg #[.pointer (some ⟨hB, 30, none⟩)])) w := by kernel_rfl
theorem is_comp (w : World) : ((ReflectliteType.method fun t => do Go.Extern.Rtype.noPackHeld "Comparable" t; (fun a => Value.bool a.comparable) <$> typeInfo t) #[.agg #[.pointer (some ⟨hB, 30, none⟩)]]).run Tryz.prog w = .ok (.bool true) w := by kernel_rfl
theorem is_mComp (n : Nat) (v : Value) (w : World) : (Go.method (n + 1) 131 (.agg #[v]) "Comparable").run Tryz.prog w = .ok (145, .agg #[v]) w := by kernel_rfl
theorem is_mUnwrap (n : Nat) (v : Value) (w : World) : (Go.method (n + 1) 162 v "Unwrap").run Tryz.prog w = .ok (155, v) w := by kernel_rfl
theorem is_noIsF (v : Value) (xT : TypeId) (w : World) : (Instr.typeAssert (.iface 162 v) xT 133 true).run Tryz.prog w = .ok (.tuple #[.nilIface, .bool false]) w := run_typeAssert_lacksB Tryz.underlying133 (by kernel_rfl) (by kernel_rfl) v xT w
theorem is_hasF (v : Value) (xT : TypeId) (w : World) : (Instr.typeAssert (.iface 162 v) xT 136 true).run Tryz.prog w = .ok (.tuple #[.iface 162 v, .bool true]) w := run_typeAssert_hasB Tryz.underlying136 (by kernel_rfl) v xT w
theorem is_noIsE (v : Value) (xT : TypeId) (w : World) : (Instr.typeAssert (.iface 30 v) xT 133 true).run Tryz.prog w = .ok (.tuple #[.nilIface, .bool false]) w := run_typeAssert_lacksB Tryz.underlying133 (by kernel_rfl) (by kernel_rfl) v xT w
theorem is_noUnE (v : Value) (xT : TypeId) (w : World) : (Instr.typeAssert (.iface 30 v) xT 136 true).run Tryz.prog w = .ok (.tuple #[.nilIface, .bool false]) w := run_typeAssert_lacksB Tryz.underlying136 (by kernel_rfl) (by kernel_rfl) v xT w
theorem is_noUnsE (v : Value) (xT : TypeId) (w : World) : (Instr.typeAssert (.iface 30 v) xT 138 true).run Tryz.prog w = .ok (.tuple #[.nilIface, .bool false]) w := run_typeAssert_lacksB Tryz.underlying138 (by kernel_rfl) (by kernel_rfl) v xT w
theorem is_nil (n : Int) (w : World) : Calls Tryz.prog 41 #[.nilIface, .iface 30 (.int .i64 n)] w fun e w' => e = .returned (.bool false) ∧ w = w' := by
  have hn := run_eql_iface_nil_left (P := Tryz.prog) w 30 (.int .i64 n) Tryz.underlying84
  go_enter Tryz.func41, Tryz.ntmps41
  go_wp2
  go_ret
  exact ⟨rfl, rfl⟩
set_option maxHeartbeats 1000000 in
set_option maxRecDepth 100000 in
set_option maxHeartbeats 1000000 in
theorem is_inner (b k : Nat) (n : Nat) (w : World) (h : w.cell? ⟨b, 1, none⟩ = some (.int .i64 k)) :
    Calls Tryz.prog 65 #[.iface 162 (.pointer (some ⟨b, 0, none⟩)), .iface 30 (.int .i64 n), .bool true] w fun e w' => e = .returned (.bool (decide (k = n))) ∧ w = w' := by
  have k4 := is_mUnwrap
  have k5 := is_noIsF
  have k6 := is_hasF
  have k7 := is_noIsE
  have k8 := is_noUnE
  have k9 := is_noUnsE
  have hty := run_eql_iface_types (P := Tryz.prog) 162 30 (.pointer (some ⟨b, 0, none⟩)) (.int .i64 n) Tryz.underlying84 (by decide) w
  have heq := Lib.run_eql_iface_int (P := Tryz.prog) w (t := 84) (tx := 30) (k := .i64) (q := .i64) (k : Int) (n : Int) Tryz.underlying84 (by kernel_rfl) Tryz.underlying30
  have HU := Lib.hid (unwrap_any b k w h)
  clear h
  by_cases hkn : k = n
  · rw [show ((k : Int) == (n : Int)) = true by rw [beq_iff_eq]; omega] at heq
    have HD := Lib.hid (decide_eq_true hkn)
    clear hkn
    go_enter Tryz.func65, Tryz.ntmps65
    go_wp2_with fail
    refine wp_loop_rounds 2 ?_
    rw [rounds_succ]
    go_wp2_with fail
    refine HU.out.mono ?_
    rintro e w' ⟨rfl, rfl⟩
    go_wp2_with fail
    rw [rounds_succ]
    go_wp2_with fail
    go_ret
    exact ⟨by rw [HD.out]; rfl, rfl⟩
  · rw [show ((k : Int) == (n : Int)) = false by rw [beq_eq_false_iff_ne]; omega] at heq
    have HD := Lib.hid (decide_eq_false hkn)
    clear hkn
    go_enter Tryz.func65, Tryz.ntmps65
    go_wp2_with fail
    refine wp_loop_rounds 2 ?_
    rw [rounds_succ]
    go_wp2_with fail
    refine HU.out.mono ?_
    rintro e w' ⟨rfl, rfl⟩
    go_wp2_with fail
    rw [rounds_succ]
    go_wp2_with fail
    go_ret
    exact ⟨by rw [HD.out]; rfl, rfl⟩
set_option maxRecDepth 100000 in
set_option maxHeartbeats 1000000 in
theorem is_fault (b k : Nat) (n : Nat) (w : World) (h : w.cell? ⟨b, 1, none⟩ = some (.int .i64 k)) :
    Calls Tryz.prog 41 #[.iface 162 (.pointer (some ⟨b, 0, none⟩)), .iface 30 (.int .i64 n)] w fun e w' => e = .returned (.bool (decide (k = n))) ∧ w = w' := by
  have h1 := @run_callFunc_extern Tryz.prog 64 _ ReflectliteType.typeOf Tryz.func64 (by kernel_rfl) (by kernel_rfl) (by kernel_rfl) (by kernel_rfl)
  have h2 := @run_callFunc_extern Tryz.prog 145 _ (ReflectliteType.method fun t => do Go.Extern.Rtype.noPackHeld "Comparable" t; pure (.bool (← typeInfo t).comparable)) Tryz.func145 (by kernel_rfl) (by kernel_rfl) (by kernel_rfl) (by kernel_rfl)
  have k1 := is_typeOf
  have k2 := is_comp
  have k3 := is_mComp
  have HI := Lib.hid (is_inner b k n w h)
  obtain ⟨r, hr⟩ : ∃ r, r = decide (k = n) := ⟨_, rfl⟩
  rw [← hr] at HI ⊢
  clear h hr
  go_enter Tryz.func41, Tryz.ntmps41
  go_wp2_with fail
  refine HI.out.mono ?_
  rintro e w' ⟨rfl, rfl⟩
  go_wp2
  go_ret
  exact ⟨rfl, rfl⟩
/-- errors.Is of what an error tells. -/
theorem is_any (v : Value) (k n : Nat) (w : World) (h : ErrIs w v k) (hn : n ≠ 0) : Calls Tryz.prog 41 #[v, .iface 30 (.int .i64 n)] w fun e w' => e = .returned (.bool (decide (k = n))) ∧ w = w' := by
  rcases h with ⟨rfl, rfl⟩ | ⟨h1, b, rfl, h3⟩
  · rw [decide_eq_false (fun h => hn h.symm)]
    exact is_nil n w
  · exact is_fault b k n w h3
end Go.Proofs.YtjomcffhbaplcaaGreatDoor
/- The document's Options: options as bytes. -/
namespace Go.Proofs.YtjomcffhbaplcaaGreatDoor
open Go.RowKit
end Go.Proofs.YtjomcffhbaplcaaGreatDoor
/- The document's Split: bytes as options. -/
namespace Go.Proofs.YtjomcffhbaplcaaGreatDoor
open Go.RowKit
end Go.Proofs.YtjomcffhbaplcaaGreatDoor
