/- What chapter 13 says of a negotiator. Nothing of the program. -/
import Derived.Test.YtjomcffhbaplcaaQ5
import Derived.Test.YtjomcffhbaplcaaQ2
namespace Go.Proofs.Ytjomcffhbaplcaa
namespace Pure
/-- What a call hands out. -/
structure Said where
  send : List Pkt
  up : Bool
  down : Bool
  start : Bool
  done : Bool
def mute : Said := ⟨[], false, false, false, false⟩
/-- A packet that came, and what a request is answered with. -/
structure Reply where
  p : Pkt
  code : Nat
  l : List Opt
/-- A negotiator. -/
structure Neg where
  rules : List Rule
  first : List Opt
  request : List Opt
  m : Mach
  id : Nat
  asked : Nat
  naks : Nat
  waits : Bool
  acked : List Opt
  theirs : List Opt
  dropped : Nat
  ours : List UInt8
def Neg.next (n : Neg) : Nat := (n.id + 1) % 256
def Neg.again (n : Neg) : Neg := { n with request := n.first, naks := 0 }
def Said.more (o : Said) (p : Pkt) : Said := { o with send := o.send ++ [p] }
/-- A packet with the next own identifier. -/
def sendOwn (s : Neg × Said) (code : Nat) (data : List UInt8) : Neg × Said := ({ s.1 with id := s.1.next }, s.2.more ⟨code, s.1.next, data⟩)
def sendReq (s : Neg × Said) : Neg × Said := ({ s.1 with ours := (options s.1.request).2, waits := true, id := s.1.next, asked := s.1.next }, s.2.more ⟨1, s.1.next, (options s.1.request).2⟩)
def sendAnswer (s : Neg × Said) : Option Reply → Neg × Said
  | none => s
  | some q => ({ s.1 with naks := if q.code = 3 then s.1.naks + 1 else s.1.naks }, s.2.more ⟨q.code, q.p.id, (options q.l).2⟩)
def sendTermAck (s : Neg × Said) : Option Reply → Neg × Said
  | none => sendOwn s 6 []
  | some q => if q.p.code = 5 then (s.1, s.2.more ⟨6, q.p.id, []⟩) else sendOwn s 6 []
def sendCodeRej (s : Neg × Said) : Option Reply → Neg × Said
  | none => s
  | some q => sendOwn s 7 ((encode q.p).2.take 1496)
/-- One action. -/
def negAct (r : Option Reply) (s : Neg × Said) : Nat → Neg × Said
  | 0 => (s.1, { s.2 with up := true })
  | 1 => (s.1, { s.2 with down := true })
  | 2 => (s.1.again, { s.2 with start := true })
  | 3 => (s.1, { s.2 with done := true })
  | 6 => sendReq s
  | 7 => sendAnswer s r
  | 8 => sendAnswer s r
  | 9 => sendOwn s 5 []
  | 10 => sendTermAck s r
  | 11 => sendCodeRej s r
  | _ => s
def Neg.acts (n : Neg) (l : List Nat) (r : Option Reply) : Neg × Said := l.foldl (negAct r) (n, mute)
/-- An event, by a packet that came or by none. -/
def Neg.event (n : Neg) (e : Nat) (r : Option Reply) : Neg × Said := { n with m := (n.m.act2 e).2 }.acts (n.m.act2 e).1 r
def Neg.act (n : Neg) (e : Int) : Neg × Said :=
  if e < 0 ∨ 3 < e then (n, mute) else if e = 0 then n.again.event 0 none else n.event e.toNat none
def Neg.tick (n : Neg) : Neg × Said := { n with m := n.m.tick.2 }.acts n.m.tick.1 none
def Neg.drop (n : Neg) : Neg × Said := ({ n with dropped := n.dropped + 1 }, mute)
/-- A request came. -/
def Neg.judged (n : Neg) (p : Pkt) (l : List Opt) : Neg × Said :=
  let j := judge n.rules l (decide (n.m.tries ≤ n.naks))
  let s := n.event (if j.1 = 2 then 6 else 7) (some ⟨p, j.1, j.2⟩)
  if j.1 = 2 ∧ (s.1.m.state = 8 ∨ s.1.m.state = 9) then ({ s.1 with theirs := l }, s.2) else s
/-- An answer came. -/
def Neg.answered (n : Neg) (p : Pkt) : Neg × Said :=
  if n.waits = false ∨ p.id ≠ n.asked then n.drop
  else if p.code = 2 then (if p.data = n.ours then { n with waits := false, acked := (split n.ours).2 }.event 8 (some ⟨p, 0, []⟩) else n.drop)
  else if (split p.data).1 ≠ 0 then n.drop
  else if p.code = 4 then
    (if (split p.data).2.all (fun o => (split n.ours).2.any fun q => decide (o = q)) = true then { n with request := left n.rules n.request (split p.data).2, waits := false }.event 9 (some ⟨p, 0, []⟩) else n.drop)
  else { n with request := naked n.rules n.request (split p.data).2, waits := false }.event 9 (some ⟨p, 0, []⟩)
def Neg.input (n : Neg) (p : Pkt) : Neg × Said :=
  if n.m.state ≤ 1 then n.drop
  else if p.code = 1 then (if (split p.data).1 ≠ 0 then n.drop else n.judged p (split p.data).2)
  else if p.code = 2 ∨ p.code = 3 ∨ p.code = 4 then n.answered p
  else if p.code = 5 then n.event 10 (some ⟨p, 0, []⟩)
  else if p.code = 6 then n.event 11 (some ⟨p, 0, []⟩)
  else if p.code = 7 then
    (match p.data with
    | [] => n.drop
    | b :: _ => if 1 ≤ b.toNat ∧ b.toNat ≤ 7 then n.event 14 (some ⟨p, 0, []⟩) else n.event 13 (some ⟨p, 0, []⟩))
  else n.event 12 (some ⟨p, 0, []⟩)
def Neg.ask (n : Neg) (l : List Opt) : Neg := if (options l).1 = 0 then { n with first := l } else n
def Neg.mine (n : Neg) : List Opt := if n.m.state = 9 then n.acked else []
def Neg.given (n : Neg) : List Opt := if n.m.state = 9 then n.theirs else []
/-- What is wrong, or nothing, and a negotiator. -/
def newNeg (rules : List Rule) (ask : List Opt) (tries timeout : Nat) : Neg := ⟨rules, ask, ask, newMach tries timeout, 0, 0, 0, false, [], [], 0, []⟩
/-- The machine, the rules, the first ask, what was agreed and what was dropped are as they were. -/
structure Neg.Like (n n' : Neg) : Prop where
  m : n'.m = n.m
  rules : n'.rules = n.rules
  first : n'.first = n.first
  acked : n'.acked = n.acked
  theirs : n'.theirs = n.theirs
  dropped : n'.dropped = n.dropped
theorem Neg.Like.refl (n : Neg) : Neg.Like n n := ⟨rfl, rfl, rfl, rfl, rfl, rfl⟩
theorem Neg.Like.trans {a b c : Neg} (h : Neg.Like a b) (k : Neg.Like b c) : Neg.Like a c := ⟨k.m.trans h.m, k.rules.trans h.rules, k.first.trans h.first, k.acked.trans h.acked, k.theirs.trans h.theirs, k.dropped.trans h.dropped⟩
theorem negAct_keeps (r : Option Reply) (s : Neg × Said) (a : Nat) : Neg.Like s.1 (negAct r s a).1 := by
  unfold negAct
  split
  · exact Neg.Like.refl _
  · exact Neg.Like.refl _
  · exact ⟨rfl, rfl, rfl, rfl, rfl, rfl⟩
  · exact Neg.Like.refl _
  · exact ⟨rfl, rfl, rfl, rfl, rfl, rfl⟩
  · cases r <;> exact ⟨rfl, rfl, rfl, rfl, rfl, rfl⟩
  · cases r <;> exact ⟨rfl, rfl, rfl, rfl, rfl, rfl⟩
  · exact ⟨rfl, rfl, rfl, rfl, rfl, rfl⟩
  · cases r with
    | none => exact ⟨rfl, rfl, rfl, rfl, rfl, rfl⟩
    | some q =>
      show Neg.Like s.1 (if q.p.code = 5 then (s.1, s.2.more ⟨6, q.p.id, []⟩) else sendOwn s 6 []).1
      split
      · exact Neg.Like.refl _
      · exact ⟨rfl, rfl, rfl, rfl, rfl, rfl⟩
  · cases r <;> exact ⟨rfl, rfl, rfl, rfl, rfl, rfl⟩
  · exact Neg.Like.refl _
theorem acts_keeps (r : Option Reply) (l : List Nat) : ∀ s : Neg × Said, Neg.Like s.1 (l.foldl (negAct r) s).1 := by
  induction l with
  | nil => intro s; exact Neg.Like.refl _
  | cons a l ih =>
    intro s
    rw [List.foldl_cons]
    exact (negAct_keeps r s a).trans (ih _)
/-- The machine behind an event. -/
theorem event_mach (n : Neg) (e : Nat) (r : Option Reply) : (n.event e r).1.m = (n.m.act2 e).2 := (acts_keeps r _ ({ n with m := (n.m.act2 e).2 }, mute)).m
end Pure
end Go.Proofs.Ytjomcffhbaplcaa
/- There and back, for packets and options. Nothing of the program. -/
namespace Go.Proofs.Ytjomcffhbaplcaa
namespace Pure
theorem u8_nat (n : Nat) (h : n < 256) : (UInt8.ofNat n).toNat = n := by rw [UInt8.toNat_ofNat']; omega
theorem joined_cons (o : Opt) (l : List Opt) : joined (o :: l) = UInt8.ofNat o.1.toNat :: UInt8.ofNat (o.2.length + 2) :: (o.2 ++ joined l) := by simp [joined, Opt.bytes]
theorem joined_append (a b : List Opt) : joined (a ++ b) = joined a ++ joined b := by simp [joined]
theorem joined_len (l : List Opt) (h : ∀ o ∈ l, ¬ Opt.odd o) : (joined l).length ≤ 255 * l.length := by
  induction l with
  | nil => simp [joined]
  | cons o l ih =>
    rw [joined_cons]
    have h1 := ih (fun x hx => h x (by simp [hx]))
    have h2 : o.2.length ≤ 253 := by
      have := h o (by simp)
      unfold Opt.odd at this
      omega
    simp only [List.length_cons, List.length_append]
    omega
/-- Options as bytes are read as they were. -/
theorem split_joined (l : List Opt) : ∀ (acc : List Opt), (∀ o ∈ l, ¬ Opt.odd o) → acc.length + l.length ≤ 32 → splitFrom (joined l) acc = (0, acc ++ l) := by
  induction l with
  | nil => intro acc _ _; simp [joined, splitFrom_nil]
  | cons o l ih =>
    intro acc ho hl
    obtain ⟨t, d⟩ := o
    have hodd : 0 ≤ t ∧ t ≤ 255 ∧ d.length ≤ 253 := by
      have := ho (t, d) (by simp)
      unfold Opt.odd at this
      dsimp only at this
      omega
    rw [joined_cons]
    dsimp only
    have h1 : (UInt8.ofNat (d.length + 2)).toNat = d.length + 2 := u8_nat _ (by omega)
    have h0 : (UInt8.ofNat t.toNat).toNat = t.toNat := u8_nat _ (by omega)
    simp only [List.length_cons] at hl
    rw [splitFrom_step (by simp) (by omega)]
    · have e0 : (UInt8.ofNat t.toNat :: UInt8.ofNat (d.length + 2) :: (d ++ joined l)).getD 0 0 = UInt8.ofNat t.toNat := rfl
      have e1 : (UInt8.ofNat t.toNat :: UInt8.ofNat (d.length + 2) :: (d ++ joined l)).getD 1 0 = UInt8.ofNat (d.length + 2) := rfl
      rw [e0, e1, h0, h1]
      have ed : (UInt8.ofNat t.toNat :: UInt8.ofNat (d.length + 2) :: (d ++ joined l)).drop (d.length + 2) = joined l := by simp
      have et : ((UInt8.ofNat t.toNat :: UInt8.ofNat (d.length + 2) :: (d ++ joined l)).drop 2).take (d.length + 2 - 2) = d := by simp
      rw [ed, et, ih _ (fun o h => ho o (by simp [h])) (by rw [List.length_append]; simp only [List.length_cons, List.length_nil]; omega)]
      rw [show ((t.toNat : Nat) : Int) = t by omega]
      simp
    · have e1 : (UInt8.ofNat t.toNat :: UInt8.ofNat (d.length + 2) :: (d ++ joined l)).getD 1 0 = UInt8.ofNat (d.length + 2) := rfl
      rw [e1, h1]
      simp
/-- What was read is those bytes. -/
theorem split_back : ∀ (f : Nat) (b : List UInt8) (acc k : List Opt), b.length ≤ f → splitGo f b acc = (0, k) → acc.length ≤ 32 → (∀ o ∈ acc, ¬ Opt.odd o) → joined k = joined acc ++ b ∧ k.length ≤ 32 ∧ ∀ o ∈ k, ¬ Opt.odd o
  | 0, b, acc, k, hf, h, h32, ho => by
    have hb : b = [] := List.eq_nil_of_length_eq_zero (by omega)
    subst hb
    simp [splitGo] at h
    subst h
    exact ⟨by simp, h32, ho⟩
  | f + 1, b, acc, k, hf, h, h32, ho => by
    unfold splitGo at h
    split at h
    · rename_i hb
      simp at h
      subst h hb
      exact ⟨by simp, h32, ho⟩
    · split at h
      · simp at h
      · split at h
        · simp at h
        · rename_i h1 h2
          have hl1 := (b.getD 1 0).toNat_lt
          have hl0 := (b.getD 0 0).toNat_lt
          obtain ⟨r1, r2, r3⟩ := split_back f _ _ k (by rw [List.length_drop]; omega) h (by rw [List.length_append]; simp only [List.length_cons, List.length_nil]; omega) (by
            intro o hoo
            rcases List.mem_append.1 hoo with hoo | hoo
            · exact ho o hoo
            · simp only [List.mem_singleton] at hoo
              subst hoo
              unfold Opt.odd
              dsimp only
              rw [List.length_take, List.length_drop]
              omega)
          refine ⟨?_, r2, r3⟩
          rw [r1, joined_append, List.append_assoc]
          congr 1
          have hlen : ((b.drop 2).take ((b.getD 1 0).toNat - 2)).length = (b.getD 1 0).toNat - 2 := by rw [List.length_take, List.length_drop]; omega
          rw [joined_cons]
          dsimp only
          rw [hlen, show (b.getD 1 0).toNat - 2 + 2 = (b.getD 1 0).toNat by omega, Int.toNat_natCast]
          have hb2 : b = b.getD 0 0 :: b.getD 1 0 :: b.drop 2 := by
            match b, h2 with
            | x :: y :: r, _ => rfl
            | [x], h2 => simp at h2
            | [], h2 => simp at h2
          have hcat : (b.drop 2).take ((b.getD 1 0).toNat - 2) ++ b.drop (b.getD 1 0).toNat = b.drop 2 := by
            have := List.take_append_drop ((b.getD 1 0).toNat - 2) (b.drop 2)
            rw [List.drop_drop, show 2 + ((b.getD 1 0).toNat - 2) = (b.getD 1 0).toNat by omega] at this
            exact this
          simp only [joined, List.flatMap_nil, List.append_nil, List.cons_append]
          rw [hcat]
          have e0 : UInt8.ofNat (b.getD 0 0).toNat = b.getD 0 0 := by simp
          have e1 : UInt8.ofNat (b.getD 1 0).toNat = b.getD 1 0 := by simp
          rw [e0, e1]
          exact hb2.symm
theorem options_split {b : List UInt8} {k : List Opt} (h : split b = (0, k)) : options k = (0, b) := by
  obtain ⟨h1, h2, h3⟩ := split_back b.length b [] k (Nat.le_refl _) h (by simp) (by simp)
  rw [options_ok (by omega) h3, h1]
  simp [joined]
theorem options_back {l : List Opt} (h : (options l).1 = 0) : split (options l).2 = (0, l) ∧ l.length ≤ 32 ∧ ∀ o ∈ l, ¬ Opt.odd o := by
  unfold options at h ⊢
  split at h
  · simp at h
  · split at h
    · simp at h
    · rename_i h1 h2
      have ho : ∀ o ∈ l, ¬ Opt.odd o := fun o hm hodd => h2 ⟨o, hm, hodd⟩
      rw [if_neg h1, if_neg h2]
      refine ⟨?_, by omega, ho⟩
      have := split_joined l [] ho (by simp; omega)
      simpa [split] using this
theorem joined_inj {a b : List Opt} (ha : ∀ o ∈ a, ¬ Opt.odd o) (hb : ∀ o ∈ b, ¬ Opt.odd o) (la : a.length ≤ 32) (lb : b.length ≤ 32) (h : joined a = joined b) : a = b := by
  have h1 := split_joined a [] ha (by simp; omega)
  have h2 := split_joined b [] hb (by simp; omega)
  rw [h, h2] at h1
  simpa using h1.symm
/-- A packet's bytes, whatever stands behind them, are read as it is. -/
theorem decode_bytes {p : Pkt} (ho : ¬ p.odd) (hl : ¬ 1496 < p.data.length) (behind : List UInt8) : decode (p.bytes ++ behind) = (0, p) := by
  obtain ⟨c, i, d⟩ := p
  have hci : 0 ≤ c ∧ c ≤ 255 ∧ 0 ≤ i ∧ i ≤ 255 := by unfold Pkt.odd at ho; dsimp only at ho; omega
  dsimp only at hl
  have hst : stated (Pkt.bytes ⟨c, i, d⟩ ++ behind) = d.length + 4 := by
    show (UInt8.ofNat ((d.length + 4) / 256)).toNat * 256 + (UInt8.ofNat ((d.length + 4) % 256)).toNat = _
    rw [u8_nat _ (by omega), u8_nat _ (by omega)]
    omega
  have hlen : (Pkt.bytes ⟨c, i, d⟩ ++ behind).length = 4 + d.length + behind.length := by simp [Pkt.bytes]; omega
  rw [decode_ok (by omega) (by omega) (by omega) (by omega), hst]
  have e0 : (Pkt.bytes ⟨c, i, d⟩ ++ behind).getD 0 0 = UInt8.ofNat c.toNat := rfl
  have e1 : (Pkt.bytes ⟨c, i, d⟩ ++ behind).getD 1 0 = UInt8.ofNat i.toNat := rfl
  have ed : ((Pkt.bytes ⟨c, i, d⟩ ++ behind).drop 4).take (d.length + 4 - 4) = d := by simp [Pkt.bytes]
  rw [e0, e1, ed, u8_nat _ (by omega), u8_nat _ (by omega), show ((c.toNat : Nat) : Int) = c by omega, show ((i.toNat : Nat) : Int) = i by omega]
/-- Each shorter beginning of a packet is too short. -/
theorem decode_cutoff {p : Pkt} (ho : ¬ p.odd) (hl : ¬ 1496 < p.data.length) (k : Nat) (hk : k < p.bytes.length) : (decode (p.bytes.take k)).1 = 2 := by
  obtain ⟨c, i, d⟩ := p
  dsimp only at hl
  have hbl : (Pkt.bytes ⟨c, i, d⟩).length = 4 + d.length := by simp [Pkt.bytes]; omega
  have hlen : ((Pkt.bytes ⟨c, i, d⟩).take k).length = k := by rw [List.length_take]; omega
  by_cases h4 : k < 4
  · rw [decode_short (by omega)]
  · have hst : stated ((Pkt.bytes ⟨c, i, d⟩).take k) = d.length + 4 := by
      have g2 : ((Pkt.bytes ⟨c, i, d⟩).take k).getD 2 0 = UInt8.ofNat ((d.length + 4) / 256) := by
        rw [List.getD_eq_getElem?_getD, List.getElem?_take, if_pos (by omega)]; rfl
      have g3 : ((Pkt.bytes ⟨c, i, d⟩).take k).getD 3 0 = UInt8.ofNat ((d.length + 4) % 256) := by
        rw [List.getD_eq_getElem?_getD, List.getElem?_take, if_pos (by omega)]; rfl
      unfold stated
      rw [g2, g3, u8_nat _ (by omega), u8_nat _ (by omega)]
      omega
    rw [decode_cut (by omega) (by omega) (by omega)]
end Pure
end Go.Proofs.Ytjomcffhbaplcaa
