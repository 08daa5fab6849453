/- There and back, for packets and options. Nothing of the program. -/
import Derived.Test.YtjomcffhbaplcaaGreatDoorQ3
namespace Go.Proofs.YtjomcffhbaplcaaGreatDoor
namespace Pure
theorem u8_nat (n : Nat) (h : n < 256) : (UInt8.ofNat n).toNat = n := by rw [UInt8.toNat_ofNat']; omega
theorem joined_cons (o : Opt) (l : List Opt) : joined (o :: l) = UInt8.ofNat o.1.toNat :: UInt8.ofNat (o.2.length + 2) :: (o.2 ++ joined l) := by simp [joined, Opt.bytes]
theorem joined_append (a b : List Opt) : joined (a ++ b) = joined a ++ joined b := by simp [joined]
theorem joined_len (l : List Opt) (h : ∀ o ∈ l, ¬ Opt.odd o) : (joined l).length ≤ 255 * l.length := by
  induction l with
  | nil => simp [joined]
  | cons o l ih =>
    rw [joined_cons]
    have h1 := ih (fun x hx => h x (by simp [hx]))
    have h2 : o.2.length ≤ 253 := by
      have := h o (by simp)
      unfold Opt.odd at this
      omega
    simp only [List.length_cons, List.length_append]
    omega
/-- Options as bytes are read as they were. -/
theorem split_joined (l : List Opt) : ∀ (acc : List Opt), (∀ o ∈ l, ¬ Opt.odd o) → acc.length + l.length ≤ 32 → splitFrom (joined l) acc = (0, acc ++ l) := by
  induction l with
  | nil => intro acc _ _; simp [joined, splitFrom_nil]
  | cons o l ih =>
    intro acc ho hl
    obtain ⟨t, d⟩ := o
    have hodd : 0 ≤ t ∧ t ≤ 255 ∧ d.length ≤ 253 := by
      have := ho (t, d) (by simp)
      unfold Opt.odd at this
      dsimp only at this
      omega
    rw [joined_cons]
    dsimp only
    have h1 : (UInt8.ofNat (d.length + 2)).toNat = d.length + 2 := u8_nat _ (by omega)
    have h0 : (UInt8.ofNat t.toNat).toNat = t.toNat := u8_nat _ (by omega)
    simp only [List.length_cons] at hl
    rw [splitFrom_step (by simp) (by omega)]
    · have e0 : (UInt8.ofNat t.toNat :: UInt8.ofNat (d.length + 2) :: (d ++ joined l)).getD 0 0 = UInt8.ofNat t.toNat := rfl
      have e1 : (UInt8.ofNat t.toNat :: UInt8.ofNat (d.length + 2) :: (d ++ joined l)).getD 1 0 = UInt8.ofNat (d.length + 2) := rfl
      rw [e0, e1, h0, h1]
      have ed : (UInt8.ofNat t.toNat :: UInt8.ofNat (d.length + 2) :: (d ++ joined l)).drop (d.length + 2) = joined l := by simp
      have et : ((UInt8.ofNat t.toNat :: UInt8.ofNat (d.length + 2) :: (d ++ joined l)).drop 2).take (d.length + 2 - 2) = d := by simp
      rw [ed, et, ih _ (fun o h => ho o (by simp [h])) (by rw [List.length_append]; simp only [List.length_cons, List.length_nil]; omega)]
      rw [show ((t.toNat : Nat) : Int) = t by omega]
      simp
    · have e1 : (UInt8.ofNat t.toNat :: UInt8.ofNat (d.length + 2) :: (d ++ joined l)).getD 1 0 = UInt8.ofNat (d.length + 2) := rfl
      rw [e1, h1]
      simp
/-- What was read is those bytes. -/
theorem split_back : ∀ (f : Nat) (b : List UInt8) (acc k : List Opt), b.length ≤ f → splitGo f b acc = (0, k) → acc.length ≤ 32 → (∀ o ∈ acc, ¬ Opt.odd o) → joined k = joined acc ++ b ∧ k.length ≤ 32 ∧ ∀ o ∈ k, ¬ Opt.odd o
  | 0, b, acc, k, hf, h, h32, ho => by
    have hb : b = [] := List.eq_nil_of_length_eq_zero (by omega)
    subst hb
    simp [splitGo] at h
    subst h
    exact ⟨by simp, h32, ho⟩
  | f + 1, b, acc, k, hf, h, h32, ho => by
    unfold splitGo at h
    split at h
    · rename_i hb
      simp at h
      subst h hb
      exact ⟨by simp, h32, ho⟩
    · split at h
      · simp at h
      · split at h
        · simp at h
        · rename_i h1 h2
          have hl1 := (b.getD 1 0).toNat_lt
          have hl0 := (b.getD 0 0).toNat_lt
          obtain ⟨r1, r2, r3⟩ := split_back f _ _ k (by rw [List.length_drop]; omega) h (by rw [List.length_append]; simp only [List.length_cons, List.length_nil]; omega) (by
            intro o hoo
            rcases List.mem_append.1 hoo with hoo | hoo
            · exact ho o hoo
            · simp only [List.mem_singleton] at hoo
              subst hoo
              unfold Opt.odd
              dsimp only
              rw [List.length_take, List.length_drop]
              omega)
          refine ⟨?_, r2, r3⟩
          rw [r1, joined_append, List.append_assoc]
          congr 1
          have hlen : ((b.drop 2).take ((b.getD 1 0).toNat - 2)).length = (b.getD 1 0).toNat - 2 := by rw [List.length_take, List.length_drop]; omega
          rw [joined_cons]
          dsimp only
          rw [hlen, show (b.getD 1 0).toNat - 2 + 2 = (b.getD 1 0).toNat by omega, Int.toNat_natCast]
          have hb2 : b = b.getD 0 0 :: b.getD 1 0 :: b.drop 2 := by
            match b, h2 with
            | x :: y :: r, _ => rfl
            | [x], h2 => simp at h2
            | [], h2 => simp at h2
          have hcat : (b.drop 2).take ((b.getD 1 0).toNat - 2) ++ b.drop (b.getD 1 0).toNat = b.drop 2 := by
            have := List.take_append_drop ((b.getD 1 0).toNat - 2) (b.drop 2)
            rw [List.drop_drop, show 2 + ((b.getD 1 0).toNat - 2) = (b.getD 1 0).toNat by omega] at this
            exact this
          simp only [joined, List.flatMap_nil, List.append_nil, List.cons_append]
          rw [hcat]
          have e0 : UInt8.ofNat (b.getD 0 0).toNat = b.getD 0 0 := by simp
          have e1 : UInt8.ofNat (b.getD 1 0).toNat = b.getD 1 0 := by simp
          rw [e0, e1]
          exact hb2.symm
theorem options_split {b : List UInt8} {k : List Opt} (h : split b = (0, k)) : options k = (0, b) := by
  obtain ⟨h1, h2, h3⟩ := split_back b.length b [] k (Nat.le_refl _) h (by simp) (by simp)
  rw [options_ok (by omega) h3, h1]
  simp [joined]
theorem options_back {l : List Opt} (h : (options l).1 = 0) : split (options l).2 = (0, l) ∧ l.length ≤ 32 ∧ ∀ o ∈ l, ¬ Opt.odd o := by
  unfold options at h ⊢
  split at h
  · simp at h
  · split at h
    · simp at h
    · rename_i h1 h2
      have ho : ∀ o ∈ l, ¬ Opt.odd o := fun o hm hodd => h2 ⟨o, hm, hodd⟩
      rw [if_neg h1, if_neg h2]
      refine ⟨?_, by omega, ho⟩
      have := split_joined l [] ho (by simp; omega)
      simpa [split] using this
theorem joined_inj {a b : List Opt} (ha : ∀ o ∈ a, ¬ Opt.odd o) (hb : ∀ o ∈ b, ¬ Opt.odd o) (la : a.length ≤ 32) (lb : b.length ≤ 32) (h : joined a = joined b) : a = b := by
  have h1 := split_joined a [] ha (by simp; omega)
  have h2 := split_joined b [] hb (by simp; omega)
  rw [h, h2] at h1
  simpa using h1.symm
/-- A packet's bytes, whatever stands behind them, are read as it is. -/
theorem decode_bytes {p : Pkt} (ho : ¬ p.odd) (hl : ¬ 1496 < p.data.length) (behind : List UInt8) : decode (p.bytes ++ behind) = (0, p) := by
  obtain ⟨c, i, d⟩ := p
  have hci : 0 ≤ c ∧ c ≤ 255 ∧ 0 ≤ i ∧ i ≤ 255 := by unfold Pkt.odd at ho; dsimp only at ho; omega
  dsimp only at hl
  have hst : stated (Pkt.bytes ⟨c, i, d⟩ ++ behind) = d.length + 4 := by
    show (UInt8.ofNat ((d.length + 4) / 256)).toNat * 256 + (UInt8.ofNat ((d.length + 4) % 256)).toNat = _
    rw [u8_nat _ (by omega), u8_nat _ (by omega)]
    omega
  have hlen : (Pkt.bytes ⟨c, i, d⟩ ++ behind).length = 4 + d.length + behind.length := by simp [Pkt.bytes]; omega
  rw [decode_ok (by omega) (by omega) (by omega) (by omega), hst]
  have e0 : (Pkt.bytes ⟨c, i, d⟩ ++ behind).getD 0 0 = UInt8.ofNat c.toNat := rfl
  have e1 : (Pkt.bytes ⟨c, i, d⟩ ++ behind).getD 1 0 = UInt8.ofNat i.toNat := rfl
  have ed : ((Pkt.bytes ⟨c, i, d⟩ ++ behind).drop 4).take (d.length + 4 - 4) = d := by simp [Pkt.bytes]
  rw [e0, e1, ed, u8_nat _ (by omega), u8_nat _ (by omega), show ((c.toNat : Nat) : Int) = c by omega, show ((i.toNat : Nat) : Int) = i by omega]
/-- Each shorter beginning of a packet is too short. -/
theorem decode_cutoff {p : Pkt} (ho : ¬ p.odd) (hl : ¬ 1496 < p.data.length) (k : Nat) (hk : k < p.bytes.length) : (decode (p.bytes.take k)).1 = 2 := by
  obtain ⟨c, i, d⟩ := p
  dsimp only at hl
  have hbl : (Pkt.bytes ⟨c, i, d⟩).length = 4 + d.length := by simp [Pkt.bytes]; omega
  have hlen : ((Pkt.bytes ⟨c, i, d⟩).take k).length = k := by rw [List.length_take]; omega
  by_cases h4 : k < 4
  · rw [decode_short (by omega)]
  · have hst : stated ((Pkt.bytes ⟨c, i, d⟩).take k) = d.length + 4 := by
      have g2 : ((Pkt.bytes ⟨c, i, d⟩).take k).getD 2 0 = UInt8.ofNat ((d.length + 4) / 256) := by
        rw [List.getD_eq_getElem?_getD, List.getElem?_take, if_pos (by omega)]; rfl
      have g3 : ((Pkt.bytes ⟨c, i, d⟩).take k).getD 3 0 = UInt8.ofNat ((d.length + 4) % 256) := by
        rw [List.getD_eq_getElem?_getD, List.getElem?_take, if_pos (by omega)]; rfl
      unfold stated
      rw [g2, g3, u8_nat _ (by omega), u8_nat _ (by omega)]
      omega
    rw [decode_cut (by omega) (by omega) (by omega)]
end Pure
end Go.Proofs.YtjomcffhbaplcaaGreatDoor
