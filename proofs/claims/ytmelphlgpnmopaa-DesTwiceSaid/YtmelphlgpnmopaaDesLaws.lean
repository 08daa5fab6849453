/- DES over lists of bits, what follows: all bits turned; two blocks come out unlike if they are; by a key of noughts or of ones twice is nothing. -/
import Derived.Test.YtmelphlgpnmopaaDesPure
namespace Go.Proofs.Ytmelphlgpnmopaa
namespace Pure
def notL (l : List Bool) : List Bool := l.map (!·)
theorem notL_length (l : List Bool) : (notL l).length = l.length := by simp [notL]
theorem notL_getD (l : List Bool) (i : Nat) (h : i < l.length) : (notL l).getD i false = !l.getD i false := by
  unfold notL
  rw [List.getD_eq_getElem?_getD, List.getD_eq_getElem?_getD, List.getElem?_map, List.getElem?_eq_getElem h]
  rfl
theorem notL_append (a b : List Bool) : notL (a ++ b) = notL a ++ notL b := by simp [notL]
theorem pick_not (b : List Bool) (ps : List Nat) (h : ∀ p ∈ ps, p - 1 < b.length) : pick (notL b) ps = notL (pick b ps) := by
  unfold pick notL
  rw [List.map_map]
  apply List.map_congr_left
  intro p hp
  exact notL_getD b (p - 1) (h p hp)
theorem desTurn_not (b : List Bool) (n : Nat) : desTurn (notL b) n = notL (desTurn b n) := by simp [desTurn, notL, List.map_drop, List.map_take]
theorem list_ext {α : Type} (d : α) (a b : List α) (hl : a.length = b.length) (h : ∀ t, t < a.length → a.getD t d = b.getD t d) : a = b := by
  apply List.ext_getElem hl
  intro t h1 h2
  have := h t h1
  rwa [List.getD_eq_getElem?_getD, List.getD_eq_getElem?_getD, List.getElem?_eq_getElem h1, List.getElem?_eq_getElem h2] at this
/-- The halves as long as they should be. -/
structure Good (s : Halves) : Prop where
  c : s.c.length = 28
  d : s.d.length = 28
  l : s.l.length = 32
  r : s.r.length = 32
theorem desXor_length (l f : List Bool) : (desXor l f).length = 32 := by simp [desXor]
theorem Good.round {s : Halves} (h : Good s) (n : Nat) : Good (desRound n s) := ⟨by simp [desRound, desTurn_length, h.c], by simp [desRound, desTurn_length, h.d], h.r, desXor_length _ _⟩
theorem Good.rounds {s : Halves} (h : Good s) : ∀ n, Good (desRounds s n)
  | 0 => h
  | n + 1 => (Good.rounds h n).round (n + 1)
theorem Good.start (key block : List Bool) : Good (desStart key block) := by
  refine ⟨?_, ?_, ?_, ?_⟩ <;> simp [desStart, pick_length, desHalf, pc1C, pc1D, desIp]
def Halves.nots (s : Halves) : Halves := ⟨notL s.c, notL s.d, notL s.l, notL s.r⟩
theorem desSix_not (r k : List Bool) (hr : r.length = 32) (hk : k.length = 48) (i j : Nat) (hi : i < 8) (hj : j < 6) : desSix (notL r) (notL k) i j = desSix r k i j := by
  unfold desSix
  rw [notL_getD _ _ (by rw [hr]; omega), notL_getD _ _ (by rw [hk]; omega)]
  cases r.getD ((4 * i + j + 31) % 32) false <;> cases k.getD (6 * i + j) false <;> rfl
theorem desOuts_not (r k : List Bool) (hr : r.length = 32) (hk : k.length = 48) : desOuts (notL r) (notL k) 8 = desOuts r k 8 := by
  unfold desOuts
  rw [List.flatMap_def, List.flatMap_def]
  congr 1
  apply List.map_congr_left
  intro i hi
  rw [List.mem_range] at hi
  unfold desNum desAt
  rw [desSix_not r k hr hk i 0 hi (by omega), desSix_not r k hr hk i 1 hi (by omega), desSix_not r k hr hk i 2 hi (by omega), desSix_not r k hr hk i 3 hi (by omega), desSix_not r k hr hk i 4 hi (by omega), desSix_not r k hr hk i 5 hi (by omega)]
theorem desF_not (r k : List Bool) (hr : r.length = 32) (hk : k.length = 48) : desF (notL r) (notL k) = desF r k := by
  unfold desF
  rw [desOuts_not r k hr hk]
theorem desXor_not (l f : List Bool) (hl : l.length = 32) : desXor (notL l) f = notL (desXor l f) := by
  unfold desXor
  show _ = List.map (!·) (List.map _ _)
  rw [List.map_map]
  apply List.map_congr_left
  intro i hi
  rw [List.mem_range] at hi
  show ((notL l).getD i false ^^ f.getD i false) = !(l.getD i false ^^ f.getD i false)
  rw [notL_getD _ _ (by rw [hl]; exact hi)]
  cases l.getD i false <;> cases f.getD i false <;> rfl
theorem pc2_in : ∀ p ∈ desPc2, p - 1 < 56 := by decide
theorem half_in : ∀ d, ∀ p ∈ desHalf d, p - 1 < 56 := by decide
theorem ip_in : ∀ p ∈ desIp, p - 1 < 64 := by decide
theorem desRoundKey_length (c d : List Bool) : (desRoundKey c d).length = 48 := by simp [desRoundKey, pick_length, desPc2]
theorem desRoundKey_not (c d : List Bool) (hc : c.length = 28) (hd : d.length = 28) : desRoundKey (notL c) (notL d) = notL (desRoundKey c d) := by
  unfold desRoundKey
  rw [← notL_append]
  exact pick_not _ _ (fun p hp => by rw [List.length_append, hc, hd]; exact pc2_in p hp)
theorem desRound_not (n : Nat) (s : Halves) (h : Good s) : desRound n s.nots = (desRound n s).nots := by
  unfold desRound Halves.nots
  simp only [desTurn_not]
  rw [desRoundKey_not _ _ (by rw [desTurn_length, h.c]) (by rw [desTurn_length, h.d]), desF_not _ _ h.r (desRoundKey_length _ _), desXor_not _ _ h.l]
theorem desRounds_not (s : Halves) (h : Good s) : ∀ n, desRounds s.nots n = (desRounds s n).nots
  | 0 => rfl
  | n + 1 => by
    show desRound (n + 1) (desRounds s.nots n) = (desRound (n + 1) (desRounds s n)).nots
    rw [desRounds_not s h n, desRound_not _ _ (h.rounds n)]
theorem desStart_not (key block : List Bool) (hk : key.length = 56) (hb : block.length = 64) : desStart (notL key) (notL block) = (desStart key block).nots := by
  unfold desStart Halves.nots
  simp only []
  rw [pick_not key (desHalf false) (fun p hp => by rw [hk]; exact half_in _ p hp), pick_not key (desHalf true) (fun p hp => by rw [hk]; exact half_in _ p hp), pick_not block desIp (fun p hp => by rw [hb]; exact ip_in p hp)]
  simp [notL, List.map_take, List.map_drop]

/-! IP, and back. -/
theorem ip_length : desIp.length = 64 := by simp [desIp]
theorem ip_at (t : Nat) (h : t < 64) : desIp.getD t 0 - 1 < 64 := by
  have : ∀ t < 64, desIp.getD t 0 - 1 < 64 := by decide
  exact this t h
theorem ip_one : ∀ s < 64, ∀ t < 64, desIp.getD s 0 - 1 = desIp.getD t 0 - 1 → s = t := by decide +kernel
theorem ip_all : ∀ j < 64, ∃ t < 64, desIp.getD t 0 - 1 = j := by decide +kernel
theorem desPut_length (y : List Bool) : ∀ i, (desPut y i).length = 64
  | 0 => by simp [desPut]
  | i + 1 => by simp only [desPut, List.length_set]; exact desPut_length y i
theorem desPut_at (y : List Bool) : ∀ i, i ≤ 64 → ∀ t, t < i → (desPut y i).getD (desIp.getD t 0 - 1) false = y.getD t false
  | 0, _, _, h => by omega
  | i + 1, hi, t, ht => by
    simp only [desPut]
    by_cases e : t = i
    · subst e
      rw [List.getD_eq_getElem?_getD, List.getElem?_set_self (by rw [desPut_length]; exact ip_at t (by omega))]
      rfl
    · rw [List.getD_eq_getElem?_getD, List.getElem?_set_ne (fun h => e (ip_one t (by omega) i (by omega) h.symm)), ← List.getD_eq_getElem?_getD]
      exact desPut_at y i (by omega) t (by omega)
theorem pick_at (b : List Bool) (ps : List Nat) (t : Nat) (h : t < ps.length) : (pick b ps).getD t false = b.getD (ps.getD t 0 - 1) false := by
  unfold pick
  rw [List.getD_eq_getElem?_getD, List.getElem?_map, List.getElem?_eq_getElem h]
  show b.getD (ps[t] - 1) false = _
  rw [List.getD_eq_getElem?_getD (l := ps), List.getElem?_eq_getElem h]
  rfl
theorem pick_put (y : List Bool) (hy : y.length = 64) : pick (desPut y 64) desIp = y := by
  refine list_ext false _ _ (by rw [pick_length, ip_length, hy]) fun t ht => ?_
  rw [pick_length, ip_length] at ht
  rw [pick_at _ _ _ (by rw [ip_length]; exact ht)]
  exact desPut_at y 64 (Nat.le_refl _) t ht
theorem pick_ip_inj (a b : List Bool) (ha : a.length = 64) (hb : b.length = 64) (h : pick a desIp = pick b desIp) : a = b := by
  refine list_ext false _ _ (by rw [ha, hb]) fun j hj => ?_
  obtain ⟨t, ht, rfl⟩ := ip_all j (by omega)
  rw [← pick_at a desIp t (by rw [ip_length]; exact ht), h, pick_at b desIp t (by rw [ip_length]; exact ht)]
theorem put_pick (a : List Bool) (ha : a.length = 64) : desPut (pick a desIp) 64 = a := by
  refine pick_ip_inj _ _ (desPut_length _ _) ha ?_
  exact pick_put _ (by rw [pick_length, ip_length])
theorem desPut_not (y : List Bool) (hy : y.length = 64) : desPut (notL y) 64 = notL (desPut y 64) := by
  refine pick_ip_inj _ _ (desPut_length _ _) (by rw [notL_length, desPut_length]) ?_
  rw [pick_put _ (by rw [notL_length]; exact hy), pick_not _ _ (fun p hp => by rw [desPut_length]; exact ip_in p hp), pick_put _ hy]
theorem desBits_not (key block : List Bool) (hk : key.length = 56) (hb : block.length = 64) : desBits (notL key) (notL block) = notL (desBits key block) := by
  unfold desBits
  have hg := Good.start key block
  simp only []
  rw [desStart_not key block hk hb, desRounds_not _ hg 16]
  show desPut (notL (desRounds (desStart key block) 16).r ++ notL (desRounds (desStart key block) 16).l) 64 = _
  rw [← notL_append, desPut_not]
  rw [List.length_append, (hg.rounds 16).r, (hg.rounds 16).l]

/-! Two blocks. -/
theorem desXor_back (l f : List Bool) (hl : l.length = 32) : desXor (desXor l f) f = l := by
  refine list_ext false _ _ (by rw [desXor_length, hl]) fun i hi => ?_
  rw [desXor_length] at hi
  have e : ∀ (l f : List Bool), (desXor l f).getD i false = (l.getD i false ^^ f.getD i false) := fun l f => by
    unfold desXor
    rw [List.getD_eq_getElem?_getD, List.getElem?_map, List.getElem?_range hi]
    rfl
  rw [e, e]
  cases l.getD i false <;> cases f.getD i false <;> rfl
theorem desRound_inj (n : Nat) (s t : Halves) (hs : Good s) (ht : Good t) (hc : s.c = t.c) (hd : s.d = t.d) (hl : (desRound n s).l = (desRound n t).l) (hr : (desRound n s).r = (desRound n t).r) : s.l = t.l ∧ s.r = t.r := by
  have e1 : s.r = t.r := hl
  refine ⟨?_, e1⟩
  have e2 : desXor s.l (desF s.r (desRoundKey (desTurn s.c (desBy n)) (desTurn s.d (desBy n)))) = desXor t.l (desF t.r (desRoundKey (desTurn t.c (desBy n)) (desTurn t.d (desBy n)))) := hr
  rw [e1, hc, hd] at e2
  rw [← desXor_back s.l (desF t.r (desRoundKey (desTurn t.c (desBy n)) (desTurn t.d (desBy n)))) hs.l, e2, desXor_back _ _ ht.l]
theorem desRounds_cd (s t : Halves) (hc : s.c = t.c) (hd : s.d = t.d) : ∀ n, (desRounds s n).c = (desRounds t n).c ∧ (desRounds s n).d = (desRounds t n).d
  | 0 => ⟨hc, hd⟩
  | n + 1 => by
    obtain ⟨h1, h2⟩ := desRounds_cd s t hc hd n
    show desTurn (desRounds s n).c _ = desTurn (desRounds t n).c _ ∧ desTurn (desRounds s n).d _ = desTurn (desRounds t n).d _
    rw [h1, h2]
    exact ⟨rfl, rfl⟩
theorem desRounds_inj (s t : Halves) (hs : Good s) (ht : Good t) (hc : s.c = t.c) (hd : s.d = t.d) : ∀ n, (desRounds s n).l = (desRounds t n).l → (desRounds s n).r = (desRounds t n).r → s.l = t.l ∧ s.r = t.r
  | 0, hl, hr => ⟨hl, hr⟩
  | n + 1, hl, hr => by
    obtain ⟨h1, h2⟩ := desRounds_cd s t hc hd n
    obtain ⟨h3, h4⟩ := desRound_inj (n + 1) _ _ (hs.rounds n) (ht.rounds n) h1 h2 hl hr
    exact desRounds_inj s t hs ht hc hd n h3 h4
theorem desBits_inj (key a b : List Bool) (ha : a.length = 64) (hb : b.length = 64) (h : desBits key a = desBits key b) : a = b := by
  have hga := Good.start key a
  have hgb := Good.start key b
  have e : (desRounds (desStart key a) 16).r ++ (desRounds (desStart key a) 16).l = (desRounds (desStart key b) 16).r ++ (desRounds (desStart key b) 16).l := by
    have h1 := pick_put ((desRounds (desStart key a) 16).r ++ (desRounds (desStart key a) 16).l) (by rw [List.length_append, (hga.rounds 16).r, (hga.rounds 16).l])
    have h2 := pick_put ((desRounds (desStart key b) 16).r ++ (desRounds (desStart key b) 16).l) (by rw [List.length_append, (hgb.rounds 16).r, (hgb.rounds 16).l])
    rw [← h1, ← h2]
    exact congrArg (pick · desIp) h
  obtain ⟨h1, h2⟩ := List.append_inj e (by rw [(hga.rounds 16).r, (hgb.rounds 16).r])
  obtain ⟨h3, h4⟩ := desRounds_inj _ _ hga hgb rfl rfl 16 h2 h1
  refine pick_ip_inj a b ha hb ?_
  have h5 : (pick a desIp).take 32 = (pick b desIp).take 32 := h3
  have h6 : (pick a desIp).drop 32 = (pick b desIp).drop 32 := h4
  rw [← List.take_append_drop 32 (pick a desIp), h5, h6, List.take_append_drop]

/-! A key of one bit alone. -/
theorem desTurn_rep (n : Nat) (v : Bool) (k : Nat) (hk : k ≤ n) : desTurn (List.replicate n v) k = List.replicate n v := by
  unfold desTurn
  rw [List.drop_replicate, List.take_replicate, List.replicate_append_replicate]
  congr 1
  omega
theorem desBy_le (n : Nat) : desBy n ≤ 28 := by unfold desBy; split <;> omega
theorem pick_rep (n : Nat) (v : Bool) (ps : List Nat) (h : ∀ p ∈ ps, p - 1 < n) : pick (List.replicate n v) ps = List.replicate ps.length v := by
  unfold pick
  rw [List.eq_replicate_iff]
  refine ⟨by simp, fun b hb => ?_⟩
  obtain ⟨p, hp, rfl⟩ := List.mem_map.1 hb
  rw [List.getD_eq_getElem?_getD, List.getElem?_replicate, if_pos (h p hp)]
  rfl
/-- One round with a fixed round key, over the two halves of the block. -/
def desStep (K : List Bool) (p : List Bool × List Bool) : List Bool × List Bool := (p.2, desXor p.1 (desF p.2 K))
def desSteps (K : List Bool) (p : List Bool × List Bool) : Nat → List Bool × List Bool
  | 0 => p
  | n + 1 => desStep K (desSteps K p n)
theorem desSteps_swap (K : List Bool) : ∀ n p, desSteps K (desStep K p) n = desSteps K p (n + 1)
  | 0, _ => rfl
  | n + 1, p => by
    show desStep K (desSteps K (desStep K p) n) = desStep K (desSteps K p (n + 1))
    rw [desSteps_swap K n p]
def swp (p : List Bool × List Bool) : List Bool × List Bool := (p.2, p.1)
theorem desStep_back (K : List Bool) (p : List Bool × List Bool) (h : p.1.length = 32) : desStep K (swp (desStep K p)) = swp p := by
  unfold desStep swp
  simp only []
  rw [desXor_back _ _ h]
theorem desSteps_good (K : List Bool) (p : List Bool × List Bool) (h1 : p.1.length = 32) (h2 : p.2.length = 32) : ∀ n, (desSteps K p n).1.length = 32 ∧ (desSteps K p n).2.length = 32
  | 0 => ⟨h1, h2⟩
  | n + 1 => ⟨(desSteps_good K p h1 h2 n).2, desXor_length _ _⟩
theorem desSteps_back (K : List Bool) (p : List Bool × List Bool) (h1 : p.1.length = 32) (h2 : p.2.length = 32) : ∀ n, desSteps K (swp (desSteps K p n)) n = swp p
  | 0 => rfl
  | n + 1 => by
    rw [← desSteps_swap]
    show desSteps K (desStep K (swp (desStep K (desSteps K p n)))) n = swp p
    rw [desStep_back K _ (desSteps_good K p h1 h2 n).1, desSteps_back K p h1 h2 n]
theorem desRounds_rep (v : Bool) (l r : List Bool) : ∀ n, desRounds ⟨List.replicate 28 v, List.replicate 28 v, l, r⟩ n = ⟨List.replicate 28 v, List.replicate 28 v, (desSteps (List.replicate 48 v) (l, r) n).1, (desSteps (List.replicate 48 v) (l, r) n).2⟩
  | 0 => rfl
  | n + 1 => by
    show desRound (n + 1) (desRounds _ n) = _
    rw [desRounds_rep v l r n]
    unfold desRound
    simp only []
    rw [desTurn_rep 28 v _ (desBy_le _)]
    have hk : desRoundKey (List.replicate 28 v) (List.replicate 28 v) = List.replicate 48 v := by
      unfold desRoundKey
      rw [List.replicate_append_replicate]
      exact pick_rep 56 v desPc2 pc2_in
    rw [hk]
    rfl
theorem desBits_twice (v : Bool) (a : List Bool) (ha : a.length = 64) : desBits (List.replicate 56 v) (desBits (List.replicate 56 v) a) = a := by
  have hC : ∀ d, pick (List.replicate 56 v) (desHalf d) = List.replicate 28 v := fun d => by
    rw [pick_rep 56 v _ (half_in d)]
    cases d <;> rfl
  have hS : ∀ b : List Bool, desStart (List.replicate 56 v) b = ⟨List.replicate 28 v, List.replicate 28 v, (pick b desIp).take 32, (pick b desIp).drop 32⟩ := fun b => by
    unfold desStart
    rw [hC, hC]
  have hB : ∀ b : List Bool, desBits (List.replicate 56 v) b = desPut ((desSteps (List.replicate 48 v) ((pick b desIp).take 32, (pick b desIp).drop 32) 16).2 ++ (desSteps (List.replicate 48 v) ((pick b desIp).take 32, (pick b desIp).drop 32) 16).1) 64 := fun b => by
    unfold desBits
    simp only []
    rw [hS, desRounds_rep]
  obtain ⟨p, hp⟩ : ∃ p, p = ((pick a desIp).take 32, (pick a desIp).drop 32) := ⟨_, rfl⟩
  have hpl : (pick a desIp).length = 64 := by rw [pick_length, ip_length]
  have h1 : p.1.length = 32 := by rw [hp]; simp [hpl]
  have h2 : p.2.length = 32 := by rw [hp]; simp [hpl]
  have hg := desSteps_good (List.replicate 48 v) p h1 h2 16
  rw [hB (desBits _ a), hB a, ← hp, pick_put _ (by rw [List.length_append, hg.1, hg.2])]
  rw [List.take_left' hg.2, List.drop_left' hg.2]
  have hb := desSteps_back (List.replicate 48 v) p h1 h2 16
  have e : ((desSteps (List.replicate 48 v) p 16).2, (desSteps (List.replicate 48 v) p 16).1) = swp (desSteps (List.replicate 48 v) p 16) := rfl
  rw [e, hb]
  show desPut (p.1 ++ p.2) 64 = a
  rw [hp, List.take_append_drop, put_pick a ha]

/-! Over bytes. -/
theorem bits_inj (a b : List UInt8) (h : bitsOfBytes true a = bitsOfBytes true b) : a = b := by
  have hl : a.length = b.length := by
    have := congrArg List.length h
    rw [bitsOfBytes_length, bitsOfBytes_length] at this
    omega
  refine bytes_ext (high := true) hl fun i _ => ?_
  rw [← bitsOfBytes_getD, ← bitsOfBytes_getD, h]
theorem bits_not (a : List UInt8) : bitsOfBytes true (a.map (~~~·)) = notL (bitsOfBytes true a) := by
  unfold bitsOfBytes notL
  rw [List.map_map, List.length_map]
  apply List.map_congr_left
  intro i hi
  rw [List.mem_range] at hi
  show bit true (a.map (~~~·)) i = !bit true a i
  unfold bit
  have hq : i / 8 < a.length := by omega
  rw [List.getD_eq_getElem?_getD, List.getD_eq_getElem?_getD, List.getElem?_map, List.getElem?_eq_getElem hq]
  show (~~~a[i / 8]).toNat.testBit _ = !(a[i / 8]).toNat.testBit _
  have hp := place_lt true 8 (i % 8) (by omega)
  generalize place true 8 (i % 8) = j at *
  generalize a[i / 8] = x at *
  rw [UInt8.toNat_not]
  have hx := x.toNat_lt
  have e : UInt8.size - 1 - x.toNat = 2 ^ 8 - (x.toNat + 1) := by show 255 - x.toNat = _; omega
  rw [e, Nat.testBit_two_pow_sub_succ hx]
  simp [hp]
theorem desBits_length (key block : List Bool) : (desBits key block).length = 64 := desPut_length _ _
theorem des_bits (key block : List UInt8) : bitsOfBytes true (des key block) = desBits (bitsOfBytes true key) (bitsOfBytes true block) := ofBits_back _ (by rw [desBits_length])
theorem des_length (key block : List UInt8) : (des key block).length = 8 := by unfold des; rw [ofBits_length, desBits_length]
theorem des_not (key block : List UInt8) (hk : key.length = 7) (hb : block.length = 8) : des (key.map (~~~·)) (block.map (~~~·)) = (des key block).map (~~~·) := by
  apply bits_inj
  rw [des_bits, bits_not, bits_not, bits_not, des_bits]
  exact desBits_not _ _ (by rw [bitsOfBytes_length, hk]) (by rw [bitsOfBytes_length, hb])
theorem des_inj (key a b : List UInt8) (ha : a.length = 8) (hb : b.length = 8) (h : des key a = des key b) : a = b := by
  apply bits_inj
  refine desBits_inj (bitsOfBytes true key) _ _ (by rw [bitsOfBytes_length, ha]) (by rw [bitsOfBytes_length, hb]) ?_
  rw [← des_bits, ← des_bits, h]
theorem des_twice (k : UInt8) (hk : k = 0 ∨ k = 255) (a : List UInt8) (ha : a.length = 8) : des (List.replicate 7 k) (des (List.replicate 7 k) a) = a := by
  apply bits_inj
  rw [des_bits, des_bits]
  obtain ⟨v, hv⟩ : ∃ v, bitsOfBytes true (List.replicate 7 k) = List.replicate 56 v := by
    rcases hk with rfl | rfl
    · exact ⟨false, by decide⟩
    · exact ⟨true, by decide⟩
  rw [hv]
  exact desBits_twice v _ (by rw [bitsOfBytes_length, ha])
end Pure
end Go.Proofs.Ytmelphlgpnmopaa
