/- What chapter 11 says of packets and options. Nothing of the program. -/
import Derived.WalkKit
namespace Go.Proofs.YtaalbjbocbagcaaDoor
namespace Pure
/-- A control packet. -/
structure Pkt where
  code : Int
  id : Int
  data : List UInt8
/-- What a packet may not be. -/
def Pkt.odd (p : Pkt) : Prop := p.code < 0 ∨ 255 < p.code ∨ p.id < 0 ∨ 255 < p.id
instance (p : Pkt) : Decidable p.odd := by unfold Pkt.odd; infer_instance
def Pkt.bytes (p : Pkt) : List UInt8 :=
  [UInt8.ofNat p.code.toNat, UInt8.ofNat p.id.toNat, UInt8.ofNat ((p.data.length + 4) / 256), UInt8.ofNat ((p.data.length + 4) % 256)] ++ p.data
/-- What is wrong with a packet, or nothing, and its bytes. -/
def encode (p : Pkt) : Nat × List UInt8 := if p.odd then (1, []) else if 1496 < p.data.length then (3, []) else (0, p.bytes)
theorem encode_odd {p : Pkt} (h : p.odd) : encode p = (1, []) := if_pos h
theorem encode_long {p : Pkt} (h : ¬ p.odd) (hl : 1496 < p.data.length) : encode p = (3, []) := by unfold encode; rw [if_neg h, if_pos hl]
theorem encode_ok {p : Pkt} (h : ¬ p.odd) (hl : ¬ 1496 < p.data.length) : encode p = (0, p.bytes) := by unfold encode; rw [if_neg h, if_neg hl]
def noPkt : Pkt := ⟨0, 0, []⟩
/-- The length that a packet states. -/
def stated (b : List UInt8) : Nat := (b.getD 2 0).toNat * 256 + (b.getD 3 0).toNat
def decode (b : List UInt8) : Nat × Pkt :=
  if b.length < 4 then (2, noPkt) else if stated b < 4 then (4, noPkt) else if b.length < stated b then (2, noPkt) else if 1500 < stated b then (3, noPkt)
  else (0, ⟨(b.getD 0 0).toNat, (b.getD 1 0).toNat, (b.drop 4).take (stated b - 4)⟩)
theorem decode_short {b : List UInt8} (h : b.length < 4) : decode b = (2, noPkt) := if_pos h
theorem decode_form {b : List UInt8} (h : ¬ b.length < 4) (h2 : stated b < 4) : decode b = (4, noPkt) := by unfold decode; rw [if_neg h, if_pos h2]
theorem decode_cut {b : List UInt8} (h : ¬ b.length < 4) (h2 : ¬ stated b < 4) (h3 : b.length < stated b) : decode b = (2, noPkt) := by unfold decode; rw [if_neg h, if_neg h2, if_pos h3]
theorem decode_long {b : List UInt8} (h : ¬ b.length < 4) (h2 : ¬ stated b < 4) (h3 : ¬ b.length < stated b) (h4 : 1500 < stated b) : decode b = (3, noPkt) := by unfold decode; rw [if_neg h, if_neg h2, if_neg h3, if_pos h4]
theorem decode_ok {b : List UInt8} (h : ¬ b.length < 4) (h2 : ¬ stated b < 4) (h3 : ¬ b.length < stated b) (h4 : ¬ 1500 < stated b) : decode b = (0, ⟨(b.getD 0 0).toNat, (b.getD 1 0).toNat, (b.drop 4).take (stated b - 4)⟩) := by unfold decode; rw [if_neg h, if_neg h2, if_neg h3, if_neg h4]
/-- An option: its type, its bytes. -/
abbrev Opt := Int × List UInt8
def Opt.odd (o : Opt) : Prop := o.1 < 0 ∨ 255 < o.1 ∨ 253 < o.2.length
instance (o : Opt) : Decidable (Opt.odd o) := by unfold Opt.odd; infer_instance
def Opt.bytes (o : Opt) : List UInt8 := [UInt8.ofNat o.1.toNat, UInt8.ofNat (o.2.length + 2)] ++ o.2
def joined (l : List Opt) : List UInt8 := l.flatMap Opt.bytes
def options (l : List Opt) : Nat × List UInt8 := if 32 < l.length then (3, []) else if ∃ o ∈ l, Opt.odd o then (1, []) else (0, joined l)
theorem options_long {l : List Opt} (h : 32 < l.length) : options l = (3, []) := if_pos h
theorem options_odd {l : List Opt} (h : ¬ 32 < l.length) (o : Opt) (ho : o ∈ l) (hodd : Opt.odd o) : options l = (1, []) := by unfold options; rw [if_neg h, if_pos ⟨o, ho, hodd⟩]
theorem options_ok {l : List Opt} (h : ¬ 32 < l.length) (ho : ∀ o ∈ l, ¬ Opt.odd o) : options l = (0, joined l) := by
  unfold options
  rw [if_neg h, if_neg (fun ⟨o, h1, h2⟩ => ho o h1 h2)]
/-- Options read, behind those that were read. -/
def splitGo : Nat → List UInt8 → List Opt → Nat × List Opt
  | 0, _, acc => (0, acc)
  | f + 1, b, acc =>
    if b = [] then (0, acc)
    else if acc.length = 32 then (3, [])
    else if b.length < 2 ∨ (b.getD 1 0).toNat < 2 ∨ b.length < (b.getD 1 0).toNat then (4, [])
    else splitGo f (b.drop (b.getD 1 0).toNat) (acc ++ [(((b.getD 0 0).toNat : Int), (b.drop 2).take ((b.getD 1 0).toNat - 2))])
theorem splitGo_fuel : ∀ (f g : Nat) (b : List UInt8) (acc : List Opt), b.length ≤ f → b.length ≤ g → splitGo f b acc = splitGo g b acc
  | 0, 0, _, _, _, _ => rfl
  | 0, g + 1, b, acc, hf, _ => by
    have : b = [] := List.eq_nil_of_length_eq_zero (by omega)
    subst this; simp [splitGo]
  | f + 1, 0, b, acc, _, hg => by
    have : b = [] := List.eq_nil_of_length_eq_zero (by omega)
    subst this; simp [splitGo]
  | f + 1, g + 1, b, acc, hf, hg => by
    unfold splitGo
    split
    · rfl
    · split
      · rfl
      · split
        · rfl
        · rename_i h
          exact splitGo_fuel f g _ _ (by rw [List.length_drop]; omega) (by rw [List.length_drop]; omega)
def splitFrom (b : List UInt8) (acc : List Opt) : Nat × List Opt := splitGo b.length b acc
theorem splitFrom_nil (acc : List Opt) : splitFrom [] acc = (0, acc) := rfl
theorem splitFrom_cons {b : List UInt8} (acc : List Opt) (hb : b ≠ []) : splitFrom b acc =
    if acc.length = 32 then (3, []) else if b.length < 2 ∨ (b.getD 1 0).toNat < 2 ∨ b.length < (b.getD 1 0).toNat then (4, [])
    else splitFrom (b.drop (b.getD 1 0).toNat) (acc ++ [(((b.getD 0 0).toNat : Int), (b.drop 2).take ((b.getD 1 0).toNat - 2))]) := by
  have h0 : 0 < b.length := List.length_pos_iff.2 hb
  obtain ⟨n, hn⟩ : ∃ n, b.length = n + 1 := ⟨b.length - 1, by omega⟩
  conv => lhs; unfold splitFrom; rw [hn]; unfold splitGo
  rw [if_neg hb]
  split
  · rfl
  · split
    · rfl
    · rename_i h
      exact splitGo_fuel _ _ _ _ (by rw [List.length_drop]; omega) (Nat.le_refl _)
def split (b : List UInt8) : Nat × List Opt := splitFrom b []
theorem splitFrom_full {b : List UInt8} {acc : List Opt} (hb : b ≠ []) (h : acc.length = 32) : splitFrom b acc = (3, []) := by rw [splitFrom_cons acc hb, if_pos h]
theorem splitFrom_bad {b : List UInt8} {acc : List Opt} (hb : b ≠ []) (h : acc.length ≠ 32) (h2 : b.length < 2 ∨ (b.getD 1 0).toNat < 2 ∨ b.length < (b.getD 1 0).toNat) : splitFrom b acc = (4, []) := by rw [splitFrom_cons acc hb, if_neg h, if_pos h2]
theorem splitFrom_step {b : List UInt8} {acc : List Opt} (hb : b ≠ []) (h : acc.length ≠ 32) (h2 : ¬ (b.length < 2 ∨ (b.getD 1 0).toNat < 2 ∨ b.length < (b.getD 1 0).toNat)) :
    splitFrom b acc = splitFrom (b.drop (b.getD 1 0).toNat) (acc ++ [(((b.getD 0 0).toNat : Int), (b.drop 2).take ((b.getD 1 0).toNat - 2))]) := by rw [splitFrom_cons acc hb, if_neg h, if_neg h2]
end Pure
end Go.Proofs.YtaalbjbocbagcaaDoor
