/- The laws of stage 11 as the frames want them. -/
import Derived.Test.YtaalbjbocbagcaaDoorLaw11B
import Derived.Test.YtaalbjbocbagcaaDoorLaw11C
import Derived.Test.YtaalbjbocbagcaaDoorLaw11D
import Derived.Test.YtaalbjbocbagcaaDoorLaw11G
import Derived.Test.YtaalbjbocbagcaaDoorDoor
import Derived.Test.YtaalbjbocbagcaaDoorFields
namespace Go.Proofs.YtaalbjbocbagcaaDoor
open Go.RowKit
theorem packetCodes_walk (c0 i0 : Int) (a0 : Option Addr) (len0 cap0 : Nat) (z0 : List Int) (a1 : Option Addr) (len1 cap1 : Nat) (z1 : List Int) (w : World) (hg : Handle w) (w0 : IsRow .u8 w a0 len0 cap0 z0) (w1 : IsRow .u8 w a1 len1 cap1 z1) :
    Calls Tryd.prog 4 #[.agg #[.int .i64 c0, .int .i64 i0, .slice a0 len0 cap0], .slice a1 len1 cap1] w fun e w' => e = .returned (.bool true) ∧ Below w.heap.size w w' := by
  obtain ⟨bs, hbl, hr⟩ := w0.bytes
  obtain ⟨cs, hcl, hr1⟩ := w1.bytes
  rw [← hbl] at hr
  rw [← hcl] at hr1
  exact packetCodes_walk' encodeOk decodeOk (.slice a0 len0 cap0) (.slice a1 len1 cap1) ⟨c0, i0, bs⟩ cs w hg (by rw [← hbl]; exact hr) (by rw [← hcl]; exact hr1)
theorem packetOptions_walk (a0 : Option Addr) (len0 cap0 : Nat) (a1 : Option Addr) (len1 cap1 : Nat) (a2 : Option Addr) (len2 cap2 : Nat) (z2 : List Int) (w : World) (hg : Handle w) (w0 : IsStructs w [.int .i64, .row .u8] a0 len0 cap0) (w1 : IsStructs w [.int .i64, .row .u8] a1 len1 cap1) (w2 : IsRow .u8 w a2 len2 cap2 z2) :
    Calls Tryd.prog 5 #[.slice a0 len0 cap0, .slice a1 len1 cap1, .slice a2 len2 cap2] w fun e w' => e = .returned (.bool true) ∧ Below w.heap.size w w' := by
  obtain ⟨ps, _, hp, _⟩ := opts_of w0
  obtain ⟨qs, _, hq, _⟩ := opts_of w1
  obtain ⟨bs, hbl, hr⟩ := w2.bytes
  exact packetOptions_walk' encodeOk decodeOk optionsOk splitOk sameOk _ _ (.slice a2 len2 cap2) ps qs bs w hg hp hq (by rw [← hbl] at hr; rw [← hbl]; exact hr)
theorem packetJoins_walk (a0 : Option Addr) (len0 cap0 : Nat) (a1 : Option Addr) (len1 cap1 : Nat) (w : World) (hg : Handle w) (w0 : IsStructs w [.int .i64, .row .u8] a0 len0 cap0) (w1 : IsStructs w [.int .i64, .row .u8] a1 len1 cap1) :
    Calls Tryd.prog 8 #[.slice a0 len0 cap0, .slice a1 len1 cap1] w fun e w' => e = .returned (.bool true) ∧ Below w.heap.size w w' := by
  obtain ⟨ps, _, hp, _⟩ := opts_of w0
  obtain ⟨qs, _, hq, _⟩ := opts_of w1
  exact packetJoins_walk' encodeOk decodeOk optionsOk splitOk sameOk _ _ ps qs w hg hp hq
theorem packetBack_walk (c0 i0 : Int) (a0 : Option Addr) (len0 cap0 : Nat) (z0 : List Int) (a1 : Option Addr) (len1 cap1 : Nat) (a2 : Option Addr) (len2 cap2 : Nat) (z2 : List Int) (w : World) (hg : Handle w) (w0 : IsRow .u8 w a0 len0 cap0 z0) (w1 : IsStructs w [.int .i64, .row .u8] a1 len1 cap1) (w2 : IsRow .u8 w a2 len2 cap2 z2) :
    Calls Tryd.prog 6 #[.agg #[.int .i64 c0, .int .i64 i0, .slice a0 len0 cap0], .slice a1 len1 cap1, .slice a2 len2 cap2] w fun e w' => e = .returned (.bool true) ∧ Below w.heap.size w w' := by
  obtain ⟨bs, hbl, hr⟩ := w0.bytes
  obtain ⟨ps, _, hp, _⟩ := opts_of w1
  obtain ⟨cs, hcl, hr1⟩ := w2.bytes
  rw [← hbl] at hr
  rw [← hcl] at hr1
  exact packetBack_walk' (.slice a0 len0 cap0) _ (.slice a2 len2 cap2) ⟨c0, i0, bs⟩ ps cs w hg (by rw [← hbl]; exact hr) hp (by rw [← hcl]; exact hr1)
theorem packetCuts_walk (c0 i0 : Int) (a0 : Option Addr) (len0 cap0 : Nat) (z0 : List Int) (a1 : Int) (a2 : Int) (w : World) (hg : Handle w) (w0 : IsRow .u8 w a0 len0 cap0 z0) (w1 : (Lit.int .i64 a1).wf = true) (w2 : (Lit.int .u8 a2).wf = true) :
    Calls Tryd.prog 7 #[.agg #[.int .i64 c0, .int .i64 i0, .slice a0 len0 cap0], .int .i64 a1, .int .u8 a2] w fun e w' => e = .returned (.bool true) ∧ Below w.heap.size w w' := by
  obtain ⟨bs, hbl, hr⟩ := w0.bytes
  obtain ⟨h1, h2⟩ := u8_of_wf w2
  obtain ⟨n, rfl⟩ : ∃ n : Nat, a2 = (n : Int) := ⟨a2.toNat, by omega⟩
  rw [← hbl] at hr
  exact packetCuts_walk' (.slice a0 len0 cap0) ⟨c0, i0, bs⟩ a1 n w hg (by omega) (i64_of_wf w1) (by rw [← hbl]; exact hr)
end Go.Proofs.YtaalbjbocbagcaaDoor
