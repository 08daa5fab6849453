/- A row stored whole. -/
import Derived.Laws.Tables
import Derived.Laws.CopyOwn
import Derived.Test.YtoobacpjlakkkaaBase
namespace Go.Proofs.Ytoobacpjlakkkaa
open Go.RowKit
theorem Keeps.rowSet {S : Nat → Prop} {a w : World} {g : Nat} (h : Keeps S a w) (hp : g < a.heap.size → S g) (cs : Array Value) : Keeps S a (w.setRow g cs) :=
  ⟨h.os, h.tape, h.output, by simpa using h.size, fun k hk hs => (setRow_other w g k cs (fun e => hs (e ▸ hp (e ▸ hk)))).trans (h.block k hk hs)⟩
theorem Blk.rowSet {w : World} {g : Nat} {t : TypeId} {old : Array Value} (h : Blk w g t old) (cs : Array Value) : Blk (w.setRow g cs) g t cs := setRow_heap w g old cs t (0, 0) h
theorem all_ints (l : List Nat) : (l.map fun (b : Nat) => Value.int .i64 (b : Int)).toArray.all (·.oneCell') = true := by simp [Value.oneCell']
theorem all_words (l : List UInt32) : (l.map fun (b : UInt32) => Value.int .u32 b.toNat).toArray.all (·.oneCell') = true := by simp [Value.oneCell']
end Go.Proofs.Ytoobacpjlakkkaa
