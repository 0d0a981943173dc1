-- shaken
import Derived.Test.YtdaainifkldcpaaGreatDoorScan
import Derived.Test.YtdaainifkldcpaaGreatDoorGet
import Derived.Test.YtdaainifkldcpaaGreatDoorBase
import Derived.Laws.ResultCell
namespace Go.Proofs.YtdaainifkldcpaaGreatDoor
open Go.RowKit
set_option linter.unusedVariables false
set_option linter.unusedSimpArgs false
theorem Blk.kept {w w' : World} {g b : Nat} {t : TypeId} {cs : Array Value} (h : Blk w g t cs) (hg : w.grownBy w' (some b)) (hb : g ≠ b) : Blk w' g t cs := (hg.block g h.lt (fun e => hb (by injection e))).trans h
theorem Rd.far {w : World} {b : Nat} {ty : TypeId} {cs : Array Value} {t : ByteArray} {k : Nat} (h : Rd w b ty cs t k) {p : Addr} (hp : b ≠ p.block) (v : Value) : Rd (w.setCell p v) b ty cs t k := ⟨h.blk.far hp v, h.c0, h.c1, h.le, h.sz⟩
end Go.Proofs.YtdaainifkldcpaaGreatDoor
