-- shaken
import Derived.Test.YtdaainifkldcpaaGreatDoorLabRight
import Derived.Test.YtdaainifkldcpaaGreatDoorScanQuo
import Derived.Test.YtdaainifkldcpaaGreatDoorBase
import Derived.Test.YtdaainifkldcpaaGreatDoorLabOf
import Derived.Laws.ResultCell
namespace Go.Proofs.YtdaainifkldcpaaGreatDoor
set_option linter.unusedVariables false
set_option linter.unusedSimpArgs false

open Go.RowKit Go.Sort
theorem OwnP.kept {w w' : World} {b : Nat} {v : Value} {l : List PairB} (h : OwnP w (b + 1) v l) (hg : w.grownBy w' (some b)) : OwnP w' (b + 1) v l := by
  refine ⟨h.1, ?_⟩
  rcases h.2 with h0 | ⟨g, cap, cur, hv, hbg, hh, r⟩
  · exact .inl h0
  · exact .inr ⟨g, cap, cur, hv, hbg, (hg.block g (lt_of_block hh) (fun e => by injection e with e; omega)).trans hh, r⟩
theorem OwnP.drewN {w : World} {B : Nat} {v : Value} {l : List PairB} (h : OwnP w B v l) (q : Nat) : OwnP (w.drewN q) B v l := h
end Go.Proofs.YtdaainifkldcpaaGreatDoor
