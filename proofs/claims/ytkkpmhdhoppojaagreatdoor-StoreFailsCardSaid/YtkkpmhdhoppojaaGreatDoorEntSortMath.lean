-- shaken
import Derived.Test.YtkkpmhdhoppojaaGreatDoorEntRow
namespace Go.Proofs.YtkkpmhdhoppojaaGreatDoor
open Go.RowKit
set_option linter.unusedVariables false
set_option linter.unusedSimpArgs false
def leB (a b : EntB) : Prop := entC a b ≤ 0
theorem leB_both {a b : EntB} (h1 : leB a b) (h2 : leB b a) : a = b := by
  have := entC_ord.anti a b
  unfold leB at h1 h2
  exact entC_zero.1 (by omega)
def SortedP (l : List EntX) : Prop := l.Pairwise fun x y => leB x.b y.b
end Go.Proofs.YtkkpmhdhoppojaaGreatDoor
