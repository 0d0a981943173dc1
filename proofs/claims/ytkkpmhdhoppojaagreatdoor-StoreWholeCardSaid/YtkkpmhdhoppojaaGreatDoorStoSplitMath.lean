-- shaken
import Derived.Test.YtkkpmhdhoppojaaGreatDoorStoPure
namespace Go.Proofs.YtkkpmhdhoppojaaGreatDoor
open Go.RowKit
set_option linter.unusedVariables false
set_option linter.unusedSimpArgs false
def inT (lo hi : Int) (e : EntB) : Bool := decide (lo ≤ e.ts) && decide (e.ts < hi)
theorem meets_in (lo hi : Int) (asc : Bool) (lim : Int) (af : EntB) (e : EntB) : (meetsB ⟨lo, hi, asc, lim, false, af⟩ e && (fun _ : List PairB => true) e.ls) = inT lo hi e := by
  unfold meetsB inT
  simp
theorem met_in (lo hi : Int) (asc : Bool) (lim : Int) (af : EntB) (L : List EntB) : metL (fun _ => true) ⟨lo, hi, asc, lim, false, af⟩ L = (dirL asc L).filter (inT lo hi) := by
  unfold metL
  congr 1
  funext e
  exact meets_in lo hi asc lim af e
end Go.Proofs.YtkkpmhdhoppojaaGreatDoor
