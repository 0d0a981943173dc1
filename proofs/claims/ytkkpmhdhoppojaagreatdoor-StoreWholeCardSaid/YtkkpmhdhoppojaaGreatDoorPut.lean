-- shaken
import Derived.Test.YtkkpmhdhoppojaaGreatDoorRows
import Derived.Test.YtkkpmhdhoppojaaGreatDoorMem
import Derived.Deep.RegionLaw
import Derived.Deep.AppendLies
import Derived.Deep.QuietTactic
import Derived.BigQuiet
namespace Go.Proofs.YtkkpmhdhoppojaaGreatDoor
open Go.RowKit
set_option linter.unusedVariables false
set_option linter.unusedSimpArgs false
def rareB (b : UInt8) : Bool := decide ((126 : Int) < (b.toNat : Int)) || (decide ((b.toNat : Int) < 32) && (((b.toNat : Int) != 10) && ((b.toNat : Int) != 9)))
def digB (k : Nat) : UInt8 := if k < 10 then UInt8.ofNat (48 + k) else UInt8.ofNat (87 + k)
def formB (b : UInt8) : List UInt8 :=
  if b = 34 ∨ b = 92 then [92, b] else if b = 10 then [92, 110] else if b = 9 then [92, 116]
  else if rareB b = true then [92, 120, digB (b.toNat / 16), digB (b.toNat % 16)] else [b]
def putB (l : List UInt8) : List UInt8 := 34 :: (l.flatMap formB ++ [34])
end Go.Proofs.YtkkpmhdhoppojaaGreatDoor
