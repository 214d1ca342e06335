/- TopApart, plainly: two hosts whose pages have the same states, and one guest that sees the same. -/
import Derived.Test.YtadpibcgjgcjhabGreatDoorHdF
namespace Go.Proofs.YtadpibcgjgcjhabGreatDoor
open Go.RowKit
variable {F F' : Nat → Option Fl} {g : Int}

/-- What two hosts have in common for a guest g. -/
structure Apn (g : Int) (F F' : Nat → Option Fl) : Prop where
  alk : Alk F F'
  own : 0 ≤ g → ∀ f f', F g.toNat = some f → F' g.toNat = some f' → f = f'
/-- What the law passes by at the second host. -/
def inner (x : Ac) : Bool := (x.kind.toList == [108, 111, 97, 100]) || (x.kind.toList == [115, 116, 111, 114, 101]) || (x.kind.toList == [114, 111, 111, 116]) || (x.kind.toList == [102, 111, 114, 103, 101, 116]) || (x.kind.toList == [100, 114, 111, 112])
def passes (x : Ac) (g : Int) : Bool := (x.kind.toList == [115, 99, 97, 110]) || (x.kind.toList == [115, 99, 97, 110, 97, 108, 108]) || (inner x && (x.n != g))
end Go.Proofs.YtadpibcgjgcjhabGreatDoor
