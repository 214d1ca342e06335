/- What a line does to a host, and what is answered. -/
import Derived.Test.YtadpibcgjgcjhabGreatDoorCnA
import Derived.Test.YtadpibcgjgcjhabGreatDoorHaB
import Derived.Test.YtadpibcgjgcjhabGreatDoorHpM
namespace Go.Proofs.YtadpibcgjgcjhabGreatDoor
open Go.Lib
set_option maxRecDepth 100000

def pageT (h : Hs) (n p : Int) : List UInt8 :=
  if 0 < (hState h n p).2 then errT (hState h n p).2 else
  if (hLeaf h n p).1.there = true then numT (hState h n p).1 ++ (if (hLeaf h n p).1.wr = true then [32, 111, 119, 110, 32] else [32, 115, 101, 97, 108, 101, 100, 32]) ++ numT (h.s.of (hLeaf h n p).1.fr).2.1
  else numT (hState h n p).1 ++ [32, 110, 111, 119, 104, 101, 114, 101]
/-- What is told, and what it leads to. -/
def ansL (h : Hs) (c : List UInt8) (a b v : Int) : List UInt8 × Hs :=
  if c = kAdd then (valT (hAdd h).1.1 (hAdd h).1.2, (hAdd h).2) else
  if c = kScanall then (numT (hScanTo h 64).1, (hScanTo h 64).2) else
  if c = kLeft then (numT h.s.left, h) else
  if c = kPromised then (numT (pln (rowS h) 64 : Nat), h) else
  if c = kGuests then (guestsT (hNums h 4), h) else
  if c = kRemove then (doneT (hRemove h a).1, (hRemove h a).2) else
  if c = kFrame then (frameT (h.s.of a), h) else
  if c = kPlug then (doneT (hPlug h a b).1, (hPlug h a b).2) else
  if c = kUnplug then (doneT (hUnplug h a b).1, (hUnplug h a b).2) else
  if c = kGive then (doneT (hGive h a b false).1, (hGive h a b false).2) else
  if c = kBack then (doneT (hGive h a b true).1, (hGive h a b true).2) else
  if c = kLoad then (valT (hLoad h a b).1.1 (hLoad h a b).1.2, (hLoad h a b).2) else
  if c = kRoot then (doneT (hRoot h a b).1, (hRoot h a b).2) else
  if c = kForget then (doneT (hForget h a b).1, (hForget h a b).2) else
  if c = kDrop then (doneT (hDrop h a b).1, (hDrop h a b).2) else
  if c = kScan then (boolT (hScan h a b).1.1 (hScan h a b).1.2, (hScan h a b).2) else
  if c = kPage then (pageT h a b, h) else
  if c = kStore then (if v < 0 ∨ 255 < v then (errT 1, h) else (doneT (hStore h a b v).1, (hStore h a b v).2)) else
  (errT 9, h)
def sayL (h : Hs) (l : List UInt8) : List UInt8 × Hs :=
  match readL l with
  | some (c, ns) => ansL h c (ns.getD 0 0) (ns.getD 1 0) (ns.getD 2 0)
  | none => (errT 9, h)
/-- Line by line. -/
def runL (h : Hs) : List (List UInt8) → List (List UInt8) × Hs
  | [] => ([], h)
  | l :: r => ((sayL h l).1 :: (runL (sayL h l).2 r).1, (runL (sayL h l).2 r).2)
theorem hello_run : (runL (hs0 8) [[97, 100, 100], [112, 108, 117, 103, 32, 48, 32, 48], [115, 116, 111, 114, 101, 32, 48, 32, 53, 32, 57], [108, 111, 97, 100, 32, 48, 32, 53], [112, 97, 103, 101, 32, 48, 32, 48], [102, 108, 121]]).1 = [[48], [111, 107], [111, 107], [57], [49, 32, 111, 119, 110, 32, 49], [101, 114, 114, 111, 114, 32, 57]] := by kernel_rfl
end Go.Proofs.YtadpibcgjgcjhabGreatDoor
