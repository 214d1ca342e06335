/-
  No cell of these rows narrows 'for every input' (looked for: loops, veiled, ifaces, maps, wideKeys, modest, calm, conditions, laid).
  DERIVED. THE GIVEN ROWS OF THIS SEAT. 4 by the template 'for every input the law returns true; each argument reads behind the call as it read before'; 0 by the template 'total and deterministic' (their statements: YtadpibcgjgcjhaaGreatTotals.lean).
  GIVEN WITH THE SEED: the statements are not yours to turn. If you find one false, say at which input.
  Laid BY PROGRAM, IN A SANDBOX (cutbox-rows.mjs): the forced cells as the released guide's own fill.sh prints them over the translation dfd6777f3f6ca0c1… (all of the seat's roots in one cut). By AI agents, Wed Nov 11 2026. No macro, syntax, notation, axiom, sorry.
-/
import Derived.Test.YtadpibcgjgcjhaaGreatChecked
import GoSem.Claim
import GoSem.ClaimJoined
import GoSem.ClaimMapViews
import Derived.JoinedTies
import Derived.KernelRfl
namespace Go.Proofs.YtadpibcgjgcjhaaGreat
/- THE CELL 'sum', in the pinned program and in every row, IS THE sha256 OF THE DUMP (.gsa) THAT YtadpibcgjgcjhaaGreatProg.lean LOADS. Nothing in Lean hashes anything: it is a label: what it is worth is what the hold of that sum in a sandbox is worth. -/
noncomputable def Tryz.pinned : Pinned := { name := "ytadpibcgjgcjhaagreat", sum := "dfd6777f3f6ca0c101fd5a0d80d251b461e344af1897ece14e91f42152f9742d", checked := Tryz.checked }
namespace Rows
def none {H : Type} : Left H := { results := [], args := [] }

/-- 'undercroftlaw.GuestSays': WHATEVER THE INPUT: true; the input reads as it did. -/
def guestSaysSpec : ChangeSpec := { name := "guestSays", fn := fun _ => fun
  | [d1, d2] => { results := [.lit (.bool true)], args := [d1, d2] }
  | _ => none }
def guestSaysRow : OpenClaim := { program := "ytadpibcgjgcjhaagreat", sum := "dfd6777f3f6ca0c101fd5a0d80d251b461e344af1897ece14e91f42152f9742d", func := "undercroft/undercroftlaw.GuestSays", spec := "guestSays", unfollowed := true, recurses := true, apart := false }
def GuestSaysSaid : Prop := guestSaysRow.holds Tryz.pinned (OpenSpec.ofChange guestSaysSpec)

/-- ITS FALSE NEIGHBOUR: 'it returns false'. Refute it at one input. -/
def guestSaysWrong : ChangeSpec := { name := "guestSays", fn := fun _ => fun
  | [d1, d2] => { results := [.lit (.bool false)], args := [d1, d2] }
  | _ => none }
def GuestSaysWrongFalsely : Prop := guestSaysRow.holds Tryz.pinned (OpenSpec.ofChange guestSaysWrong)

/-- 'undercroftlaw.HostSays': WHATEVER THE INPUT: true; the input reads as it did. -/
def hostSaysSpec : ChangeSpec := { name := "hostSays", fn := fun _ => fun
  | [d1, d2] => { results := [.lit (.bool true)], args := [d1, d2] }
  | _ => none }
def hostSaysRow : OpenClaim := { program := "ytadpibcgjgcjhaagreat", sum := "dfd6777f3f6ca0c101fd5a0d80d251b461e344af1897ece14e91f42152f9742d", func := "undercroft/undercroftlaw.HostSays", spec := "hostSays", unfollowed := true, recurses := true, apart := false }
def HostSaysSaid : Prop := hostSaysRow.holds Tryz.pinned (OpenSpec.ofChange hostSaysSpec)

/-- ITS FALSE NEIGHBOUR: 'it returns false'. Refute it at one input. -/
def hostSaysWrong : ChangeSpec := { name := "hostSays", fn := fun _ => fun
  | [d1, d2] => { results := [.lit (.bool false)], args := [d1, d2] }
  | _ => none }
def HostSaysWrongFalsely : Prop := hostSaysRow.holds Tryz.pinned (OpenSpec.ofChange hostSaysWrong)

/-- 'undercrofttop.TopFlat': WHATEVER THE INPUT: true; the input reads as it did. -/
def topFlatSpec : ChangeSpec := { name := "topFlat", fn := fun _ => fun
  | [d1, d2] => { results := [.lit (.bool true)], args := [d1, d2] }
  | _ => none }
def topFlatRow : OpenClaim := { program := "ytadpibcgjgcjhaagreat", sum := "dfd6777f3f6ca0c101fd5a0d80d251b461e344af1897ece14e91f42152f9742d", func := "undercroft/undercrofttop.TopFlat", spec := "topFlat", unfollowed := true, recurses := true, apart := false }
def TopFlatSaid : Prop := topFlatRow.holds Tryz.pinned (OpenSpec.ofChange topFlatSpec)

/-- ITS FALSE NEIGHBOUR: 'it returns false'. Refute it at one input. -/
def topFlatWrong : ChangeSpec := { name := "topFlat", fn := fun _ => fun
  | [d1, d2] => { results := [.lit (.bool false)], args := [d1, d2] }
  | _ => none }
def TopFlatWrongFalsely : Prop := topFlatRow.holds Tryz.pinned (OpenSpec.ofChange topFlatWrong)

/-- 'undercrofttop.TopFrames': WHATEVER THE INPUT: true; the input reads as it did. -/
def topFramesSpec : ChangeSpec := { name := "topFrames", fn := fun _ => fun
  | [d1, d2] => { results := [.lit (.bool true)], args := [d1, d2] }
  | _ => none }
def topFramesRow : OpenClaim := { program := "ytadpibcgjgcjhaagreat", sum := "dfd6777f3f6ca0c101fd5a0d80d251b461e344af1897ece14e91f42152f9742d", func := "undercroft/undercrofttop.TopFrames", spec := "topFrames", unfollowed := true, recurses := true, apart := false }
def TopFramesSaid : Prop := topFramesRow.holds Tryz.pinned (OpenSpec.ofChange topFramesSpec)

/-- ITS FALSE NEIGHBOUR: 'it returns false'. Refute it at one input. -/
def topFramesWrong : ChangeSpec := { name := "topFrames", fn := fun _ => fun
  | [d1, d2] => { results := [.lit (.bool false)], args := [d1, d2] }
  | _ => none }
def TopFramesWrongFalsely : Prop := topFramesRow.holds Tryz.pinned (OpenSpec.ofChange topFramesWrong)

/- THE SECOND FORM. 'bulk': how many values and letters a reading holds, each counted each time it is reached (what is shared counts as often as it is met; a slice's spare places count too). A statement '..UptoSaid' is the law's where the arguments, and the package variables that the reading takes, are together of bulk at most 1048576: NARROWER than '..Said'. Prove '..Said' where nothing that the law and all that it calls make is longer than what came in: it says more and counts as full. Else prove '..UptoSaid'. A law counts once. -/
mutual
def uptoBulk {H : Type} : DataW H → Nat
  | .lit (.string bytes) => bytes.length + 1
  | .lit _ => 1
  | .nil => 1
  | .ptr d => uptoBulk d + 1
  | .slice elems spare => uptoBulkAll elems + uptoBulkAll spare + 1
  | .agg parts => uptoBulkAll parts + 1
  | .iface _ d => uptoBulk d + 1
  | .map entries => uptoBulkEntries entries + 1
  | .held _ => 1
def uptoBulkAll {H : Type} : List (DataW H) → Nat
  | [] => 0
  | d :: r => uptoBulk d + uptoBulkAll r
def uptoBulkEntries {H : Type} : List (Lit × DataW H) → Nat
  | [] => 0
  | x :: r => uptoBulkEntry x + uptoBulkEntries r
def uptoBulkEntry {H : Type} : Lit × DataW H → Nat
  | (.string bytes, d) => bytes.length + uptoBulk d + 1
  | (_, d) => uptoBulk d + 1
 end
def uptoSmall : (H : Type) → List (DataW H) → Bool := fun _ ds => decide (uptoBulkAll ds ≤ 1048576)
def OpenSpec.upto (s : _root_.Go.ChangeSpec) : _root_.Go.OpenSpec := { _root_.Go.OpenSpec.ofChange s with cond := some uptoSmall }

/-- 'undercroftlaw.GuestSays', WHERE WHAT IT READS IS OF BULK AT MOST 1048576: true; the input reads as it did. -/
def guestSaysUptoRow : OpenClaim := { program := "ytadpibcgjgcjhaagreat", sum := "dfd6777f3f6ca0c101fd5a0d80d251b461e344af1897ece14e91f42152f9742d", func := "undercroft/undercroftlaw.GuestSays", spec := "guestSays", unfollowed := true, recurses := true, apart := false, narrowed := true }
def GuestSaysUptoSaid : Prop := guestSaysUptoRow.holds Tryz.pinned (OpenSpec.upto guestSaysSpec)

/-- 'undercroftlaw.HostSays', WHERE WHAT IT READS IS OF BULK AT MOST 1048576: true; the input reads as it did. -/
def hostSaysUptoRow : OpenClaim := { program := "ytadpibcgjgcjhaagreat", sum := "dfd6777f3f6ca0c101fd5a0d80d251b461e344af1897ece14e91f42152f9742d", func := "undercroft/undercroftlaw.HostSays", spec := "hostSays", unfollowed := true, recurses := true, apart := false, narrowed := true }
def HostSaysUptoSaid : Prop := hostSaysUptoRow.holds Tryz.pinned (OpenSpec.upto hostSaysSpec)

/-- 'undercrofttop.TopFlat', WHERE WHAT IT READS IS OF BULK AT MOST 1048576: true; the input reads as it did. -/
def topFlatUptoRow : OpenClaim := { program := "ytadpibcgjgcjhaagreat", sum := "dfd6777f3f6ca0c101fd5a0d80d251b461e344af1897ece14e91f42152f9742d", func := "undercroft/undercrofttop.TopFlat", spec := "topFlat", unfollowed := true, recurses := true, apart := false, narrowed := true }
def TopFlatUptoSaid : Prop := topFlatUptoRow.holds Tryz.pinned (OpenSpec.upto topFlatSpec)

/-- 'undercrofttop.TopFrames', WHERE WHAT IT READS IS OF BULK AT MOST 1048576: true; the input reads as it did. -/
def topFramesUptoRow : OpenClaim := { program := "ytadpibcgjgcjhaagreat", sum := "dfd6777f3f6ca0c101fd5a0d80d251b461e344af1897ece14e91f42152f9742d", func := "undercroft/undercrofttop.TopFrames", spec := "topFrames", unfollowed := true, recurses := true, apart := false, narrowed := true }
def TopFramesUptoSaid : Prop := topFramesUptoRow.holds Tryz.pinned (OpenSpec.upto topFramesSpec)

end Rows
end Go.Proofs.YtadpibcgjgcjhaaGreat
