/- The tied card of undercroftlaw.ConsoleSays: what the console answers to any lines is what the document says, for every number of frames and every list of lines; the listed tables of Go's own library are tied to the program's text of the pruned copy (utf8.first: to the form's constant). -/
import Derived.Test.YtadpibcgjgcjhabGreatDoorPart28
import Derived.Test.YtadpibcgjgcjhabGreatDoorTie
import Derived.Test.YtadpibcgjgcjhabGreatDoorCards
import Derived.SevenTiedAt
namespace Go.Proofs.YtadpibcgjgcjhabGreatDoor
open Go
set_option maxRecDepth 100000

theorem consoleSays_holds : Rows.ConsoleSaysCardSaid :=
  Claim7.holds_tied_plain_at .later [] [.data, .data, .data, .data, .pinned] true (true, "4d43bb67d698b647b4dc7b792ceec560793ae3d74bdef655e60b19b24d48f47a") true
    TCon.over (fun _ h => by cases h) (by kernel_rfl) (fun _ h => by cases h) consoleSays_row_tie rfl ⟨rfl, rfl⟩ (by kernel_rfl) rfl
    (fun f fn hf hfn => by
      obtain rfl : f = 3 := Option.some.inj ((show Tryz.prog.funcNamed Rows.consoleSaysRow.func = some 3 by kernel_rfl).symm.trans hf) |>.symm
      obtain rfl : fn = Tryz.f3 := (Option.some.inj (Tryz.func3.symm.trans hfn)).symm
      exact ⟨by kernel_rfl, fun j t ht => by
        rw [Tryz.params3] at ht
        have hm : t ∈ [3, 22] := by simpa using Array.mem_of_getElem? ht
        have hall : ([3, 22].all fun u => !Tryz.prog.wantsStandIn u) = true := by kernel_rfl
        exact (show Tryz.prog.wantsStandIn t = false by simpa using List.all_eq_true.1 hall t hm)⟩)
    (by kernel_rfl)
#print axioms consoleSays_holds
end Go.Proofs.YtadpibcgjgcjhabGreatDoor
