/- The tied card of undercroftlaw.Names: the constants and errors of package api have the numbers and the text that the document names; the three listed tables of Go's own library (which the road's code names and this call never reads) are tied to the program's text of the pruned copy. -/
import Derived.Test.YtadpibcgjgcjhaaDoorProofs
import Derived.Test.YtadpibcgjgcjhaaDoorTie
import Derived.Test.YtadpibcgjgcjhaaDoorCards
import Derived.SevenTiedAt
namespace Go.Proofs.YtadpibcgjgcjhaaDoor
open Go

theorem names_holds : Rows.NamesCardSaid :=
  Claim7.holds_tied_plain_at .later [] [.data, .data, .data] true (true, "e9a4b1725458273d9d09f19734a69b50ff8921a3365decd6f11ad29bd5916b70") true
    over (fun _ h => by cases h) (by kernel_rfl) (fun _ h => by cases h) names_row_tie rfl ⟨rfl, rfl⟩ (by kernel_rfl) rfl
    (fun f fn hf hfn => by
      obtain rfl : f = 3 := Option.some.inj ((show Tryd.prog.funcNamed Rows.namesRow.func = some 3 by kernel_rfl).symm.trans hf) |>.symm
      obtain rfl : fn = Tryd.f3 := (Option.some.inj (Tryd.func3.symm.trans hfn)).symm
      exact ⟨by kernel_rfl, fun j t ht => by
        rw [Tryd.params3] at ht
        simp at ht⟩)
    (by kernel_rfl)
#print axioms names_holds
end Go.Proofs.YtadpibcgjgcjhaaDoor
