import Derived.Test.YtgjemghfejaifaaGreatDoorUJ
import Derived.Test.YtgjemghfejaifaaGreatDoorTie
import Derived.Test.YtgjemghfejaifaaGreatDoorCards
import Derived.SevenTiedAt
namespace Go.Proofs.YtgjemghfejaifaaGreatDoor
open Go
theorem parses_card : Rows.SchemaParsesCardSaid :=
  Claim7.holds_tied_plain_at .later [] _ _ _ _ parses_holds (fun _ h => by cases h) (by kernel_rfl) (fun _ h => by cases h) schemaParses_row_tie rfl ⟨rfl, rfl⟩ (by kernel_rfl) rfl
    (fun f fn hf hfn => by
      obtain rfl : f = 3 := Option.some.inj ((show Tryz.prog.funcNamed "docket/docketlaw21.SchemaParses" = some 3 by kernel_rfl).symm.trans hf) |>.symm
      obtain rfl : fn = Tryz.f3 := (Option.some.inj (Tryz.func3.symm.trans hfn)).symm
      exact ⟨by kernel_rfl, fun j t ht => by
        rw [Tryz.params3] at ht
        rcases j with _ | j
        · obtain rfl : t = 25 := by simpa using ht.symm
          kernel_rfl
        · simp at ht⟩)
    (by kernel_rfl)
#print axioms parses_card
end Go.Proofs.YtgjemghfejaifaaGreatDoor
