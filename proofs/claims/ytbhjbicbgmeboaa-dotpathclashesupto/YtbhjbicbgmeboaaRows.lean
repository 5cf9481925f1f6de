/-
  NARROWER THAN 'FOR EVERY INPUT', by the rows' own cells (each row's printed sentence says how): DotpathOrder: loops.
  DERIVED. THE GIVEN ROWS OF THIS SEAT. 2 by the template 'for every input the law returns true; each argument reads behind the call as it read before'; 0 by the template 'total and deterministic' (their statements: YtbhjbicbgmeboaaTotals.lean).
  GIVEN WITH THE SEED: the statements are not yours to turn. If you find one false, say at which input.
  Laid BY PROGRAM, IN A SANDBOX (cutbox-rows.mjs): the forced cells as the released guide's own fill.sh prints them over the translation 657b1caea2745646… (all of the seat's roots in one cut). By AI agents, Wed Nov 11 2026. No macro, syntax, notation, axiom, sorry.
-/
import Derived.Test.YtbhjbicbgmeboaaChecked
import GoSem.Claim
import GoSem.ClaimJoined
import GoSem.ClaimMapViews
import Derived.JoinedTies
import Derived.KernelRfl
namespace Go.Proofs.Ytbhjbicbgmeboaa
/- THE CELL 'sum', in the pinned program and in every row, IS THE sha256 OF THE DUMP (.gsa) THAT YtbhjbicbgmeboaaProg.lean LOADS. Nothing in Lean hashes anything: it is a label: what it is worth is what the hold of that sum in a sandbox is worth. -/
noncomputable def Try.pinned : Pinned := { name := "ytbhjbicbgmeboaa", sum := "657b1caea2745646bf326ee167a2f53d84178aebb10cbf5df495850b4a581010", checked := Try.checked }
namespace Rows
def none {H : Type} : Left H := { results := [], args := [] }

/-- 'docketlaw02.DotpathOrder': WHATEVER THE INPUT: true; the input reads as it did. -/
def dotpathOrderSpec : ChangeSpec := { name := "dotpathOrder", fn := fun _ => fun
  | [d] => { results := [.lit (.bool true)], args := [d] }
  | _ => none }
def dotpathOrderRow : OpenClaim := { program := "ytbhjbicbgmeboaa", sum := "657b1caea2745646bf326ee167a2f53d84178aebb10cbf5df495850b4a581010", func := "docket/docketlaw02.DotpathOrder", spec := "dotpathOrder", inPlace := ["internal/bytealg.IndexByteString", "internal/bytealg.IndexString"], unfollowed := true, recurses := true, named := ["internal/bytealg.MaxLen"], loops := true, plainKeys := false, apart := false }
def DotpathOrderSaid : Prop := dotpathOrderRow.holds Try.pinned (OpenSpec.ofChange dotpathOrderSpec)

/-- ITS FALSE NEIGHBOUR: 'it returns false'. Refute it at one input. -/
def dotpathOrderWrong : ChangeSpec := { name := "dotpathOrder", fn := fun _ => fun
  | [d] => { results := [.lit (.bool false)], args := [d] }
  | _ => none }
def DotpathOrderWrongFalsely : Prop := dotpathOrderRow.holds Try.pinned (OpenSpec.ofChange dotpathOrderWrong)

/-- 'docketlaw02.DotpathClashes': WHATEVER THE INPUT: true; the input reads as it did. -/
def dotpathClashesSpec : ChangeSpec := { name := "dotpathClashes", fn := fun _ => fun
  | [d] => { results := [.lit (.bool true)], args := [d] }
  | _ => none }
def dotpathClashesRow : OpenClaim := { program := "ytbhjbicbgmeboaa", sum := "657b1caea2745646bf326ee167a2f53d84178aebb10cbf5df495850b4a581010", func := "docket/docketlaw02.DotpathClashes", spec := "dotpathClashes", inPlace := ["internal/bytealg.IndexByteString", "internal/bytealg.IndexString"], unfollowed := true, recurses := true, named := ["internal/bytealg.MaxLen"], plainKeys := false, apart := false }
def DotpathClashesSaid : Prop := dotpathClashesRow.holds Try.pinned (OpenSpec.ofChange dotpathClashesSpec)

/-- ITS FALSE NEIGHBOUR: 'it returns false'. Refute it at one input. -/
def dotpathClashesWrong : ChangeSpec := { name := "dotpathClashes", fn := fun _ => fun
  | [d] => { results := [.lit (.bool false)], args := [d] }
  | _ => none }
def DotpathClashesWrongFalsely : Prop := dotpathClashesRow.holds Try.pinned (OpenSpec.ofChange dotpathClashesWrong)

/- THE SECOND FORM. 'bulk': how many values and letters a reading holds, each counted each time it is reached (what is shared counts as often as it is met; a slice's spare places count too). A statement '..UptoSaid' is the law's where the arguments, and the package variables that the reading takes, are together of bulk at most 1048576: NARROWER than '..Said'. Prove '..Said' where nothing that the law and all that it calls make is longer than what came in: it says more and counts as full. Else prove '..UptoSaid'. A law counts once. -/
mutual
def uptoBulk {H : Type} : DataW H → Nat
  | .lit (.string bytes) => bytes.length + 1
  | .lit _ => 1
  | .nil => 1
  | .ptr d => uptoBulk d + 1
  | .slice elems spare => uptoBulkAll elems + uptoBulkAll spare + 1
  | .agg parts => uptoBulkAll parts + 1
  | .iface _ d => uptoBulk d + 1
  | .map entries => uptoBulkEntries entries + 1
  | .held _ => 1
def uptoBulkAll {H : Type} : List (DataW H) → Nat
  | [] => 0
  | d :: r => uptoBulk d + uptoBulkAll r
def uptoBulkEntries {H : Type} : List (Lit × DataW H) → Nat
  | [] => 0
  | x :: r => uptoBulkEntry x + uptoBulkEntries r
def uptoBulkEntry {H : Type} : Lit × DataW H → Nat
  | (.string bytes, d) => bytes.length + uptoBulk d + 1
  | (_, d) => uptoBulk d + 1
 end
def uptoSmall : (H : Type) → List (DataW H) → Bool := fun _ ds => decide (uptoBulkAll ds ≤ 1048576)
def OpenSpec.upto (s : _root_.Go.ChangeSpec) : _root_.Go.OpenSpec := { _root_.Go.OpenSpec.ofChange s with cond := some uptoSmall }

/-- 'docketlaw02.DotpathOrder', WHERE WHAT IT READS IS OF BULK AT MOST 1048576: true; the input reads as it did. -/
def dotpathOrderUptoRow : OpenClaim := { program := "ytbhjbicbgmeboaa", sum := "657b1caea2745646bf326ee167a2f53d84178aebb10cbf5df495850b4a581010", func := "docket/docketlaw02.DotpathOrder", spec := "dotpathOrder", inPlace := ["internal/bytealg.IndexByteString", "internal/bytealg.IndexString"], unfollowed := true, recurses := true, named := ["internal/bytealg.MaxLen"], loops := true, plainKeys := false, apart := false, narrowed := true }
def DotpathOrderUptoSaid : Prop := dotpathOrderUptoRow.holds Try.pinned (OpenSpec.upto dotpathOrderSpec)

/-- 'docketlaw02.DotpathClashes', WHERE WHAT IT READS IS OF BULK AT MOST 1048576: true; the input reads as it did. -/
def dotpathClashesUptoRow : OpenClaim := { program := "ytbhjbicbgmeboaa", sum := "657b1caea2745646bf326ee167a2f53d84178aebb10cbf5df495850b4a581010", func := "docket/docketlaw02.DotpathClashes", spec := "dotpathClashes", inPlace := ["internal/bytealg.IndexByteString", "internal/bytealg.IndexString"], unfollowed := true, recurses := true, named := ["internal/bytealg.MaxLen"], plainKeys := false, apart := false, narrowed := true }
def DotpathClashesUptoSaid : Prop := dotpathClashesUptoRow.holds Try.pinned (OpenSpec.upto dotpathClashesSpec)

end Rows
end Go.Proofs.Ytbhjbicbgmeboaa
