/-
  NARROWER THAN 'FOR EVERY INPUT', by the rows' own cells (each row's printed sentence says how): FilterOpposites: loops · FilterOrder: loops · FilterNeeds: loops · FilterReaches: loops · FilterParses: loops.
  DERIVED. THE GIVEN ROWS OF THIS SEAT. 6 by the template 'for every input the law returns true; each argument reads behind the call as it read before'; 0 by the template 'total and deterministic' (their statements: YtdfkfnhppjhghaaGreatTotals.lean).
  GIVEN WITH THE SEED: the statements are not yours to turn. If you find one false, say at which input.
  Laid BY PROGRAM, IN A SANDBOX (cutbox-rows.mjs): the forced cells as the released guide's own fill.sh prints them over the translation b70088393a67bf0e… (all of the seat's roots in one cut). By AI agents, Wed Nov 11 2026. No macro, syntax, notation, axiom, sorry.
-/
import Derived.Test.YtdfkfnhppjhghaaGreatChecked
import GoSem.Claim
import GoSem.ClaimJoined
import GoSem.ClaimMapViews
import Derived.JoinedTies
import Derived.KernelRfl
namespace Go.Proofs.YtdfkfnhppjhghaaGreat
/- THE CELL 'sum', in the pinned program and in every row, IS THE sha256 OF THE DUMP (.gsa) THAT YtdfkfnhppjhghaaGreatProg.lean LOADS. Nothing in Lean hashes anything: it is a label: what it is worth is what the hold of that sum in a sandbox is worth. -/
noncomputable def Tryz.pinned : Pinned := { name := "ytdfkfnhppjhghaagreat", sum := "b70088393a67bf0e9aa64395d80e88e7b5e755779fcd069ca8845044489904d3", checked := Tryz.checked }
namespace Rows
def none {H : Type} : Left H := { results := [], args := [] }

/-- 'docketlaw04.FilterNil': WHATEVER THE INPUT: true; the input reads as it did. -/
def filterNilSpec : ChangeSpec := { name := "filterNil", fn := fun _ => fun
  | [] => { results := [.lit (.bool true)], args := [] }
  | _ => none }
def filterNilRow : OpenClaim := { program := "ytdfkfnhppjhghaagreat", sum := "b70088393a67bf0e9aa64395d80e88e7b5e755779fcd069ca8845044489904d3", func := "docket/docketlaw04.FilterNil", spec := "filterNil", inPlace := ["internal/bytealg.abigen_runtime_cmpstring", "internal/bytealg.IndexByteString", "internal/bytealg.IndexString"], unfollowed := true, recurses := true, named := ["internal/bytealg.MaxLen"], apart := false }
def FilterNilSaid : Prop := filterNilRow.holds Tryz.pinned (OpenSpec.ofChange filterNilSpec)

/-- ITS FALSE NEIGHBOUR: 'it returns false'. Refute it at one input. -/
def filterNilWrong : ChangeSpec := { name := "filterNil", fn := fun _ => fun
  | [] => { results := [.lit (.bool false)], args := [] }
  | _ => none }
def FilterNilWrongFalsely : Prop := filterNilRow.holds Tryz.pinned (OpenSpec.ofChange filterNilWrong)

/-- 'docketlaw04.FilterOpposites': WHATEVER THE INPUT: true; the input reads as it did. -/
def filterOppositesSpec : ChangeSpec := { name := "filterOpposites", fn := fun _ => fun
  | [d1, d2, d3] => { results := [.lit (.bool true)], args := [d1, d2, d3] }
  | _ => none }
def filterOppositesRow : OpenClaim := { program := "ytdfkfnhppjhghaagreat", sum := "b70088393a67bf0e9aa64395d80e88e7b5e755779fcd069ca8845044489904d3", func := "docket/docketlaw04.FilterOpposites", spec := "filterOpposites", inPlace := ["internal/bytealg.abigen_runtime_cmpstring", "internal/bytealg.IndexByteString", "internal/bytealg.IndexString"], unfollowed := true, recurses := true, named := ["internal/bytealg.MaxLen"], loops := true, apart := false }
def FilterOppositesSaid : Prop := filterOppositesRow.holds Tryz.pinned (OpenSpec.ofChange filterOppositesSpec)

/-- ITS FALSE NEIGHBOUR: 'it returns false'. Refute it at one input. -/
def filterOppositesWrong : ChangeSpec := { name := "filterOpposites", fn := fun _ => fun
  | [d1, d2, d3] => { results := [.lit (.bool false)], args := [d1, d2, d3] }
  | _ => none }
def FilterOppositesWrongFalsely : Prop := filterOppositesRow.holds Tryz.pinned (OpenSpec.ofChange filterOppositesWrong)

/-- 'docketlaw04.FilterOrder': WHATEVER THE INPUT: true; the input reads as it did. -/
def filterOrderSpec : ChangeSpec := { name := "filterOrder", fn := fun _ => fun
  | [d1, d2] => { results := [.lit (.bool true)], args := [d1, d2] }
  | _ => none }
def filterOrderRow : OpenClaim := { program := "ytdfkfnhppjhghaagreat", sum := "b70088393a67bf0e9aa64395d80e88e7b5e755779fcd069ca8845044489904d3", func := "docket/docketlaw04.FilterOrder", spec := "filterOrder", inPlace := ["internal/bytealg.abigen_runtime_cmpstring", "internal/bytealg.IndexByteString", "internal/bytealg.IndexString"], unfollowed := true, recurses := true, named := ["internal/bytealg.MaxLen"], loops := true, apart := false }
def FilterOrderSaid : Prop := filterOrderRow.holds Tryz.pinned (OpenSpec.ofChange filterOrderSpec)

/-- ITS FALSE NEIGHBOUR: 'it returns false'. Refute it at one input. -/
def filterOrderWrong : ChangeSpec := { name := "filterOrder", fn := fun _ => fun
  | [d1, d2] => { results := [.lit (.bool false)], args := [d1, d2] }
  | _ => none }
def FilterOrderWrongFalsely : Prop := filterOrderRow.holds Tryz.pinned (OpenSpec.ofChange filterOrderWrong)

/-- 'docketlaw04.FilterNeeds': WHATEVER THE INPUT: true; the input reads as it did. -/
def filterNeedsSpec : ChangeSpec := { name := "filterNeeds", fn := fun _ => fun
  | [d1, d2] => { results := [.lit (.bool true)], args := [d1, d2] }
  | _ => none }
def filterNeedsRow : OpenClaim := { program := "ytdfkfnhppjhghaagreat", sum := "b70088393a67bf0e9aa64395d80e88e7b5e755779fcd069ca8845044489904d3", func := "docket/docketlaw04.FilterNeeds", spec := "filterNeeds", inPlace := ["internal/bytealg.abigen_runtime_cmpstring", "internal/bytealg.IndexByteString", "internal/bytealg.IndexString"], unfollowed := true, recurses := true, named := ["internal/bytealg.MaxLen"], loops := true, apart := false }
def FilterNeedsSaid : Prop := filterNeedsRow.holds Tryz.pinned (OpenSpec.ofChange filterNeedsSpec)

/-- ITS FALSE NEIGHBOUR: 'it returns false'. Refute it at one input. -/
def filterNeedsWrong : ChangeSpec := { name := "filterNeeds", fn := fun _ => fun
  | [d1, d2] => { results := [.lit (.bool false)], args := [d1, d2] }
  | _ => none }
def FilterNeedsWrongFalsely : Prop := filterNeedsRow.holds Tryz.pinned (OpenSpec.ofChange filterNeedsWrong)

/-- 'docketlaw04.FilterReaches': WHATEVER THE INPUT: true; the input reads as it did. -/
def filterReachesSpec : ChangeSpec := { name := "filterReaches", fn := fun _ => fun
  | [d1, d2, d3] => { results := [.lit (.bool true)], args := [d1, d2, d3] }
  | _ => none }
def filterReachesRow : OpenClaim := { program := "ytdfkfnhppjhghaagreat", sum := "b70088393a67bf0e9aa64395d80e88e7b5e755779fcd069ca8845044489904d3", func := "docket/docketlaw04.FilterReaches", spec := "filterReaches", inPlace := ["internal/bytealg.abigen_runtime_cmpstring", "internal/bytealg.IndexByteString", "internal/bytealg.IndexString"], unfollowed := true, recurses := true, named := ["internal/bytealg.MaxLen"], loops := true, apart := false }
def FilterReachesSaid : Prop := filterReachesRow.holds Tryz.pinned (OpenSpec.ofChange filterReachesSpec)

/-- ITS FALSE NEIGHBOUR: 'it returns false'. Refute it at one input. -/
def filterReachesWrong : ChangeSpec := { name := "filterReaches", fn := fun _ => fun
  | [d1, d2, d3] => { results := [.lit (.bool false)], args := [d1, d2, d3] }
  | _ => none }
def FilterReachesWrongFalsely : Prop := filterReachesRow.holds Tryz.pinned (OpenSpec.ofChange filterReachesWrong)

/-- 'docketlaw04.FilterParses': WHATEVER THE INPUT: true; the input reads as it did. -/
def filterParsesSpec : ChangeSpec := { name := "filterParses", fn := fun _ => fun
  | [d] => { results := [.lit (.bool true)], args := [d] }
  | _ => none }
def filterParsesRow : OpenClaim := { program := "ytdfkfnhppjhghaagreat", sum := "b70088393a67bf0e9aa64395d80e88e7b5e755779fcd069ca8845044489904d3", func := "docket/docketlaw04.FilterParses", spec := "filterParses", inPlace := ["internal/bytealg.abigen_runtime_cmpstring", "internal/bytealg.IndexByteString", "internal/bytealg.IndexString"], unfollowed := true, recurses := true, named := ["internal/bytealg.MaxLen"], loops := true, apart := false }
def FilterParsesSaid : Prop := filterParsesRow.holds Tryz.pinned (OpenSpec.ofChange filterParsesSpec)

/-- ITS FALSE NEIGHBOUR: 'it returns false'. Refute it at one input. -/
def filterParsesWrong : ChangeSpec := { name := "filterParses", fn := fun _ => fun
  | [d] => { results := [.lit (.bool false)], args := [d] }
  | _ => none }
def FilterParsesWrongFalsely : Prop := filterParsesRow.holds Tryz.pinned (OpenSpec.ofChange filterParsesWrong)

/- THE SECOND FORM. 'bulk': how many values and letters a reading holds, each counted each time it is reached (what is shared counts as often as it is met; a slice's spare places count too). A statement '..UptoSaid' is the law's where the arguments, and the package variables that the reading takes, are together of bulk at most 1048576: NARROWER than '..Said'. Prove '..Said' where nothing that the law and all that it calls make is longer than what came in: it says more and counts as full. Else prove '..UptoSaid'. A law counts once. -/
mutual
def uptoBulk {H : Type} : DataW H → Nat
  | .lit (.string bytes) => bytes.length + 1
  | .lit _ => 1
  | .nil => 1
  | .ptr d => uptoBulk d + 1
  | .slice elems spare => uptoBulkAll elems + uptoBulkAll spare + 1
  | .agg parts => uptoBulkAll parts + 1
  | .iface _ d => uptoBulk d + 1
  | .map entries => uptoBulkEntries entries + 1
  | .held _ => 1
def uptoBulkAll {H : Type} : List (DataW H) → Nat
  | [] => 0
  | d :: r => uptoBulk d + uptoBulkAll r
def uptoBulkEntries {H : Type} : List (Lit × DataW H) → Nat
  | [] => 0
  | x :: r => uptoBulkEntry x + uptoBulkEntries r
def uptoBulkEntry {H : Type} : Lit × DataW H → Nat
  | (.string bytes, d) => bytes.length + uptoBulk d + 1
  | (_, d) => uptoBulk d + 1
 end
def uptoSmall : (H : Type) → List (DataW H) → Bool := fun _ ds => decide (uptoBulkAll ds ≤ 1048576)
def OpenSpec.upto (s : _root_.Go.ChangeSpec) : _root_.Go.OpenSpec := { _root_.Go.OpenSpec.ofChange s with cond := some uptoSmall }

/-- 'docketlaw04.FilterNil', WHERE WHAT IT READS IS OF BULK AT MOST 1048576: true; the input reads as it did. -/
def filterNilUptoRow : OpenClaim := { program := "ytdfkfnhppjhghaagreat", sum := "b70088393a67bf0e9aa64395d80e88e7b5e755779fcd069ca8845044489904d3", func := "docket/docketlaw04.FilterNil", spec := "filterNil", inPlace := ["internal/bytealg.abigen_runtime_cmpstring", "internal/bytealg.IndexByteString", "internal/bytealg.IndexString"], unfollowed := true, recurses := true, named := ["internal/bytealg.MaxLen"], apart := false, narrowed := true }
def FilterNilUptoSaid : Prop := filterNilUptoRow.holds Tryz.pinned (OpenSpec.upto filterNilSpec)

/-- 'docketlaw04.FilterOpposites', WHERE WHAT IT READS IS OF BULK AT MOST 1048576: true; the input reads as it did. -/
def filterOppositesUptoRow : OpenClaim := { program := "ytdfkfnhppjhghaagreat", sum := "b70088393a67bf0e9aa64395d80e88e7b5e755779fcd069ca8845044489904d3", func := "docket/docketlaw04.FilterOpposites", spec := "filterOpposites", inPlace := ["internal/bytealg.abigen_runtime_cmpstring", "internal/bytealg.IndexByteString", "internal/bytealg.IndexString"], unfollowed := true, recurses := true, named := ["internal/bytealg.MaxLen"], loops := true, apart := false, narrowed := true }
def FilterOppositesUptoSaid : Prop := filterOppositesUptoRow.holds Tryz.pinned (OpenSpec.upto filterOppositesSpec)

/-- 'docketlaw04.FilterOrder', WHERE WHAT IT READS IS OF BULK AT MOST 1048576: true; the input reads as it did. -/
def filterOrderUptoRow : OpenClaim := { program := "ytdfkfnhppjhghaagreat", sum := "b70088393a67bf0e9aa64395d80e88e7b5e755779fcd069ca8845044489904d3", func := "docket/docketlaw04.FilterOrder", spec := "filterOrder", inPlace := ["internal/bytealg.abigen_runtime_cmpstring", "internal/bytealg.IndexByteString", "internal/bytealg.IndexString"], unfollowed := true, recurses := true, named := ["internal/bytealg.MaxLen"], loops := true, apart := false, narrowed := true }
def FilterOrderUptoSaid : Prop := filterOrderUptoRow.holds Tryz.pinned (OpenSpec.upto filterOrderSpec)

/-- 'docketlaw04.FilterNeeds', WHERE WHAT IT READS IS OF BULK AT MOST 1048576: true; the input reads as it did. -/
def filterNeedsUptoRow : OpenClaim := { program := "ytdfkfnhppjhghaagreat", sum := "b70088393a67bf0e9aa64395d80e88e7b5e755779fcd069ca8845044489904d3", func := "docket/docketlaw04.FilterNeeds", spec := "filterNeeds", inPlace := ["internal/bytealg.abigen_runtime_cmpstring", "internal/bytealg.IndexByteString", "internal/bytealg.IndexString"], unfollowed := true, recurses := true, named := ["internal/bytealg.MaxLen"], loops := true, apart := false, narrowed := true }
def FilterNeedsUptoSaid : Prop := filterNeedsUptoRow.holds Tryz.pinned (OpenSpec.upto filterNeedsSpec)

/-- 'docketlaw04.FilterReaches', WHERE WHAT IT READS IS OF BULK AT MOST 1048576: true; the input reads as it did. -/
def filterReachesUptoRow : OpenClaim := { program := "ytdfkfnhppjhghaagreat", sum := "b70088393a67bf0e9aa64395d80e88e7b5e755779fcd069ca8845044489904d3", func := "docket/docketlaw04.FilterReaches", spec := "filterReaches", inPlace := ["internal/bytealg.abigen_runtime_cmpstring", "internal/bytealg.IndexByteString", "internal/bytealg.IndexString"], unfollowed := true, recurses := true, named := ["internal/bytealg.MaxLen"], loops := true, apart := false, narrowed := true }
def FilterReachesUptoSaid : Prop := filterReachesUptoRow.holds Tryz.pinned (OpenSpec.upto filterReachesSpec)

/-- 'docketlaw04.FilterParses', WHERE WHAT IT READS IS OF BULK AT MOST 1048576: true; the input reads as it did. -/
def filterParsesUptoRow : OpenClaim := { program := "ytdfkfnhppjhghaagreat", sum := "b70088393a67bf0e9aa64395d80e88e7b5e755779fcd069ca8845044489904d3", func := "docket/docketlaw04.FilterParses", spec := "filterParses", inPlace := ["internal/bytealg.abigen_runtime_cmpstring", "internal/bytealg.IndexByteString", "internal/bytealg.IndexString"], unfollowed := true, recurses := true, named := ["internal/bytealg.MaxLen"], loops := true, apart := false, narrowed := true }
def FilterParsesUptoSaid : Prop := filterParsesUptoRow.holds Tryz.pinned (OpenSpec.upto filterParsesSpec)

end Rows
end Go.Proofs.YtdfkfnhppjhghaaGreat
