/-
  NARROWER THAN 'FOR EVERY INPUT', by the rows' own cells (each row's printed sentence says how): ShapeNil: loops · ShapeSorts: loops · ShapeOrders: loops · ShapeDistincts: loops.
  DERIVED. THE GIVEN ROWS OF THIS SEAT. 4 by the template 'for every input the law returns true; each argument reads behind the call as it read before'; 0 by the template 'total and deterministic' (their statements: YtgigikcopedoeaaGreatTotals.lean).
  GIVEN WITH THE SEED: the statements are not yours to turn. If you find one false, say at which input.
  Laid BY PROGRAM, IN A SANDBOX (cutbox-rows.mjs): the forced cells as the released guide's own fill.sh prints them over the translation a51d31225dd84f4c… (all of the seat's roots in one cut). By AI agents, Wed Nov 11 2026. No macro, syntax, notation, axiom, sorry.
-/
import Derived.Test.YtgigikcopedoeaaGreatChecked
import GoSem.Claim
import GoSem.ClaimJoined
import GoSem.ClaimMapViews
import Derived.JoinedTies
import Derived.KernelRfl
namespace Go.Proofs.YtgigikcopedoeaaGreat
/- THE CELL 'sum', in the pinned program and in every row, IS THE sha256 OF THE DUMP (.gsa) THAT YtgigikcopedoeaaGreatProg.lean LOADS. Nothing in Lean hashes anything: it is a label: what it is worth is what the hold of that sum in a sandbox is worth. -/
noncomputable def Tryz.pinned : Pinned := { name := "ytgigikcopedoeaagreat", sum := "a51d31225dd84f4c646c15b9e6dcdd97eea2c75092aa918131ede0cb6e6fea92", checked := Tryz.checked }
namespace Rows
def none {H : Type} : Left H := { results := [], args := [] }

/-- 'docketlaw06.ShapeNil': WHATEVER THE INPUT: true; the input reads as it did. -/
def shapeNilSpec : ChangeSpec := { name := "shapeNil", fn := fun _ => fun
  | [d1, d2] => { results := [.lit (.bool true)], args := [d1, d2] }
  | _ => none }
def shapeNilRow : OpenClaim := { program := "ytgigikcopedoeaagreat", sum := "a51d31225dd84f4c646c15b9e6dcdd97eea2c75092aa918131ede0cb6e6fea92", func := "docket/docketlaw06.ShapeNil", spec := "shapeNil", inPlace := ["internal/bytealg.IndexByteString", "internal/bytealg.IndexString", "internal/bytealg.abigen_runtime_cmpstring"], unfollowed := true, recurses := true, named := ["internal/bytealg.MaxLen"], loops := true, apart := false }
def ShapeNilSaid : Prop := shapeNilRow.holds Tryz.pinned (OpenSpec.ofChange shapeNilSpec)

/-- ITS FALSE NEIGHBOUR: 'it returns false'. Refute it at one input. -/
def shapeNilWrong : ChangeSpec := { name := "shapeNil", fn := fun _ => fun
  | [d1, d2] => { results := [.lit (.bool false)], args := [d1, d2] }
  | _ => none }
def ShapeNilWrongFalsely : Prop := shapeNilRow.holds Tryz.pinned (OpenSpec.ofChange shapeNilWrong)

/-- 'docketlaw06.ShapeSorts': WHATEVER THE INPUT: true; the input reads as it did. -/
def shapeSortsSpec : ChangeSpec := { name := "shapeSorts", fn := fun _ => fun
  | [d1, d2, d3] => { results := [.lit (.bool true)], args := [d1, d2, d3] }
  | _ => none }
def shapeSortsRow : OpenClaim := { program := "ytgigikcopedoeaagreat", sum := "a51d31225dd84f4c646c15b9e6dcdd97eea2c75092aa918131ede0cb6e6fea92", func := "docket/docketlaw06.ShapeSorts", spec := "shapeSorts", inPlace := ["internal/bytealg.IndexByteString", "internal/bytealg.IndexString", "internal/bytealg.abigen_runtime_cmpstring"], unfollowed := true, recurses := true, named := ["internal/bytealg.MaxLen"], loops := true, apart := false }
def ShapeSortsSaid : Prop := shapeSortsRow.holds Tryz.pinned (OpenSpec.ofChange shapeSortsSpec)

/-- ITS FALSE NEIGHBOUR: 'it returns false'. Refute it at one input. -/
def shapeSortsWrong : ChangeSpec := { name := "shapeSorts", fn := fun _ => fun
  | [d1, d2, d3] => { results := [.lit (.bool false)], args := [d1, d2, d3] }
  | _ => none }
def ShapeSortsWrongFalsely : Prop := shapeSortsRow.holds Tryz.pinned (OpenSpec.ofChange shapeSortsWrong)

/-- 'docketlaw06.ShapeOrders': WHATEVER THE INPUT: true; the input reads as it did. -/
def shapeOrdersSpec : ChangeSpec := { name := "shapeOrders", fn := fun _ => fun
  | [d1, d2] => { results := [.lit (.bool true)], args := [d1, d2] }
  | _ => none }
def shapeOrdersRow : OpenClaim := { program := "ytgigikcopedoeaagreat", sum := "a51d31225dd84f4c646c15b9e6dcdd97eea2c75092aa918131ede0cb6e6fea92", func := "docket/docketlaw06.ShapeOrders", spec := "shapeOrders", inPlace := ["internal/bytealg.IndexByteString", "internal/bytealg.IndexString", "internal/bytealg.abigen_runtime_cmpstring"], unfollowed := true, recurses := true, named := ["internal/bytealg.MaxLen"], loops := true, apart := false }
def ShapeOrdersSaid : Prop := shapeOrdersRow.holds Tryz.pinned (OpenSpec.ofChange shapeOrdersSpec)

/-- ITS FALSE NEIGHBOUR: 'it returns false'. Refute it at one input. -/
def shapeOrdersWrong : ChangeSpec := { name := "shapeOrders", fn := fun _ => fun
  | [d1, d2] => { results := [.lit (.bool false)], args := [d1, d2] }
  | _ => none }
def ShapeOrdersWrongFalsely : Prop := shapeOrdersRow.holds Tryz.pinned (OpenSpec.ofChange shapeOrdersWrong)

/-- 'docketlaw06.ShapeDistincts': WHATEVER THE INPUT: true; the input reads as it did. -/
def shapeDistinctsSpec : ChangeSpec := { name := "shapeDistincts", fn := fun _ => fun
  | [d1, d2] => { results := [.lit (.bool true)], args := [d1, d2] }
  | _ => none }
def shapeDistinctsRow : OpenClaim := { program := "ytgigikcopedoeaagreat", sum := "a51d31225dd84f4c646c15b9e6dcdd97eea2c75092aa918131ede0cb6e6fea92", func := "docket/docketlaw06.ShapeDistincts", spec := "shapeDistincts", inPlace := ["internal/bytealg.IndexByteString", "internal/bytealg.IndexString", "internal/bytealg.abigen_runtime_cmpstring"], unfollowed := true, recurses := true, named := ["internal/bytealg.MaxLen"], loops := true, apart := false }
def ShapeDistinctsSaid : Prop := shapeDistinctsRow.holds Tryz.pinned (OpenSpec.ofChange shapeDistinctsSpec)

/-- ITS FALSE NEIGHBOUR: 'it returns false'. Refute it at one input. -/
def shapeDistinctsWrong : ChangeSpec := { name := "shapeDistincts", fn := fun _ => fun
  | [d1, d2] => { results := [.lit (.bool false)], args := [d1, d2] }
  | _ => none }
def ShapeDistinctsWrongFalsely : Prop := shapeDistinctsRow.holds Tryz.pinned (OpenSpec.ofChange shapeDistinctsWrong)

/- THE SECOND FORM. 'bulk': how many values and letters a reading holds, each counted each time it is reached (what is shared counts as often as it is met; a slice's spare places count too). A statement '..UptoSaid' is the law's where the arguments, and the package variables that the reading takes, are together of bulk at most 1048576: NARROWER than '..Said'. Prove '..Said' where nothing that the law and all that it calls make is longer than what came in: it says more and counts as full. Else prove '..UptoSaid'. A law counts once. -/
mutual
def uptoBulk {H : Type} : DataW H → Nat
  | .lit (.string bytes) => bytes.length + 1
  | .lit _ => 1
  | .nil => 1
  | .ptr d => uptoBulk d + 1
  | .slice elems spare => uptoBulkAll elems + uptoBulkAll spare + 1
  | .agg parts => uptoBulkAll parts + 1
  | .iface _ d => uptoBulk d + 1
  | .map entries => uptoBulkEntries entries + 1
  | .held _ => 1
def uptoBulkAll {H : Type} : List (DataW H) → Nat
  | [] => 0
  | d :: r => uptoBulk d + uptoBulkAll r
def uptoBulkEntries {H : Type} : List (Lit × DataW H) → Nat
  | [] => 0
  | x :: r => uptoBulkEntry x + uptoBulkEntries r
def uptoBulkEntry {H : Type} : Lit × DataW H → Nat
  | (.string bytes, d) => bytes.length + uptoBulk d + 1
  | (_, d) => uptoBulk d + 1
 end
def uptoSmall : (H : Type) → List (DataW H) → Bool := fun _ ds => decide (uptoBulkAll ds ≤ 1048576)
def OpenSpec.upto (s : _root_.Go.ChangeSpec) : _root_.Go.OpenSpec := { _root_.Go.OpenSpec.ofChange s with cond := some uptoSmall }

/-- 'docketlaw06.ShapeNil', WHERE WHAT IT READS IS OF BULK AT MOST 1048576: true; the input reads as it did. -/
def shapeNilUptoRow : OpenClaim := { program := "ytgigikcopedoeaagreat", sum := "a51d31225dd84f4c646c15b9e6dcdd97eea2c75092aa918131ede0cb6e6fea92", func := "docket/docketlaw06.ShapeNil", spec := "shapeNil", inPlace := ["internal/bytealg.IndexByteString", "internal/bytealg.IndexString", "internal/bytealg.abigen_runtime_cmpstring"], unfollowed := true, recurses := true, named := ["internal/bytealg.MaxLen"], loops := true, apart := false, narrowed := true }
def ShapeNilUptoSaid : Prop := shapeNilUptoRow.holds Tryz.pinned (OpenSpec.upto shapeNilSpec)

/-- 'docketlaw06.ShapeSorts', WHERE WHAT IT READS IS OF BULK AT MOST 1048576: true; the input reads as it did. -/
def shapeSortsUptoRow : OpenClaim := { program := "ytgigikcopedoeaagreat", sum := "a51d31225dd84f4c646c15b9e6dcdd97eea2c75092aa918131ede0cb6e6fea92", func := "docket/docketlaw06.ShapeSorts", spec := "shapeSorts", inPlace := ["internal/bytealg.IndexByteString", "internal/bytealg.IndexString", "internal/bytealg.abigen_runtime_cmpstring"], unfollowed := true, recurses := true, named := ["internal/bytealg.MaxLen"], loops := true, apart := false, narrowed := true }
def ShapeSortsUptoSaid : Prop := shapeSortsUptoRow.holds Tryz.pinned (OpenSpec.upto shapeSortsSpec)

/-- 'docketlaw06.ShapeOrders', WHERE WHAT IT READS IS OF BULK AT MOST 1048576: true; the input reads as it did. -/
def shapeOrdersUptoRow : OpenClaim := { program := "ytgigikcopedoeaagreat", sum := "a51d31225dd84f4c646c15b9e6dcdd97eea2c75092aa918131ede0cb6e6fea92", func := "docket/docketlaw06.ShapeOrders", spec := "shapeOrders", inPlace := ["internal/bytealg.IndexByteString", "internal/bytealg.IndexString", "internal/bytealg.abigen_runtime_cmpstring"], unfollowed := true, recurses := true, named := ["internal/bytealg.MaxLen"], loops := true, apart := false, narrowed := true }
def ShapeOrdersUptoSaid : Prop := shapeOrdersUptoRow.holds Tryz.pinned (OpenSpec.upto shapeOrdersSpec)

/-- 'docketlaw06.ShapeDistincts', WHERE WHAT IT READS IS OF BULK AT MOST 1048576: true; the input reads as it did. -/
def shapeDistinctsUptoRow : OpenClaim := { program := "ytgigikcopedoeaagreat", sum := "a51d31225dd84f4c646c15b9e6dcdd97eea2c75092aa918131ede0cb6e6fea92", func := "docket/docketlaw06.ShapeDistincts", spec := "shapeDistincts", inPlace := ["internal/bytealg.IndexByteString", "internal/bytealg.IndexString", "internal/bytealg.abigen_runtime_cmpstring"], unfollowed := true, recurses := true, named := ["internal/bytealg.MaxLen"], loops := true, apart := false, narrowed := true }
def ShapeDistinctsUptoSaid : Prop := shapeDistinctsUptoRow.holds Tryz.pinned (OpenSpec.upto shapeDistinctsSpec)

end Rows
end Go.Proofs.YtgigikcopedoeaaGreat
