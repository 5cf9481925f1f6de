/-
  NARROWER THAN 'FOR EVERY INPUT', by the rows' own cells (each row's printed sentence says how): DotpathMeets: loops · DotpathLooks: loops.
  DERIVED. THE GIVEN ROWS OF THIS SEAT. 3 by the template 'for every input the law returns true; each argument reads behind the call as it read before'; 0 by the template 'total and deterministic' (their statements: YtelmdbfddmpaaaaTotals.lean).
  GIVEN WITH THE SEED: the statements are not yours to turn. If you find one false, say at which input.
  Laid BY PROGRAM, IN A SANDBOX (cutbox-rows.mjs): the forced cells as the released guide's own fill.sh prints them over the translation 7d9cc157b05d7b67… (all of the seat's roots in one cut). By AI agents, Wed Nov 11 2026. No macro, syntax, notation, axiom, sorry.
-/
import Derived.Test.YtelmdbfddmpaaaaChecked
import GoSem.Claim
import GoSem.ClaimJoined
import GoSem.ClaimMapViews
import Derived.JoinedTies
import Derived.KernelRfl
namespace Go.Proofs.Ytelmdbfddmpaaaa
/- THE CELL 'sum', in the pinned program and in every row, IS THE sha256 OF THE DUMP (.gsa) THAT YtelmdbfddmpaaaaProg.lean LOADS. Nothing in Lean hashes anything: it is a label: what it is worth is what the hold of that sum in a sandbox is worth. -/
noncomputable def Try.pinned : Pinned := { name := "ytelmdbfddmpaaaa", sum := "7d9cc157b05d7b671bc5c201a16e5f7014ddb7e2431af62c2ba061fe5c774b15", checked := Try.checked }
namespace Rows
def none {H : Type} : Left H := { results := [], args := [] }

/-- 'docketlaw02.DotpathMeets': WHATEVER THE INPUT: true; the input reads as it did. -/
def dotpathMeetsSpec : ChangeSpec := { name := "dotpathMeets", fn := fun _ => fun
  | [d1, d2] => { results := [.lit (.bool true)], args := [d1, d2] }
  | _ => none }
def dotpathMeetsRow : OpenClaim := { program := "ytelmdbfddmpaaaa", sum := "7d9cc157b05d7b671bc5c201a16e5f7014ddb7e2431af62c2ba061fe5c774b15", func := "docket/docketlaw02.DotpathMeets", spec := "dotpathMeets", inPlace := ["internal/bytealg.IndexByteString", "internal/bytealg.IndexString"], unfollowed := true, recurses := true, named := ["internal/bytealg.MaxLen"], loops := true, apart := false }
def DotpathMeetsSaid : Prop := dotpathMeetsRow.holds Try.pinned (OpenSpec.ofChange dotpathMeetsSpec)

/-- ITS FALSE NEIGHBOUR: 'it returns false'. Refute it at one input. -/
def dotpathMeetsWrong : ChangeSpec := { name := "dotpathMeets", fn := fun _ => fun
  | [d1, d2] => { results := [.lit (.bool false)], args := [d1, d2] }
  | _ => none }
def DotpathMeetsWrongFalsely : Prop := dotpathMeetsRow.holds Try.pinned (OpenSpec.ofChange dotpathMeetsWrong)

/-- 'docketlaw02.DotpathLooks': WHATEVER THE INPUT: true; the input reads as it did. -/
def dotpathLooksSpec : ChangeSpec := { name := "dotpathLooks", fn := fun _ => fun
  | [d1, d2] => { results := [.lit (.bool true)], args := [d1, d2] }
  | _ => none }
def dotpathLooksRow : OpenClaim := { program := "ytelmdbfddmpaaaa", sum := "7d9cc157b05d7b671bc5c201a16e5f7014ddb7e2431af62c2ba061fe5c774b15", func := "docket/docketlaw02.DotpathLooks", spec := "dotpathLooks", inPlace := ["internal/bytealg.IndexByteString", "internal/bytealg.IndexString"], unfollowed := true, recurses := true, named := ["internal/bytealg.MaxLen"], loops := true, apart := false }
def DotpathLooksSaid : Prop := dotpathLooksRow.holds Try.pinned (OpenSpec.ofChange dotpathLooksSpec)

/-- ITS FALSE NEIGHBOUR: 'it returns false'. Refute it at one input. -/
def dotpathLooksWrong : ChangeSpec := { name := "dotpathLooks", fn := fun _ => fun
  | [d1, d2] => { results := [.lit (.bool false)], args := [d1, d2] }
  | _ => none }
def DotpathLooksWrongFalsely : Prop := dotpathLooksRow.holds Try.pinned (OpenSpec.ofChange dotpathLooksWrong)

/-- 'docketlaw02.DotpathTexts': WHATEVER THE INPUT: true; the input reads as it did. -/
def dotpathTextsSpec : ChangeSpec := { name := "dotpathTexts", fn := fun _ => fun
  | [d1, d2, d3] => { results := [.lit (.bool true)], args := [d1, d2, d3] }
  | _ => none }
def dotpathTextsRow : OpenClaim := { program := "ytelmdbfddmpaaaa", sum := "7d9cc157b05d7b671bc5c201a16e5f7014ddb7e2431af62c2ba061fe5c774b15", func := "docket/docketlaw02.DotpathTexts", spec := "dotpathTexts", inPlace := ["internal/bytealg.IndexByteString", "internal/bytealg.IndexString", "internal/abi.NoEscape", "internal/bytealg.MakeNoZero"], unfollowed := true, recurses := true, named := ["internal/bytealg.MaxLen"], apart := false }
def DotpathTextsSaid : Prop := dotpathTextsRow.holds Try.pinned (OpenSpec.ofChange dotpathTextsSpec)

/-- ITS FALSE NEIGHBOUR: 'it returns false'. Refute it at one input. -/
def dotpathTextsWrong : ChangeSpec := { name := "dotpathTexts", fn := fun _ => fun
  | [d1, d2, d3] => { results := [.lit (.bool false)], args := [d1, d2, d3] }
  | _ => none }
def DotpathTextsWrongFalsely : Prop := dotpathTextsRow.holds Try.pinned (OpenSpec.ofChange dotpathTextsWrong)

/- THE SECOND FORM. 'bulk': how many values and letters a reading holds, each counted each time it is reached (what is shared counts as often as it is met; a slice's spare places count too). A statement '..UptoSaid' is the law's where the arguments, and the package variables that the reading takes, are together of bulk at most 1048576: NARROWER than '..Said'. Prove '..Said' where nothing that the law and all that it calls make is longer than what came in: it says more and counts as full. Else prove '..UptoSaid'. A law counts once. -/
mutual
def uptoBulk {H : Type} : DataW H → Nat
  | .lit (.string bytes) => bytes.length + 1
  | .lit _ => 1
  | .nil => 1
  | .ptr d => uptoBulk d + 1
  | .slice elems spare => uptoBulkAll elems + uptoBulkAll spare + 1
  | .agg parts => uptoBulkAll parts + 1
  | .iface _ d => uptoBulk d + 1
  | .map entries => uptoBulkEntries entries + 1
  | .held _ => 1
def uptoBulkAll {H : Type} : List (DataW H) → Nat
  | [] => 0
  | d :: r => uptoBulk d + uptoBulkAll r
def uptoBulkEntries {H : Type} : List (Lit × DataW H) → Nat
  | [] => 0
  | x :: r => uptoBulkEntry x + uptoBulkEntries r
def uptoBulkEntry {H : Type} : Lit × DataW H → Nat
  | (.string bytes, d) => bytes.length + uptoBulk d + 1
  | (_, d) => uptoBulk d + 1
 end
def uptoSmall : (H : Type) → List (DataW H) → Bool := fun _ ds => decide (uptoBulkAll ds ≤ 1048576)
def OpenSpec.upto (s : _root_.Go.ChangeSpec) : _root_.Go.OpenSpec := { _root_.Go.OpenSpec.ofChange s with cond := some uptoSmall }

/-- 'docketlaw02.DotpathMeets', WHERE WHAT IT READS IS OF BULK AT MOST 1048576: true; the input reads as it did. -/
def dotpathMeetsUptoRow : OpenClaim := { program := "ytelmdbfddmpaaaa", sum := "7d9cc157b05d7b671bc5c201a16e5f7014ddb7e2431af62c2ba061fe5c774b15", func := "docket/docketlaw02.DotpathMeets", spec := "dotpathMeets", inPlace := ["internal/bytealg.IndexByteString", "internal/bytealg.IndexString"], unfollowed := true, recurses := true, named := ["internal/bytealg.MaxLen"], loops := true, apart := false, narrowed := true }
def DotpathMeetsUptoSaid : Prop := dotpathMeetsUptoRow.holds Try.pinned (OpenSpec.upto dotpathMeetsSpec)

/-- 'docketlaw02.DotpathLooks', WHERE WHAT IT READS IS OF BULK AT MOST 1048576: true; the input reads as it did. -/
def dotpathLooksUptoRow : OpenClaim := { program := "ytelmdbfddmpaaaa", sum := "7d9cc157b05d7b671bc5c201a16e5f7014ddb7e2431af62c2ba061fe5c774b15", func := "docket/docketlaw02.DotpathLooks", spec := "dotpathLooks", inPlace := ["internal/bytealg.IndexByteString", "internal/bytealg.IndexString"], unfollowed := true, recurses := true, named := ["internal/bytealg.MaxLen"], loops := true, apart := false, narrowed := true }
def DotpathLooksUptoSaid : Prop := dotpathLooksUptoRow.holds Try.pinned (OpenSpec.upto dotpathLooksSpec)

/-- 'docketlaw02.DotpathTexts', WHERE WHAT IT READS IS OF BULK AT MOST 1048576: true; the input reads as it did. -/
def dotpathTextsUptoRow : OpenClaim := { program := "ytelmdbfddmpaaaa", sum := "7d9cc157b05d7b671bc5c201a16e5f7014ddb7e2431af62c2ba061fe5c774b15", func := "docket/docketlaw02.DotpathTexts", spec := "dotpathTexts", inPlace := ["internal/bytealg.IndexByteString", "internal/bytealg.IndexString", "internal/abi.NoEscape", "internal/bytealg.MakeNoZero"], unfollowed := true, recurses := true, named := ["internal/bytealg.MaxLen"], apart := false, narrowed := true }
def DotpathTextsUptoSaid : Prop := dotpathTextsUptoRow.holds Try.pinned (OpenSpec.upto dotpathTextsSpec)

end Rows
end Go.Proofs.Ytelmdbfddmpaaaa
