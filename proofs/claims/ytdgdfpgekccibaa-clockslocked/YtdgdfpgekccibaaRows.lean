/-
  No cell of these rows narrows 'for every input' (looked for: loops, veiled, ifaces, maps, wideKeys, modest, calm, conditions, laid).
  DERIVED. THE GIVEN ROWS OF THIS SEAT. 6 by the template 'for every input the law returns true; each argument reads behind the call as it read before'; 0 by the template 'total and deterministic' (their statements: YtdgdfpgekccibaaTotals.lean).
  GIVEN WITH THE SEED: the statements are not yours to turn. If you find one false, say at which input.
  Laid BY PROGRAM, IN A SANDBOX (cutbox-rows.mjs): the forced cells as the released guide's own fill.sh prints them over the translation 294983b7d2b9e227… (all of the seat's roots in one cut). By AI agents, Wed Nov 11 2026. No macro, syntax, notation, axiom, sorry.
-/
import Derived.Test.YtdgdfpgekccibaaChecked
import GoSem.Claim
import GoSem.ClaimJoined
import GoSem.ClaimMapViews
import Derived.JoinedTies
import Derived.KernelRfl
namespace Go.Proofs.Ytdgdfpgekccibaa
/- THE CELL 'sum', in the pinned program and in every row, IS THE sha256 OF THE DUMP (.gsa) THAT YtdgdfpgekccibaaProg.lean LOADS. Nothing in Lean hashes anything: it is a label: what it is worth is what the hold of that sum in a sandbox is worth. -/
noncomputable def Try.pinned : Pinned := { name := "ytdgdfpgekccibaa", sum := "294983b7d2b9e22766bdd3b481a5aedb09ee11d71b4693271bf5a9c42d26ff29", checked := Try.checked }
namespace Rows
def none {H : Type} : Left H := { results := [], args := [] }

/-- 'docketlaw11.ClocksNames': WHATEVER THE INPUT: true; the input reads as it did. -/
def clocksNamesSpec : ChangeSpec := { name := "clocksNames", fn := fun _ => fun
  | [] => { results := [.lit (.bool true)], args := [] }
  | _ => none }
def clocksNamesRow : OpenClaim := { program := "ytdgdfpgekccibaa", sum := "294983b7d2b9e22766bdd3b481a5aedb09ee11d71b4693271bf5a9c42d26ff29", func := "docket/docketlaw11.ClocksNames", spec := "clocksNames", unfollowed := true, recurses := true, plainKeys := false, apart := false }
def ClocksNamesSaid : Prop := clocksNamesRow.holds Try.pinned (OpenSpec.ofChange clocksNamesSpec)

/-- ITS FALSE NEIGHBOUR: 'it returns false'. Refute it at one input. -/
def clocksNamesWrong : ChangeSpec := { name := "clocksNames", fn := fun _ => fun
  | [] => { results := [.lit (.bool false)], args := [] }
  | _ => none }
def ClocksNamesWrongFalsely : Prop := clocksNamesRow.holds Try.pinned (OpenSpec.ofChange clocksNamesWrong)

/-- 'docketlaw11.ClocksLocked': WHATEVER THE INPUT: true; the input reads as it did. -/
def clocksLockedSpec : ChangeSpec := { name := "clocksLocked", fn := fun _ => fun
  | [d1, d2, d3] => { results := [.lit (.bool true)], args := [d1, d2, d3] }
  | _ => none }
def clocksLockedRow : OpenClaim := { program := "ytdgdfpgekccibaa", sum := "294983b7d2b9e22766bdd3b481a5aedb09ee11d71b4693271bf5a9c42d26ff29", func := "docket/docketlaw11.ClocksLocked", spec := "clocksLocked", unfollowed := true, recurses := true, plainKeys := false, apart := false }
def ClocksLockedSaid : Prop := clocksLockedRow.holds Try.pinned (OpenSpec.ofChange clocksLockedSpec)

/-- ITS FALSE NEIGHBOUR: 'it returns false'. Refute it at one input. -/
def clocksLockedWrong : ChangeSpec := { name := "clocksLocked", fn := fun _ => fun
  | [d1, d2, d3] => { results := [.lit (.bool false)], args := [d1, d2, d3] }
  | _ => none }
def ClocksLockedWrongFalsely : Prop := clocksLockedRow.holds Try.pinned (OpenSpec.ofChange clocksLockedWrong)

/-- 'docketlaw11.ClocksOrder': WHATEVER THE INPUT: true; the input reads as it did. -/
def clocksOrderSpec : ChangeSpec := { name := "clocksOrder", fn := fun _ => fun
  | [d1, d2, d3, d4, d5] => { results := [.lit (.bool true)], args := [d1, d2, d3, d4, d5] }
  | _ => none }
def clocksOrderRow : OpenClaim := { program := "ytdgdfpgekccibaa", sum := "294983b7d2b9e22766bdd3b481a5aedb09ee11d71b4693271bf5a9c42d26ff29", func := "docket/docketlaw11.ClocksOrder", spec := "clocksOrder", unfollowed := true, recurses := true, plainKeys := false, apart := false }
def ClocksOrderSaid : Prop := clocksOrderRow.holds Try.pinned (OpenSpec.ofChange clocksOrderSpec)

/-- ITS FALSE NEIGHBOUR: 'it returns false'. Refute it at one input. -/
def clocksOrderWrong : ChangeSpec := { name := "clocksOrder", fn := fun _ => fun
  | [d1, d2, d3, d4, d5] => { results := [.lit (.bool false)], args := [d1, d2, d3, d4, d5] }
  | _ => none }
def ClocksOrderWrongFalsely : Prop := clocksOrderRow.holds Try.pinned (OpenSpec.ofChange clocksOrderWrong)

/-- 'docketlaw11.ClocksFree': WHATEVER THE INPUT: true; the input reads as it did. -/
def clocksFreeSpec : ChangeSpec := { name := "clocksFree", fn := fun _ => fun
  | [d1, d2] => { results := [.lit (.bool true)], args := [d1, d2] }
  | _ => none }
def clocksFreeRow : OpenClaim := { program := "ytdgdfpgekccibaa", sum := "294983b7d2b9e22766bdd3b481a5aedb09ee11d71b4693271bf5a9c42d26ff29", func := "docket/docketlaw11.ClocksFree", spec := "clocksFree", unfollowed := true, recurses := true, plainKeys := false, apart := false }
def ClocksFreeSaid : Prop := clocksFreeRow.holds Try.pinned (OpenSpec.ofChange clocksFreeSpec)

/-- ITS FALSE NEIGHBOUR: 'it returns false'. Refute it at one input. -/
def clocksFreeWrong : ChangeSpec := { name := "clocksFree", fn := fun _ => fun
  | [d1, d2] => { results := [.lit (.bool false)], args := [d1, d2] }
  | _ => none }
def ClocksFreeWrongFalsely : Prop := clocksFreeRow.holds Try.pinned (OpenSpec.ofChange clocksFreeWrong)

/-- 'docketlaw11.ClocksCuts': WHATEVER THE INPUT: true; the input reads as it did. -/
def clocksCutsSpec : ChangeSpec := { name := "clocksCuts", fn := fun _ => fun
  | [d1, d2, d3] => { results := [.lit (.bool true)], args := [d1, d2, d3] }
  | _ => none }
def clocksCutsRow : OpenClaim := { program := "ytdgdfpgekccibaa", sum := "294983b7d2b9e22766bdd3b481a5aedb09ee11d71b4693271bf5a9c42d26ff29", func := "docket/docketlaw11.ClocksCuts", spec := "clocksCuts", unfollowed := true, recurses := true, plainKeys := false, apart := false }
def ClocksCutsSaid : Prop := clocksCutsRow.holds Try.pinned (OpenSpec.ofChange clocksCutsSpec)

/-- ITS FALSE NEIGHBOUR: 'it returns false'. Refute it at one input. -/
def clocksCutsWrong : ChangeSpec := { name := "clocksCuts", fn := fun _ => fun
  | [d1, d2, d3] => { results := [.lit (.bool false)], args := [d1, d2, d3] }
  | _ => none }
def ClocksCutsWrongFalsely : Prop := clocksCutsRow.holds Try.pinned (OpenSpec.ofChange clocksCutsWrong)

/-- 'docketlaw11.ClocksSees': WHATEVER THE INPUT: true; the input reads as it did. -/
def clocksSeesSpec : ChangeSpec := { name := "clocksSees", fn := fun _ => fun
  | [d1, d2, d3] => { results := [.lit (.bool true)], args := [d1, d2, d3] }
  | _ => none }
def clocksSeesRow : OpenClaim := { program := "ytdgdfpgekccibaa", sum := "294983b7d2b9e22766bdd3b481a5aedb09ee11d71b4693271bf5a9c42d26ff29", func := "docket/docketlaw11.ClocksSees", spec := "clocksSees", unfollowed := true, recurses := true, plainKeys := false, apart := false }
def ClocksSeesSaid : Prop := clocksSeesRow.holds Try.pinned (OpenSpec.ofChange clocksSeesSpec)

/-- ITS FALSE NEIGHBOUR: 'it returns false'. Refute it at one input. -/
def clocksSeesWrong : ChangeSpec := { name := "clocksSees", fn := fun _ => fun
  | [d1, d2, d3] => { results := [.lit (.bool false)], args := [d1, d2, d3] }
  | _ => none }
def ClocksSeesWrongFalsely : Prop := clocksSeesRow.holds Try.pinned (OpenSpec.ofChange clocksSeesWrong)

/- THE SECOND FORM. 'bulk': how many values and letters a reading holds, each counted each time it is reached (what is shared counts as often as it is met; a slice's spare places count too). A statement '..UptoSaid' is the law's where the arguments, and the package variables that the reading takes, are together of bulk at most 1048576: NARROWER than '..Said'. Prove '..Said' where nothing that the law and all that it calls make is longer than what came in: it says more and counts as full. Else prove '..UptoSaid'. A law counts once. -/
mutual
def uptoBulk {H : Type} : DataW H → Nat
  | .lit (.string bytes) => bytes.length + 1
  | .lit _ => 1
  | .nil => 1
  | .ptr d => uptoBulk d + 1
  | .slice elems spare => uptoBulkAll elems + uptoBulkAll spare + 1
  | .agg parts => uptoBulkAll parts + 1
  | .iface _ d => uptoBulk d + 1
  | .map entries => uptoBulkEntries entries + 1
  | .held _ => 1
def uptoBulkAll {H : Type} : List (DataW H) → Nat
  | [] => 0
  | d :: r => uptoBulk d + uptoBulkAll r
def uptoBulkEntries {H : Type} : List (Lit × DataW H) → Nat
  | [] => 0
  | x :: r => uptoBulkEntry x + uptoBulkEntries r
def uptoBulkEntry {H : Type} : Lit × DataW H → Nat
  | (.string bytes, d) => bytes.length + uptoBulk d + 1
  | (_, d) => uptoBulk d + 1
 end
def uptoSmall : (H : Type) → List (DataW H) → Bool := fun _ ds => decide (uptoBulkAll ds ≤ 1048576)
def OpenSpec.upto (s : _root_.Go.ChangeSpec) : _root_.Go.OpenSpec := { _root_.Go.OpenSpec.ofChange s with cond := some uptoSmall }

/-- 'docketlaw11.ClocksNames', WHERE WHAT IT READS IS OF BULK AT MOST 1048576: true; the input reads as it did. -/
def clocksNamesUptoRow : OpenClaim := { program := "ytdgdfpgekccibaa", sum := "294983b7d2b9e22766bdd3b481a5aedb09ee11d71b4693271bf5a9c42d26ff29", func := "docket/docketlaw11.ClocksNames", spec := "clocksNames", unfollowed := true, recurses := true, plainKeys := false, apart := false, narrowed := true }
def ClocksNamesUptoSaid : Prop := clocksNamesUptoRow.holds Try.pinned (OpenSpec.upto clocksNamesSpec)

/-- 'docketlaw11.ClocksLocked', WHERE WHAT IT READS IS OF BULK AT MOST 1048576: true; the input reads as it did. -/
def clocksLockedUptoRow : OpenClaim := { program := "ytdgdfpgekccibaa", sum := "294983b7d2b9e22766bdd3b481a5aedb09ee11d71b4693271bf5a9c42d26ff29", func := "docket/docketlaw11.ClocksLocked", spec := "clocksLocked", unfollowed := true, recurses := true, plainKeys := false, apart := false, narrowed := true }
def ClocksLockedUptoSaid : Prop := clocksLockedUptoRow.holds Try.pinned (OpenSpec.upto clocksLockedSpec)

/-- 'docketlaw11.ClocksOrder', WHERE WHAT IT READS IS OF BULK AT MOST 1048576: true; the input reads as it did. -/
def clocksOrderUptoRow : OpenClaim := { program := "ytdgdfpgekccibaa", sum := "294983b7d2b9e22766bdd3b481a5aedb09ee11d71b4693271bf5a9c42d26ff29", func := "docket/docketlaw11.ClocksOrder", spec := "clocksOrder", unfollowed := true, recurses := true, plainKeys := false, apart := false, narrowed := true }
def ClocksOrderUptoSaid : Prop := clocksOrderUptoRow.holds Try.pinned (OpenSpec.upto clocksOrderSpec)

/-- 'docketlaw11.ClocksFree', WHERE WHAT IT READS IS OF BULK AT MOST 1048576: true; the input reads as it did. -/
def clocksFreeUptoRow : OpenClaim := { program := "ytdgdfpgekccibaa", sum := "294983b7d2b9e22766bdd3b481a5aedb09ee11d71b4693271bf5a9c42d26ff29", func := "docket/docketlaw11.ClocksFree", spec := "clocksFree", unfollowed := true, recurses := true, plainKeys := false, apart := false, narrowed := true }
def ClocksFreeUptoSaid : Prop := clocksFreeUptoRow.holds Try.pinned (OpenSpec.upto clocksFreeSpec)

/-- 'docketlaw11.ClocksCuts', WHERE WHAT IT READS IS OF BULK AT MOST 1048576: true; the input reads as it did. -/
def clocksCutsUptoRow : OpenClaim := { program := "ytdgdfpgekccibaa", sum := "294983b7d2b9e22766bdd3b481a5aedb09ee11d71b4693271bf5a9c42d26ff29", func := "docket/docketlaw11.ClocksCuts", spec := "clocksCuts", unfollowed := true, recurses := true, plainKeys := false, apart := false, narrowed := true }
def ClocksCutsUptoSaid : Prop := clocksCutsUptoRow.holds Try.pinned (OpenSpec.upto clocksCutsSpec)

/-- 'docketlaw11.ClocksSees', WHERE WHAT IT READS IS OF BULK AT MOST 1048576: true; the input reads as it did. -/
def clocksSeesUptoRow : OpenClaim := { program := "ytdgdfpgekccibaa", sum := "294983b7d2b9e22766bdd3b481a5aedb09ee11d71b4693271bf5a9c42d26ff29", func := "docket/docketlaw11.ClocksSees", spec := "clocksSees", unfollowed := true, recurses := true, plainKeys := false, apart := false, narrowed := true }
def ClocksSeesUptoSaid : Prop := clocksSeesUptoRow.holds Try.pinned (OpenSpec.upto clocksSeesSpec)

end Rows
end Go.Proofs.Ytdgdfpgekccibaa
