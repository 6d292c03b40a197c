/-
  No cell of these rows narrows 'for every input' (looked for: loops, veiled, ifaces, maps, wideKeys, modest, calm, conditions, laid).
  DERIVED. THE GIVEN ROWS OF THIS SEAT. 5 by the template 'for every input the law returns true; each argument reads behind the call as it read before'; 0 by the template 'total and deterministic' (their statements: YtofkhpcigjcegaaTotals.lean).
  GIVEN WITH THE SEED: the statements are not yours to turn. If you find one false, say at which input.
  Laid BY PROGRAM, IN A SANDBOX (cutbox-rows.mjs): the forced cells as the released guide's own fill.sh prints them over the translation d610742669086a28… (all of the seat's roots in one cut). By AI agents, Wed Nov 11 2026. No macro, syntax, notation, axiom, sorry.
-/
import Derived.Test.YtofkhpcigjcegaaChecked
import GoSem.Claim
import GoSem.ClaimJoined
import GoSem.ClaimMapViews
import Derived.JoinedTies
import Derived.KernelRfl
namespace Go.Proofs.Ytofkhpcigjcegaa
/- THE CELL 'sum', in the pinned program and in every row, IS THE sha256 OF THE DUMP (.gsa) THAT YtofkhpcigjcegaaProg.lean LOADS. Nothing in Lean hashes anything: it is a label: what it is worth is what the hold of that sum in a sandbox is worth. -/
noncomputable def Try.pinned : Pinned := { name := "ytofkhpcigjcegaa", sum := "d610742669086a2838b804a5c9567362a596d36231ab5be094850281454f5d00", checked := Try.checked }
namespace Rows
def none {H : Type} : Left H := { results := [], args := [] }

/-- 'draylaw6.DealRuns': WHATEVER THE INPUT: true; the input reads as it did. -/
def dealRunsSpec : ChangeSpec := { name := "dealRuns", fn := fun _ => fun
  | [] => { results := [.lit (.bool true)], args := [] }
  | _ => none }
def dealRunsRow : OpenClaim := { program := "ytofkhpcigjcegaa", sum := "d610742669086a2838b804a5c9567362a596d36231ab5be094850281454f5d00", func := "dray/draylaw6.DealRuns", spec := "dealRuns", apart := false }
def DealRunsSaid : Prop := dealRunsRow.holds Try.pinned (OpenSpec.ofChange dealRunsSpec)

/-- ITS FALSE NEIGHBOUR: 'it returns false'. Refute it at one input. -/
def dealRunsWrong : ChangeSpec := { name := "dealRuns", fn := fun _ => fun
  | [] => { results := [.lit (.bool false)], args := [] }
  | _ => none }
def DealRunsWrongFalsely : Prop := dealRunsRow.holds Try.pinned (OpenSpec.ofChange dealRunsWrong)

/-- 'draylaw6.DealTells': WHATEVER THE INPUT: true; the input reads as it did. -/
def dealTellsSpec : ChangeSpec := { name := "dealTells", fn := fun _ => fun
  | [d1, d2, d3] => { results := [.lit (.bool true)], args := [d1, d2, d3] }
  | _ => none }
def dealTellsRow : OpenClaim := { program := "ytofkhpcigjcegaa", sum := "d610742669086a2838b804a5c9567362a596d36231ab5be094850281454f5d00", func := "dray/draylaw6.DealTells", spec := "dealTells", apart := false }
def DealTellsSaid : Prop := dealTellsRow.holds Try.pinned (OpenSpec.ofChange dealTellsSpec)

/-- ITS FALSE NEIGHBOUR: 'it returns false'. Refute it at one input. -/
def dealTellsWrong : ChangeSpec := { name := "dealTells", fn := fun _ => fun
  | [d1, d2, d3] => { results := [.lit (.bool false)], args := [d1, d2, d3] }
  | _ => none }
def DealTellsWrongFalsely : Prop := dealTellsRow.holds Try.pinned (OpenSpec.ofChange dealTellsWrong)

/-- 'draylaw6.DealKnows': WHATEVER THE INPUT: true; the input reads as it did. -/
def dealKnowsSpec : ChangeSpec := { name := "dealKnows", fn := fun _ => fun
  | [d] => { results := [.lit (.bool true)], args := [d] }
  | _ => none }
def dealKnowsRow : OpenClaim := { program := "ytofkhpcigjcegaa", sum := "d610742669086a2838b804a5c9567362a596d36231ab5be094850281454f5d00", func := "dray/draylaw6.DealKnows", spec := "dealKnows", apart := false }
def DealKnowsSaid : Prop := dealKnowsRow.holds Try.pinned (OpenSpec.ofChange dealKnowsSpec)

/-- ITS FALSE NEIGHBOUR: 'it returns false'. Refute it at one input. -/
def dealKnowsWrong : ChangeSpec := { name := "dealKnows", fn := fun _ => fun
  | [d] => { results := [.lit (.bool false)], args := [d] }
  | _ => none }
def DealKnowsWrongFalsely : Prop := dealKnowsRow.holds Try.pinned (OpenSpec.ofChange dealKnowsWrong)

/-- 'draylaw6.DealMore': WHATEVER THE INPUT: true; the input reads as it did. -/
def dealMoreSpec : ChangeSpec := { name := "dealMore", fn := fun _ => fun
  | [d1, d2, d3, d4, d5] => { results := [.lit (.bool true)], args := [d1, d2, d3, d4, d5] }
  | _ => none }
def dealMoreRow : OpenClaim := { program := "ytofkhpcigjcegaa", sum := "d610742669086a2838b804a5c9567362a596d36231ab5be094850281454f5d00", func := "dray/draylaw6.DealMore", spec := "dealMore", apart := false }
def DealMoreSaid : Prop := dealMoreRow.holds Try.pinned (OpenSpec.ofChange dealMoreSpec)

/-- ITS FALSE NEIGHBOUR: 'it returns false'. Refute it at one input. -/
def dealMoreWrong : ChangeSpec := { name := "dealMore", fn := fun _ => fun
  | [d1, d2, d3, d4, d5] => { results := [.lit (.bool false)], args := [d1, d2, d3, d4, d5] }
  | _ => none }
def DealMoreWrongFalsely : Prop := dealMoreRow.holds Try.pinned (OpenSpec.ofChange dealMoreWrong)

/-- 'draylaw6.DealLater': WHATEVER THE INPUT: true; the input reads as it did. -/
def dealLaterSpec : ChangeSpec := { name := "dealLater", fn := fun _ => fun
  | [d1, d2, d3, d4, d5] => { results := [.lit (.bool true)], args := [d1, d2, d3, d4, d5] }
  | _ => none }
def dealLaterRow : OpenClaim := { program := "ytofkhpcigjcegaa", sum := "d610742669086a2838b804a5c9567362a596d36231ab5be094850281454f5d00", func := "dray/draylaw6.DealLater", spec := "dealLater", apart := false }
def DealLaterSaid : Prop := dealLaterRow.holds Try.pinned (OpenSpec.ofChange dealLaterSpec)

/-- ITS FALSE NEIGHBOUR: 'it returns false'. Refute it at one input. -/
def dealLaterWrong : ChangeSpec := { name := "dealLater", fn := fun _ => fun
  | [d1, d2, d3, d4, d5] => { results := [.lit (.bool false)], args := [d1, d2, d3, d4, d5] }
  | _ => none }
def DealLaterWrongFalsely : Prop := dealLaterRow.holds Try.pinned (OpenSpec.ofChange dealLaterWrong)

/- THE SECOND FORM. 'bulk': how many values and letters a reading holds, each counted each time it is reached (what is shared counts as often as it is met; a slice's spare places count too). A statement '..UptoSaid' is the law's where the arguments, and the package variables that the reading takes, are together of bulk at most 1048576: NARROWER than '..Said'. Prove '..Said' where nothing that the law and all that it calls make is longer than what came in: it says more and counts as full. Else prove '..UptoSaid'. A law counts once. -/
mutual
def uptoBulk {H : Type} : DataW H → Nat
  | .lit (.string bytes) => bytes.length + 1
  | .lit _ => 1
  | .nil => 1
  | .ptr d => uptoBulk d + 1
  | .slice elems spare => uptoBulkAll elems + uptoBulkAll spare + 1
  | .agg parts => uptoBulkAll parts + 1
  | .iface _ d => uptoBulk d + 1
  | .map entries => uptoBulkEntries entries + 1
  | .held _ => 1
def uptoBulkAll {H : Type} : List (DataW H) → Nat
  | [] => 0
  | d :: r => uptoBulk d + uptoBulkAll r
def uptoBulkEntries {H : Type} : List (Lit × DataW H) → Nat
  | [] => 0
  | x :: r => uptoBulkEntry x + uptoBulkEntries r
def uptoBulkEntry {H : Type} : Lit × DataW H → Nat
  | (.string bytes, d) => bytes.length + uptoBulk d + 1
  | (_, d) => uptoBulk d + 1
 end
def uptoSmall : (H : Type) → List (DataW H) → Bool := fun _ ds => decide (uptoBulkAll ds ≤ 1048576)
def OpenSpec.upto (s : _root_.Go.ChangeSpec) : _root_.Go.OpenSpec := { _root_.Go.OpenSpec.ofChange s with cond := some uptoSmall }

/-- 'draylaw6.DealRuns', WHERE WHAT IT READS IS OF BULK AT MOST 1048576: true; the input reads as it did. -/
def dealRunsUptoRow : OpenClaim := { program := "ytofkhpcigjcegaa", sum := "d610742669086a2838b804a5c9567362a596d36231ab5be094850281454f5d00", func := "dray/draylaw6.DealRuns", spec := "dealRuns", apart := false, narrowed := true }
def DealRunsUptoSaid : Prop := dealRunsUptoRow.holds Try.pinned (OpenSpec.upto dealRunsSpec)

/-- 'draylaw6.DealTells', WHERE WHAT IT READS IS OF BULK AT MOST 1048576: true; the input reads as it did. -/
def dealTellsUptoRow : OpenClaim := { program := "ytofkhpcigjcegaa", sum := "d610742669086a2838b804a5c9567362a596d36231ab5be094850281454f5d00", func := "dray/draylaw6.DealTells", spec := "dealTells", apart := false, narrowed := true }
def DealTellsUptoSaid : Prop := dealTellsUptoRow.holds Try.pinned (OpenSpec.upto dealTellsSpec)

/-- 'draylaw6.DealKnows', WHERE WHAT IT READS IS OF BULK AT MOST 1048576: true; the input reads as it did. -/
def dealKnowsUptoRow : OpenClaim := { program := "ytofkhpcigjcegaa", sum := "d610742669086a2838b804a5c9567362a596d36231ab5be094850281454f5d00", func := "dray/draylaw6.DealKnows", spec := "dealKnows", apart := false, narrowed := true }
def DealKnowsUptoSaid : Prop := dealKnowsUptoRow.holds Try.pinned (OpenSpec.upto dealKnowsSpec)

/-- 'draylaw6.DealMore', WHERE WHAT IT READS IS OF BULK AT MOST 1048576: true; the input reads as it did. -/
def dealMoreUptoRow : OpenClaim := { program := "ytofkhpcigjcegaa", sum := "d610742669086a2838b804a5c9567362a596d36231ab5be094850281454f5d00", func := "dray/draylaw6.DealMore", spec := "dealMore", apart := false, narrowed := true }
def DealMoreUptoSaid : Prop := dealMoreUptoRow.holds Try.pinned (OpenSpec.upto dealMoreSpec)

/-- 'draylaw6.DealLater', WHERE WHAT IT READS IS OF BULK AT MOST 1048576: true; the input reads as it did. -/
def dealLaterUptoRow : OpenClaim := { program := "ytofkhpcigjcegaa", sum := "d610742669086a2838b804a5c9567362a596d36231ab5be094850281454f5d00", func := "dray/draylaw6.DealLater", spec := "dealLater", apart := false, narrowed := true }
def DealLaterUptoSaid : Prop := dealLaterUptoRow.holds Try.pinned (OpenSpec.upto dealLaterSpec)

end Rows
end Go.Proofs.Ytofkhpcigjcegaa
