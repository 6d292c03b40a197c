/-
  No cell of these rows narrows 'for every input' (looked for: loops, veiled, ifaces, maps, wideKeys, modest, calm, conditions, laid).
  DERIVED. THE GIVEN ROWS OF THIS SEAT. 6 by the template 'for every input the law returns true; each argument reads behind the call as it read before'; 0 by the template 'total and deterministic' (their statements: YtobcmlcmbnldlaaTotals.lean).
  GIVEN WITH THE SEED: the statements are not yours to turn. If you find one false, say at which input.
  Laid BY PROGRAM, IN A SANDBOX (cutbox-rows.mjs): the forced cells as the released guide's own fill.sh prints them over the translation 1332cfc9e46df5da… (all of the seat's roots in one cut). By AI agents, Wed Nov 11 2026. No macro, syntax, notation, axiom, sorry.
-/
import Derived.Test.YtobcmlcmbnldlaaChecked
import GoSem.Claim
import GoSem.ClaimJoined
import GoSem.ClaimMapViews
import Derived.JoinedTies
import Derived.KernelRfl
namespace Go.Proofs.Ytobcmlcmbnldlaa
/- THE CELL 'sum', in the pinned program and in every row, IS THE sha256 OF THE DUMP (.gsa) THAT YtobcmlcmbnldlaaProg.lean LOADS. Nothing in Lean hashes anything: it is a label: what it is worth is what the hold of that sum in a sandbox is worth. -/
noncomputable def Try.pinned : Pinned := { name := "ytobcmlcmbnldlaa", sum := "1332cfc9e46df5da7ecc77c380903e126f343529770eb9d5e4b6d760cb2c53b0", checked := Try.checked }
namespace Rows
def none {H : Type} : Left H := { results := [], args := [] }

/-- 'draylaw8.SlackRuns': WHATEVER THE INPUT: true; the input reads as it did. -/
def slackRunsSpec : ChangeSpec := { name := "slackRuns", fn := fun _ => fun
  | [] => { results := [.lit (.bool true)], args := [] }
  | _ => none }
def slackRunsRow : OpenClaim := { program := "ytobcmlcmbnldlaa", sum := "1332cfc9e46df5da7ecc77c380903e126f343529770eb9d5e4b6d760cb2c53b0", func := "dray/draylaw8.SlackRuns", spec := "slackRuns", unfollowed := true, recurses := true, apart := false }
def SlackRunsSaid : Prop := slackRunsRow.holds Try.pinned (OpenSpec.ofChange slackRunsSpec)

/-- ITS FALSE NEIGHBOUR: 'it returns false'. Refute it at one input. -/
def slackRunsWrong : ChangeSpec := { name := "slackRuns", fn := fun _ => fun
  | [] => { results := [.lit (.bool false)], args := [] }
  | _ => none }
def SlackRunsWrongFalsely : Prop := slackRunsRow.holds Try.pinned (OpenSpec.ofChange slackRunsWrong)

/-- 'draylaw8.SlackTells': WHATEVER THE INPUT: true; the input reads as it did. -/
def slackTellsSpec : ChangeSpec := { name := "slackTells", fn := fun _ => fun
  | [d1, d2, d3] => { results := [.lit (.bool true)], args := [d1, d2, d3] }
  | _ => none }
def slackTellsRow : OpenClaim := { program := "ytobcmlcmbnldlaa", sum := "1332cfc9e46df5da7ecc77c380903e126f343529770eb9d5e4b6d760cb2c53b0", func := "dray/draylaw8.SlackTells", spec := "slackTells", unfollowed := true, recurses := true, apart := false }
def SlackTellsSaid : Prop := slackTellsRow.holds Try.pinned (OpenSpec.ofChange slackTellsSpec)

/-- ITS FALSE NEIGHBOUR: 'it returns false'. Refute it at one input. -/
def slackTellsWrong : ChangeSpec := { name := "slackTells", fn := fun _ => fun
  | [d1, d2, d3] => { results := [.lit (.bool false)], args := [d1, d2, d3] }
  | _ => none }
def SlackTellsWrongFalsely : Prop := slackTellsRow.holds Try.pinned (OpenSpec.ofChange slackTellsWrong)

/-- 'draylaw8.SlackPuts': WHATEVER THE INPUT: true; the input reads as it did. -/
def slackPutsSpec : ChangeSpec := { name := "slackPuts", fn := fun _ => fun
  | [d1, d2, d3, d4] => { results := [.lit (.bool true)], args := [d1, d2, d3, d4] }
  | _ => none }
def slackPutsRow : OpenClaim := { program := "ytobcmlcmbnldlaa", sum := "1332cfc9e46df5da7ecc77c380903e126f343529770eb9d5e4b6d760cb2c53b0", func := "dray/draylaw8.SlackPuts", spec := "slackPuts", unfollowed := true, recurses := true, apart := false }
def SlackPutsSaid : Prop := slackPutsRow.holds Try.pinned (OpenSpec.ofChange slackPutsSpec)

/-- ITS FALSE NEIGHBOUR: 'it returns false'. Refute it at one input. -/
def slackPutsWrong : ChangeSpec := { name := "slackPuts", fn := fun _ => fun
  | [d1, d2, d3, d4] => { results := [.lit (.bool false)], args := [d1, d2, d3, d4] }
  | _ => none }
def SlackPutsWrongFalsely : Prop := slackPutsRow.holds Try.pinned (OpenSpec.ofChange slackPutsWrong)

/-- 'draylaw8.SlackFits': WHATEVER THE INPUT: true; the input reads as it did. -/
def slackFitsSpec : ChangeSpec := { name := "slackFits", fn := fun _ => fun
  | [d1, d2, d3, d4, d5] => { results := [.lit (.bool true)], args := [d1, d2, d3, d4, d5] }
  | _ => none }
def slackFitsRow : OpenClaim := { program := "ytobcmlcmbnldlaa", sum := "1332cfc9e46df5da7ecc77c380903e126f343529770eb9d5e4b6d760cb2c53b0", func := "dray/draylaw8.SlackFits", spec := "slackFits", unfollowed := true, recurses := true, apart := false }
def SlackFitsSaid : Prop := slackFitsRow.holds Try.pinned (OpenSpec.ofChange slackFitsSpec)

/-- ITS FALSE NEIGHBOUR: 'it returns false'. Refute it at one input. -/
def slackFitsWrong : ChangeSpec := { name := "slackFits", fn := fun _ => fun
  | [d1, d2, d3, d4, d5] => { results := [.lit (.bool false)], args := [d1, d2, d3, d4, d5] }
  | _ => none }
def SlackFitsWrongFalsely : Prop := slackFitsRow.holds Try.pinned (OpenSpec.ofChange slackFitsWrong)

/-- 'draylaw8.SlackAll': WHATEVER THE INPUT: true; the input reads as it did. -/
def slackAllSpec : ChangeSpec := { name := "slackAll", fn := fun _ => fun
  | [d1, d2, d3, d4] => { results := [.lit (.bool true)], args := [d1, d2, d3, d4] }
  | _ => none }
def slackAllRow : OpenClaim := { program := "ytobcmlcmbnldlaa", sum := "1332cfc9e46df5da7ecc77c380903e126f343529770eb9d5e4b6d760cb2c53b0", func := "dray/draylaw8.SlackAll", spec := "slackAll", unfollowed := true, recurses := true, apart := false }
def SlackAllSaid : Prop := slackAllRow.holds Try.pinned (OpenSpec.ofChange slackAllSpec)

/-- ITS FALSE NEIGHBOUR: 'it returns false'. Refute it at one input. -/
def slackAllWrong : ChangeSpec := { name := "slackAll", fn := fun _ => fun
  | [d1, d2, d3, d4] => { results := [.lit (.bool false)], args := [d1, d2, d3, d4] }
  | _ => none }
def SlackAllWrongFalsely : Prop := slackAllRow.holds Try.pinned (OpenSpec.ofChange slackAllWrong)

/-- 'draylaw8.SlackLimit': WHATEVER THE INPUT: true; the input reads as it did. -/
def slackLimitSpec : ChangeSpec := { name := "slackLimit", fn := fun _ => fun
  | [d1, d2, d3, d4, d5] => { results := [.lit (.bool true)], args := [d1, d2, d3, d4, d5] }
  | _ => none }
def slackLimitRow : OpenClaim := { program := "ytobcmlcmbnldlaa", sum := "1332cfc9e46df5da7ecc77c380903e126f343529770eb9d5e4b6d760cb2c53b0", func := "dray/draylaw8.SlackLimit", spec := "slackLimit", unfollowed := true, recurses := true, apart := false }
def SlackLimitSaid : Prop := slackLimitRow.holds Try.pinned (OpenSpec.ofChange slackLimitSpec)

/-- ITS FALSE NEIGHBOUR: 'it returns false'. Refute it at one input. -/
def slackLimitWrong : ChangeSpec := { name := "slackLimit", fn := fun _ => fun
  | [d1, d2, d3, d4, d5] => { results := [.lit (.bool false)], args := [d1, d2, d3, d4, d5] }
  | _ => none }
def SlackLimitWrongFalsely : Prop := slackLimitRow.holds Try.pinned (OpenSpec.ofChange slackLimitWrong)

/- THE SECOND FORM. 'bulk': how many values and letters a reading holds, each counted each time it is reached (what is shared counts as often as it is met; a slice's spare places count too). A statement '..UptoSaid' is the law's where the arguments, and the package variables that the reading takes, are together of bulk at most 1048576: NARROWER than '..Said'. Prove '..Said' where nothing that the law and all that it calls make is longer than what came in: it says more and counts as full. Else prove '..UptoSaid'. A law counts once. -/
mutual
def uptoBulk {H : Type} : DataW H → Nat
  | .lit (.string bytes) => bytes.length + 1
  | .lit _ => 1
  | .nil => 1
  | .ptr d => uptoBulk d + 1
  | .slice elems spare => uptoBulkAll elems + uptoBulkAll spare + 1
  | .agg parts => uptoBulkAll parts + 1
  | .iface _ d => uptoBulk d + 1
  | .map entries => uptoBulkEntries entries + 1
  | .held _ => 1
def uptoBulkAll {H : Type} : List (DataW H) → Nat
  | [] => 0
  | d :: r => uptoBulk d + uptoBulkAll r
def uptoBulkEntries {H : Type} : List (Lit × DataW H) → Nat
  | [] => 0
  | x :: r => uptoBulkEntry x + uptoBulkEntries r
def uptoBulkEntry {H : Type} : Lit × DataW H → Nat
  | (.string bytes, d) => bytes.length + uptoBulk d + 1
  | (_, d) => uptoBulk d + 1
 end
def uptoSmall : (H : Type) → List (DataW H) → Bool := fun _ ds => decide (uptoBulkAll ds ≤ 1048576)
def OpenSpec.upto (s : _root_.Go.ChangeSpec) : _root_.Go.OpenSpec := { _root_.Go.OpenSpec.ofChange s with cond := some uptoSmall }

/-- 'draylaw8.SlackRuns', WHERE WHAT IT READS IS OF BULK AT MOST 1048576: true; the input reads as it did. -/
def slackRunsUptoRow : OpenClaim := { program := "ytobcmlcmbnldlaa", sum := "1332cfc9e46df5da7ecc77c380903e126f343529770eb9d5e4b6d760cb2c53b0", func := "dray/draylaw8.SlackRuns", spec := "slackRuns", unfollowed := true, recurses := true, apart := false, narrowed := true }
def SlackRunsUptoSaid : Prop := slackRunsUptoRow.holds Try.pinned (OpenSpec.upto slackRunsSpec)

/-- 'draylaw8.SlackTells', WHERE WHAT IT READS IS OF BULK AT MOST 1048576: true; the input reads as it did. -/
def slackTellsUptoRow : OpenClaim := { program := "ytobcmlcmbnldlaa", sum := "1332cfc9e46df5da7ecc77c380903e126f343529770eb9d5e4b6d760cb2c53b0", func := "dray/draylaw8.SlackTells", spec := "slackTells", unfollowed := true, recurses := true, apart := false, narrowed := true }
def SlackTellsUptoSaid : Prop := slackTellsUptoRow.holds Try.pinned (OpenSpec.upto slackTellsSpec)

/-- 'draylaw8.SlackPuts', WHERE WHAT IT READS IS OF BULK AT MOST 1048576: true; the input reads as it did. -/
def slackPutsUptoRow : OpenClaim := { program := "ytobcmlcmbnldlaa", sum := "1332cfc9e46df5da7ecc77c380903e126f343529770eb9d5e4b6d760cb2c53b0", func := "dray/draylaw8.SlackPuts", spec := "slackPuts", unfollowed := true, recurses := true, apart := false, narrowed := true }
def SlackPutsUptoSaid : Prop := slackPutsUptoRow.holds Try.pinned (OpenSpec.upto slackPutsSpec)

/-- 'draylaw8.SlackFits', WHERE WHAT IT READS IS OF BULK AT MOST 1048576: true; the input reads as it did. -/
def slackFitsUptoRow : OpenClaim := { program := "ytobcmlcmbnldlaa", sum := "1332cfc9e46df5da7ecc77c380903e126f343529770eb9d5e4b6d760cb2c53b0", func := "dray/draylaw8.SlackFits", spec := "slackFits", unfollowed := true, recurses := true, apart := false, narrowed := true }
def SlackFitsUptoSaid : Prop := slackFitsUptoRow.holds Try.pinned (OpenSpec.upto slackFitsSpec)

/-- 'draylaw8.SlackAll', WHERE WHAT IT READS IS OF BULK AT MOST 1048576: true; the input reads as it did. -/
def slackAllUptoRow : OpenClaim := { program := "ytobcmlcmbnldlaa", sum := "1332cfc9e46df5da7ecc77c380903e126f343529770eb9d5e4b6d760cb2c53b0", func := "dray/draylaw8.SlackAll", spec := "slackAll", unfollowed := true, recurses := true, apart := false, narrowed := true }
def SlackAllUptoSaid : Prop := slackAllUptoRow.holds Try.pinned (OpenSpec.upto slackAllSpec)

/-- 'draylaw8.SlackLimit', WHERE WHAT IT READS IS OF BULK AT MOST 1048576: true; the input reads as it did. -/
def slackLimitUptoRow : OpenClaim := { program := "ytobcmlcmbnldlaa", sum := "1332cfc9e46df5da7ecc77c380903e126f343529770eb9d5e4b6d760cb2c53b0", func := "dray/draylaw8.SlackLimit", spec := "slackLimit", unfollowed := true, recurses := true, apart := false, narrowed := true }
def SlackLimitUptoSaid : Prop := slackLimitUptoRow.holds Try.pinned (OpenSpec.upto slackLimitSpec)

end Rows
end Go.Proofs.Ytobcmlcmbnldlaa
