/-
  No cell of these rows narrows 'for every input' (looked for: loops, veiled, ifaces, maps, wideKeys, modest, calm, conditions, laid).
  DERIVED. THE GIVEN ROWS OF THIS SEAT. 7 by the template 'for every input the law returns true; each argument reads behind the call as it read before'; 0 by the template 'total and deterministic' (their statements: YtjkahookgoecpaaTotals.lean).
  GIVEN WITH THE SEED: the statements are not yours to turn. If you find one false, say at which input.
  Laid BY PROGRAM, IN A SANDBOX (cutbox-rows.mjs): the forced cells as the released guide's own fill.sh prints them over the translation 5b14f3f150cb9548… (all of the seat's roots in one cut). By AI agents, Wed Nov 11 2026. No macro, syntax, notation, axiom, sorry.
-/
import Derived.Test.YtjkahookgoecpaaChecked
import GoSem.Claim
import GoSem.ClaimJoined
import GoSem.ClaimMapViews
import Derived.JoinedTies
import Derived.KernelRfl
namespace Go.Proofs.Ytjkahookgoecpaa
/- THE CELL 'sum', in the pinned program and in every row, IS THE sha256 OF THE DUMP (.gsa) THAT YtjkahookgoecpaaProg.lean LOADS. Nothing in Lean hashes anything: it is a label: what it is worth is what the hold of that sum in a sandbox is worth. -/
noncomputable def Try.pinned : Pinned := { name := "ytjkahookgoecpaa", sum := "5b14f3f150cb95480fc2f317aa3357825c097b2498fe32a17e5fcaece7ea00fb", checked := Try.checked }
namespace Rows
def none {H : Type} : Left H := { results := [], args := [] }

/-- 'draylaw7.RouteRuns': WHATEVER THE INPUT: true; the input reads as it did. -/
def routeRunsSpec : ChangeSpec := { name := "routeRuns", fn := fun _ => fun
  | [] => { results := [.lit (.bool true)], args := [] }
  | _ => none }
def routeRunsRow : OpenClaim := { program := "ytjkahookgoecpaa", sum := "5b14f3f150cb95480fc2f317aa3357825c097b2498fe32a17e5fcaece7ea00fb", func := "dray/draylaw7.RouteRuns", spec := "routeRuns", apart := false }
def RouteRunsSaid : Prop := routeRunsRow.holds Try.pinned (OpenSpec.ofChange routeRunsSpec)

/-- ITS FALSE NEIGHBOUR: 'it returns false'. Refute it at one input. -/
def routeRunsWrong : ChangeSpec := { name := "routeRuns", fn := fun _ => fun
  | [] => { results := [.lit (.bool false)], args := [] }
  | _ => none }
def RouteRunsWrongFalsely : Prop := routeRunsRow.holds Try.pinned (OpenSpec.ofChange routeRunsWrong)

/-- 'draylaw7.RouteDrives': WHATEVER THE INPUT: true; the input reads as it did. -/
def routeDrivesSpec : ChangeSpec := { name := "routeDrives", fn := fun _ => fun
  | [d1, d2, d3] => { results := [.lit (.bool true)], args := [d1, d2, d3] }
  | _ => none }
def routeDrivesRow : OpenClaim := { program := "ytjkahookgoecpaa", sum := "5b14f3f150cb95480fc2f317aa3357825c097b2498fe32a17e5fcaece7ea00fb", func := "dray/draylaw7.RouteDrives", spec := "routeDrives", apart := false }
def RouteDrivesSaid : Prop := routeDrivesRow.holds Try.pinned (OpenSpec.ofChange routeDrivesSpec)

/-- ITS FALSE NEIGHBOUR: 'it returns false'. Refute it at one input. -/
def routeDrivesWrong : ChangeSpec := { name := "routeDrives", fn := fun _ => fun
  | [d1, d2, d3] => { results := [.lit (.bool false)], args := [d1, d2, d3] }
  | _ => none }
def RouteDrivesWrongFalsely : Prop := routeDrivesRow.holds Try.pinned (OpenSpec.ofChange routeDrivesWrong)

/-- 'draylaw7.RouteVisits': WHATEVER THE INPUT: true; the input reads as it did. -/
def routeVisitsSpec : ChangeSpec := { name := "routeVisits", fn := fun _ => fun
  | [d1, d2, d3] => { results := [.lit (.bool true)], args := [d1, d2, d3] }
  | _ => none }
def routeVisitsRow : OpenClaim := { program := "ytjkahookgoecpaa", sum := "5b14f3f150cb95480fc2f317aa3357825c097b2498fe32a17e5fcaece7ea00fb", func := "dray/draylaw7.RouteVisits", spec := "routeVisits", apart := false }
def RouteVisitsSaid : Prop := routeVisitsRow.holds Try.pinned (OpenSpec.ofChange routeVisitsSpec)

/-- ITS FALSE NEIGHBOUR: 'it returns false'. Refute it at one input. -/
def routeVisitsWrong : ChangeSpec := { name := "routeVisits", fn := fun _ => fun
  | [d1, d2, d3] => { results := [.lit (.bool false)], args := [d1, d2, d3] }
  | _ => none }
def RouteVisitsWrongFalsely : Prop := routeVisitsRow.holds Try.pinned (OpenSpec.ofChange routeVisitsWrong)

/-- 'draylaw7.RouteEarly': WHATEVER THE INPUT: true; the input reads as it did. -/
def routeEarlySpec : ChangeSpec := { name := "routeEarly", fn := fun _ => fun
  | [d1, d2, d3, d4] => { results := [.lit (.bool true)], args := [d1, d2, d3, d4] }
  | _ => none }
def routeEarlyRow : OpenClaim := { program := "ytjkahookgoecpaa", sum := "5b14f3f150cb95480fc2f317aa3357825c097b2498fe32a17e5fcaece7ea00fb", func := "dray/draylaw7.RouteEarly", spec := "routeEarly", apart := false }
def RouteEarlySaid : Prop := routeEarlyRow.holds Try.pinned (OpenSpec.ofChange routeEarlySpec)

/-- ITS FALSE NEIGHBOUR: 'it returns false'. Refute it at one input. -/
def routeEarlyWrong : ChangeSpec := { name := "routeEarly", fn := fun _ => fun
  | [d1, d2, d3, d4] => { results := [.lit (.bool false)], args := [d1, d2, d3, d4] }
  | _ => none }
def RouteEarlyWrongFalsely : Prop := routeEarlyRow.holds Try.pinned (OpenSpec.ofChange routeEarlyWrong)

/-- 'draylaw7.RouteLater': WHATEVER THE INPUT: true; the input reads as it did. -/
def routeLaterSpec : ChangeSpec := { name := "routeLater", fn := fun _ => fun
  | [d1, d2, d3, d4] => { results := [.lit (.bool true)], args := [d1, d2, d3, d4] }
  | _ => none }
def routeLaterRow : OpenClaim := { program := "ytjkahookgoecpaa", sum := "5b14f3f150cb95480fc2f317aa3357825c097b2498fe32a17e5fcaece7ea00fb", func := "dray/draylaw7.RouteLater", spec := "routeLater", apart := false }
def RouteLaterSaid : Prop := routeLaterRow.holds Try.pinned (OpenSpec.ofChange routeLaterSpec)

/-- ITS FALSE NEIGHBOUR: 'it returns false'. Refute it at one input. -/
def routeLaterWrong : ChangeSpec := { name := "routeLater", fn := fun _ => fun
  | [d1, d2, d3, d4] => { results := [.lit (.bool false)], args := [d1, d2, d3, d4] }
  | _ => none }
def RouteLaterWrongFalsely : Prop := routeLaterRow.holds Try.pinned (OpenSpec.ofChange routeLaterWrong)

/-- 'draylaw7.RouteListed': WHATEVER THE INPUT: true; the input reads as it did. -/
def routeListedSpec : ChangeSpec := { name := "routeListed", fn := fun _ => fun
  | [d1, d2, d3] => { results := [.lit (.bool true)], args := [d1, d2, d3] }
  | _ => none }
def routeListedRow : OpenClaim := { program := "ytjkahookgoecpaa", sum := "5b14f3f150cb95480fc2f317aa3357825c097b2498fe32a17e5fcaece7ea00fb", func := "dray/draylaw7.RouteListed", spec := "routeListed", apart := false }
def RouteListedSaid : Prop := routeListedRow.holds Try.pinned (OpenSpec.ofChange routeListedSpec)

/-- ITS FALSE NEIGHBOUR: 'it returns false'. Refute it at one input. -/
def routeListedWrong : ChangeSpec := { name := "routeListed", fn := fun _ => fun
  | [d1, d2, d3] => { results := [.lit (.bool false)], args := [d1, d2, d3] }
  | _ => none }
def RouteListedWrongFalsely : Prop := routeListedRow.holds Try.pinned (OpenSpec.ofChange routeListedWrong)

/-- 'draylaw7.RouteFaults': WHATEVER THE INPUT: true; the input reads as it did. -/
def routeFaultsSpec : ChangeSpec := { name := "routeFaults", fn := fun _ => fun
  | [d1, d2, d3, d4] => { results := [.lit (.bool true)], args := [d1, d2, d3, d4] }
  | _ => none }
def routeFaultsRow : OpenClaim := { program := "ytjkahookgoecpaa", sum := "5b14f3f150cb95480fc2f317aa3357825c097b2498fe32a17e5fcaece7ea00fb", func := "dray/draylaw7.RouteFaults", spec := "routeFaults", apart := false }
def RouteFaultsSaid : Prop := routeFaultsRow.holds Try.pinned (OpenSpec.ofChange routeFaultsSpec)

/-- ITS FALSE NEIGHBOUR: 'it returns false'. Refute it at one input. -/
def routeFaultsWrong : ChangeSpec := { name := "routeFaults", fn := fun _ => fun
  | [d1, d2, d3, d4] => { results := [.lit (.bool false)], args := [d1, d2, d3, d4] }
  | _ => none }
def RouteFaultsWrongFalsely : Prop := routeFaultsRow.holds Try.pinned (OpenSpec.ofChange routeFaultsWrong)

/- THE SECOND FORM. 'bulk': how many values and letters a reading holds, each counted each time it is reached (what is shared counts as often as it is met; a slice's spare places count too). A statement '..UptoSaid' is the law's where the arguments, and the package variables that the reading takes, are together of bulk at most 1048576: NARROWER than '..Said'. Prove '..Said' where nothing that the law and all that it calls make is longer than what came in: it says more and counts as full. Else prove '..UptoSaid'. A law counts once. -/
mutual
def uptoBulk {H : Type} : DataW H → Nat
  | .lit (.string bytes) => bytes.length + 1
  | .lit _ => 1
  | .nil => 1
  | .ptr d => uptoBulk d + 1
  | .slice elems spare => uptoBulkAll elems + uptoBulkAll spare + 1
  | .agg parts => uptoBulkAll parts + 1
  | .iface _ d => uptoBulk d + 1
  | .map entries => uptoBulkEntries entries + 1
  | .held _ => 1
def uptoBulkAll {H : Type} : List (DataW H) → Nat
  | [] => 0
  | d :: r => uptoBulk d + uptoBulkAll r
def uptoBulkEntries {H : Type} : List (Lit × DataW H) → Nat
  | [] => 0
  | x :: r => uptoBulkEntry x + uptoBulkEntries r
def uptoBulkEntry {H : Type} : Lit × DataW H → Nat
  | (.string bytes, d) => bytes.length + uptoBulk d + 1
  | (_, d) => uptoBulk d + 1
 end
def uptoSmall : (H : Type) → List (DataW H) → Bool := fun _ ds => decide (uptoBulkAll ds ≤ 1048576)
def OpenSpec.upto (s : _root_.Go.ChangeSpec) : _root_.Go.OpenSpec := { _root_.Go.OpenSpec.ofChange s with cond := some uptoSmall }

/-- 'draylaw7.RouteRuns', WHERE WHAT IT READS IS OF BULK AT MOST 1048576: true; the input reads as it did. -/
def routeRunsUptoRow : OpenClaim := { program := "ytjkahookgoecpaa", sum := "5b14f3f150cb95480fc2f317aa3357825c097b2498fe32a17e5fcaece7ea00fb", func := "dray/draylaw7.RouteRuns", spec := "routeRuns", apart := false, narrowed := true }
def RouteRunsUptoSaid : Prop := routeRunsUptoRow.holds Try.pinned (OpenSpec.upto routeRunsSpec)

/-- 'draylaw7.RouteDrives', WHERE WHAT IT READS IS OF BULK AT MOST 1048576: true; the input reads as it did. -/
def routeDrivesUptoRow : OpenClaim := { program := "ytjkahookgoecpaa", sum := "5b14f3f150cb95480fc2f317aa3357825c097b2498fe32a17e5fcaece7ea00fb", func := "dray/draylaw7.RouteDrives", spec := "routeDrives", apart := false, narrowed := true }
def RouteDrivesUptoSaid : Prop := routeDrivesUptoRow.holds Try.pinned (OpenSpec.upto routeDrivesSpec)

/-- 'draylaw7.RouteVisits', WHERE WHAT IT READS IS OF BULK AT MOST 1048576: true; the input reads as it did. -/
def routeVisitsUptoRow : OpenClaim := { program := "ytjkahookgoecpaa", sum := "5b14f3f150cb95480fc2f317aa3357825c097b2498fe32a17e5fcaece7ea00fb", func := "dray/draylaw7.RouteVisits", spec := "routeVisits", apart := false, narrowed := true }
def RouteVisitsUptoSaid : Prop := routeVisitsUptoRow.holds Try.pinned (OpenSpec.upto routeVisitsSpec)

/-- 'draylaw7.RouteEarly', WHERE WHAT IT READS IS OF BULK AT MOST 1048576: true; the input reads as it did. -/
def routeEarlyUptoRow : OpenClaim := { program := "ytjkahookgoecpaa", sum := "5b14f3f150cb95480fc2f317aa3357825c097b2498fe32a17e5fcaece7ea00fb", func := "dray/draylaw7.RouteEarly", spec := "routeEarly", apart := false, narrowed := true }
def RouteEarlyUptoSaid : Prop := routeEarlyUptoRow.holds Try.pinned (OpenSpec.upto routeEarlySpec)

/-- 'draylaw7.RouteLater', WHERE WHAT IT READS IS OF BULK AT MOST 1048576: true; the input reads as it did. -/
def routeLaterUptoRow : OpenClaim := { program := "ytjkahookgoecpaa", sum := "5b14f3f150cb95480fc2f317aa3357825c097b2498fe32a17e5fcaece7ea00fb", func := "dray/draylaw7.RouteLater", spec := "routeLater", apart := false, narrowed := true }
def RouteLaterUptoSaid : Prop := routeLaterUptoRow.holds Try.pinned (OpenSpec.upto routeLaterSpec)

/-- 'draylaw7.RouteListed', WHERE WHAT IT READS IS OF BULK AT MOST 1048576: true; the input reads as it did. -/
def routeListedUptoRow : OpenClaim := { program := "ytjkahookgoecpaa", sum := "5b14f3f150cb95480fc2f317aa3357825c097b2498fe32a17e5fcaece7ea00fb", func := "dray/draylaw7.RouteListed", spec := "routeListed", apart := false, narrowed := true }
def RouteListedUptoSaid : Prop := routeListedUptoRow.holds Try.pinned (OpenSpec.upto routeListedSpec)

/-- 'draylaw7.RouteFaults', WHERE WHAT IT READS IS OF BULK AT MOST 1048576: true; the input reads as it did. -/
def routeFaultsUptoRow : OpenClaim := { program := "ytjkahookgoecpaa", sum := "5b14f3f150cb95480fc2f317aa3357825c097b2498fe32a17e5fcaece7ea00fb", func := "dray/draylaw7.RouteFaults", spec := "routeFaults", apart := false, narrowed := true }
def RouteFaultsUptoSaid : Prop := routeFaultsUptoRow.holds Try.pinned (OpenSpec.upto routeFaultsSpec)

end Rows
end Go.Proofs.Ytjkahookgoecpaa
