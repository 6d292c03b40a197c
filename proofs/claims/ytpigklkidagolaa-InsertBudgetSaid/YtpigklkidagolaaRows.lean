/-
  No cell of these rows narrows 'for every input' (looked for: loops, veiled, ifaces, maps, wideKeys, modest, calm, conditions, laid).
  DERIVED. THE GIVEN ROWS OF THIS SEAT. 7 by the template 'for every input the law returns true; each argument reads behind the call as it read before'; 0 by the template 'total and deterministic' (their statements: YtpigklkidagolaaTotals.lean).
  GIVEN WITH THE SEED: the statements are not yours to turn. If you find one false, say at which input.
  Laid BY PROGRAM, IN A SANDBOX (cutbox-rows.mjs): the forced cells as the released guide's own fill.sh prints them over the translation 763b666170c202d1… (all of the seat's roots in one cut). By AI agents, Wed Nov 11 2026. No macro, syntax, notation, axiom, sorry.
-/
import Derived.Test.YtpigklkidagolaaChecked
import GoSem.Claim
import GoSem.ClaimJoined
import GoSem.ClaimMapViews
import Derived.JoinedTies
import Derived.KernelRfl
namespace Go.Proofs.Ytpigklkidagolaa
/- THE CELL 'sum', in the pinned program and in every row, IS THE sha256 OF THE DUMP (.gsa) THAT YtpigklkidagolaaProg.lean LOADS. Nothing in Lean hashes anything: it is a label: what it is worth is what the hold of that sum in a sandbox is worth. -/
noncomputable def Try.pinned : Pinned := { name := "ytpigklkidagolaa", sum := "763b666170c202d1edb3c5aa5ee99fcf3e726cfbe8da3d17aa542ccec3e9e825", checked := Try.checked }
namespace Rows
def none {H : Type} : Left H := { results := [], args := [] }

/-- 'draylaw12.InsertRuns': WHATEVER THE INPUT: true; the input reads as it did. -/
def insertRunsSpec : ChangeSpec := { name := "insertRuns", fn := fun _ => fun
  | [] => { results := [.lit (.bool true)], args := [] }
  | _ => none }
def insertRunsRow : OpenClaim := { program := "ytpigklkidagolaa", sum := "763b666170c202d1edb3c5aa5ee99fcf3e726cfbe8da3d17aa542ccec3e9e825", func := "dray/draylaw12.InsertRuns", spec := "insertRuns", unfollowed := true, recurses := true, plainKeys := false, apart := false }
def InsertRunsSaid : Prop := insertRunsRow.holds Try.pinned (OpenSpec.ofChange insertRunsSpec)

/-- ITS FALSE NEIGHBOUR: 'it returns false'. Refute it at one input. -/
def insertRunsWrong : ChangeSpec := { name := "insertRuns", fn := fun _ => fun
  | [] => { results := [.lit (.bool false)], args := [] }
  | _ => none }
def InsertRunsWrongFalsely : Prop := insertRunsRow.holds Try.pinned (OpenSpec.ofChange insertRunsWrong)

/-- 'draylaw12.InsertBest': WHATEVER THE INPUT: true; the input reads as it did. -/
def insertBestSpec : ChangeSpec := { name := "insertBest", fn := fun _ => fun
  | [d1, d2, d3, d4, d5] => { results := [.lit (.bool true)], args := [d1, d2, d3, d4, d5] }
  | _ => none }
def insertBestRow : OpenClaim := { program := "ytpigklkidagolaa", sum := "763b666170c202d1edb3c5aa5ee99fcf3e726cfbe8da3d17aa542ccec3e9e825", func := "dray/draylaw12.InsertBest", spec := "insertBest", unfollowed := true, recurses := true, plainKeys := false, apart := false }
def InsertBestSaid : Prop := insertBestRow.holds Try.pinned (OpenSpec.ofChange insertBestSpec)

/-- ITS FALSE NEIGHBOUR: 'it returns false'. Refute it at one input. -/
def insertBestWrong : ChangeSpec := { name := "insertBest", fn := fun _ => fun
  | [d1, d2, d3, d4, d5] => { results := [.lit (.bool false)], args := [d1, d2, d3, d4, d5] }
  | _ => none }
def InsertBestWrongFalsely : Prop := insertBestRow.holds Try.pinned (OpenSpec.ofChange insertBestWrong)

/-- 'draylaw12.InsertCheapest': WHATEVER THE INPUT: true; the input reads as it did. -/
def insertCheapestSpec : ChangeSpec := { name := "insertCheapest", fn := fun _ => fun
  | [d1, d2, d3] => { results := [.lit (.bool true)], args := [d1, d2, d3] }
  | _ => none }
def insertCheapestRow : OpenClaim := { program := "ytpigklkidagolaa", sum := "763b666170c202d1edb3c5aa5ee99fcf3e726cfbe8da3d17aa542ccec3e9e825", func := "dray/draylaw12.InsertCheapest", spec := "insertCheapest", unfollowed := true, recurses := true, plainKeys := false, apart := false }
def InsertCheapestSaid : Prop := insertCheapestRow.holds Try.pinned (OpenSpec.ofChange insertCheapestSpec)

/-- ITS FALSE NEIGHBOUR: 'it returns false'. Refute it at one input. -/
def insertCheapestWrong : ChangeSpec := { name := "insertCheapest", fn := fun _ => fun
  | [d1, d2, d3] => { results := [.lit (.bool false)], args := [d1, d2, d3] }
  | _ => none }
def InsertCheapestWrongFalsely : Prop := insertCheapestRow.holds Try.pinned (OpenSpec.ofChange insertCheapestWrong)

/-- 'draylaw12.InsertLeast': WHATEVER THE INPUT: true; the input reads as it did. -/
def insertLeastSpec : ChangeSpec := { name := "insertLeast", fn := fun _ => fun
  | [d1, d2, d3, d4] => { results := [.lit (.bool true)], args := [d1, d2, d3, d4] }
  | _ => none }
def insertLeastRow : OpenClaim := { program := "ytpigklkidagolaa", sum := "763b666170c202d1edb3c5aa5ee99fcf3e726cfbe8da3d17aa542ccec3e9e825", func := "dray/draylaw12.InsertLeast", spec := "insertLeast", unfollowed := true, recurses := true, plainKeys := false, apart := false }
def InsertLeastSaid : Prop := insertLeastRow.holds Try.pinned (OpenSpec.ofChange insertLeastSpec)

/-- ITS FALSE NEIGHBOUR: 'it returns false'. Refute it at one input. -/
def insertLeastWrong : ChangeSpec := { name := "insertLeast", fn := fun _ => fun
  | [d1, d2, d3, d4] => { results := [.lit (.bool false)], args := [d1, d2, d3, d4] }
  | _ => none }
def InsertLeastWrongFalsely : Prop := insertLeastRow.holds Try.pinned (OpenSpec.ofChange insertLeastWrong)

/-- 'draylaw12.InsertBudget': WHATEVER THE INPUT: true; the input reads as it did. -/
def insertBudgetSpec : ChangeSpec := { name := "insertBudget", fn := fun _ => fun
  | [d1, d2, d3, d4] => { results := [.lit (.bool true)], args := [d1, d2, d3, d4] }
  | _ => none }
def insertBudgetRow : OpenClaim := { program := "ytpigklkidagolaa", sum := "763b666170c202d1edb3c5aa5ee99fcf3e726cfbe8da3d17aa542ccec3e9e825", func := "dray/draylaw12.InsertBudget", spec := "insertBudget", unfollowed := true, recurses := true, plainKeys := false, apart := false }
def InsertBudgetSaid : Prop := insertBudgetRow.holds Try.pinned (OpenSpec.ofChange insertBudgetSpec)

/-- ITS FALSE NEIGHBOUR: 'it returns false'. Refute it at one input. -/
def insertBudgetWrong : ChangeSpec := { name := "insertBudget", fn := fun _ => fun
  | [d1, d2, d3, d4] => { results := [.lit (.bool false)], args := [d1, d2, d3, d4] }
  | _ => none }
def InsertBudgetWrongFalsely : Prop := insertBudgetRow.holds Try.pinned (OpenSpec.ofChange insertBudgetWrong)

/-- 'draylaw12.InsertFits': WHATEVER THE INPUT: true; the input reads as it did. -/
def insertFitsSpec : ChangeSpec := { name := "insertFits", fn := fun _ => fun
  | [d1, d2] => { results := [.lit (.bool true)], args := [d1, d2] }
  | _ => none }
def insertFitsRow : OpenClaim := { program := "ytpigklkidagolaa", sum := "763b666170c202d1edb3c5aa5ee99fcf3e726cfbe8da3d17aa542ccec3e9e825", func := "dray/draylaw12.InsertFits", spec := "insertFits", unfollowed := true, recurses := true, plainKeys := false, apart := false }
def InsertFitsSaid : Prop := insertFitsRow.holds Try.pinned (OpenSpec.ofChange insertFitsSpec)

/-- ITS FALSE NEIGHBOUR: 'it returns false'. Refute it at one input. -/
def insertFitsWrong : ChangeSpec := { name := "insertFits", fn := fun _ => fun
  | [d1, d2] => { results := [.lit (.bool false)], args := [d1, d2] }
  | _ => none }
def InsertFitsWrongFalsely : Prop := insertFitsRow.holds Try.pinned (OpenSpec.ofChange insertFitsWrong)

/-- 'draylaw12.InsertDrivers': WHATEVER THE INPUT: true; the input reads as it did. -/
def insertDriversSpec : ChangeSpec := { name := "insertDrivers", fn := fun _ => fun
  | [d1, d2] => { results := [.lit (.bool true)], args := [d1, d2] }
  | _ => none }
def insertDriversRow : OpenClaim := { program := "ytpigklkidagolaa", sum := "763b666170c202d1edb3c5aa5ee99fcf3e726cfbe8da3d17aa542ccec3e9e825", func := "dray/draylaw12.InsertDrivers", spec := "insertDrivers", unfollowed := true, recurses := true, plainKeys := false, apart := false }
def InsertDriversSaid : Prop := insertDriversRow.holds Try.pinned (OpenSpec.ofChange insertDriversSpec)

/-- ITS FALSE NEIGHBOUR: 'it returns false'. Refute it at one input. -/
def insertDriversWrong : ChangeSpec := { name := "insertDrivers", fn := fun _ => fun
  | [d1, d2] => { results := [.lit (.bool false)], args := [d1, d2] }
  | _ => none }
def InsertDriversWrongFalsely : Prop := insertDriversRow.holds Try.pinned (OpenSpec.ofChange insertDriversWrong)

/- THE SECOND FORM. 'bulk': how many values and letters a reading holds, each counted each time it is reached (what is shared counts as often as it is met; a slice's spare places count too). A statement '..UptoSaid' is the law's where the arguments, and the package variables that the reading takes, are together of bulk at most 1048576: NARROWER than '..Said'. Prove '..Said' where nothing that the law and all that it calls make is longer than what came in: it says more and counts as full. Else prove '..UptoSaid'. A law counts once. -/
mutual
def uptoBulk {H : Type} : DataW H → Nat
  | .lit (.string bytes) => bytes.length + 1
  | .lit _ => 1
  | .nil => 1
  | .ptr d => uptoBulk d + 1
  | .slice elems spare => uptoBulkAll elems + uptoBulkAll spare + 1
  | .agg parts => uptoBulkAll parts + 1
  | .iface _ d => uptoBulk d + 1
  | .map entries => uptoBulkEntries entries + 1
  | .held _ => 1
def uptoBulkAll {H : Type} : List (DataW H) → Nat
  | [] => 0
  | d :: r => uptoBulk d + uptoBulkAll r
def uptoBulkEntries {H : Type} : List (Lit × DataW H) → Nat
  | [] => 0
  | x :: r => uptoBulkEntry x + uptoBulkEntries r
def uptoBulkEntry {H : Type} : Lit × DataW H → Nat
  | (.string bytes, d) => bytes.length + uptoBulk d + 1
  | (_, d) => uptoBulk d + 1
 end
def uptoSmall : (H : Type) → List (DataW H) → Bool := fun _ ds => decide (uptoBulkAll ds ≤ 1048576)
def OpenSpec.upto (s : _root_.Go.ChangeSpec) : _root_.Go.OpenSpec := { _root_.Go.OpenSpec.ofChange s with cond := some uptoSmall }

/-- 'draylaw12.InsertRuns', WHERE WHAT IT READS IS OF BULK AT MOST 1048576: true; the input reads as it did. -/
def insertRunsUptoRow : OpenClaim := { program := "ytpigklkidagolaa", sum := "763b666170c202d1edb3c5aa5ee99fcf3e726cfbe8da3d17aa542ccec3e9e825", func := "dray/draylaw12.InsertRuns", spec := "insertRuns", unfollowed := true, recurses := true, plainKeys := false, apart := false, narrowed := true }
def InsertRunsUptoSaid : Prop := insertRunsUptoRow.holds Try.pinned (OpenSpec.upto insertRunsSpec)

/-- 'draylaw12.InsertBest', WHERE WHAT IT READS IS OF BULK AT MOST 1048576: true; the input reads as it did. -/
def insertBestUptoRow : OpenClaim := { program := "ytpigklkidagolaa", sum := "763b666170c202d1edb3c5aa5ee99fcf3e726cfbe8da3d17aa542ccec3e9e825", func := "dray/draylaw12.InsertBest", spec := "insertBest", unfollowed := true, recurses := true, plainKeys := false, apart := false, narrowed := true }
def InsertBestUptoSaid : Prop := insertBestUptoRow.holds Try.pinned (OpenSpec.upto insertBestSpec)

/-- 'draylaw12.InsertCheapest', WHERE WHAT IT READS IS OF BULK AT MOST 1048576: true; the input reads as it did. -/
def insertCheapestUptoRow : OpenClaim := { program := "ytpigklkidagolaa", sum := "763b666170c202d1edb3c5aa5ee99fcf3e726cfbe8da3d17aa542ccec3e9e825", func := "dray/draylaw12.InsertCheapest", spec := "insertCheapest", unfollowed := true, recurses := true, plainKeys := false, apart := false, narrowed := true }
def InsertCheapestUptoSaid : Prop := insertCheapestUptoRow.holds Try.pinned (OpenSpec.upto insertCheapestSpec)

/-- 'draylaw12.InsertLeast', WHERE WHAT IT READS IS OF BULK AT MOST 1048576: true; the input reads as it did. -/
def insertLeastUptoRow : OpenClaim := { program := "ytpigklkidagolaa", sum := "763b666170c202d1edb3c5aa5ee99fcf3e726cfbe8da3d17aa542ccec3e9e825", func := "dray/draylaw12.InsertLeast", spec := "insertLeast", unfollowed := true, recurses := true, plainKeys := false, apart := false, narrowed := true }
def InsertLeastUptoSaid : Prop := insertLeastUptoRow.holds Try.pinned (OpenSpec.upto insertLeastSpec)

/-- 'draylaw12.InsertBudget', WHERE WHAT IT READS IS OF BULK AT MOST 1048576: true; the input reads as it did. -/
def insertBudgetUptoRow : OpenClaim := { program := "ytpigklkidagolaa", sum := "763b666170c202d1edb3c5aa5ee99fcf3e726cfbe8da3d17aa542ccec3e9e825", func := "dray/draylaw12.InsertBudget", spec := "insertBudget", unfollowed := true, recurses := true, plainKeys := false, apart := false, narrowed := true }
def InsertBudgetUptoSaid : Prop := insertBudgetUptoRow.holds Try.pinned (OpenSpec.upto insertBudgetSpec)

/-- 'draylaw12.InsertFits', WHERE WHAT IT READS IS OF BULK AT MOST 1048576: true; the input reads as it did. -/
def insertFitsUptoRow : OpenClaim := { program := "ytpigklkidagolaa", sum := "763b666170c202d1edb3c5aa5ee99fcf3e726cfbe8da3d17aa542ccec3e9e825", func := "dray/draylaw12.InsertFits", spec := "insertFits", unfollowed := true, recurses := true, plainKeys := false, apart := false, narrowed := true }
def InsertFitsUptoSaid : Prop := insertFitsUptoRow.holds Try.pinned (OpenSpec.upto insertFitsSpec)

/-- 'draylaw12.InsertDrivers', WHERE WHAT IT READS IS OF BULK AT MOST 1048576: true; the input reads as it did. -/
def insertDriversUptoRow : OpenClaim := { program := "ytpigklkidagolaa", sum := "763b666170c202d1edb3c5aa5ee99fcf3e726cfbe8da3d17aa542ccec3e9e825", func := "dray/draylaw12.InsertDrivers", spec := "insertDrivers", unfollowed := true, recurses := true, plainKeys := false, apart := false, narrowed := true }
def InsertDriversUptoSaid : Prop := insertDriversUptoRow.holds Try.pinned (OpenSpec.upto insertDriversSpec)

end Rows
end Go.Proofs.Ytpigklkidagolaa
