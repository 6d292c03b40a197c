/-
  No cell of these rows narrows 'for every input' (looked for: loops, veiled, ifaces, maps, wideKeys, modest, calm, conditions, laid).
  DERIVED. THE GIVEN ROWS OF THIS SEAT. 6 by the template 'for every input the law returns true; each argument reads behind the call as it read before'; 0 by the template 'total and deterministic' (their statements: YtfejnohcggoepaaTotals.lean).
  GIVEN WITH THE SEED: the statements are not yours to turn. If you find one false, say at which input.
  Laid BY PROGRAM, IN A SANDBOX (cutbox-rows.mjs): the forced cells as the released guide's own fill.sh prints them over the translation f8d935dc8bc6e563… (all of the seat's roots in one cut). By AI agents, Wed Nov 11 2026. No macro, syntax, notation, axiom, sorry.
-/
import Derived.Test.YtfejnohcggoepaaChecked
import GoSem.Claim
import GoSem.ClaimJoined
import GoSem.ClaimMapViews
import Derived.JoinedTies
import Derived.KernelRfl
namespace Go.Proofs.Ytfejnohcggoepaa
/- THE CELL 'sum', in the pinned program and in every row, IS THE sha256 OF THE DUMP (.gsa) THAT YtfejnohcggoepaaProg.lean LOADS. Nothing in Lean hashes anything: it is a label: what it is worth is what the hold of that sum in a sandbox is worth. -/
noncomputable def Try.pinned : Pinned := { name := "ytfejnohcggoepaa", sum := "f8d935dc8bc6e56360f70529c11b925af8683351549b4415bb4394d3f8c1dd4f", checked := Try.checked }
namespace Rows
def none {H : Type} : Left H := { results := [], args := [] }

/-- 'draylaw10.CertRuns': WHATEVER THE INPUT: true; the input reads as it did. -/
def certRunsSpec : ChangeSpec := { name := "certRuns", fn := fun _ => fun
  | [] => { results := [.lit (.bool true)], args := [] }
  | _ => none }
def certRunsRow : OpenClaim := { program := "ytfejnohcggoepaa", sum := "f8d935dc8bc6e56360f70529c11b925af8683351549b4415bb4394d3f8c1dd4f", func := "dray/draylaw10.CertRuns", spec := "certRuns", unfollowed := true, recurses := true, plainKeys := false, apart := false }
def CertRunsSaid : Prop := certRunsRow.holds Try.pinned (OpenSpec.ofChange certRunsSpec)

/-- ITS FALSE NEIGHBOUR: 'it returns false'. Refute it at one input. -/
def certRunsWrong : ChangeSpec := { name := "certRuns", fn := fun _ => fun
  | [] => { results := [.lit (.bool false)], args := [] }
  | _ => none }
def CertRunsWrongFalsely : Prop := certRunsRow.holds Try.pinned (OpenSpec.ofChange certRunsWrong)

/-- 'draylaw10.CertMakes': WHATEVER THE INPUT: true; the input reads as it did. -/
def certMakesSpec : ChangeSpec := { name := "certMakes", fn := fun _ => fun
  | [d] => { results := [.lit (.bool true)], args := [d] }
  | _ => none }
def certMakesRow : OpenClaim := { program := "ytfejnohcggoepaa", sum := "f8d935dc8bc6e56360f70529c11b925af8683351549b4415bb4394d3f8c1dd4f", func := "dray/draylaw10.CertMakes", spec := "certMakes", unfollowed := true, recurses := true, plainKeys := false, apart := false }
def CertMakesSaid : Prop := certMakesRow.holds Try.pinned (OpenSpec.ofChange certMakesSpec)

/-- ITS FALSE NEIGHBOUR: 'it returns false'. Refute it at one input. -/
def certMakesWrong : ChangeSpec := { name := "certMakes", fn := fun _ => fun
  | [d] => { results := [.lit (.bool false)], args := [d] }
  | _ => none }
def CertMakesWrongFalsely : Prop := certMakesRow.holds Try.pinned (OpenSpec.ofChange certMakesWrong)

/-- 'draylaw10.CertChecks': WHATEVER THE INPUT: true; the input reads as it did. -/
def certChecksSpec : ChangeSpec := { name := "certChecks", fn := fun _ => fun
  | [d1, d2] => { results := [.lit (.bool true)], args := [d1, d2] }
  | _ => none }
def certChecksRow : OpenClaim := { program := "ytfejnohcggoepaa", sum := "f8d935dc8bc6e56360f70529c11b925af8683351549b4415bb4394d3f8c1dd4f", func := "dray/draylaw10.CertChecks", spec := "certChecks", unfollowed := true, recurses := true, plainKeys := false, apart := false }
def CertChecksSaid : Prop := certChecksRow.holds Try.pinned (OpenSpec.ofChange certChecksSpec)

/-- ITS FALSE NEIGHBOUR: 'it returns false'. Refute it at one input. -/
def certChecksWrong : ChangeSpec := { name := "certChecks", fn := fun _ => fun
  | [d1, d2] => { results := [.lit (.bool false)], args := [d1, d2] }
  | _ => none }
def CertChecksWrongFalsely : Prop := certChecksRow.holds Try.pinned (OpenSpec.ofChange certChecksWrong)

/-- 'draylaw10.CertTurned': WHATEVER THE INPUT: true; the input reads as it did. -/
def certTurnedSpec : ChangeSpec := { name := "certTurned", fn := fun _ => fun
  | [d1, d2, d3, d4] => { results := [.lit (.bool true)], args := [d1, d2, d3, d4] }
  | _ => none }
def certTurnedRow : OpenClaim := { program := "ytfejnohcggoepaa", sum := "f8d935dc8bc6e56360f70529c11b925af8683351549b4415bb4394d3f8c1dd4f", func := "dray/draylaw10.CertTurned", spec := "certTurned", unfollowed := true, recurses := true, plainKeys := false, apart := false }
def CertTurnedSaid : Prop := certTurnedRow.holds Try.pinned (OpenSpec.ofChange certTurnedSpec)

/-- ITS FALSE NEIGHBOUR: 'it returns false'. Refute it at one input. -/
def certTurnedWrong : ChangeSpec := { name := "certTurned", fn := fun _ => fun
  | [d1, d2, d3, d4] => { results := [.lit (.bool false)], args := [d1, d2, d3, d4] }
  | _ => none }
def CertTurnedWrongFalsely : Prop := certTurnedRow.holds Try.pinned (OpenSpec.ofChange certTurnedWrong)

/-- 'draylaw10.CertOnly': WHATEVER THE INPUT: true; the input reads as it did. -/
def certOnlySpec : ChangeSpec := { name := "certOnly", fn := fun _ => fun
  | [d1, d2, d3] => { results := [.lit (.bool true)], args := [d1, d2, d3] }
  | _ => none }
def certOnlyRow : OpenClaim := { program := "ytfejnohcggoepaa", sum := "f8d935dc8bc6e56360f70529c11b925af8683351549b4415bb4394d3f8c1dd4f", func := "dray/draylaw10.CertOnly", spec := "certOnly", unfollowed := true, recurses := true, plainKeys := false, apart := false }
def CertOnlySaid : Prop := certOnlyRow.holds Try.pinned (OpenSpec.ofChange certOnlySpec)

/-- ITS FALSE NEIGHBOUR: 'it returns false'. Refute it at one input. -/
def certOnlyWrong : ChangeSpec := { name := "certOnly", fn := fun _ => fun
  | [d1, d2, d3] => { results := [.lit (.bool false)], args := [d1, d2, d3] }
  | _ => none }
def CertOnlyWrongFalsely : Prop := certOnlyRow.holds Try.pinned (OpenSpec.ofChange certOnlyWrong)

/-- 'draylaw10.CertRoutes': WHATEVER THE INPUT: true; the input reads as it did. -/
def certRoutesSpec : ChangeSpec := { name := "certRoutes", fn := fun _ => fun
  | [d] => { results := [.lit (.bool true)], args := [d] }
  | _ => none }
def certRoutesRow : OpenClaim := { program := "ytfejnohcggoepaa", sum := "f8d935dc8bc6e56360f70529c11b925af8683351549b4415bb4394d3f8c1dd4f", func := "dray/draylaw10.CertRoutes", spec := "certRoutes", unfollowed := true, recurses := true, plainKeys := false, apart := false }
def CertRoutesSaid : Prop := certRoutesRow.holds Try.pinned (OpenSpec.ofChange certRoutesSpec)

/-- ITS FALSE NEIGHBOUR: 'it returns false'. Refute it at one input. -/
def certRoutesWrong : ChangeSpec := { name := "certRoutes", fn := fun _ => fun
  | [d] => { results := [.lit (.bool false)], args := [d] }
  | _ => none }
def CertRoutesWrongFalsely : Prop := certRoutesRow.holds Try.pinned (OpenSpec.ofChange certRoutesWrong)

/- THE SECOND FORM. 'bulk': how many values and letters a reading holds, each counted each time it is reached (what is shared counts as often as it is met; a slice's spare places count too). A statement '..UptoSaid' is the law's where the arguments, and the package variables that the reading takes, are together of bulk at most 1048576: NARROWER than '..Said'. Prove '..Said' where nothing that the law and all that it calls make is longer than what came in: it says more and counts as full. Else prove '..UptoSaid'. A law counts once. -/
mutual
def uptoBulk {H : Type} : DataW H → Nat
  | .lit (.string bytes) => bytes.length + 1
  | .lit _ => 1
  | .nil => 1
  | .ptr d => uptoBulk d + 1
  | .slice elems spare => uptoBulkAll elems + uptoBulkAll spare + 1
  | .agg parts => uptoBulkAll parts + 1
  | .iface _ d => uptoBulk d + 1
  | .map entries => uptoBulkEntries entries + 1
  | .held _ => 1
def uptoBulkAll {H : Type} : List (DataW H) → Nat
  | [] => 0
  | d :: r => uptoBulk d + uptoBulkAll r
def uptoBulkEntries {H : Type} : List (Lit × DataW H) → Nat
  | [] => 0
  | x :: r => uptoBulkEntry x + uptoBulkEntries r
def uptoBulkEntry {H : Type} : Lit × DataW H → Nat
  | (.string bytes, d) => bytes.length + uptoBulk d + 1
  | (_, d) => uptoBulk d + 1
 end
def uptoSmall : (H : Type) → List (DataW H) → Bool := fun _ ds => decide (uptoBulkAll ds ≤ 1048576)
def OpenSpec.upto (s : _root_.Go.ChangeSpec) : _root_.Go.OpenSpec := { _root_.Go.OpenSpec.ofChange s with cond := some uptoSmall }

/-- 'draylaw10.CertRuns', WHERE WHAT IT READS IS OF BULK AT MOST 1048576: true; the input reads as it did. -/
def certRunsUptoRow : OpenClaim := { program := "ytfejnohcggoepaa", sum := "f8d935dc8bc6e56360f70529c11b925af8683351549b4415bb4394d3f8c1dd4f", func := "dray/draylaw10.CertRuns", spec := "certRuns", unfollowed := true, recurses := true, plainKeys := false, apart := false, narrowed := true }
def CertRunsUptoSaid : Prop := certRunsUptoRow.holds Try.pinned (OpenSpec.upto certRunsSpec)

/-- 'draylaw10.CertMakes', WHERE WHAT IT READS IS OF BULK AT MOST 1048576: true; the input reads as it did. -/
def certMakesUptoRow : OpenClaim := { program := "ytfejnohcggoepaa", sum := "f8d935dc8bc6e56360f70529c11b925af8683351549b4415bb4394d3f8c1dd4f", func := "dray/draylaw10.CertMakes", spec := "certMakes", unfollowed := true, recurses := true, plainKeys := false, apart := false, narrowed := true }
def CertMakesUptoSaid : Prop := certMakesUptoRow.holds Try.pinned (OpenSpec.upto certMakesSpec)

/-- 'draylaw10.CertChecks', WHERE WHAT IT READS IS OF BULK AT MOST 1048576: true; the input reads as it did. -/
def certChecksUptoRow : OpenClaim := { program := "ytfejnohcggoepaa", sum := "f8d935dc8bc6e56360f70529c11b925af8683351549b4415bb4394d3f8c1dd4f", func := "dray/draylaw10.CertChecks", spec := "certChecks", unfollowed := true, recurses := true, plainKeys := false, apart := false, narrowed := true }
def CertChecksUptoSaid : Prop := certChecksUptoRow.holds Try.pinned (OpenSpec.upto certChecksSpec)

/-- 'draylaw10.CertTurned', WHERE WHAT IT READS IS OF BULK AT MOST 1048576: true; the input reads as it did. -/
def certTurnedUptoRow : OpenClaim := { program := "ytfejnohcggoepaa", sum := "f8d935dc8bc6e56360f70529c11b925af8683351549b4415bb4394d3f8c1dd4f", func := "dray/draylaw10.CertTurned", spec := "certTurned", unfollowed := true, recurses := true, plainKeys := false, apart := false, narrowed := true }
def CertTurnedUptoSaid : Prop := certTurnedUptoRow.holds Try.pinned (OpenSpec.upto certTurnedSpec)

/-- 'draylaw10.CertOnly', WHERE WHAT IT READS IS OF BULK AT MOST 1048576: true; the input reads as it did. -/
def certOnlyUptoRow : OpenClaim := { program := "ytfejnohcggoepaa", sum := "f8d935dc8bc6e56360f70529c11b925af8683351549b4415bb4394d3f8c1dd4f", func := "dray/draylaw10.CertOnly", spec := "certOnly", unfollowed := true, recurses := true, plainKeys := false, apart := false, narrowed := true }
def CertOnlyUptoSaid : Prop := certOnlyUptoRow.holds Try.pinned (OpenSpec.upto certOnlySpec)

/-- 'draylaw10.CertRoutes', WHERE WHAT IT READS IS OF BULK AT MOST 1048576: true; the input reads as it did. -/
def certRoutesUptoRow : OpenClaim := { program := "ytfejnohcggoepaa", sum := "f8d935dc8bc6e56360f70529c11b925af8683351549b4415bb4394d3f8c1dd4f", func := "dray/draylaw10.CertRoutes", spec := "certRoutes", unfollowed := true, recurses := true, plainKeys := false, apart := false, narrowed := true }
def CertRoutesUptoSaid : Prop := certRoutesUptoRow.holds Try.pinned (OpenSpec.upto certRoutesSpec)

end Rows
end Go.Proofs.Ytfejnohcggoepaa
