/-
  No cell of these rows narrows 'for every input' (looked for: loops, veiled, ifaces, maps, wideKeys, modest, calm, conditions, laid).
  DERIVED. THE GIVEN ROWS OF THIS SEAT. 6 by the template 'for every input the law returns true; each argument reads behind the call as it read before'; 0 by the template 'total and deterministic' (their statements: YtkgdaelaidlhlaaTotals.lean).
  GIVEN WITH THE SEED: the statements are not yours to turn. If you find one false, say at which input.
  Laid BY PROGRAM, IN A SANDBOX (cutbox-rows.mjs): the forced cells as the released guide's own fill.sh prints them over the translation df23551968c3b38d… (all of the seat's roots in one cut). By AI agents, Wed Nov 11 2026. No macro, syntax, notation, axiom, sorry.
-/
import Derived.Test.YtkgdaelaidlhlaaChecked
import GoSem.Claim
import GoSem.ClaimJoined
import GoSem.ClaimMapViews
import Derived.JoinedTies
import Derived.KernelRfl
namespace Go.Proofs.Ytkgdaelaidlhlaa
/- THE CELL 'sum', in the pinned program and in every row, IS THE sha256 OF THE DUMP (.gsa) THAT YtkgdaelaidlhlaaProg.lean LOADS. Nothing in Lean hashes anything: it is a label: what it is worth is what the hold of that sum in a sandbox is worth. -/
noncomputable def Try.pinned : Pinned := { name := "ytkgdaelaidlhlaa", sum := "df23551968c3b38d503bc18fef2785d3193f315444db4e7a400d0228c3a20c50", checked := Try.checked }
namespace Rows
def none {H : Type} : Left H := { results := [], args := [] }

/-- 'draylaw4.GeoRuns': WHATEVER THE INPUT: true; the input reads as it did. -/
def geoRunsSpec : ChangeSpec := { name := "geoRuns", fn := fun _ => fun
  | [] => { results := [.lit (.bool true)], args := [] }
  | _ => none }
def geoRunsRow : OpenClaim := { program := "ytkgdaelaidlhlaa", sum := "df23551968c3b38d503bc18fef2785d3193f315444db4e7a400d0228c3a20c50", func := "dray/draylaw4.GeoRuns", spec := "geoRuns", apart := false }
def GeoRunsSaid : Prop := geoRunsRow.holds Try.pinned (OpenSpec.ofChange geoRunsSpec)

/-- ITS FALSE NEIGHBOUR: 'it returns false'. Refute it at one input. -/
def geoRunsWrong : ChangeSpec := { name := "geoRuns", fn := fun _ => fun
  | [] => { results := [.lit (.bool false)], args := [] }
  | _ => none }
def GeoRunsWrongFalsely : Prop := geoRunsRow.holds Try.pinned (OpenSpec.ofChange geoRunsWrong)

/-- 'draylaw4.GeoMakes': WHATEVER THE INPUT: true; the input reads as it did. -/
def geoMakesSpec : ChangeSpec := { name := "geoMakes", fn := fun _ => fun
  | [d1, d2, d3, d4] => { results := [.lit (.bool true)], args := [d1, d2, d3, d4] }
  | _ => none }
def geoMakesRow : OpenClaim := { program := "ytkgdaelaidlhlaa", sum := "df23551968c3b38d503bc18fef2785d3193f315444db4e7a400d0228c3a20c50", func := "dray/draylaw4.GeoMakes", spec := "geoMakes", apart := false }
def GeoMakesSaid : Prop := geoMakesRow.holds Try.pinned (OpenSpec.ofChange geoMakesSpec)

/-- ITS FALSE NEIGHBOUR: 'it returns false'. Refute it at one input. -/
def geoMakesWrong : ChangeSpec := { name := "geoMakes", fn := fun _ => fun
  | [d1, d2, d3, d4] => { results := [.lit (.bool false)], args := [d1, d2, d3, d4] }
  | _ => none }
def GeoMakesWrongFalsely : Prop := geoMakesRow.holds Try.pinned (OpenSpec.ofChange geoMakesWrong)

/-- 'draylaw4.GeoCloses': WHATEVER THE INPUT: true; the input reads as it did. -/
def geoClosesSpec : ChangeSpec := { name := "geoCloses", fn := fun _ => fun
  | [d1, d2] => { results := [.lit (.bool true)], args := [d1, d2] }
  | _ => none }
def geoClosesRow : OpenClaim := { program := "ytkgdaelaidlhlaa", sum := "df23551968c3b38d503bc18fef2785d3193f315444db4e7a400d0228c3a20c50", func := "dray/draylaw4.GeoCloses", spec := "geoCloses", apart := false }
def GeoClosesSaid : Prop := geoClosesRow.holds Try.pinned (OpenSpec.ofChange geoClosesSpec)

/-- ITS FALSE NEIGHBOUR: 'it returns false'. Refute it at one input. -/
def geoClosesWrong : ChangeSpec := { name := "geoCloses", fn := fun _ => fun
  | [d1, d2] => { results := [.lit (.bool false)], args := [d1, d2] }
  | _ => none }
def GeoClosesWrongFalsely : Prop := geoClosesRow.holds Try.pinned (OpenSpec.ofChange geoClosesWrong)

/-- 'draylaw4.GeoLeast': WHATEVER THE INPUT: true; the input reads as it did. -/
def geoLeastSpec : ChangeSpec := { name := "geoLeast", fn := fun _ => fun
  | [d1, d2] => { results := [.lit (.bool true)], args := [d1, d2] }
  | _ => none }
def geoLeastRow : OpenClaim := { program := "ytkgdaelaidlhlaa", sum := "df23551968c3b38d503bc18fef2785d3193f315444db4e7a400d0228c3a20c50", func := "dray/draylaw4.GeoLeast", spec := "geoLeast", apart := false }
def GeoLeastSaid : Prop := geoLeastRow.holds Try.pinned (OpenSpec.ofChange geoLeastSpec)

/-- ITS FALSE NEIGHBOUR: 'it returns false'. Refute it at one input. -/
def geoLeastWrong : ChangeSpec := { name := "geoLeast", fn := fun _ => fun
  | [d1, d2] => { results := [.lit (.bool false)], args := [d1, d2] }
  | _ => none }
def GeoLeastWrongFalsely : Prop := geoLeastRow.holds Try.pinned (OpenSpec.ofChange geoLeastWrong)

/-- 'draylaw4.GeoWays': WHATEVER THE INPUT: true; the input reads as it did. -/
def geoWaysSpec : ChangeSpec := { name := "geoWays", fn := fun _ => fun
  | [d1, d2, d3] => { results := [.lit (.bool true)], args := [d1, d2, d3] }
  | _ => none }
def geoWaysRow : OpenClaim := { program := "ytkgdaelaidlhlaa", sum := "df23551968c3b38d503bc18fef2785d3193f315444db4e7a400d0228c3a20c50", func := "dray/draylaw4.GeoWays", spec := "geoWays", apart := false }
def GeoWaysSaid : Prop := geoWaysRow.holds Try.pinned (OpenSpec.ofChange geoWaysSpec)

/-- ITS FALSE NEIGHBOUR: 'it returns false'. Refute it at one input. -/
def geoWaysWrong : ChangeSpec := { name := "geoWays", fn := fun _ => fun
  | [d1, d2, d3] => { results := [.lit (.bool false)], args := [d1, d2, d3] }
  | _ => none }
def GeoWaysWrongFalsely : Prop := geoWaysRow.holds Try.pinned (OpenSpec.ofChange geoWaysWrong)

/-- 'draylaw4.GeoKept': WHATEVER THE INPUT: true; the input reads as it did. -/
def geoKeptSpec : ChangeSpec := { name := "geoKept", fn := fun _ => fun
  | [d1, d2] => { results := [.lit (.bool true)], args := [d1, d2] }
  | _ => none }
def geoKeptRow : OpenClaim := { program := "ytkgdaelaidlhlaa", sum := "df23551968c3b38d503bc18fef2785d3193f315444db4e7a400d0228c3a20c50", func := "dray/draylaw4.GeoKept", spec := "geoKept", unfollowed := true, recurses := true, apart := false }
def GeoKeptSaid : Prop := geoKeptRow.holds Try.pinned (OpenSpec.ofChange geoKeptSpec)

/-- ITS FALSE NEIGHBOUR: 'it returns false'. Refute it at one input. -/
def geoKeptWrong : ChangeSpec := { name := "geoKept", fn := fun _ => fun
  | [d1, d2] => { results := [.lit (.bool false)], args := [d1, d2] }
  | _ => none }
def GeoKeptWrongFalsely : Prop := geoKeptRow.holds Try.pinned (OpenSpec.ofChange geoKeptWrong)

/- THE SECOND FORM. 'bulk': how many values and letters a reading holds, each counted each time it is reached (what is shared counts as often as it is met; a slice's spare places count too). A statement '..UptoSaid' is the law's where the arguments, and the package variables that the reading takes, are together of bulk at most 1048576: NARROWER than '..Said'. Prove '..Said' where nothing that the law and all that it calls make is longer than what came in: it says more and counts as full. Else prove '..UptoSaid'. A law counts once. -/
mutual
def uptoBulk {H : Type} : DataW H → Nat
  | .lit (.string bytes) => bytes.length + 1
  | .lit _ => 1
  | .nil => 1
  | .ptr d => uptoBulk d + 1
  | .slice elems spare => uptoBulkAll elems + uptoBulkAll spare + 1
  | .agg parts => uptoBulkAll parts + 1
  | .iface _ d => uptoBulk d + 1
  | .map entries => uptoBulkEntries entries + 1
  | .held _ => 1
def uptoBulkAll {H : Type} : List (DataW H) → Nat
  | [] => 0
  | d :: r => uptoBulk d + uptoBulkAll r
def uptoBulkEntries {H : Type} : List (Lit × DataW H) → Nat
  | [] => 0
  | x :: r => uptoBulkEntry x + uptoBulkEntries r
def uptoBulkEntry {H : Type} : Lit × DataW H → Nat
  | (.string bytes, d) => bytes.length + uptoBulk d + 1
  | (_, d) => uptoBulk d + 1
 end
def uptoSmall : (H : Type) → List (DataW H) → Bool := fun _ ds => decide (uptoBulkAll ds ≤ 1048576)
def OpenSpec.upto (s : _root_.Go.ChangeSpec) : _root_.Go.OpenSpec := { _root_.Go.OpenSpec.ofChange s with cond := some uptoSmall }

/-- 'draylaw4.GeoRuns', WHERE WHAT IT READS IS OF BULK AT MOST 1048576: true; the input reads as it did. -/
def geoRunsUptoRow : OpenClaim := { program := "ytkgdaelaidlhlaa", sum := "df23551968c3b38d503bc18fef2785d3193f315444db4e7a400d0228c3a20c50", func := "dray/draylaw4.GeoRuns", spec := "geoRuns", apart := false, narrowed := true }
def GeoRunsUptoSaid : Prop := geoRunsUptoRow.holds Try.pinned (OpenSpec.upto geoRunsSpec)

/-- 'draylaw4.GeoMakes', WHERE WHAT IT READS IS OF BULK AT MOST 1048576: true; the input reads as it did. -/
def geoMakesUptoRow : OpenClaim := { program := "ytkgdaelaidlhlaa", sum := "df23551968c3b38d503bc18fef2785d3193f315444db4e7a400d0228c3a20c50", func := "dray/draylaw4.GeoMakes", spec := "geoMakes", apart := false, narrowed := true }
def GeoMakesUptoSaid : Prop := geoMakesUptoRow.holds Try.pinned (OpenSpec.upto geoMakesSpec)

/-- 'draylaw4.GeoCloses', WHERE WHAT IT READS IS OF BULK AT MOST 1048576: true; the input reads as it did. -/
def geoClosesUptoRow : OpenClaim := { program := "ytkgdaelaidlhlaa", sum := "df23551968c3b38d503bc18fef2785d3193f315444db4e7a400d0228c3a20c50", func := "dray/draylaw4.GeoCloses", spec := "geoCloses", apart := false, narrowed := true }
def GeoClosesUptoSaid : Prop := geoClosesUptoRow.holds Try.pinned (OpenSpec.upto geoClosesSpec)

/-- 'draylaw4.GeoLeast', WHERE WHAT IT READS IS OF BULK AT MOST 1048576: true; the input reads as it did. -/
def geoLeastUptoRow : OpenClaim := { program := "ytkgdaelaidlhlaa", sum := "df23551968c3b38d503bc18fef2785d3193f315444db4e7a400d0228c3a20c50", func := "dray/draylaw4.GeoLeast", spec := "geoLeast", apart := false, narrowed := true }
def GeoLeastUptoSaid : Prop := geoLeastUptoRow.holds Try.pinned (OpenSpec.upto geoLeastSpec)

/-- 'draylaw4.GeoWays', WHERE WHAT IT READS IS OF BULK AT MOST 1048576: true; the input reads as it did. -/
def geoWaysUptoRow : OpenClaim := { program := "ytkgdaelaidlhlaa", sum := "df23551968c3b38d503bc18fef2785d3193f315444db4e7a400d0228c3a20c50", func := "dray/draylaw4.GeoWays", spec := "geoWays", apart := false, narrowed := true }
def GeoWaysUptoSaid : Prop := geoWaysUptoRow.holds Try.pinned (OpenSpec.upto geoWaysSpec)

/-- 'draylaw4.GeoKept', WHERE WHAT IT READS IS OF BULK AT MOST 1048576: true; the input reads as it did. -/
def geoKeptUptoRow : OpenClaim := { program := "ytkgdaelaidlhlaa", sum := "df23551968c3b38d503bc18fef2785d3193f315444db4e7a400d0228c3a20c50", func := "dray/draylaw4.GeoKept", spec := "geoKept", unfollowed := true, recurses := true, apart := false, narrowed := true }
def GeoKeptUptoSaid : Prop := geoKeptUptoRow.holds Try.pinned (OpenSpec.upto geoKeptSpec)

end Rows
end Go.Proofs.Ytkgdaelaidlhlaa
