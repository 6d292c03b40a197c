/-
  A list of stops that came in, opened.
-/
import Derived.Test.YtjkahookgoecpaaFrameWorld
import Derived.Test.YtjkahookgoecpaaWordsStp
namespace Go.Proofs.Ytjkahookgoecpaa.Frames
open Go.ChangeShapes Go.WideShapes Go.ChangeAt Go.RowKit Go.Deep Go.Proofs.Ytjkahookgoecpaa.Mem Go.Proofs.Ytjkahookgoecpaa.Rec Go.Proofs.Ytjkahookgoecpaa.FleetMath Go.Proofs.Ytjkahookgoecpaa.Keep

set_option maxRecDepth 100000
theorem cellsStp : Try.prog.cellsOf 35 = 2 := by kernel_rfl
theorem bytesStp : Try.prog.bytesOf 35 = 16 := by kernel_rfl
section
variable {H : Type} {enc : TypeId × Value → H} {W : World}
theorem stp_in {n : Nat} {cs : List Value} {y : DataW H × List MemPlace} (h : DataW.trod enc Try.prog W 0 (fun _ => true) true n 35 cs = some y) : ∃ x : Stp, cs = [.int .i64 x.ord, .bool x.drop] ∧ wfI x.ord := by
  obtain ⟨xs, k, _, hl, _, hf⟩ := fields_of Try.underlying35 h
  rw [cellsStp] at hl
  match cs, hl with
  | [c0, c1], _ =>
    obtain ⟨z0, _, h0⟩ := hf 0 3 0 rfl
    obtain ⟨z1, _, h1⟩ := hf 1 4 1 rfl
    simp only [cellsInt, cellsBool] at h0 h1
    obtain ⟨v0, e0, w0⟩ := int_in h0
    obtain ⟨v1, e1⟩ := bool_in h1
    simp at e0 e1
    subst e0
    subst e1
    exact ⟨⟨v0, v1⟩, rfl, w0⟩
theorem stops_open {a : Option Addr} {len cap : Nat} {d : DataW H} {p : List MemPlace} (h : DataW.Trod enc Try.prog W 0 (fun _ => true) true 53 (.slice a len cap) d p) :
    len ≤ cap ∧ cap ≤ maxLen ∧ SlData d cap ∧ ∃ l : List Stp, Stps W W.heap.size a len l ∧ ∀ s ∈ l, wfI s.ord := by
  obtain ⟨fuel, hf⟩ := h
  obtain ⟨a', len', cap', e, h1, h2, h3, l, h4, _, h6⟩ := list_in (k := 2) (fun x : Stp => [.int .i64 x.ord, .bool x.drop]) (fun x => wfI x.ord) (fun _ => rfl) (by omega) Try.underlying53 cellsStp (fun n cs y h => stp_in h) hf
  simp [Value.cells] at e
  obtain ⟨rfl, rfl, rfl⟩ := e
  exact ⟨h1, h2, h3, l, h4, h6⟩
theorem stops_reach {ts : List TypeId} {ds : List (DataW H)} (h : (DataW.weightsEach Try.prog ts ds).all (· ≤ reachBytes) = true) {j : Nat} {d : DataW H} {cap : Nat}
    (ht : ts[j]? = some 53) (hd : ds[j]? = some d) (hi : SlData d cap) : cap * 16 ≤ 140737488351232 := by
  have := sl_reach h ht hd Try.underlying53 hi
  rwa [bytesStp] at this
end
#print axioms stops_open
end Go.Proofs.Ytjkahookgoecpaa.Frames
