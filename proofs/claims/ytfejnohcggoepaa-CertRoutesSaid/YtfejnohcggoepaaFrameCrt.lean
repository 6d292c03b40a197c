/-
  A certificate that came in, opened: its lists, each with its visits; how long they may be.
-/
import Derived.Test.YtfejnohcggoepaaFramePlan
import Derived.Test.YtfejnohcggoepaaCertNews
namespace Go.Proofs.Ytfejnohcggoepaa.Frames
open Go.ChangeShapes Go.WideShapes Go.ChangeAt Go.RowKit Go.Deep Go.Proofs.Ytfejnohcggoepaa.Mem Go.Proofs.Ytfejnohcggoepaa.Rec Go.Proofs.Ytfejnohcggoepaa.FleetMath Go.Proofs.Ytfejnohcggoepaa.PlanMath

set_option maxRecDepth 100000
theorem cellsVis : Try.prog.cellsOf 44 = 6 := by kernel_rfl
theorem bytesVis : Try.prog.bytesOf 44 = 48 := by kernel_rfl
theorem cellsViss : Try.prog.cellsOf 45 = 1 := by kernel_rfl
theorem bytesViss : Try.prog.bytesOf 45 = 24 := by kernel_rfl
/-- each number of a visit is one that there is -/
def goodVis (v : Vis) : Prop := wfI v.stop.ord ∧ wfI v.arrive ∧ wfI v.start ∧ wfI v.leave ∧ wfI v.load
/-- what is known of a list of visits that came in -/
structure VsOk (W : World) (r : CM) : Prop where
  vs : Viss W W.heap.size r.a r.n r.vs
  le : r.n ≤ r.c
  few : r.c * 48 ≤ 140737488351232
  good : ∀ v ∈ r.vs, goodVis v
/-- .. of a certificate -/
structure CrtOk (W : World) (a : Option Addr) (n c : Nat) (l : List CM) : Prop where
  crts : Crts W W.heap.size a n l
  le : n ≤ c
  few : c * 24 ≤ 140737488351232
  each : ∀ r ∈ l, VsOk W r
section
variable {H : Type} {enc : TypeId × Value → H} {W : World} {n : Nat} {cs : List Value} {y : DataW H × List MemPlace}
theorem vis_in (h : DataW.trod enc Try.prog W 0 (fun _ => true) true n 44 cs = some y) : ∃ v : Vis, cs = [.int .i64 v.stop.ord, .bool v.stop.drop, .int .i64 v.arrive, .int .i64 v.start, .int .i64 v.leave, .int .i64 v.load] ∧ goodVis v := by
  obtain ⟨xs, k, _, hl, _, hf⟩ := fields_of Try.underlying44 h
  rw [cellsVis] at hl
  match cs, hl with
  | [c0, c1, c2, c3, c4, c5], _ =>
    obtain ⟨z0, _, h0⟩ := hf 0 36 0 rfl
    obtain ⟨z1, _, h1⟩ := hf 1 3 2 rfl
    obtain ⟨z2, _, h2⟩ := hf 2 3 3 rfl
    obtain ⟨z3, _, h3⟩ := hf 3 3 4 rfl
    obtain ⟨z4, _, h4⟩ := hf 4 3 5 rfl
    simp only [cellsInt, cellsStp] at h0 h1 h2 h3 h4
    obtain ⟨v0, e0, w0⟩ := stp_in h0
    obtain ⟨v1, e1, w1⟩ := int_in h1
    obtain ⟨v2, e2, w2⟩ := int_in h2
    obtain ⟨v3, e3, w3⟩ := int_in h3
    obtain ⟨v4, e4, w4⟩ := int_in h4
    simp at e0 e1 e2 e3 e4
    obtain ⟨p0, p1⟩ := e0
    subst p0 p1 e1 e2 e3 e4
    exact ⟨⟨v0, v1, v2, v3, v4⟩, rfl, w0, w1, w2, w3, w4⟩
theorem viss_in (h : DataW.trod enc Try.prog W 0 (fun _ => true) true n 45 cs = some y) (hl : Lite 45 y.1) : ∃ r : CM, cs = cmL r ∧ VsOk W r := by
  obtain ⟨a, len, cap, e, i1, i2, i3, l, i4, i5, i6⟩ := list_in (k := 6) (fun x : Vis => [.int .i64 x.stop.ord, .bool x.stop.drop, .int .i64 x.arrive, .int .i64 x.start, .int .i64 x.leave, .int .i64 x.load]) goodVis (fun _ => rfl) (by omega) Try.underlying45 cellsVis (fun n cs y h => vis_in h) h
  have hb := hl.size Try.underlying45 i3 bytesVis (by omega)
  exact ⟨⟨l, a, len, cap⟩, e, i4, i1, hb, i6⟩
theorem cert_in (h : DataW.trod enc Try.prog W 0 (fun _ => true) true n 47 cs = some y) (hl : Lite 47 y.1) :
    ∃ (a : Option Addr) (len cap : Nat), cs = [.slice a len cap] ∧ ∃ l : List CM, CrtOk W a len cap l := by
  obtain ⟨a, len, cap, e, h1, h2, h3, l, ds, ms, h4, h5, h6, h7, h8⟩ := list_inG (Lite 45) (fun l m e d hd => by
    rw [e] at hl
    exact hl.elem Try.underlying47 hd) (k := 1) cmL (fun r d => VsOk W r) (fun _ => rfl) (by omega) Try.underlying47 cellsViss (fun n cs y h hl => viss_in h hl) h
  have hcap := hl.size Try.underlying47 h3 bytesViss (by omega)
  have each : ∀ r ∈ l, VsOk W r := by
    intro r hr
    obtain ⟨i, hi⟩ := List.mem_iff_getElem?.1 hr
    have hlt : i < ds.length := by rw [h7, ← h5]; exact (List.getElem?_eq_some_iff.1 hi).1
    exact h8 i r _ hi (List.getElem?_eq_getElem hlt)
  exact ⟨a, len, cap, e, l, ⟨h4, fun r hr => ⟨(each r hr).vs, (each r hr).le, by have := (each r hr).few; have := (each r hr).le; omega⟩⟩, h1, hcap, each⟩
theorem cert_open {a : Option Addr} {len cap : Nat} {d : DataW H} {p : List MemPlace} (h : DataW.Trod enc Try.prog W 0 (fun _ => true) true 47 (.slice a len cap) d p) (hl : Lite 47 d) : ∃ l : List CM, CrtOk W a len cap l := by
  obtain ⟨fuel, hf⟩ := h
  obtain ⟨a', len', cap', e, l, h1⟩ := cert_in hf hl
  simp [Value.cells] at e
  obtain ⟨rfl, rfl, rfl⟩ := e
  exact ⟨l, h1⟩
end
#print axioms cert_open
end Go.Proofs.Ytfejnohcggoepaa.Frames
