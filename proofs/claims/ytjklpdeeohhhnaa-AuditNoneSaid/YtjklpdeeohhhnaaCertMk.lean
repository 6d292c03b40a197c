/-
  What the walks of Make share: a certificate in new memory, the fault's box.
-/
import Derived.Test.YtjklpdeeohhhnaaCertRDrv
import Derived.Test.YtjklpdeeohhhnaaCertMaths
import Derived.Test.YtjklpdeeohhhnaaCertNews
import Derived.Test.YtjklpdeeohhhnaaRouteKeep
namespace Go.Proofs.Ytjklpdeeohhhnaa.Cert
open Go.ChangeShapes Go.WideShapes Go.ChangeAt Go.RowKit Go.Proofs.Ytjklpdeeohhhnaa.Mem Go.Proofs.Ytjklpdeeohhhnaa.GeoMath Go.Proofs.Ytjklpdeeohhhnaa.FleetMath Go.Proofs.Ytjklpdeeohhhnaa.PlanMath Go.Proofs.Ytjklpdeeohhhnaa.CertMath Go.Proofs.Ytjklpdeeohhhnaa.Rec Go.Proofs.Ytjklpdeeohhhnaa.Geo Go.Proofs.Ytjklpdeeohhhnaa.Span Go.Proofs.Ytjklpdeeohhhnaa.Deal Go.Proofs.Ytjklpdeeohhhnaa.Route Go.Proofs.Ytjklpdeeohhhnaa.Plan
set_option linter.unusedVariables false
set_option linter.unusedSimpArgs false

/-- what Make leaves: a certificate in new memory, the fault -/
structure Made (w w' : World) (v : Value) (l : List CM) (c : List (List Vis)) : Prop where
  new : NewC w w' v l
  vss : l.map (·.vs) = c
  few : ∀ r ∈ l, r.n * 48 ≤ 140737488351232
def MakeOk (w : World) (r : List (List Vis) × Nat × Int) (e : Ending) (w' : World) : Prop :=
  ∃ v l, e = .returned (.tuple #[v, faultV r.2.1 r.2.2]) ∧ Made w w' v l r.1
theorem make_fault {w w' : World} {k : Nat} {e : Int} {r : List (List Vis) × Nat × Int} (h : r = ([], k, e)) (hb : Below w.heap.size w w') : MakeOk w r (.returned (.tuple #[.slice none 0 0, faultV k e])) w' := by
  subst h
  exact ⟨_, [], rfl, ⟨⟨hb, OwnK.nil _ _ _ _, (fun r h => by cases h), List.Pairwise.nil⟩, rfl, fun r h => by cases h⟩⟩
/-- the world with the fault's box -/
abbrev FX (w : World) : World := w.alloc (.cells #[.int .i64 0, .int .i64 0] 63)
/-- Make's state: ahead of a route -/
structure MS (w : World) (p : List RM) (v : Value) (wr : World) (l : List CM) (k : Nat) : Prop where
  new : NewC (FX w) wr v l
  few : ∀ r ∈ l, r.n * 48 ≤ 140737488351232
  len : l.length = k
section
variable {w wr w' : World} {p : List RM} {v v' : Value} {l : List CM} {k : Nat}
theorem FX.below (w : World) : Below w.heap.size w (FX w) := (Below.refl _ _).alloc (Nat.le_refl _) _
theorem FX.size (w : World) : (FX w).heap.size = w.heap.size + 1 := by simp
theorem MS.old (h : MS w p v wr l k) : Below w.heap.size w wr := (FX.below w).trans (h.new.old.mono (FX.below w).size)
theorem MS.box (h : MS w p v wr l k) : Blk wr w.heap.size 63 [.int .i64 0, .int .i64 0] := (Blk.new w 63 [.int .i64 0, .int .i64 0]).below h.new.old (by rw [FX.size]; omega)
theorem MS.puts (h : MS w p v wr l k) (a b : Value) : (wr.cell? ⟨w.heap.size, 0, none⟩ = some (.int .i64 0) ∧ wr.frozen? ⟨w.heap.size, 0, none⟩ = false) ∧ ((wr.setCell ⟨w.heap.size, 0, none⟩ a).cell? ⟨w.heap.size, 1, none⟩ = some (.int .i64 0) ∧ (wr.setCell ⟨w.heap.size, 0, none⟩ a).frozen? ⟨w.heap.size, 1, none⟩ = false) ∧
    ((wr.setCell ⟨w.heap.size, 0, none⟩ a).setCell ⟨w.heap.size, 1, none⟩ b).cell? ⟨w.heap.size, 0, none⟩ = some a ∧ ((wr.setCell ⟨w.heap.size, 0, none⟩ a).setCell ⟨w.heap.size, 1, none⟩ b).cell? ⟨w.heap.size, 1, none⟩ = some b := by
  have f1 := h.box.put 0 a
  have f2 := f1.put 1 b
  exact ⟨⟨h.box.cell rfl, h.box.free 0⟩, ⟨f1.cell rfl, f1.free 1⟩, f2.cell rfl, f2.cell rfl⟩
theorem MS.keep (h : MS w p v wr l k) (hb : Below wr.heap.size wr w') : MS w p v w' l k := ⟨h.new.keep hb, h.few, h.len⟩
theorem MS.start (w : World) (p : List RM) : MS w p (.slice none 0 0) (FX w) [] 0 := ⟨NewC.nil _, (fun r h => by cases h), rfl⟩
theorem NewC.put (h : NewC (FX w) wr v l) (a b : Value) : NewC w ((wr.setCell ⟨w.heap.size, 0, none⟩ a).setCell ⟨w.heap.size, 1, none⟩ b) v l := by
  have hs : ∀ g, (FX w).heap.size ≤ g → g < wr.heap.size → ((wr.setCell ⟨w.heap.size, 0, none⟩ a).setCell ⟨w.heap.size, 1, none⟩ b).heap[g]? = wr.heap[g]? := fun g hg _ => by
    have := FX.size w
    exact (Below.heap_setCell _ _ _ g (by show g ≠ w.heap.size; omega)).trans (Below.heap_setCell _ _ _ g (by show g ≠ w.heap.size; omega))
  have hl := (FX.below w).size
  exact ⟨(((FX.below w).trans (h.old.mono hl)).setCell (Nat.le_refl _) _).setCell (Nat.le_refl _) _, (h.own.same hs).lower hl, fun r hr => ⟨((h.each r hr).1.same hs).lower hl, (h.each r hr).2⟩, h.apart⟩
end

end Go.Proofs.Ytjklpdeeohhhnaa.Cert
