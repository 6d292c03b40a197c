/-
  Copies of plans, and plans held against each other, as the statements' walks meet them.
-/
import Derived.Test.YtpigklkidagolaaCertKeep
import Derived.Test.YtpigklkidagolaaPlanKs
namespace Go.Proofs.Ytpigklkidagolaa.Cert
open Go.ChangeShapes Go.WideShapes Go.ChangeAt Go.RowKit Go.Proofs.Ytpigklkidagolaa.Mem Go.Proofs.Ytpigklkidagolaa.GeoMath Go.Proofs.Ytpigklkidagolaa.FleetMath Go.Proofs.Ytpigklkidagolaa.PlanMath Go.Proofs.Ytpigklkidagolaa.CertMath Go.Proofs.Ytpigklkidagolaa.Rec Go.Proofs.Ytpigklkidagolaa.Geo Go.Proofs.Ytpigklkidagolaa.Span Go.Proofs.Ytpigklkidagolaa.Deal Go.Proofs.Ytpigklkidagolaa.Keep Go.Proofs.Ytpigklkidagolaa.Route Go.Proofs.Ytpigklkidagolaa.Plan
set_option linter.unusedVariables false
set_option linter.unusedSimpArgs false

theorem use_copy (A : Option Addr) (n c : Nat) (l : List RM) (u : World) (h : Plns u u.heap.size A n l) (hn : n * 40 ≤ 140737488351232) :
    Calls Try.prog 14 #[.slice A n c] u fun e u' => ∃ B k l', e = .returned (.slice B n k) ∧ Below u.heap.size u u' ∧ Plns u' u'.heap.size B n l' ∧ l'.map (·.rt) = l.map (·.rt) := by
  have hl := h.length
  refine (kcopy_any A n c l u h hn).mono ?_
  rintro e u' ⟨v, l', rfl, h1⟩
  have hr : l'.map (·.rt) = l.map (·.rt) := by rw [h1.rts, List.take_of_length_le (by omega)]
  obtain ⟨B, k, rfl, _, hp⟩ := h1.plan.plns h1.fits
  have hl' : l'.length = n := by have := congrArg List.length hr; simp only [List.length_map] at this; omega
  rw [hl'] at hp ⊢
  exact ⟨B, k, l', rfl, h1.plan.old, hp, hr⟩
theorem drewN_below {w w' : World} {d : Nat} (h : w' = w.drewN d) : Below w.heap.size w w' := by rw [h]; exact below_drewN (Below.refl _ _) _
theorem use_routes {A A' : Option Addr} {n c c' : Nat} {l m : List RM} {u : World} {B B' : Nat} (h : Plns u B A n l) (h' : Plns u B' A' n m) (he : l.map (·.rt) = m.map (·.rt)) :
    Calls Try.prog 19 #[.slice A n c, .slice A' n c'] u fun e u' => e = .returned (.bool true) ∧ Below u.heap.size u u' := by
  refine (routes_yes A A' n c c' l m B B' u h h' he).mono ?_
  rintro e u' ⟨rfl, d, hd⟩
  exact ⟨rfl, drewN_below hd⟩
end Go.Proofs.Ytpigklkidagolaa.Cert
