/-
  The calls of chapter 10's statements, as their walks meet them: over a world that came in.
-/
import Derived.Test.YtfejnohcggoepaaCertPChk
import Derived.Test.YtfejnohcggoepaaCertRCheck
import Derived.Test.YtfejnohcggoepaaCertUses
import Derived.Test.YtfejnohcggoepaaCertRuns
import Derived.Test.YtfejnohcggoepaaPlanKCopy
import Derived.Test.YtfejnohcggoepaaPlanKRoutes
namespace Go.Proofs.Ytfejnohcggoepaa.Cert
open Go.ChangeShapes Go.WideShapes Go.ChangeAt Go.RowKit Go.Proofs.Ytfejnohcggoepaa.Mem Go.Proofs.Ytfejnohcggoepaa.GeoMath Go.Proofs.Ytfejnohcggoepaa.FleetMath Go.Proofs.Ytfejnohcggoepaa.PlanMath Go.Proofs.Ytfejnohcggoepaa.CertMath Go.Proofs.Ytfejnohcggoepaa.Rec Go.Proofs.Ytfejnohcggoepaa.Geo Go.Proofs.Ytfejnohcggoepaa.Span Go.Proofs.Ytfejnohcggoepaa.Deal Go.Proofs.Ytfejnohcggoepaa.Keep Go.Proofs.Ytfejnohcggoepaa.Route Go.Proofs.Ytfejnohcggoepaa.Plan
set_option linter.unusedVariables false
set_option linter.unusedSimpArgs false

/-- a certificate in memory of one's own, whole -/
structure Whole (w w' : World) (v : Value) (l : List CM) (cs : List (List Vis)) : Prop where
  new : NewC w w' v l
  vss : l.map (·.vs) = cs
  few : ∀ r ∈ l, r.n * 48 ≤ 140737488351232
section
variable {w w' w'' : World} {v : Value} {l : List CM} {cs : List (List Vis)}
theorem Whole.keep (h : Whole w w' v l cs) (hb : Below w'.heap.size w' w'') : Whole w w'' v l cs := ⟨h.new.keep hb, h.vss, h.few⟩
theorem Whole.len (h : Whole w w' v l cs) : l.length = cs.length := by rw [← h.vss, List.length_map]
theorem Whole.form (h : Whole w w' v l cs) : ∃ A c, v = .slice A cs.length c ∧ Crts w' w'.heap.size A cs.length l := by
  obtain ⟨A, c, e, _, hc⟩ := h.new.crts h.few
  rw [h.len] at e hc
  exact ⟨A, c, e, hc⟩
theorem Whole.crts {A : Option Addr} {n c : Nat} (h : Whole w w' (.slice A n c) l cs) : Crts w' w'.heap.size A cs.length l ∧ n = cs.length := by
  obtain ⟨A', c', e, hc⟩ := h.form
  injection e with e1 e2 _
  subst e1
  exact ⟨hc, e2⟩
end
section
variable {W u : World} {q r : Option Addr} {m : Option Mp} {x : Wd} {ds : List Drv} {os : List FleetMath.Ord} {ps : List RM}
theorem use_make (h : CR W q r m x ds os ps u) {cs : List (List Vis)} {k : Nat} {e : Int} (hr : makeC m ds os (ps.map (·.rt)) = (cs, k, e)) :
    Calls Try.prog 10 #[.pointer q, x.ds.v, x.os.v, x.pl.v] u fun en u' => ∃ B c l, en = .returned (.tuple #[.slice B cs.length c, faultV k e]) ∧ Whole u u' (.slice B cs.length c) l cs := by
  refine (pmake_any W.heap.size _ m _ _ _ ds _ _ _ os _ _ _ ps u x.ds.h x.os.h h.map h.drvs h.ords h.plns).mono ?_
  rintro en u' ⟨v, l, rfl, hm⟩
  rw [hr] at hm ⊢
  have hw : Whole u u' v l cs := ⟨hm.new, hm.vss, hm.few⟩
  obtain ⟨B, c, rfl, _⟩ := hw.form
  exact ⟨B, c, l, rfl, hw⟩
theorem use_rmake (h : CR W q r m x ds os ps u) {A : Option Addr} {n c : Nat} {l' : List RM} (hp : Plns u u.heap.size A n l') (he : l'.map (·.rt) = ps.map (·.rt)) {cs : List (List Vis)} {k : Nat} {e : Int} (hr : makeC m ds os (ps.map (·.rt)) = (cs, k, e)) :
    Calls Try.prog 16 #[.pointer r, x.ds.v, x.os.v, .slice A n c] u fun en u' => ∃ B c l, en = .returned (.tuple #[.slice B cs.length c, faultV k e]) ∧ Whole u u' (.slice B cs.length c) l cs := by
  refine (rmake_any W.heap.size _ m _ _ _ ds _ _ _ os _ _ _ l' u h.rmap h.drvs h.ords hp).mono ?_
  rintro en u' ⟨v, l, rfl, hm⟩
  rw [he, hr] at hm ⊢
  have hw : Whole u u' v l cs := ⟨hm.new, hm.vss, hm.few⟩
  obtain ⟨B, c, rfl, _⟩ := hw.form
  exact ⟨B, c, l, rfl, hw⟩
theorem use_check (h : CR W q r m x ds os ps u) {A : Option Addr} {n c : Nat} {cl : List CM} {cs : List (List Vis)} (hc : Crts u u.heap.size A n cl) (hcs : cl.map (·.vs) = cs) {k : Nat} {e : Int} (hr : checkC m ds os (ps.map (·.rt)) cs = (k, e)) :
    Calls Try.prog 13 #[.pointer q, x.ds.v, x.os.v, x.pl.v, .slice A n c] u fun en u' => en = .returned (faultV k e) ∧ Below u.heap.size u u' := by
  refine (pchk_any W.heap.size _ m _ _ _ ds _ _ _ os _ _ _ ps A n c cl u x.ds.h x.os.h h.map h.drvs h.ords h.plns hc).mono ?_
  rintro en u' ⟨rfl, hb⟩
  rw [hcs, hr]
  exact ⟨rfl, hb⟩
theorem use_rcheck (h : CR W q r m x ds os ps u) {A : Option Addr} {n c : Nat} {cl : List CM} {cs : List (List Vis)} (hc : Crts u u.heap.size A n cl) (hcs : cl.map (·.vs) = cs) {k : Nat} {e : Int} (hr : checkC m ds os (ps.map (·.rt)) cs = (k, e)) :
    Calls Try.prog 18 #[.pointer r, x.ds.v, x.os.v, x.pl.v, .slice A n c] u fun en u' => en = .returned (faultV k e) ∧ Below u.heap.size u u' := by
  refine (rcheck_any W.heap.size _ m _ _ _ ds _ _ _ os _ _ _ ps A n c cl u h.rmap h.drvs h.ords h.plns hc).mono ?_
  rintro en u' ⟨rfl, hb⟩
  rw [hcs, hr]
  exact ⟨rfl, hb⟩
end
theorem use_copy (A : Option Addr) (n c : Nat) (l : List RM) (u : World) (h : Plns u u.heap.size A n l) (hn : n * 40 ≤ 140737488351232) :
    Calls Try.prog 15 #[.slice A n c] u fun e u' => ∃ B k l', e = .returned (.slice B n k) ∧ Below u.heap.size u u' ∧ Plns u' u'.heap.size B n l' ∧ l'.map (·.rt) = l.map (·.rt) := by
  have hl := h.length
  refine (kcopy_any A n c l u h hn).mono ?_
  rintro e u' ⟨v, l', rfl, h1⟩
  have hr : l'.map (·.rt) = l.map (·.rt) := by rw [h1.rts, List.take_of_length_le (by omega)]
  obtain ⟨B, k, rfl, _, hp⟩ := h1.plan.plns h1.fits
  have hl' : l'.length = n := by have := congrArg List.length hr; simp only [List.length_map] at this; omega
  rw [hl'] at hp ⊢
  exact ⟨B, k, l', rfl, h1.plan.old, hp, hr⟩
theorem use_runs (u : World) : Calls Try.prog 3 #[] u fun e u' => e = .returned (.bool true) ∧ Below u.heap.size u u' := (runs_any u).mono fun e u' h => h
theorem drewN_below {w w' : World} {d : Nat} (h : w' = w.drewN d) : Below w.heap.size w w' := by rw [h]; exact below_drewN (Below.refl _ _) _
theorem use_lists {A A' : Option Addr} {n n' c c' : Nat} {l m : List CM} {b : Bool} {u : World} {B B' : Nat} (h : Crts u B A n l) (h' : Crts u B' A' n' m) (hb : decide (l.map (·.vs) = m.map (·.vs)) = b) :
    Calls Try.prog 12 #[.slice A n c, .slice A' n' c'] u fun e u' => e = .returned (.bool b) ∧ Below u.heap.size u u' := by
  refine (lists_any A A' n n' c c' l m b B B' u h h' hb).mono ?_
  rintro e u' ⟨rfl, d, hd⟩
  exact ⟨rfl, drewN_below hd⟩
theorem use_routes {A A' : Option Addr} {n c c' : Nat} {l m : List RM} {u : World} {B B' : Nat} (h : Plns u B A n l) (h' : Plns u B' A' n m) (he : l.map (·.rt) = m.map (·.rt)) :
    Calls Try.prog 17 #[.slice A n c, .slice A' n c'] u fun e u' => e = .returned (.bool true) ∧ Below u.heap.size u u' := by
  refine (routes_yes A A' n c c' l m B B' u h h' he).mono ?_
  rintro e u' ⟨rfl, d, hd⟩
  exact ⟨rfl, drewN_below hd⟩
theorem use_copied {A : Option Addr} {n c : Nat} {l : List CM} {cs : List (List Vis)} {u : World} (hl : Crts u u.heap.size A n l) (hcs : l.map (·.vs) = cs) (hn24 : n * 24 ≤ 140737488351232) :
    Calls Try.prog 11 #[.slice A n c] u fun e u' => ∃ B c l', e = .returned (.slice B cs.length c) ∧ Whole u u' (.slice B cs.length c) l' cs := by
  refine (copied_any A n c l u hl hn24).mono ?_
  rintro e u' ⟨v, l', rfl, h1, h2, h3⟩
  have hw : Whole u u' v l' cs := ⟨h1, h2.trans hcs, h3⟩
  obtain ⟨B, c, rfl, _⟩ := hw.form
  exact ⟨B, c, l', rfl, hw⟩
#print axioms use_make
end Go.Proofs.Ytfejnohcggoepaa.Cert
