/-
  Plan's Right, With, Without, as the statements' walks use them: all that was there before stays.
-/
import Derived.Test.YtjklpdeeohhhnaaPlanPWith
import Derived.Test.YtjklpdeeohhhnaaPlanPWithout
import Derived.Test.YtjklpdeeohhhnaaPlanPRight
namespace Go.Proofs.Ytjklpdeeohhhnaa.Plan
open Go.ChangeShapes Go.WideShapes Go.ChangeAt Go.RowKit Go.Proofs.Ytjklpdeeohhhnaa.Mem Go.Proofs.Ytjklpdeeohhhnaa.FleetMath Go.Proofs.Ytjklpdeeohhhnaa.PlanMath Go.Proofs.Ytjklpdeeohhhnaa.Rec
set_option linter.unusedVariables false

theorem Below.then {W u u' : World} (h : Below W.heap.size W u) (hb : Below u.heap.size u u') : Below W.heap.size W u' := h.trans (hb.mono h.size)
theorem wf_small {z : Int} (h : 1 ≤ z ∧ z ≤ 1000000) : (Lit.int .i64 z).wf = true := by
  simp [Lit.wf, IntKind.min, IntKind.max, IntKind.signed, IntKind.bits]
  omega
/-- a plan that a call made, as the walks take it -/
theorem made_any {w w' : World} {v : Value} {p : List Rte} (h : Made w w' v p) : ∃ A c l', v = .slice A p.length c ∧ Below w.heap.size w w' ∧ Plns w' w'.heap.size A p.length l' ∧ l'.map (·.rt) = p ∧ l'.length = p.length ∧ NewP w w' v l' := by
  obtain ⟨l', h1, h2, h3⟩ := h
  obtain ⟨A, c, e, _, hp⟩ := h1.plns h3
  have hl : l'.length = p.length := by have := congrArg List.length h2; simpa using this
  rw [hl] at hp e
  exact ⟨A, c, l', e, h1.old, hp, h2, hl, h1⟩
section
variable (W u : World)
theorem use_without (A : Option Addr) (n c : Nat) (l : List RM) (A2 : Option Addr) (m c2 : Nat) (os : List Int) (p : List Rte) (h : Plns u u.heap.size A n l) (hn : n * 40 ≤ 140737488351232) (ho : Ints u u.heap.size A2 m os)
    (hw1 : ∀ r ∈ l, ∀ s ∈ r.rt.stops, (Lit.int .i64 s.ord).wf = true) (hw2 : ∀ z ∈ os, (Lit.int .i64 z).wf = true) (hu : Below W.heap.size W u) (hp : withoutP (l.map (·.rt)) os = p) :
    Calls Try.prog 24 #[.slice A n c, .slice A2 m c2] u fun e u' => ∃ B k l', e = .returned (.slice B p.length k) ∧ Below u.heap.size u u' ∧ Below W.heap.size W u' ∧ Plns u' u'.heap.size B p.length l' ∧ l'.map (·.rt) = p ∧ l'.length = p.length ∧ NewP u u' (.slice B p.length k) l' := by
  refine (pwithout_any A n c l A2 m c2 os u h hn ho hw1 hw2).mono ?_
  rintro e u' ⟨v, rfl, hv⟩
  rw [hp] at hv
  obtain ⟨B, k, l', rfl, hb, h1, h2, h3, h4⟩ := made_any hv
  exact ⟨B, k, l', rfl, hb, Below.then hu hb, h1, h2, h3, h4⟩
theorem use_with_no (A : Option Addr) (n c : Nat) (l : List RM) (o : Int) (s : Spt) (y : Int) (h : Plns u u.heap.size A n l) (hu : Below W.heap.size W u) (hr : withP (l.map (·.rt)) o s = none) :
    Calls Try.prog 23 #[.slice A n c, .int .i64 o, .agg #[.int .i64 s.drv, .int .i64 s.pick, .int .i64 s.drop, .int .i64 y]] u fun e u' => e = .returned (.tuple #[.slice none 0 0, .bool false]) ∧ Below u.heap.size u u' ∧ Below W.heap.size W u' := by
  refine (pwith_any A n c l o s y u h).mono ?_
  rintro e u' ⟨hb, hv⟩
  rw [hr] at hv
  exact ⟨hv, hb, Below.then hu hb⟩
theorem use_with (A : Option Addr) (n c : Nat) (l : List RM) (o : Int) (s : Spt) (y : Int) (p : List Rte) (h : Plns u u.heap.size A n l) (hu : Below W.heap.size W u) (hr : withP (l.map (·.rt)) o s = some p) :
    Calls Try.prog 23 #[.slice A n c, .int .i64 o, .agg #[.int .i64 s.drv, .int .i64 s.pick, .int .i64 s.drop, .int .i64 y]] u fun e u' => ∃ B k l', e = .returned (.tuple #[.slice B p.length k, .bool true]) ∧ Below u.heap.size u u' ∧ Below W.heap.size W u' ∧ Plns u' u'.heap.size B p.length l' ∧ l'.map (·.rt) = p ∧ l'.length = p.length ∧ NewP u u' (.slice B p.length k) l' := by
  refine (pwith_any A n c l o s y u h).mono ?_
  rintro e u' ⟨hb, hv⟩
  rw [hr] at hv
  obtain ⟨v, rfl, hv⟩ := hv
  obtain ⟨B, k, l', rfl, _, h1, h2, h3, h4⟩ := made_any hv
  exact ⟨B, k, l', rfl, hb, Below.then hu hb, h1, h2, h3, h4⟩
theorem use_right (A : Option Addr) (n c : Nat) (l : List RM) (b : Bool) (h : Plns u u.heap.size A n l) (hu : Below W.heap.size W u) (hb : rightP (l.map (·.rt)) = b) :
    Calls Try.prog 22 #[.slice A n c] u fun e u' => e = .returned (.bool b) ∧ Below u.heap.size u u' ∧ Below W.heap.size W u' := by
  refine (pright_any A n c l u h).mono ?_
  rintro e u' ⟨rfl, h1⟩
  exact ⟨by rw [hb], h1, Below.then hu h1⟩
end
end Go.Proofs.Ytjklpdeeohhhnaa.Plan
