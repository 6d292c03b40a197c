/-
  A plan that is being made: a list of routes of the call's own, each route with a row of stops of its own.
-/
import Derived.Test.YtbnhbbjmocclmaaWordsRte
import Derived.Test.YtbnhbbjmocclmaaLibRows
namespace Go.Proofs.Ytbnhbbjmocclmaa.Plan
open Go.ChangeShapes Go.WideShapes Go.ChangeAt Go.RowKit Go.Proofs.Ytbnhbbjmocclmaa.Mem Go.Proofs.Ytbnhbbjmocclmaa.FleetMath Go.Proofs.Ytbnhbbjmocclmaa.PlanMath Go.Proofs.Ytbnhbbjmocclmaa.Rec
set_option linter.unusedVariables false

theorem stp_one' (s : Stp) : ∀ u ∈ [Value.int .i64 s.ord, Value.bool s.drop], u.oneCell' = true := by
  intro u hu
  simp only [List.mem_cons, List.not_mem_nil, or_false] at hu
  rcases hu with rfl | rfl <;> rfl
abbrev _root_.Go.Proofs.Ytbnhbbjmocclmaa.Rec.RM.v (r : RM) : Value := .slice r.a r.n r.c
theorem own_blk {w : World} {base k n : Nat} {e : TypeId} {v : Value} {vs : List Value} (h : OwnK w base e k v n vs) {g : Nat} (hg : v.ownBlock = some g) : base ≤ g ∧ g < w.heap.size := by
  rcases h.1.2 with ⟨rfl, _⟩ | ⟨b, cap, cur, rfl, hb, hh, _⟩
  · cases hg
  · have : b = g := by simpa [Value.ownBlock] using hg
    subst this
    refine ⟨hb, ?_⟩
    rcases Nat.lt_or_ge b w.heap.size with hlt | hge
    · exact hlt
    · rw [Array.getElem?_eq_none hge] at hh; cases hh
/-- two rows do not lie in one block -/
def Two (u v : Value) : Prop := ∀ g, u.ownBlock = some g → v.ownBlock ≠ some g
theorem Two.symm {u v : Value} (h : Two u v) : Two v u := fun g hv hu => h g hu hv
theorem Two.nil (v : Value) : Two (.slice none 0 0) v := fun g h => by cases h
/-- v's row has grown: another own row is none of it -/
theorem Two.grown {w : World} {base k n : Nat} {e : TypeId} {u v v' : Value} {vs : List Value} (h : Two u v) (hu : OwnK w base e k u n vs) (hn : v'.ownBlock = v.ownBlock ∨ v'.ownBlock = some w.heap.size) : Two u v' := by
  intro g hg
  rcases hn with hn | hn
  · rw [hn]; exact h g hg
  · rw [hn]
    intro e
    injection e with e
    have := (own_blk hu hg).2
    omega
/-- a plan in the making: its list is v, its routes are l -/
structure NewP (w0 w : World) (v : Value) (l : List RM) : Prop where
  old : Below w0.heap.size w0 w
  own : OwnK w w0.heap.size 26 3 v l.length (rmsV l)
  each : ∀ r ∈ l, OwnK w w0.heap.size 23 2 r.v r.n (stpsV r.rt.stops) ∧ Two r.v v
/-- .. and the next route's stops, u -/
structure RowP (w0 w : World) (v : Value) (l : List RM) (u : Value) (s : List Stp) : Prop where
  plan : NewP w0 w v l
  own : OwnK w w0.heap.size 23 2 u s.length (stpsV s)
  two : Two u v
  apart : ∀ r ∈ l, Two u r.v
section
variable {w0 w w' : World} {v v' u u' : Value} {l : List RM} {s : List Stp}
theorem NewP.nil (w0 : World) : NewP w0 w0 (.slice none 0 0) [] := ⟨Below.refl _ _, OwnK.nil _ _ _ _, fun r h => by cases h⟩
theorem NewP.keep (h : NewP w0 w v l) (hb : Below w.heap.size w w') : NewP w0 w' v l :=
  ⟨h.old.trans (hb.mono h.old.size), h.own.keep hb (Nat.le_refl _), fun r hr => ⟨(h.each r hr).1.keep hb (Nat.le_refl _), (h.each r hr).2⟩⟩
theorem NewP.row (h : NewP w0 w v l) : RowP w0 w v l (.slice none 0 0) [] := ⟨h, OwnK.nil _ _ _ _, Two.nil _, fun _ _ => Two.nil _⟩
theorem RowP.keep (h : RowP w0 w v l u s) (hb : Below w.heap.size w w') : RowP w0 w' v l u s := ⟨h.plan.keep hb, h.own.keep hb (Nat.le_refl _), h.two, h.apart⟩
/-- a stop more -/
theorem RowP.grow {x : Stp} (h : RowP w0 w v l u s) (ho : OwnK w' w0.heap.size 23 2 u' (s.length + 1) (stpsV s ++ [.int .i64 x.ord, .bool x.drop])) (hg : w.grownBy w' u.ownBlock)
    (hn : u'.ownBlock = u.ownBlock ∨ u'.ownBlock = some w.heap.size) : RowP w0 w' v l u' (s ++ [x]) := by
  refine ⟨⟨h.own.below h.plan.old hg h.plan.old.size (Nat.le_refl _), h.plan.own.other hg fun g hv hu => h.two g hu hv, fun r hr => ⟨(h.plan.each r hr).1.other hg fun g hv hu => h.apart r hr g hu hv, (h.plan.each r hr).2⟩⟩, ?_, ?_, fun r hr => ?_⟩
  · rw [List.length_append]
    have e : stpsV (s ++ [x]) = stpsV s ++ [.int .i64 x.ord, .bool x.drop] := by simp [stpsV]
    rw [e]
    exact ho
  · exact (h.two.symm.grown h.plan.own hn).symm
  · exact ((h.apart r hr).symm.grown (h.plan.each r hr).1 hn).symm
/-- a route more -/
theorem RowP.push {r : RM} (h : RowP w0 w v l u s) (hu : u = r.v) (hs : r.rt.stops = s) (ho : OwnK w' w0.heap.size 26 3 v' (l.length + 1) (rmsV l ++ rmL r)) (hg : w.grownBy w' v.ownBlock)
    (hn : v'.ownBlock = v.ownBlock ∨ v'.ownBlock = some w.heap.size) : NewP w0 w' v' (l ++ [r]) := by
  subst hu hs
  have hrn : r.n = r.rt.stops.length := by
    obtain ⟨A, c, e, _⟩ := h.own.read
    injection e
  refine ⟨h.plan.own.below h.plan.old hg h.plan.old.size (Nat.le_refl _), ?_, fun q hq => ?_⟩
  · rw [List.length_append, rmsV_append]
    have e : rmsV [r] = rmL r := by simp [rmsV]
    rw [e]
    exact ho
  · rcases List.mem_append.1 hq with hq | hq
    · obtain ⟨h1, h2⟩ := h.plan.each q hq
      exact ⟨h1.other hg fun g hv hu => h2 g hv hu, h2.grown h1 hn⟩
    · obtain rfl : q = r := by simpa using hq
      refine ⟨?_, h.two.grown h.own hn⟩
      have h1 := h.own.other hg fun g hv hu => h.two g hv hu
      rw [← hrn] at h1
      exact h1
/-- what is made in the end -/
theorem NewP.plns (h : NewP w0 w v l) (hb : ∀ r ∈ l, r.n * 16 ≤ 140737488351232) : ∃ A c, v = .slice A l.length c ∧ l.length ≤ c ∧ Plns w w.heap.size A l.length l := by
  obtain ⟨A, c, e, hc, hr⟩ := h.own.read
  refine ⟨A, c, e, hc, hr, fun r hm => ?_⟩
  obtain ⟨A', c', e', hc', hr'⟩ := (h.each r hm).1.read
  injection e' with e1 _ e2
  rw [e1, e2]
  exact ⟨hr', hc', hb r hm⟩
end
#print axioms RowP.push
#print axioms NewP.plns
end Go.Proofs.Ytbnhbbjmocclmaa.Plan
