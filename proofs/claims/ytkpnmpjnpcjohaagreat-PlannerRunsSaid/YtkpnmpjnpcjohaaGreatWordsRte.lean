import Derived.Test.YtkpnmpjnpcjohaaGreatWords
import Derived.Test.YtkpnmpjnpcjohaaGreatPlanMaths
namespace Go.Proofs.YtkpnmpjnpcjohaaGreat.Rec
open Go.ChangeShapes Go.WideShapes Go.ChangeAt Go.RowKit Mem FleetMath PlanMath
structure RM where
  rt : Rte
  a : Option Addr
  n : Nat
  c : Nat
abbrev rmL (r : RM) : List Value := [.int .i64 r.rt.drv, .int .i64 r.rt.served, .slice r.a r.n r.c]
def rmsV (l : List RM) : List Value := l.flatMap rmL
theorem rmsV_len (l : List RM) : (rmsV l).length = l.length * 3 := by
  induction l with
  | nil => rfl
  | cons x r ih => simp only [rmsV, List.flatMap_cons, List.length_append, List.length_cons, List.length_nil] at ih ⊢; omega
theorem rmsV_append (l m : List RM) : rmsV (l ++ m) = rmsV l ++ rmsV m := by simp [rmsV]
theorem rmsV_one (l : List RM) : ∀ v ∈ rmsV l, v.oneCell' = true := by
  intro v hv
  simp only [rmsV, List.mem_flatMap, List.mem_cons, List.not_mem_nil, or_false] at hv
  obtain ⟨x, _, hv⟩ := hv
  rcases hv with rfl | rfl | rfl <;> rfl
theorem rmsV_at {l : List RM} {i : Nat} {x : RM} (h : l[i]? = some x) : (rmsV l)[i * 3 + 0]? = some (.int .i64 x.rt.drv) ∧ (rmsV l)[i * 3 + 1]? = some (.int .i64 x.rt.served) ∧ (rmsV l)[i * 3 + 2]? = some (.slice x.a x.n x.c) := by
  induction l generalizing i with
  | nil => cases h
  | cons y r ih =>
    cases i with
    | zero => simp at h; subst h; exact ⟨rfl, rfl, rfl⟩
    | succ i =>
      have := ih (i := i) (by simpa using h)
      rw [show (i + 1) * 3 + 0 = (i * 3 + 0) + 3 by omega, show (i + 1) * 3 + 1 = (i * 3 + 1) + 3 by omega, show (i + 1) * 3 + 2 = (i * 3 + 2) + 3 by omega]
      exact this
structure Plns (w : World) (B : Nat) (A : Option Addr) (n : Nat) (l : List RM) : Prop where
  rows : Recs w B A n 3 (rmsV l)
  each : ∀ r ∈ l, Stps w B r.a r.n r.rt.stops ∧ r.n ≤ r.c ∧ r.n * 16 ≤ 140737488351232
section
variable {w w' : World} {B B' n i : Nat} {A : Option Addr} {l : List RM}
theorem Plns.keep (h : Plns w B A n l) (hb : Below B w w') : Plns w' B A n l := ⟨Recs.keep h.rows hb, fun r hr => ⟨Recs.keep (h.each r hr).1 hb, (h.each r hr).2⟩⟩
theorem Plns.more (h : Plns w B A n l) (hB : B ≤ B') : Plns w B' A n l := ⟨Recs.more h.rows hB, fun r hr => ⟨Recs.more (h.each r hr).1 hB, (h.each r hr).2⟩⟩
theorem Plns.length (h : Plns w B A n l) : l.length = n := by have := h.rows.1; rw [rmsV_len] at this; omega
theorem Plns.at_ (h : Plns w B A n l) (hi : i < n) : ∃ b off x, A = some ⟨b, off, none⟩ ∧ b < B ∧ l[i]? = some x ∧ l.drop i = x :: l.drop (i + 1) ∧ w.cell? ⟨b, off + i * 3, none⟩ = some (.int .i64 x.rt.drv) ∧ w.cell? ⟨b, off + i * 3 + 1, none⟩ = some (.int .i64 x.rt.served) ∧ w.cell? ⟨b, off + i * 3 + 2, none⟩ = some (.slice x.a x.n x.c) ∧ Stps w B x.a x.n x.rt.stops ∧ x.n ≤ x.c := by
  obtain ⟨b, off, e, hb, hc⟩ := Recs.at_ h.rows hi
  have hlt : i < l.length := by rw [h.length]; exact hi
  have hx := List.getElem?_eq_getElem hlt
  obtain ⟨h0, h1, h2⟩ := rmsV_at hx
  obtain ⟨e1, e2, _⟩ := h.each _ (List.getElem_mem hlt)
  exact ⟨b, off, _, e, hb, hx, List.drop_eq_getElem_cons hlt, hc 0 _ h0, hc 1 _ h1, hc 2 _ h2, e1, e2⟩
end
end Go.Proofs.YtkpnmpjnpcjohaaGreat.Rec
