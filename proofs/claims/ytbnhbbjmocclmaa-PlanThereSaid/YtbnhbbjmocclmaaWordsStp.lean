/-
  Lists of api.Stop in memory.
-/
import Derived.Test.YtbnhbbjmocclmaaLibRows
import Derived.Test.YtbnhbbjmocclmaaMaths
import Derived.RegionTactic
import Derived.Deep.QuietTactic
import Derived.BigQuiet
namespace Go.Proofs.Ytbnhbbjmocclmaa.Rec
open Go.ChangeShapes Go.WideShapes Go.ChangeAt Go.RowKit Go.Proofs.Ytbnhbbjmocclmaa.Mem Go.Proofs.Ytbnhbbjmocclmaa.FleetMath

abbrev stpV (x : Stp) : Value := .agg #[.int .i64 x.ord, .bool x.drop]
/-- the cells of a list -/
def stpsV (l : List Stp) : List Value := l.flatMap fun x => [.int .i64 x.ord, .bool x.drop]
theorem stpsV_len (l : List Stp) : (stpsV l).length = l.length * 2 := by
  induction l with
  | nil => rfl
  | cons x r ih => simp only [stpsV, List.flatMap_cons, List.length_append, List.length_cons, List.length_nil] at ih ⊢; omega
theorem stpsV_append (l m : List Stp) : stpsV (l ++ m) = stpsV l ++ stpsV m := by simp [stpsV]
theorem stpsV_one (l : List Stp) : ∀ v ∈ stpsV l, v.oneCell' = true := by
  intro v hv
  simp only [stpsV, List.mem_flatMap, List.mem_cons, List.not_mem_nil, or_false] at hv
  obtain ⟨x, _, hv⟩ := hv
  rcases hv with rfl | rfl <;> rfl
theorem stpsV_at {l : List Stp} {i : Nat} {x : Stp} (h : l[i]? = some x) : (stpsV l)[i * 2 + 0]? = some (.int .i64 x.ord) ∧ (stpsV l)[i * 2 + 1]? = some (.bool x.drop) := by
  induction l generalizing i with
  | nil => cases h
  | cons y r ih =>
    cases i with
    | zero => simp at h; subst h; exact ⟨rfl, rfl⟩
    | succ i =>
      have := ih (i := i) (by simpa using h)
      rw [show (i + 1) * 2 + 0 = (i * 2 + 0) + 2 by omega, show (i + 1) * 2 + 1 = (i * 2 + 1) + 2 by omega]
      exact this
abbrev Stps (w : World) (B : Nat) (A : Option Addr) (n : Nat) (l : List Stp) : Prop := Recs w B A n 2 (stpsV l)
theorem Stps.length {w : World} {B n : Nat} {A : Option Addr} {l : List Stp} (h : Stps w B A n l) : l.length = n := by have := h.1; rw [stpsV_len] at this; omega
theorem Stps.at_ {w : World} {B n i : Nat} {A : Option Addr} {l : List Stp} (h : Stps w B A n l) (hi : i < n) : ∃ b off x, A = some ⟨b, off, none⟩ ∧ b < B ∧ l[i]? = some x ∧ l.drop i = x :: l.drop (i + 1) ∧ w.cell? ⟨b, off + i * 2, none⟩ = some (.int .i64 x.ord) ∧ w.cell? ⟨b, off + i * 2 + 1, none⟩ = some (.bool x.drop) := by
  obtain ⟨b, off, e, hb, hc⟩ := Recs.at_ h hi
  have hlt : i < l.length := by rw [h.length]; exact hi
  have hx := List.getElem?_eq_getElem hlt
  obtain ⟨h0, h1⟩ := stpsV_at hx
  exact ⟨b, off, _, e, hb, hx, List.drop_eq_getElem_cons hlt, hc 0 _ h0, hc 1 _ h1⟩
theorem infoStp : (Try.prog.info? 23).map (fun i => (i.zero, i.size, i.bytes)) = some (some (.agg #[.int .i64 0, .bool false]), 2, 16) := by kernel_rfl
theorem sizeStp : (Try.prog.info? 23).map (·.size) = some 2 := by kernel_rfl
#print axioms Stps.at_
end Go.Proofs.Ytbnhbbjmocclmaa.Rec
