/-
  Lists of api.Visit in memory.
-/
import Derived.Test.YtjkahookgoecpaaRecs
import Derived.Test.YtjkahookgoecpaaFleetMath
import Derived.RegionTactic
import Derived.Deep.QuietTactic
import Derived.BigQuiet
namespace Go.Proofs.Ytjkahookgoecpaa.Rec
open Go.ChangeShapes Go.WideShapes Go.ChangeAt Go.RowKit Go.Proofs.Ytjkahookgoecpaa.Mem Go.Proofs.Ytjkahookgoecpaa.FleetMath

abbrev visV (x : Vis) : Value := .agg #[.int .i64 x.stop.ord, .bool x.stop.drop, .int .i64 x.arrive, .int .i64 x.start, .int .i64 x.leave, .int .i64 x.load]
/-- the cells of a list -/
def vissV (l : List Vis) : List Value := l.flatMap fun x => [.int .i64 x.stop.ord, .bool x.stop.drop, .int .i64 x.arrive, .int .i64 x.start, .int .i64 x.leave, .int .i64 x.load]
theorem vissV_len (l : List Vis) : (vissV l).length = l.length * 6 := by
  induction l with
  | nil => rfl
  | cons x r ih => simp only [vissV, List.flatMap_cons, List.length_append, List.length_cons, List.length_nil] at ih ⊢; omega
theorem vissV_append (l m : List Vis) : vissV (l ++ m) = vissV l ++ vissV m := by simp [vissV]
theorem vissV_one (l : List Vis) : ∀ v ∈ vissV l, v.oneCell' = true := by
  intro v hv
  simp only [vissV, List.mem_flatMap, List.mem_cons, List.not_mem_nil, or_false] at hv
  obtain ⟨x, _, hv⟩ := hv
  rcases hv with rfl | rfl | rfl | rfl | rfl | rfl <;> rfl
theorem vissV_at {l : List Vis} {i : Nat} {x : Vis} (h : l[i]? = some x) : (vissV l)[i * 6 + 0]? = some (.int .i64 x.stop.ord) ∧ (vissV l)[i * 6 + 1]? = some (.bool x.stop.drop) ∧ (vissV l)[i * 6 + 2]? = some (.int .i64 x.arrive) ∧ (vissV l)[i * 6 + 3]? = some (.int .i64 x.start) ∧ (vissV l)[i * 6 + 4]? = some (.int .i64 x.leave) ∧ (vissV l)[i * 6 + 5]? = some (.int .i64 x.load) := by
  induction l generalizing i with
  | nil => cases h
  | cons y r ih =>
    cases i with
    | zero => simp at h; subst h; exact ⟨rfl, rfl, rfl, rfl, rfl, rfl⟩
    | succ i =>
      have := ih (i := i) (by simpa using h)
      rw [show (i + 1) * 6 + 0 = (i * 6 + 0) + 6 by omega, show (i + 1) * 6 + 1 = (i * 6 + 1) + 6 by omega, show (i + 1) * 6 + 2 = (i * 6 + 2) + 6 by omega, show (i + 1) * 6 + 3 = (i * 6 + 3) + 6 by omega, show (i + 1) * 6 + 4 = (i * 6 + 4) + 6 by omega, show (i + 1) * 6 + 5 = (i * 6 + 5) + 6 by omega]
      exact this
abbrev Viss (w : World) (B : Nat) (A : Option Addr) (n : Nat) (l : List Vis) : Prop := Recs w B A n 6 (vissV l)
theorem Viss.length {w : World} {B n : Nat} {A : Option Addr} {l : List Vis} (h : Viss w B A n l) : l.length = n := by have := h.1; rw [vissV_len] at this; omega
theorem Viss.at_ {w : World} {B n i : Nat} {A : Option Addr} {l : List Vis} (h : Viss w B A n l) (hi : i < n) : ∃ b off x, A = some ⟨b, off, none⟩ ∧ b < B ∧ l[i]? = some x ∧ l.drop i = x :: l.drop (i + 1) ∧ w.cell? ⟨b, off + i * 6, none⟩ = some (.int .i64 x.stop.ord) ∧ w.cell? ⟨b, off + i * 6 + 1, none⟩ = some (.bool x.stop.drop) ∧ w.cell? ⟨b, off + i * 6 + 2, none⟩ = some (.int .i64 x.arrive) ∧ w.cell? ⟨b, off + i * 6 + 3, none⟩ = some (.int .i64 x.start) ∧ w.cell? ⟨b, off + i * 6 + 4, none⟩ = some (.int .i64 x.leave) ∧ w.cell? ⟨b, off + i * 6 + 5, none⟩ = some (.int .i64 x.load) := by
  obtain ⟨b, off, e, hb, hc⟩ := Recs.at_ h hi
  have hlt : i < l.length := by rw [h.length]; exact hi
  have hx := List.getElem?_eq_getElem hlt
  obtain ⟨h0, h1, h2, h3, h4, h5⟩ := vissV_at hx
  exact ⟨b, off, _, e, hb, hx, List.drop_eq_getElem_cons hlt, hc 0 _ h0, hc 1 _ h1, hc 2 _ h2, hc 3 _ h3, hc 4 _ h4, hc 5 _ h5⟩
theorem infoVis : (Try.prog.info? 45).map (fun i => (i.zero, i.size, i.bytes)) = some (some (.agg #[.int .i64 0, .bool false, .int .i64 0, .int .i64 0, .int .i64 0, .int .i64 0]), 6, 48) := by kernel_rfl
theorem sizeVis : (Try.prog.info? 45).map (·.size) = some 6 := by kernel_rfl
#print axioms Viss.at_
end Go.Proofs.Ytjkahookgoecpaa.Rec
