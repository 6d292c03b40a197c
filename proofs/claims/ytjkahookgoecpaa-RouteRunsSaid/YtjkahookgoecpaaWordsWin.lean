/-
  Lists of api.Window in memory.
-/
import Derived.Test.YtjkahookgoecpaaRecs
import Derived.Test.YtjkahookgoecpaaFleetMath
import Derived.RegionTactic
import Derived.Deep.QuietTactic
import Derived.BigQuiet
namespace Go.Proofs.Ytjkahookgoecpaa.Rec
open Go.ChangeShapes Go.WideShapes Go.ChangeAt Go.RowKit Go.Proofs.Ytjkahookgoecpaa.Mem Go.Proofs.Ytjkahookgoecpaa.FleetMath

abbrev winV (x : Win) : Value := .agg #[.int .i64 x.fr, .int .i64 x.to]
/-- the cells of a list -/
def winsV (l : List Win) : List Value := l.flatMap fun x => [.int .i64 x.fr, .int .i64 x.to]
theorem winsV_len (l : List Win) : (winsV l).length = l.length * 2 := by
  induction l with
  | nil => rfl
  | cons x r ih => simp only [winsV, List.flatMap_cons, List.length_append, List.length_cons, List.length_nil] at ih ⊢; omega
theorem winsV_append (l m : List Win) : winsV (l ++ m) = winsV l ++ winsV m := by simp [winsV]
theorem winsV_one (l : List Win) : ∀ v ∈ winsV l, v.oneCell' = true := by
  intro v hv
  simp only [winsV, List.mem_flatMap, List.mem_cons, List.not_mem_nil, or_false] at hv
  obtain ⟨x, _, hv⟩ := hv
  rcases hv with rfl | rfl <;> rfl
theorem winsV_at {l : List Win} {i : Nat} {x : Win} (h : l[i]? = some x) : (winsV l)[i * 2 + 0]? = some (.int .i64 x.fr) ∧ (winsV l)[i * 2 + 1]? = some (.int .i64 x.to) := by
  induction l generalizing i with
  | nil => cases h
  | cons y r ih =>
    cases i with
    | zero => simp at h; subst h; exact ⟨rfl, rfl⟩
    | succ i =>
      have := ih (i := i) (by simpa using h)
      rw [show (i + 1) * 2 + 0 = (i * 2 + 0) + 2 by omega, show (i + 1) * 2 + 1 = (i * 2 + 1) + 2 by omega]
      exact this
abbrev Wins (w : World) (B : Nat) (A : Option Addr) (n : Nat) (l : List Win) : Prop := Recs w B A n 2 (winsV l)
theorem Wins.length {w : World} {B n : Nat} {A : Option Addr} {l : List Win} (h : Wins w B A n l) : l.length = n := by have := h.1; rw [winsV_len] at this; omega
theorem Wins.at_ {w : World} {B n i : Nat} {A : Option Addr} {l : List Win} (h : Wins w B A n l) (hi : i < n) : ∃ b off x, A = some ⟨b, off, none⟩ ∧ b < B ∧ l[i]? = some x ∧ l.drop i = x :: l.drop (i + 1) ∧ w.cell? ⟨b, off + i * 2, none⟩ = some (.int .i64 x.fr) ∧ w.cell? ⟨b, off + i * 2 + 1, none⟩ = some (.int .i64 x.to) := by
  obtain ⟨b, off, e, hb, hc⟩ := Recs.at_ h hi
  have hlt : i < l.length := by rw [h.length]; exact hi
  have hx := List.getElem?_eq_getElem hlt
  obtain ⟨h0, h1⟩ := winsV_at hx
  exact ⟨b, off, _, e, hb, hx, List.drop_eq_getElem_cons hlt, hc 0 _ h0, hc 1 _ h1⟩
theorem infoWin : (Try.prog.info? 27).map (fun i => (i.zero, i.size, i.bytes)) = some (some (.agg #[.int .i64 0, .int .i64 0]), 2, 16) := by kernel_rfl
theorem sizeWin : (Try.prog.info? 27).map (·.size) = some 2 := by kernel_rfl
#print axioms Wins.at_
end Go.Proofs.Ytjkahookgoecpaa.Rec
