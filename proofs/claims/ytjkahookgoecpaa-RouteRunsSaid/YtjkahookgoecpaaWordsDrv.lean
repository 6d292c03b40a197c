/-
  Lists of api.Driver in memory.
-/
import Derived.Test.YtjkahookgoecpaaRecs
import Derived.Test.YtjkahookgoecpaaFleetMath
import Derived.RegionTactic
import Derived.Deep.QuietTactic
import Derived.BigQuiet
namespace Go.Proofs.Ytjkahookgoecpaa.Rec
open Go.ChangeShapes Go.WideShapes Go.ChangeAt Go.RowKit Go.Proofs.Ytjkahookgoecpaa.Mem Go.Proofs.Ytjkahookgoecpaa.FleetMath

abbrev drvV (x : Drv) : Value := .agg #[.int .i64 x.id, .int .i64 x.room, .int .i64 x.home, .int .i64 x.win.fr, .int .i64 x.win.to, .bool x.retired]
/-- the cells of a list -/
def drvsV (l : List Drv) : List Value := l.flatMap fun x => [.int .i64 x.id, .int .i64 x.room, .int .i64 x.home, .int .i64 x.win.fr, .int .i64 x.win.to, .bool x.retired]
theorem drvsV_len (l : List Drv) : (drvsV l).length = l.length * 6 := by
  induction l with
  | nil => rfl
  | cons x r ih => simp only [drvsV, List.flatMap_cons, List.length_append, List.length_cons, List.length_nil] at ih ⊢; omega
theorem drvsV_append (l m : List Drv) : drvsV (l ++ m) = drvsV l ++ drvsV m := by simp [drvsV]
theorem drvsV_one (l : List Drv) : ∀ v ∈ drvsV l, v.oneCell' = true := by
  intro v hv
  simp only [drvsV, List.mem_flatMap, List.mem_cons, List.not_mem_nil, or_false] at hv
  obtain ⟨x, _, hv⟩ := hv
  rcases hv with rfl | rfl | rfl | rfl | rfl | rfl <;> rfl
theorem drvsV_at {l : List Drv} {i : Nat} {x : Drv} (h : l[i]? = some x) : (drvsV l)[i * 6 + 0]? = some (.int .i64 x.id) ∧ (drvsV l)[i * 6 + 1]? = some (.int .i64 x.room) ∧ (drvsV l)[i * 6 + 2]? = some (.int .i64 x.home) ∧ (drvsV l)[i * 6 + 3]? = some (.int .i64 x.win.fr) ∧ (drvsV l)[i * 6 + 4]? = some (.int .i64 x.win.to) ∧ (drvsV l)[i * 6 + 5]? = some (.bool x.retired) := by
  induction l generalizing i with
  | nil => cases h
  | cons y r ih =>
    cases i with
    | zero => simp at h; subst h; exact ⟨rfl, rfl, rfl, rfl, rfl, rfl⟩
    | succ i =>
      have := ih (i := i) (by simpa using h)
      rw [show (i + 1) * 6 + 0 = (i * 6 + 0) + 6 by omega, show (i + 1) * 6 + 1 = (i * 6 + 1) + 6 by omega, show (i + 1) * 6 + 2 = (i * 6 + 2) + 6 by omega, show (i + 1) * 6 + 3 = (i * 6 + 3) + 6 by omega, show (i + 1) * 6 + 4 = (i * 6 + 4) + 6 by omega, show (i + 1) * 6 + 5 = (i * 6 + 5) + 6 by omega]
      exact this
abbrev Drvs (w : World) (B : Nat) (A : Option Addr) (n : Nat) (l : List Drv) : Prop := Recs w B A n 6 (drvsV l)
theorem Drvs.length {w : World} {B n : Nat} {A : Option Addr} {l : List Drv} (h : Drvs w B A n l) : l.length = n := by have := h.1; rw [drvsV_len] at this; omega
theorem Drvs.at_ {w : World} {B n i : Nat} {A : Option Addr} {l : List Drv} (h : Drvs w B A n l) (hi : i < n) : ∃ b off x, A = some ⟨b, off, none⟩ ∧ b < B ∧ l[i]? = some x ∧ l.drop i = x :: l.drop (i + 1) ∧ w.cell? ⟨b, off + i * 6, none⟩ = some (.int .i64 x.id) ∧ w.cell? ⟨b, off + i * 6 + 1, none⟩ = some (.int .i64 x.room) ∧ w.cell? ⟨b, off + i * 6 + 2, none⟩ = some (.int .i64 x.home) ∧ w.cell? ⟨b, off + i * 6 + 3, none⟩ = some (.int .i64 x.win.fr) ∧ w.cell? ⟨b, off + i * 6 + 4, none⟩ = some (.int .i64 x.win.to) ∧ w.cell? ⟨b, off + i * 6 + 5, none⟩ = some (.bool x.retired) := by
  obtain ⟨b, off, e, hb, hc⟩ := Recs.at_ h hi
  have hlt : i < l.length := by rw [h.length]; exact hi
  have hx := List.getElem?_eq_getElem hlt
  obtain ⟨h0, h1, h2, h3, h4, h5⟩ := drvsV_at hx
  exact ⟨b, off, _, e, hb, hx, List.drop_eq_getElem_cons hlt, hc 0 _ h0, hc 1 _ h1, hc 2 _ h2, hc 3 _ h3, hc 4 _ h4, hc 5 _ h5⟩
theorem infoDrv : (Try.prog.info? 33).map (fun i => (i.zero, i.size, i.bytes)) = some (some (.agg #[.int .i64 0, .int .i64 0, .int .i64 0, .int .i64 0, .int .i64 0, .bool false]), 6, 48) := by kernel_rfl
theorem sizeDrv : (Try.prog.info? 33).map (·.size) = some 6 := by kernel_rfl
#print axioms Drvs.at_
end Go.Proofs.Ytjkahookgoecpaa.Rec
