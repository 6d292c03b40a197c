/-
  Lists of api.Order in memory.
-/
import Derived.Test.YtjkahookgoecpaaRecs
import Derived.Test.YtjkahookgoecpaaFleetMath
import Derived.RegionTactic
import Derived.Deep.QuietTactic
import Derived.BigQuiet
namespace Go.Proofs.Ytjkahookgoecpaa.Rec
open Go.ChangeShapes Go.WideShapes Go.ChangeAt Go.RowKit Go.Proofs.Ytjkahookgoecpaa.Mem Go.Proofs.Ytjkahookgoecpaa.FleetMath

abbrev ordV (x : Ord) : Value := .agg #[.int .i64 x.id, .int .i64 x.size, .int .i64 x.pick.place, .int .i64 x.pick.win.fr, .int .i64 x.pick.win.to, .int .i64 x.pick.serv, .int .i64 x.drop.place, .int .i64 x.drop.win.fr, .int .i64 x.drop.win.to, .int .i64 x.drop.serv]
/-- the cells of a list -/
def ordsV (l : List Ord) : List Value := l.flatMap fun x => [.int .i64 x.id, .int .i64 x.size, .int .i64 x.pick.place, .int .i64 x.pick.win.fr, .int .i64 x.pick.win.to, .int .i64 x.pick.serv, .int .i64 x.drop.place, .int .i64 x.drop.win.fr, .int .i64 x.drop.win.to, .int .i64 x.drop.serv]
theorem ordsV_len (l : List Ord) : (ordsV l).length = l.length * 10 := by
  induction l with
  | nil => rfl
  | cons x r ih => simp only [ordsV, List.flatMap_cons, List.length_append, List.length_cons, List.length_nil] at ih ⊢; omega
theorem ordsV_append (l m : List Ord) : ordsV (l ++ m) = ordsV l ++ ordsV m := by simp [ordsV]
theorem ordsV_one (l : List Ord) : ∀ v ∈ ordsV l, v.oneCell' = true := by
  intro v hv
  simp only [ordsV, List.mem_flatMap, List.mem_cons, List.not_mem_nil, or_false] at hv
  obtain ⟨x, _, hv⟩ := hv
  rcases hv with rfl | rfl | rfl | rfl | rfl | rfl | rfl | rfl | rfl | rfl <;> rfl
theorem ordsV_at {l : List Ord} {i : Nat} {x : Ord} (h : l[i]? = some x) : (ordsV l)[i * 10 + 0]? = some (.int .i64 x.id) ∧ (ordsV l)[i * 10 + 1]? = some (.int .i64 x.size) ∧ (ordsV l)[i * 10 + 2]? = some (.int .i64 x.pick.place) ∧ (ordsV l)[i * 10 + 3]? = some (.int .i64 x.pick.win.fr) ∧ (ordsV l)[i * 10 + 4]? = some (.int .i64 x.pick.win.to) ∧ (ordsV l)[i * 10 + 5]? = some (.int .i64 x.pick.serv) ∧ (ordsV l)[i * 10 + 6]? = some (.int .i64 x.drop.place) ∧ (ordsV l)[i * 10 + 7]? = some (.int .i64 x.drop.win.fr) ∧ (ordsV l)[i * 10 + 8]? = some (.int .i64 x.drop.win.to) ∧ (ordsV l)[i * 10 + 9]? = some (.int .i64 x.drop.serv) := by
  induction l generalizing i with
  | nil => cases h
  | cons y r ih =>
    cases i with
    | zero => simp at h; subst h; exact ⟨rfl, rfl, rfl, rfl, rfl, rfl, rfl, rfl, rfl, rfl⟩
    | succ i =>
      have := ih (i := i) (by simpa using h)
      rw [show (i + 1) * 10 + 0 = (i * 10 + 0) + 10 by omega, show (i + 1) * 10 + 1 = (i * 10 + 1) + 10 by omega, show (i + 1) * 10 + 2 = (i * 10 + 2) + 10 by omega, show (i + 1) * 10 + 3 = (i * 10 + 3) + 10 by omega, show (i + 1) * 10 + 4 = (i * 10 + 4) + 10 by omega, show (i + 1) * 10 + 5 = (i * 10 + 5) + 10 by omega, show (i + 1) * 10 + 6 = (i * 10 + 6) + 10 by omega, show (i + 1) * 10 + 7 = (i * 10 + 7) + 10 by omega, show (i + 1) * 10 + 8 = (i * 10 + 8) + 10 by omega, show (i + 1) * 10 + 9 = (i * 10 + 9) + 10 by omega]
      exact this
abbrev Ords (w : World) (B : Nat) (A : Option Addr) (n : Nat) (l : List Ord) : Prop := Recs w B A n 10 (ordsV l)
theorem Ords.length {w : World} {B n : Nat} {A : Option Addr} {l : List Ord} (h : Ords w B A n l) : l.length = n := by have := h.1; rw [ordsV_len] at this; omega
theorem Ords.at_ {w : World} {B n i : Nat} {A : Option Addr} {l : List Ord} (h : Ords w B A n l) (hi : i < n) : ∃ b off x, A = some ⟨b, off, none⟩ ∧ b < B ∧ l[i]? = some x ∧ l.drop i = x :: l.drop (i + 1) ∧ w.cell? ⟨b, off + i * 10, none⟩ = some (.int .i64 x.id) ∧ w.cell? ⟨b, off + i * 10 + 1, none⟩ = some (.int .i64 x.size) ∧ w.cell? ⟨b, off + i * 10 + 2, none⟩ = some (.int .i64 x.pick.place) ∧ w.cell? ⟨b, off + i * 10 + 3, none⟩ = some (.int .i64 x.pick.win.fr) ∧ w.cell? ⟨b, off + i * 10 + 4, none⟩ = some (.int .i64 x.pick.win.to) ∧ w.cell? ⟨b, off + i * 10 + 5, none⟩ = some (.int .i64 x.pick.serv) ∧ w.cell? ⟨b, off + i * 10 + 6, none⟩ = some (.int .i64 x.drop.place) ∧ w.cell? ⟨b, off + i * 10 + 7, none⟩ = some (.int .i64 x.drop.win.fr) ∧ w.cell? ⟨b, off + i * 10 + 8, none⟩ = some (.int .i64 x.drop.win.to) ∧ w.cell? ⟨b, off + i * 10 + 9, none⟩ = some (.int .i64 x.drop.serv) := by
  obtain ⟨b, off, e, hb, hc⟩ := Recs.at_ h hi
  have hlt : i < l.length := by rw [h.length]; exact hi
  have hx := List.getElem?_eq_getElem hlt
  obtain ⟨h0, h1, h2, h3, h4, h5, h6, h7, h8, h9⟩ := ordsV_at hx
  exact ⟨b, off, _, e, hb, hx, List.drop_eq_getElem_cons hlt, hc 0 _ h0, hc 1 _ h1, hc 2 _ h2, hc 3 _ h3, hc 4 _ h4, hc 5 _ h5, hc 6 _ h6, hc 7 _ h7, hc 8 _ h8, hc 9 _ h9⟩
theorem infoOrd : (Try.prog.info? 31).map (fun i => (i.zero, i.size, i.bytes)) = some (some (.agg #[.int .i64 0, .int .i64 0, .int .i64 0, .int .i64 0, .int .i64 0, .int .i64 0, .int .i64 0, .int .i64 0, .int .i64 0, .int .i64 0]), 10, 80) := by kernel_rfl
theorem sizeOrd : (Try.prog.info? 31).map (·.size) = some 10 := by kernel_rfl
#print axioms Ords.at_
end Go.Proofs.Ytjkahookgoecpaa.Rec
