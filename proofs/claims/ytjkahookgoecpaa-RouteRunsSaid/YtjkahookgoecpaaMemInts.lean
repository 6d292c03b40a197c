/-
  Words for memory that holds ints: a slice of ints that reads as a list of integers; literals of ints.
-/
import Derived.Test.YtjkahookgoecpaaMemApp
namespace Go.Proofs.Ytjkahookgoecpaa.Mem
open Go.ChangeShapes Go.WideShapes Go.ChangeAt Go.RowKit

/-- values of ints -/
def intsV (xs : List Int) : List Value := xs.map fun b => .int .i64 b
abbrev Ints (w : World) (B : Nat) (A : Option Addr) (n : Nat) (xs : List Int) : Prop := Reads w B A n (intsV xs)
theorem intsV_len (xs : List Int) : (intsV xs).length = xs.length := by simp [intsV]
theorem intsV_at {xs : List Int} {j : Nat} {u : Int} (h : xs[j]? = some u) : (intsV xs)[j]? = some (.int .i64 u) := by simp [intsV, h]
theorem intsV_get {xs : List Int} {j : Nat} {v : Value} (h : (intsV xs)[j]? = some v) : ∃ u, xs[j]? = some u ∧ v = .int .i64 u := by
  simp only [intsV, List.getElem?_map, Option.map_eq_some_iff] at h
  obtain ⟨u, hu, rfl⟩ := h
  exact ⟨u, hu, rfl⟩
theorem intsV_append (xs ys : List Int) : intsV (xs ++ ys) = intsV xs ++ intsV ys := by simp [intsV]
theorem intsV_drop (xs : List Int) (k : Nat) : intsV (xs.drop k) = (intsV xs).drop k := by simp [intsV]
theorem intsV_take (xs : List Int) (k : Nat) : intsV (xs.take k) = (intsV xs).take k := by simp [intsV]
theorem intsV_set (xs : List Int) (k : Nat) (u : Int) : (intsV xs).set k (.int .i64 u) = intsV (xs.set k u) := by simp [intsV]
theorem intsV_one (xs : List Int) : ∀ v ∈ intsV xs, v.oneCell' = true := by
  intro v hv
  simp only [intsV, List.mem_map] at hv
  obtain ⟨x, _, rfl⟩ := hv
  rfl
section
variable {w : World} {B n : Nat} {A : Option Addr} {xs : List Int}
theorem Ints.length (h : Ints w B A n xs) : xs.length = n := by have := h.1; rwa [intsV_len] at this
theorem Ints.at_ {k : Nat} (h : Ints w B A n xs) (hk : k < n) :
    ∃ b off u, A = some ⟨b, off, none⟩ ∧ xs[k]? = some u ∧ w.cell? ⟨b, off + k, none⟩ = some (.int .i64 u) ∧ b < B ∧ xs.drop k = u :: xs.drop (k + 1) := by
  obtain ⟨b, off, v, e, hv, hc, hb, _⟩ := Reads.at_ h hk
  obtain ⟨u, hu, rfl⟩ := intsV_get hv
  have hlt : k < xs.length := by have := h.length; omega
  refine ⟨b, off, u, e, hu, hc, hb, ?_⟩
  rw [List.drop_eq_getElem_cons hlt]
  rw [List.getElem?_eq_getElem hlt] at hu
  injection hu with hu
  rw [hu]
theorem Ints.front {k : Nat} (h : Ints w B A n xs) (hk : k ≤ n) : Ints w B A k (xs.take k) := by
  have := Reads.front h hk
  rwa [← intsV_take] at this
theorem Ints.part {l k c : Nat} (h : Ints w B A n xs) (h1 : l ≤ k) (h2 : k ≤ n) (h3 : n ≤ c) :
    Ints w B (if c = l then A else A.map (·.add l)) (k - l) ((xs.drop l).take (k - l)) := by
  have := Reads.part h h1 h2 h3
  rwa [← intsV_drop, ← intsV_take] at this
end

/-- a literal of ints -/
def LitsI (W : World) (g : Nat) : Nat → List Int → Prop
  | _, [] => True
  | k, x :: r => W.cell? ⟨g, k, none⟩ = some (.int .i64 x) ∧ LitsI W g (k + 1) r
theorem LitsI.at_ {W : World} {g k : Nat} {xs : List Int} (h : LitsI W g k xs) (j : Nat) (u : Int) (hu : xs[j]? = some u) : W.cell? ⟨g, k + j, none⟩ = some (.int .i64 u) := by
  induction xs generalizing k j with
  | nil => cases hu
  | cons x r ih =>
    match j, hu with
    | 0, hu => simp at hu; subst hu; exact h.1
    | j + 1, hu =>
      have := ih h.2 j (by simpa using hu)
      rw [show k + (j + 1) = k + 1 + j by omega]
      exact this
theorem LitsI.ints {W : World} {g : Nat} {xs : List Int} {n : Nat} (h : LitsI W g 0 xs) (hl : xs.length = n) (hn : n ≤ 64) {B : Nat} (hB : g < B) : Ints W B (some ⟨g, 0, none⟩) n xs := by
  subst hl
  refine ⟨intsV_len xs, by unfold maxLen; omega, fun _ => ⟨g, 0, rfl, hB, fun k u hu => ?_⟩⟩
  obtain ⟨x, hx, rfl⟩ := intsV_get hu
  exact h.at_ k x hx
theorem infoInt : (Try.prog.info? 3).map (fun i => (i.zero, i.size, i.bytes)) = some (some (.int .i64 0), 1, 8) := by kernel_rfl
theorem sizeInt : (Try.prog.info? 3).map (·.size) = some 1 := by kernel_rfl

/-- the row of the call's own behind a slice that is not empty -/
theorem Own.row {w : World} {base n : Nat} {e : TypeId} {v : Value} {vs : List Value} (h : Own w base e v n vs) (hn : 0 < n) : ∃ g cap, v = .slice (some ⟨g, 0, none⟩) n cap ∧ base ≤ g ∧ n ≤ cap := by
  rcases h.1.2 with ⟨_, rfl⟩ | ⟨g, cap, cur, rfl, hg, _, hnc, _⟩
  · omega
  · exact ⟨g, cap, rfl, hg, hnc⟩
theorem Own.at_ {w : World} {base n g cap k : Nat} {e : TypeId} {vs : List Value} (h : Own w base e (.slice (some ⟨g, 0, none⟩) n cap) n vs) (hk : k < n) :
    ∃ u, vs[k]? = some u ∧ w.cell? ⟨g, k, none⟩ = some u ∧ w.frozen? ⟨g, k, none⟩ = false ∧ ∀ x, Own (w.setCell ⟨g, k, none⟩ x) base e (.slice (some ⟨g, 0, none⟩) n cap) n (vs.set k x) := by
  obtain ⟨⟨hl, h⟩, hm⟩ := h
  have hl' : vs.length = n := by omega
  rcases h with ⟨h, _⟩ | ⟨g', cap', cur, h, hg, hh, hnc, hcm, hcs, htk⟩
  · cases h
  · injection h with h1 h2 h3
    injection h1 with h1
    injection h1 with h1
    subst h1
    subst h3
    obtain ⟨u, hx⟩ : ∃ u, vs[k]? = some u := ⟨_, List.getElem?_eq_getElem (by omega)⟩
    have htk' : cur.toList.take n = vs := by rw [← htk, Nat.mul_one]
    refine ⟨u, hx, ?_, by simp [World.frozen?, hh], fun x => ⟨⟨?_, .inr ⟨g, cap, cur.setIfInBounds k x, rfl, hg, ?_, hnc, hcm, ?_, ?_⟩⟩, hm⟩⟩
    · rw [cell_of_row w g k cur e (0, 0) hh]
      have hx' := hx
      rw [← htk', List.getElem?_take, if_pos hk] at hx'
      simpa using hx'
    · rw [List.length_set]; exact hl
    · simp [World.setCell, Array.getElem?_modify, hh]
    · simpa using hcs
    · rw [Nat.mul_one, ← htk', Array.toList_setIfInBounds, List.take_set]

theorem Own.reads {w : World} {base n c : Nat} {e : TypeId} {A : Option Addr} {vs : List Value} (h : Own w base e (.slice A n c) n vs) : Reads w w.heap.size A n vs := by
  obtain ⟨A', c', e', _, hr⟩ := h.read
  injection e' with e1
  subst e1
  exact hr
theorem Own.range {w : World} {base n : Nat} {e : TypeId} {v : Value} {vs : List Value} (h : Own w base e v n vs) : ∀ g, v.ownBlock = some g → base ≤ g ∧ g < w.heap.size := h.1.lt
theorem Own.drewN {w : World} {base n : Nat} {e : TypeId} {v : Value} {vs : List Value} (h : Own w base e v n vs) (d : Nat) : Own (w.drewN d) base e v n vs := h.same fun _ _ _ => rfl

#print axioms Ints.part
end Go.Proofs.Ytjkahookgoecpaa.Mem
namespace Go.Proofs.Ytjkahookgoecpaa.MemI
end Go.Proofs.Ytjkahookgoecpaa.MemI
