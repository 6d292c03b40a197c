/-
  A block of the call's own that is written over: all else stays.
-/
import Derived.Test.YtjkahookgoecpaaOwnK
namespace Go.Proofs.Ytjkahookgoecpaa.Mem
open Go.ChangeShapes Go.WideShapes Go.ChangeAt Go.RowKit

/-- w' is w but for what block g holds -/
structure Only (g : Nat) (w w' : World) : Prop where
  below : Below g w w'
  size : w'.heap.size = w.heap.size
  other : ∀ h, h ≠ g → w'.heap[h]? = w.heap[h]?
section
variable {g : Nat} {w w' u : World} {base k n : Nat} {e t : TypeId} {v : Value} {vs : List Value}
theorem Only.refl (g : Nat) (w : World) : Only g w w := ⟨Below.refl _ _, rfl, fun _ _ => rfl⟩
theorem Only.set (h : Only g w u) (i : Nat) (x : Value) : Only g w (u.setCell ⟨g, i, none⟩ x) :=
  ⟨h.below.setCell (Nat.le_refl _) _, by rw [← h.size]; simp [World.setCell], fun q hq => (Below.heap_setCell u _ _ _ hq).trans (h.other q hq)⟩
theorem Only.own (h : Only g w w') (ho : OwnK w base e k v n vs) (hg : g < base) : OwnK w' base e k v n vs := ho.same fun q hq _ => h.other q (by omega)
theorem Only.blk {j : Nat} (h : Only g w w') (hb : Blk w j t vs) (hj : j ≠ g) : Blk w' j t vs := (h.other j hj).trans hb
/-- an own list: nothing, or a block that may be written -/
theorem OwnK.blk (h : OwnK w base e k v n vs) : (v = .slice none 0 0 ∧ n = 0) ∨ ∃ g cap cur, v = .slice (some ⟨g, 0, none⟩) n cap ∧ base ≤ g ∧ Blk w g e cur ∧ n ≤ cap ∧ cur.length = cap * k ∧ cur.take (n * k) = vs := by
  rcases h.1.2 with h | ⟨g, cap, cur, e1, hg, hh, h1, _, h2, h3⟩
  · exact .inl h
  · exact .inr ⟨g, cap, cur.toList, e1, hg, hh, h1, by simpa using h2, h3⟩
end
/-- a list of the call's own, its block made behind block lo and ahead of block hi, may be written over: all else stays -/
structure Turns (w : World) (lo hi : Nat) (B : Option Addr) (n k : Nat) (e : TypeId) (u : World) : Prop where
  below : Below lo w u
  size : u.heap.size = w.heap.size
  other : ∀ h, hi ≤ h → u.heap[h]? = w.heap[h]?
  row : 0 < n → ∃ g cur, B = some ⟨g, 0, none⟩ ∧ lo ≤ g ∧ g < hi ∧ Blk u g e cur ∧ n * k ≤ cur.length
section
variable {w w4 u : World} {lo hi base k n n' i c : Nat} {e e' : TypeId} {v : Value} {vs : List Value} {B : Option Addr}
theorem Turns.start (h : OwnK w4 lo e k (.slice B n c) n vs) (hb : Below w4.heap.size w4 w) : Turns w lo w4.heap.size B n k e w := by
  refine ⟨Below.refl _ _, rfl, fun _ _ => rfl, fun hn => ?_⟩
  rcases h.blk with ⟨_, h0⟩ | ⟨g, cap, cur, e1, hg, hB, hnc, hl, _⟩
  · omega
  · injection e1 with e1 _ _
    exact ⟨g, cur, e1, hg, hB.lt, hB.below hb hB.lt, by rw [hl]; exact Nat.mul_le_mul_right _ hnc⟩
theorem Turns.own (h : Turns w lo hi B n k e u) (ho : OwnK w base e' k v n' vs) (hb : hi ≤ base) : OwnK u base e' k v n' vs := ho.same fun g hg _ => h.other g (by omega)
theorem Turns.drewN (h : Turns w lo hi B n k e u) (d : Nat) : Turns w lo hi B n k e (u.drewN d) := ⟨⟨h.below.os, h.below.tape, h.below.output, h.below.size, h.below.block⟩, h.size, h.other, h.row⟩
theorem Turns.set {g : Nat} (h : Turns w lo hi (some ⟨g, 0, none⟩) n k e u) (hlo : lo ≤ g) (hhi : g < hi) (j : Nat) (x : Value) : Turns w lo hi (some ⟨g, 0, none⟩) n k e (u.setCell ⟨g, j, none⟩ x) := by
  refine ⟨h.below.setCell hlo _, by rw [← h.size]; simp [World.setCell], fun q hq => (Below.heap_setCell u _ _ _ (by show q ≠ g; omega)).trans (h.other q hq), fun hn => ?_⟩
  obtain ⟨g', cur, e1, h1, h2, h3, h4⟩ := h.row hn
  injection e1 with e1
  injection e1 with e1
  subst e1
  exact ⟨g, cur.set j x, rfl, h1, h2, h3.put j x, by rw [List.length_set]; exact h4⟩
theorem Turns.at_ (h : Turns w lo hi B n k e u) (hi' : i < n) : ∃ g, B = some ⟨g, 0, none⟩ ∧ lo ≤ g ∧ g < hi ∧ ∀ j, j < k → (∃ x, u.cell? ⟨g, i * k + j, none⟩ = some x) ∧ u.frozen? ⟨g, i * k + j, none⟩ = false := by
  obtain ⟨g, cur, e1, h1, h2, h3, h4⟩ := h.row (by omega)
  refine ⟨g, e1, h1, h2, fun j hj => ⟨?_, h3.free _⟩⟩
  have hlt : i * k + j < cur.length := by
    have h5 : (i + 1) * k ≤ n * k := Nat.mul_le_mul_right _ hi'
    have h6 : (i + 1) * k = i * k + k := by rw [Nat.add_mul, Nat.one_mul]
    omega
  exact ⟨cur[i * k + j], h3.cell (List.getElem?_eq_getElem hlt)⟩
end
#print axioms Only.set
#print axioms Turns.at_
end Go.Proofs.Ytjkahookgoecpaa.Mem
