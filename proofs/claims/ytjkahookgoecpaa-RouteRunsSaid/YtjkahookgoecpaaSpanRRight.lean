/-
  The document's own answer to chapter 5, walked: Right.
-/
import Derived.Test.YtjkahookgoecpaaMemInts
import Derived.Test.YtjkahookgoecpaaWordsWin
namespace Go.Proofs.Ytjkahookgoecpaa.Span
open Go.ChangeShapes Go.WideShapes Go.ChangeAt Go.RowKit Go.Proofs.Ytjkahookgoecpaa.Mem Go.Proofs.Ytjkahookgoecpaa.FleetMath Go.Proofs.Ytjkahookgoecpaa.Rec

/-- it answers v, and writes nothing but new memory -/
def Gives (w : World) (v : Value) (e : Ending) (w' : World) : Prop := e = .returned v ∧ Below w.heap.size w w'
/-- a number and whether there is one -/
def optV : Option Int → Value
  | none => .tuple #[.int .i64 0, .bool false]
  | some t => .tuple #[.int .i64 t, .bool true]
theorem gives_bool {a b : Bool} {w w' : World} (h : a = b) (hb : Below w.heap.size w w') : Gives w (.bool b) (.returned (.bool a)) w' := ⟨by rw [h], hb⟩
theorem gives_opt {o o' : Option Int} {w w' : World} {v : Value} (h : o = o') (hv : v = optV o) (hb : Below w.heap.size w w') : Gives w (optV o') (.returned v) w' := ⟨by rw [← h, hv], hb⟩
/-- the two cells of a window that was boxed, behind a call -/
theorem box_cells {w w1 : World} {t : TypeId} {a b : Value} (hb : Below (w.heap.size + 1) (w.alloc (.cells #[a, b] t)) w1) : w1.cell? ⟨w.heap.size, 0, none⟩ = some a ∧ w1.cell? ⟨w.heap.size, 1, none⟩ = some b := by
  have h : Blk (w.alloc (.cells #[a, b] t)) w.heap.size t [a, b] := Blk.new w t [a, b]
  have h1 := h.below hb (by omega)
  exact ⟨h1.cell rfl, h1.cell rfl⟩

theorem rright_any (x : Win) (w : World) : Calls Try.prog 51 #[winV x] w (Gives w (.bool (right x))) := by
  obtain ⟨a, b⟩ := x
  go_enter Try.func51, Try.ntmps51
  go_wp2
  all_goals
    go_ret
    refine gives_bool ?_ ((Below.refl _ _).alloc (Nat.le_refl _) _)
    first
      | (simp_all [right]; done)
      | (simp_all [right]; omega)

theorem rright_val (x : Win) (r : Bool) (w : World) (h : right x = r) : Calls Try.prog 51 #[winV x] w (Gives w (.bool r)) := by
  rw [← h]; exact rright_any x w

#print axioms rright_any
end Go.Proofs.Ytjkahookgoecpaa.Span
