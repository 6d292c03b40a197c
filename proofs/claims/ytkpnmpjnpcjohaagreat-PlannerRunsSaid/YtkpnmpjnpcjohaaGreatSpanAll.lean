/-
  SpanRRight, SpanPRight, SpanPBegin: one text.
-/
import Derived.Test.YtkpnmpjnpcjohaaGreatLibRows
import Derived.Test.YtkpnmpjnpcjohaaGreatWords
import Derived.Lib.MinMax
namespace Go.Proofs.YtkpnmpjnpcjohaaGreat.Span
open Go.ChangeShapes Go.WideShapes Go.ChangeAt Go.RowKit Mem FleetMath Rec
def Gives (w : World) (v : Value) (e : Ending) (w' : World) : Prop := e = .returned v ∧ Below w.heap.size w w'
def optV : Option Int → Value
  | none => .tuple #[.int .i64 0, .bool false]
  | some t => .tuple #[.int .i64 t, .bool true]
theorem gives_bool {a b : Bool} {w w' : World} (h : a = b) (hb : Below w.heap.size w w') : Gives w (.bool b) (.returned (.bool a)) w' := ⟨by rw [h], hb⟩
theorem gives_opt {o o' : Option Int} {w w' : World} {v : Value} (h : o = o') (hv : v = optV o) (hb : Below w.heap.size w w') : Gives w (optV o') (.returned v) w' := ⟨by rw [← h, hv], hb⟩
theorem box_cells {w w1 : World} {t : TypeId} {a b : Value} (hb : Below (w.heap.size + 1) (w.alloc (.cells #[a, b] t)) w1) : w1.cell? ⟨w.heap.size, 0, none⟩ = some a ∧ w1.cell? ⟨w.heap.size, 1, none⟩ = some b := by
  have h : Blk (w.alloc (.cells #[a, b] t)) w.heap.size t [a, b] := Blk.new w t [a, b]
  have h1 := h.below hb (by omega)
  exact ⟨h1.cell rfl, h1.cell rfl⟩
end Go.Proofs.YtkpnmpjnpcjohaaGreat.Span

namespace Go.Proofs.YtkpnmpjnpcjohaaGreat.Span
open Go.ChangeShapes Go.WideShapes Go.ChangeAt Go.RowKit Mem FleetMath Rec
theorem gright_any (x : Win) (w : World) : Calls Tryz.prog 87 #[winV x] w (Gives w (.bool (right x))) := by
  obtain ⟨a, b⟩ := x
  go_enter Tryz.func87, Tryz.ntmps87
  go_wp2
  all_goals
    go_ret
    refine gives_bool ?_ ((Below.refl _ _).alloc (Nat.le_refl _) _)
    first
      | (simp_all [right]; done)
      | (simp_all [right]; omega)
theorem pright_val (x : Win) (r : Bool) (w : World) (h : right x = r) : Calls Tryz.prog 87 #[winV x] w (Gives w (.bool r)) := by
  rw [← h]; exact gright_any x w
end Go.Proofs.YtkpnmpjnpcjohaaGreat.Span

namespace Go.Proofs.YtkpnmpjnpcjohaaGreat.Span
open Go.ChangeShapes Go.WideShapes Go.ChangeAt Go.RowKit Mem FleetMath Rec
theorem gbegin_any (x : Win) (t : Int) (w : World) : Calls Tryz.prog 249 #[winV x, .int .i64 t] w (Gives w (optV (beginT x t))) := by
  obtain ⟨a, b⟩ := x
  obtain ⟨r, hr⟩ : ∃ r, right ⟨a, b⟩ = r := ⟨_, rfl⟩
  have HR := Lib.hid hr
  clear hr
  go_enter Tryz.func249, Tryz.ntmps249
  go_wp2_with fail
  refine (pright_val ⟨a, b⟩ r _ HR.out).mono ?_
  rintro e w1 ⟨rfl, hb⟩
  rw [World.size_alloc] at hb
  obtain ⟨c0, c1⟩ := box_cells hb
  have HB : Hid (Below w.heap.size w w1) := ((Below.refl _ _).alloc (Nat.le_refl _) _).trans (hb.mono (by omega))
  clear hb
  cases r
  · have HN : Hid (beginT ⟨a, b⟩ t = none) := by unfold beginT; exact if_pos (.inl HR.out)
    go_wp2
    go_ret2
    exact gives_opt HN.out.symm rfl HB.out
  · by_cases h1 : b < t
    · have HN : Hid (beginT ⟨a, b⟩ t = none) := by unfold beginT; exact if_pos (.inr h1)
      go_wp2
      go_ret2
      exact gives_opt HN.out.symm rfl HB.out
    · have HN : Hid (beginT ⟨a, b⟩ t = some (max a t)) := beginT_some.2 ⟨HR.out, by simpa using h1, by simp only; omega⟩
      go_wp2
      go_ret2
      exact gives_opt HN.out.symm rfl HB.out
end Go.Proofs.YtkpnmpjnpcjohaaGreat.Span
