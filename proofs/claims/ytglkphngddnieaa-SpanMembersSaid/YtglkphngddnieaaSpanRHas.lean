/-
  The document's own answer to chapter 5, walked: Has.
-/
import Derived.Test.YtglkphngddnieaaSpanRRight
namespace Go.Proofs.Ytglkphngddnieaa.Span
open Go.ChangeShapes Go.WideShapes Go.ChangeAt Go.RowKit Go.Proofs.Ytglkphngddnieaa.Mem Go.Proofs.Ytglkphngddnieaa.FleetMath Go.Proofs.Ytglkphngddnieaa.Rec

theorem rhas_any (x : Win) (t : Int) (w : World) : Calls Try.prog 19 #[winV x, .int .i64 t] w (Gives w (.bool (has x t))) := by
  obtain ⟨a, b⟩ := x
  obtain ⟨r, hr⟩ : ∃ r, right ⟨a, b⟩ = r := ⟨_, rfl⟩
  have HR := Lib.hid hr
  clear hr
  go_enter Try.func19, Try.ntmps19
  go_wp2_with fail
  refine (rright_val ⟨a, b⟩ r _ HR.out).mono ?_
  rintro e w1 ⟨rfl, hb⟩
  rw [World.size_alloc] at hb
  obtain ⟨c0, c1⟩ := box_cells hb
  have HB : Hid (Below w.heap.size w w1) := ((Below.refl _ _).alloc (Nat.le_refl _) _).trans (hb.mono (by omega))
  clear hb
  cases r
  all_goals
    go_wp2
    all_goals
      go_ret
      refine gives_bool ?_ HB.out
      have hr := HR.out
      clear HR HB c0 c1
      first
        | (simp_all [has]; done)
        | (simp_all [has]; omega)

#print axioms rhas_any
end Go.Proofs.Ytglkphngddnieaa.Span
