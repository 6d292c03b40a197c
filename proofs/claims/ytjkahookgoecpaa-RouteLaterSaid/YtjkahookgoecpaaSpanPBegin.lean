/-
  The program's span.Begin, walked.
-/
import Derived.Test.YtjkahookgoecpaaSpanPRight
namespace Go.Proofs.Ytjkahookgoecpaa.Span
open Go.ChangeShapes Go.WideShapes Go.ChangeAt Go.RowKit Go.Proofs.Ytjkahookgoecpaa.Mem Go.Proofs.Ytjkahookgoecpaa.FleetMath Go.Proofs.Ytjkahookgoecpaa.Rec

theorem gbegin_any (x : Win) (t : Int) (w : World) : Calls Try.prog 57 #[winV x, .int .i64 t] w (Gives w (optV (beginT x t))) := by
  obtain ⟨a, b⟩ := x
  obtain ⟨r, hr⟩ : ∃ r, right ⟨a, b⟩ = r := ⟨_, rfl⟩
  have HR := Lib.hid hr
  clear hr
  go_enter Try.func57, Try.ntmps57
  go_wp2_with fail
  refine (pright_val ⟨a, b⟩ r _ HR.out).mono ?_
  rintro e w1 ⟨rfl, hb⟩
  rw [World.size_alloc] at hb
  obtain ⟨c0, c1⟩ := box_cells hb
  have HB : Hid (Below w.heap.size w w1) := ((Below.refl _ _).alloc (Nat.le_refl _) _).trans (hb.mono (by omega))
  clear hb
  cases r
  · have HN : Hid (beginT ⟨a, b⟩ t = none) := by unfold beginT; exact if_pos (.inl HR.out)
    go_wp2
    go_ret2
    exact gives_opt HN.out.symm rfl HB.out
  · by_cases h1 : b < t
    · have HN : Hid (beginT ⟨a, b⟩ t = none) := by unfold beginT; exact if_pos (.inr h1)
      go_wp2
      go_ret2
      exact gives_opt HN.out.symm rfl HB.out
    · have HN : Hid (beginT ⟨a, b⟩ t = some (max a t)) := beginT_some.2 ⟨HR.out, by simpa using h1, by simp only; omega⟩
      go_wp2
      go_ret2
      exact gives_opt HN.out.symm rfl HB.out

#print axioms gbegin_any
end Go.Proofs.Ytjkahookgoecpaa.Span
