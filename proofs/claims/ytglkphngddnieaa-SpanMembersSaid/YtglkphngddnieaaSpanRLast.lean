/-
  The document's own answer to chapter 5, walked: Last.
-/
import Derived.Test.YtglkphngddnieaaSpanRRight
namespace Go.Proofs.Ytglkphngddnieaa.Span
open Go.ChangeShapes Go.WideShapes Go.ChangeAt Go.RowKit Go.Proofs.Ytglkphngddnieaa.Mem Go.Proofs.Ytglkphngddnieaa.FleetMath Go.Proofs.Ytglkphngddnieaa.Rec

set_option maxHeartbeats 400000 in
theorem rlast_any (x : Win) (s u : Int) (w : World) (hu : u ≤ 9223372036854775807) : Calls Try.prog 15 #[winV x, .int .i64 s, .int .i64 u] w (Gives w (optV (lastT x s u))) := by
  obtain ⟨a, b⟩ := x
  obtain ⟨r, hr⟩ : ∃ r, right ⟨a, b⟩ = r := ⟨_, rfl⟩
  have HR := Lib.hid hr
  clear hr
  go_enter Try.func15, Try.ntmps15
  go_wp2_with fail
  refine (rright_val ⟨a, b⟩ r _ HR.out).mono ?_
  rintro e w1 ⟨rfl, hb⟩
  rw [World.size_alloc] at hb
  obtain ⟨c0, c1⟩ := box_cells hb
  have HB : Hid (Below w.heap.size w w1) := ((Below.refl _ _).alloc (Nat.le_refl _) _).trans (hb.mono (by omega))
  clear hb
  cases r
  · have HN : Hid (lastT ⟨a, b⟩ s u = none) := by unfold lastT; exact if_pos (.inl HR.out)
    go_wp2
    go_ret2
    exact gives_opt HN.out.symm rfl HB.out
  by_cases h1 : s < 0
  · have HN : Hid (lastT ⟨a, b⟩ s u = none) := by unfold lastT; exact if_pos (.inr (.inl h1))
    go_wp2
    go_ret2
    exact gives_opt HN.out.symm rfl HB.out
  by_cases h2 : u < s
  · have HN : Hid (lastT ⟨a, b⟩ s u = none) := by unfold lastT; exact if_pos (.inr (.inr h2))
    go_wp2
    go_ret2
    exact gives_opt HN.out.symm rfl HB.out
  have HL : Hid (lastT ⟨a, b⟩ s u = if (if b < u - s then b else u - s) < a then none else some (if b < u - s then b else u - s)) := by
    unfold lastT
    refine if_neg ?_
    rw [HR.out]
    simp only [Bool.true_eq_false, false_or]
    omega
  by_cases h3 : b < u - s
  · by_cases h4 : b < a
    · have HN : Hid (lastT ⟨a, b⟩ s u = none) := by rw [HL.out, if_pos h3, if_pos h4]; rfl
      go_wp2
      go_ret2
      exact gives_opt HN.out.symm rfl HB.out
    · have HN : Hid (lastT ⟨a, b⟩ s u = some b) := by rw [HL.out, if_pos h3, if_neg h4]; rfl
      go_wp2
      go_ret2
      exact gives_opt HN.out.symm rfl HB.out
  · by_cases h4 : u - s < a
    · have HN : Hid (lastT ⟨a, b⟩ s u = none) := by rw [HL.out, if_neg h3, if_pos h4]; rfl
      go_wp2
      go_ret2
      exact gives_opt HN.out.symm rfl HB.out
    · have HN : Hid (lastT ⟨a, b⟩ s u = some (u - s)) := by rw [HL.out, if_neg h3, if_neg h4]; rfl
      go_wp2
      go_ret2
      exact gives_opt HN.out.symm rfl HB.out

#print axioms rlast_any
end Go.Proofs.Ytglkphngddnieaa.Span
