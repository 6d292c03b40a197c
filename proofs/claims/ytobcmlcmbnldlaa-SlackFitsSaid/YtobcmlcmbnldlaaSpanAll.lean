/-
  SpanRRight, SpanRBegin, SpanRLast, SpanPRight, SpanPBegin, SpanPLast, SpanPHas: one text.
-/
import Derived.Test.YtobcmlcmbnldlaaLibRows
import Derived.Test.YtobcmlcmbnldlaaWords
import Derived.Lib.MinMax
/-
  The document's own answer to chapter 5, walked: Right.
-/
namespace Go.Proofs.Ytobcmlcmbnldlaa.Span
open Go.ChangeShapes Go.WideShapes Go.ChangeAt Go.RowKit Go.Proofs.Ytobcmlcmbnldlaa.Mem Go.Proofs.Ytobcmlcmbnldlaa.FleetMath Go.Proofs.Ytobcmlcmbnldlaa.Rec

/-- it answers v, and writes nothing but new memory -/
def Gives (w : World) (v : Value) (e : Ending) (w' : World) : Prop := e = .returned v ∧ Below w.heap.size w w'
/-- a number and whether there is one -/
def optV : Option Int → Value
  | none => .tuple #[.int .i64 0, .bool false]
  | some t => .tuple #[.int .i64 t, .bool true]
theorem gives_bool {a b : Bool} {w w' : World} (h : a = b) (hb : Below w.heap.size w w') : Gives w (.bool b) (.returned (.bool a)) w' := ⟨by rw [h], hb⟩
theorem gives_opt {o o' : Option Int} {w w' : World} {v : Value} (h : o = o') (hv : v = optV o) (hb : Below w.heap.size w w') : Gives w (optV o') (.returned v) w' := ⟨by rw [← h, hv], hb⟩
/-- the two cells of a window that was boxed, behind a call -/
theorem box_cells {w w1 : World} {t : TypeId} {a b : Value} (hb : Below (w.heap.size + 1) (w.alloc (.cells #[a, b] t)) w1) : w1.cell? ⟨w.heap.size, 0, none⟩ = some a ∧ w1.cell? ⟨w.heap.size, 1, none⟩ = some b := by
  have h : Blk (w.alloc (.cells #[a, b] t)) w.heap.size t [a, b] := Blk.new w t [a, b]
  have h1 := h.below hb (by omega)
  exact ⟨h1.cell rfl, h1.cell rfl⟩

theorem rright_any (x : Win) (w : World) : Calls Try.prog 53 #[winV x] w (Gives w (.bool (right x))) := by
  obtain ⟨a, b⟩ := x
  go_enter Try.func53, Try.ntmps53
  go_wp2
  all_goals
    go_ret
    refine gives_bool ?_ ((Below.refl _ _).alloc (Nat.le_refl _) _)
    first
      | (simp_all [right]; done)
      | (simp_all [right]; omega)

theorem rright_val (x : Win) (r : Bool) (w : World) (h : right x = r) : Calls Try.prog 53 #[winV x] w (Gives w (.bool r)) := by
  rw [← h]; exact rright_any x w

#print axioms rright_any
end Go.Proofs.Ytobcmlcmbnldlaa.Span

/-
  The document's own answer to chapter 5, walked: Begin.
-/
namespace Go.Proofs.Ytobcmlcmbnldlaa.Span
open Go.ChangeShapes Go.WideShapes Go.ChangeAt Go.RowKit Go.Proofs.Ytobcmlcmbnldlaa.Mem Go.Proofs.Ytobcmlcmbnldlaa.FleetMath Go.Proofs.Ytobcmlcmbnldlaa.Rec

theorem rbegin_any (x : Win) (t : Int) (w : World) : Calls Try.prog 65 #[winV x, .int .i64 t] w (Gives w (optV (beginT x t))) := by
  obtain ⟨a, b⟩ := x
  obtain ⟨r, hr⟩ : ∃ r, right ⟨a, b⟩ = r := ⟨_, rfl⟩
  have HR := Lib.hid hr
  clear hr
  go_enter Try.func65, Try.ntmps65
  go_wp2_with fail
  refine (rright_val ⟨a, b⟩ r _ HR.out).mono ?_
  rintro e w1 ⟨rfl, hb⟩
  rw [World.size_alloc] at hb
  obtain ⟨c0, c1⟩ := box_cells hb
  have HB : Hid (Below w.heap.size w w1) := ((Below.refl _ _).alloc (Nat.le_refl _) _).trans (hb.mono (by omega))
  clear hb
  cases r
  · have HN : Hid (beginT ⟨a, b⟩ t = none) := by unfold beginT; exact if_pos (.inl HR.out)
    go_wp2
    go_ret2
    exact gives_opt HN.out.symm rfl HB.out
  · by_cases h1 : b < t
    · have HN : Hid (beginT ⟨a, b⟩ t = none) := by unfold beginT; exact if_pos (.inr h1)
      go_wp2
      go_ret2
      exact gives_opt HN.out.symm rfl HB.out
    · by_cases h2 : t < a
      · have HN : Hid (beginT ⟨a, b⟩ t = some a) := beginT_some.2 ⟨HR.out, by simpa using h1, by simp [h2]⟩
        go_wp2
        go_ret2
        exact gives_opt HN.out.symm rfl HB.out
      · have HN : Hid (beginT ⟨a, b⟩ t = some t) := beginT_some.2 ⟨HR.out, by simpa using h1, by simp [h2]⟩
        go_wp2
        go_ret2
        exact gives_opt HN.out.symm rfl HB.out

#print axioms rbegin_any
end Go.Proofs.Ytobcmlcmbnldlaa.Span

/-
  The document's own answer to chapter 5, walked: Last.
-/
namespace Go.Proofs.Ytobcmlcmbnldlaa.Span
open Go.ChangeShapes Go.WideShapes Go.ChangeAt Go.RowKit Go.Proofs.Ytobcmlcmbnldlaa.Mem Go.Proofs.Ytobcmlcmbnldlaa.FleetMath Go.Proofs.Ytobcmlcmbnldlaa.Rec

set_option maxHeartbeats 400000 in
theorem rlast_any (x : Win) (s u : Int) (w : World) (hu : u ≤ 9223372036854775807) : Calls Try.prog 38 #[winV x, .int .i64 s, .int .i64 u] w (Gives w (optV (lastT x s u))) := by
  obtain ⟨a, b⟩ := x
  obtain ⟨r, hr⟩ : ∃ r, right ⟨a, b⟩ = r := ⟨_, rfl⟩
  have HR := Lib.hid hr
  clear hr
  go_enter Try.func38, Try.ntmps38
  go_wp2_with fail
  refine (rright_val ⟨a, b⟩ r _ HR.out).mono ?_
  rintro e w1 ⟨rfl, hb⟩
  rw [World.size_alloc] at hb
  obtain ⟨c0, c1⟩ := box_cells hb
  have HB : Hid (Below w.heap.size w w1) := ((Below.refl _ _).alloc (Nat.le_refl _) _).trans (hb.mono (by omega))
  clear hb
  cases r
  · have HN : Hid (lastT ⟨a, b⟩ s u = none) := by unfold lastT; exact if_pos (.inl HR.out)
    go_wp2
    go_ret2
    exact gives_opt HN.out.symm rfl HB.out
  by_cases h1 : s < 0
  · have HN : Hid (lastT ⟨a, b⟩ s u = none) := by unfold lastT; exact if_pos (.inr (.inl h1))
    go_wp2
    go_ret2
    exact gives_opt HN.out.symm rfl HB.out
  by_cases h2 : u < s
  · have HN : Hid (lastT ⟨a, b⟩ s u = none) := by unfold lastT; exact if_pos (.inr (.inr h2))
    go_wp2
    go_ret2
    exact gives_opt HN.out.symm rfl HB.out
  have HL : Hid (lastT ⟨a, b⟩ s u = if (if b < u - s then b else u - s) < a then none else some (if b < u - s then b else u - s)) := by
    unfold lastT
    refine if_neg ?_
    rw [HR.out]
    simp only [Bool.true_eq_false, false_or]
    omega
  by_cases h3 : b < u - s
  · by_cases h4 : b < a
    · have HN : Hid (lastT ⟨a, b⟩ s u = none) := by rw [HL.out, if_pos h3, if_pos h4]; rfl
      go_wp2
      go_ret2
      exact gives_opt HN.out.symm rfl HB.out
    · have HN : Hid (lastT ⟨a, b⟩ s u = some b) := by rw [HL.out, if_pos h3, if_neg h4]; rfl
      go_wp2
      go_ret2
      exact gives_opt HN.out.symm rfl HB.out
  · by_cases h4 : u - s < a
    · have HN : Hid (lastT ⟨a, b⟩ s u = none) := by rw [HL.out, if_neg h3, if_pos h4]; rfl
      go_wp2
      go_ret2
      exact gives_opt HN.out.symm rfl HB.out
    · have HN : Hid (lastT ⟨a, b⟩ s u = some (u - s)) := by rw [HL.out, if_neg h3, if_neg h4]; rfl
      go_wp2
      go_ret2
      exact gives_opt HN.out.symm rfl HB.out

#print axioms rlast_any
end Go.Proofs.Ytobcmlcmbnldlaa.Span

/-
  The program's span.Right, walked (alone: later seats hold it without the rest).
-/
namespace Go.Proofs.Ytobcmlcmbnldlaa.Span
open Go.ChangeShapes Go.WideShapes Go.ChangeAt Go.RowKit Go.Proofs.Ytobcmlcmbnldlaa.Mem Go.Proofs.Ytobcmlcmbnldlaa.FleetMath Go.Proofs.Ytobcmlcmbnldlaa.Rec

theorem gright_any (x : Win) (w : World) : Calls Try.prog 42 #[winV x] w (Gives w (.bool (right x))) := by
  obtain ⟨a, b⟩ := x
  go_enter Try.func42, Try.ntmps42
  go_wp2
  all_goals
    go_ret
    refine gives_bool ?_ ((Below.refl _ _).alloc (Nat.le_refl _) _)
    first
      | (simp_all [right]; done)
      | (simp_all [right]; omega)

theorem pright_val (x : Win) (r : Bool) (w : World) (h : right x = r) : Calls Try.prog 42 #[winV x] w (Gives w (.bool r)) := by
  rw [← h]; exact gright_any x w

#print axioms gright_any
end Go.Proofs.Ytobcmlcmbnldlaa.Span

/-
  The program's span.Begin, walked.
-/
namespace Go.Proofs.Ytobcmlcmbnldlaa.Span
open Go.ChangeShapes Go.WideShapes Go.ChangeAt Go.RowKit Go.Proofs.Ytobcmlcmbnldlaa.Mem Go.Proofs.Ytobcmlcmbnldlaa.FleetMath Go.Proofs.Ytobcmlcmbnldlaa.Rec

theorem gbegin_any (x : Win) (t : Int) (w : World) : Calls Try.prog 68 #[winV x, .int .i64 t] w (Gives w (optV (beginT x t))) := by
  obtain ⟨a, b⟩ := x
  obtain ⟨r, hr⟩ : ∃ r, right ⟨a, b⟩ = r := ⟨_, rfl⟩
  have HR := Lib.hid hr
  clear hr
  go_enter Try.func68, Try.ntmps68
  go_wp2_with fail
  refine (pright_val ⟨a, b⟩ r _ HR.out).mono ?_
  rintro e w1 ⟨rfl, hb⟩
  rw [World.size_alloc] at hb
  obtain ⟨c0, c1⟩ := box_cells hb
  have HB : Hid (Below w.heap.size w w1) := ((Below.refl _ _).alloc (Nat.le_refl _) _).trans (hb.mono (by omega))
  clear hb
  cases r
  · have HN : Hid (beginT ⟨a, b⟩ t = none) := by unfold beginT; exact if_pos (.inl HR.out)
    go_wp2
    go_ret2
    exact gives_opt HN.out.symm rfl HB.out
  · by_cases h1 : b < t
    · have HN : Hid (beginT ⟨a, b⟩ t = none) := by unfold beginT; exact if_pos (.inr h1)
      go_wp2
      go_ret2
      exact gives_opt HN.out.symm rfl HB.out
    · have HN : Hid (beginT ⟨a, b⟩ t = some (max a t)) := beginT_some.2 ⟨HR.out, by simpa using h1, by simp only; omega⟩
      go_wp2
      go_ret2
      exact gives_opt HN.out.symm rfl HB.out

#print axioms gbegin_any
end Go.Proofs.Ytobcmlcmbnldlaa.Span

/-
  The program's own chapter 5, walked: Last.
-/
namespace Go.Proofs.Ytobcmlcmbnldlaa.Span
open Go.ChangeShapes Go.WideShapes Go.ChangeAt Go.RowKit Go.Proofs.Ytobcmlcmbnldlaa.Mem Go.Proofs.Ytobcmlcmbnldlaa.FleetMath Go.Proofs.Ytobcmlcmbnldlaa.Rec

theorem plast_bounds {v : Int} (h : (Lit.int .i64 v).wf = true) : -9223372036854775808 ≤ v ∧ v ≤ 9223372036854775807 := by
  simp [Lit.wf, IntKind.min, IntKind.max, IntKind.signed, IntKind.bits] at h; omega
set_option maxHeartbeats 400000 in
theorem glast_any (x : Win) (s u : Int) (w : World) (hs : (Lit.int .i64 s).wf = true) (hu : (Lit.int .i64 u).wf = true) : Calls Try.prog 30 #[winV x, .int .i64 s, .int .i64 u] w (Gives w (optV (lastT x s u))) := by
  have hs1 := plast_bounds hs
  have hu1 := plast_bounds hu
  clear hs hu
  obtain ⟨a, b⟩ := x
  obtain ⟨r, hr⟩ : ∃ r, right ⟨a, b⟩ = r := ⟨_, rfl⟩
  have HR := Lib.hid hr
  clear hr
  go_enter Try.func30, Try.ntmps30
  go_wp2_with fail
  refine (pright_val ⟨a, b⟩ r _ HR.out).mono ?_
  rintro e w1 ⟨rfl, hb⟩
  rw [World.size_alloc] at hb
  obtain ⟨c0, c1⟩ := box_cells hb
  have HB : Hid (Below w.heap.size w w1) := ((Below.refl _ _).alloc (Nat.le_refl _) _).trans (hb.mono (by omega))
  clear hb
  cases r
  · have HN : Hid (lastT ⟨a, b⟩ s u = none) := by unfold lastT; exact if_pos (.inl HR.out)
    go_wp2
    go_ret2
    exact gives_opt HN.out.symm rfl HB.out
  by_cases h1 : s < 0
  · have HN : Hid (lastT ⟨a, b⟩ s u = none) := by unfold lastT; exact if_pos (.inr (.inl h1))
    go_wp2
    go_ret2
    exact gives_opt HN.out.symm rfl HB.out
  by_cases h2 : u < s
  · have HN : Hid (lastT ⟨a, b⟩ s u = none) := by unfold lastT; exact if_pos (.inr (.inr h2))
    go_wp2
    go_ret2
    exact gives_opt HN.out.symm rfl HB.out
  obtain ⟨m, hm⟩ : ∃ m, min b (u - s) = m := ⟨_, rfl⟩
  have HL : Hid (lastT ⟨a, b⟩ s u = if m < a then none else some m) := by
    unfold lastT
    have hm' : (if b < u - s then b else u - s) = m := by omega
    simp only [hm']
    refine if_neg ?_
    rw [HR.out]
    simp only [Bool.true_eq_false, false_or]
    omega
  by_cases h4 : m < a
  · have HN : Hid (lastT ⟨a, b⟩ s u = none) := by rw [HL.out, if_pos h4]; rfl
    go_wp2
    go_ret2
    exact gives_opt HN.out.symm rfl HB.out
  · have HN : Hid (lastT ⟨a, b⟩ s u = some m) := by rw [HL.out, if_neg h4]; rfl
    go_wp2
    go_ret2
    exact gives_opt HN.out.symm rfl HB.out

end Go.Proofs.Ytobcmlcmbnldlaa.Span

/-
  The program's own chapter 5, walked: Has.
-/
namespace Go.Proofs.Ytobcmlcmbnldlaa.Span
open Go.ChangeShapes Go.WideShapes Go.ChangeAt Go.RowKit Go.Proofs.Ytobcmlcmbnldlaa.Mem Go.Proofs.Ytobcmlcmbnldlaa.FleetMath Go.Proofs.Ytobcmlcmbnldlaa.Rec

theorem ghas_any (x : Win) (t : Int) (w : World) : Calls Try.prog 24 #[winV x, .int .i64 t] w (Gives w (.bool (has x t))) := by
  obtain ⟨a, b⟩ := x
  obtain ⟨r, hr⟩ : ∃ r, right ⟨a, b⟩ = r := ⟨_, rfl⟩
  have HR := Lib.hid hr
  clear hr
  go_enter Try.func24, Try.ntmps24
  go_wp2_with fail
  refine (pright_val ⟨a, b⟩ r _ HR.out).mono ?_
  rintro e w1 ⟨rfl, hb⟩
  rw [World.size_alloc] at hb
  obtain ⟨c0, c1⟩ := box_cells hb
  have HB : Hid (Below w.heap.size w w1) := ((Below.refl _ _).alloc (Nat.le_refl _) _).trans (hb.mono (by omega))
  clear hb
  cases r
  all_goals
    go_wp2
    all_goals
      go_ret
      refine gives_bool ?_ HB.out
      have hr := HR.out
      clear HR HB c0 c1
      first
        | (simp_all [has]; done)
        | (simp_all [has]; omega)

end Go.Proofs.Ytobcmlcmbnldlaa.Span
