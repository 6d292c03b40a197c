/-
  SpanLate walked.
-/
import Derived.Test.YtglkphngddnieaaSpanEarly
import Derived.Test.YtglkphngddnieaaFleetMath2
namespace Go.Proofs.Ytglkphngddnieaa.Span
open Go.ChangeShapes Go.WideShapes Go.ChangeAt Go.RowKit Go.Proofs.Ytglkphngddnieaa.Mem Go.Proofs.Ytglkphngddnieaa.FleetMath Go.Proofs.Ytglkphngddnieaa.Rec
set_option linter.unusedVariables false

theorem lastT_no {x : Win} {s u : Int} (h : lastT x s u = none) (hr : right x = true) (hs : 0 ≤ s) : u < x.fr + s := by
  have h1 := right_iff.1 hr
  rcases Int.lt_or_le u (x.fr + s) with h2 | h2
  · exact h2
  · obtain ⟨t, ht, _⟩ := (lastT_iff (w := x) (s := s) (u := u) (b := x.fr) hr hs (Int.le_refl _)).1 ⟨h1.2.1, h2⟩
    rw [h] at ht; cases ht
theorem lastT_yes {x : Win} {s u v : Int} (h : lastT x s u = some v) : right x = true ∧ 0 ≤ s ∧ s ≤ u ∧ x.fr ≤ v ∧ v ≤ x.to ∧ v ≤ u - s ∧ (v = x.to ∨ v = u - s) := by
  obtain ⟨h1, h2, h3, h4, h5⟩ := lastT_some.1 h
  refine ⟨h1, h2, h4, h3, ?_, ?_, ?_⟩ <;> split at h5 <;> omega

set_option maxRecDepth 100000 in
set_option maxHeartbeats 4000000 in
theorem spanLate_walk (x : Win) (s u : Int) (W : World) (hxw : (Lit.int .i64 x.fr).wf = true ∧ (Lit.int .i64 x.to).wf = true) (hs : (Lit.int .i64 s).wf = true) (hu : (Lit.int .i64 u).wf = true) :
    Calls Try.prog 8 #[winV x, .int .i64 s, .int .i64 u] W fun e w' => e = .returned (.bool true) ∧ Below W.heap.size W w' := by
  obtain ⟨hu1, hu2⟩ := wf_bounds hu
  have HS := Lib.hid hs
  have HU := Lib.hid hu
  clear hxw hs hu
  have B0 := Lib.hid (BX.new W x)
  cases hq : lastT x s u with
  | none =>
    have H1 : Hid (optV (lastT x s u) = .tuple #[.int .i64 0, .bool false]) := by rw [hq]; rfl
    obtain ⟨r, hr⟩ : ∃ r, right x = r := ⟨_, rfl⟩
    have HR := Lib.hid hr
    have hno : r = true → 0 ≤ s → u < x.fr + s ∧ 0 ≤ x.fr ∧ x.fr ≤ 1000000 := fun h1 h2 => by
      rw [h1] at hr
      have := right_iff.1 hr
      exact ⟨lastT_no hq hr h2, by omega, by omega⟩
    clear hq hr
    go_enter Try.func8, Try.ntmps8
    go_wp2_with fail
    refine (glast_bx W x _ B0.out s u 0 false HS.out HU.out H1.out).mono ?_
    rintro e w1 ⟨rfl, hb⟩
    have B1 := Lib.hid hb
    obtain ⟨c0, c1, _⟩ := hb.cells
    clear hb
    go_wp2_with fail
    refine (gright_bx W x _ B1.out r HR.out).mono ?_
    rintro e w2 ⟨rfl, hb⟩
    have B2 := Lib.hid hb
    clear c0 c1
    obtain ⟨c0, c1, _⟩ := hb.cells
    clear hb B1
    cases r with
    | false =>
      clear hno
      go_wp2_with fail
      refine (runs_bx W x _ B2.out).mono ?_
      rintro e w3 ⟨rfl, hb⟩
      have B3 := Lib.hid hb.2
      clear hb
      go_wp2_with fail
      go_ret
      exact ⟨rfl, B3.out⟩
    | true =>
      by_cases h1 : s < 0
      · clear hno
        go_wp2_with fail
        refine (runs_bx W x _ B2.out).mono ?_
        rintro e w3 ⟨rfl, hb⟩
        have B3 := Lib.hid hb.2
        clear hb
        go_wp2_with fail
        go_ret
        exact ⟨rfl, B3.out⟩
      obtain ⟨n1, n2, n3⟩ := hno rfl (by omega)
      clear hno
      by_cases h2 : 1000000 < s
      · go_wp2_with fail
        refine (runs_bx W x _ B2.out).mono ?_
        rintro e w3 ⟨rfl, hb⟩
        have B3 := Lib.hid hb.2
        clear hb
        go_wp2_with fail
        go_ret
        exact ⟨rfl, B3.out⟩
      · go_wp2_with fail
        refine (runs_bx W x _ B2.out).mono ?_
        rintro e w3 ⟨rfl, hb⟩
        have B3 := Lib.hid hb.2
        clear hb
        go_wp2_with fail
        go_ret
        exact ⟨rfl, B3.out⟩
  | some v =>
    have H1 : Hid (optV (lastT x s u) = .tuple #[.int .i64 v, .bool true]) := by rw [hq]; rfl
    obtain ⟨f1, f2, f3, f4, f5, f6, f7⟩ := lastT_yes hq
    have f8 := right_iff.1 f1
    obtain ⟨f9, f10, f11⟩ := f8
    have HH : Hid (has x v = true) := has_iff.2 ⟨f1, f4, f5⟩
    obtain ⟨r, hr⟩ : ∃ r, has x (v + 1) = r := ⟨_, rfl⟩
    have HR := Lib.hid hr
    have h7 : r = true → u - s < v + 1 := fun h => by
      rw [h] at hr
      have := has_iff.1 hr
      omega
    clear hq f1 hr f7
    go_enter Try.func8, Try.ntmps8
    go_wp2_with fail
    refine (glast_bx W x _ B0.out s u v true HS.out HU.out H1.out).mono ?_
    rintro e w1 ⟨rfl, hb⟩
    have B1 := Lib.hid hb
    obtain ⟨c0, c1, _⟩ := hb.cells
    clear hb
    go_wp2_with fail
    refine (ghas_bx W x _ B1.out v true HH.out).mono ?_
    rintro e w2 ⟨rfl, hb⟩
    have B2 := Lib.hid hb
    clear c0 c1
    obtain ⟨c0, c1, _⟩ := hb.cells
    clear hb B1
    go_wp2_with fail
    refine (ghas_bx W x _ B2.out (v + 1) r HR.out).mono ?_
    rintro e w3 ⟨rfl, hb⟩
    have B3 := Lib.hid hb
    clear c0 c1
    obtain ⟨c0, c1, _⟩ := hb.cells
    clear hb B2
    cases r with
    | false =>
      clear h7
      go_wp2_with fail
      refine (runs_bx W x _ B3.out).mono ?_
      rintro e w4 ⟨rfl, hb⟩
      have B4 := Lib.hid hb.2
      clear hb
      go_wp2_with fail
      go_ret
      exact ⟨rfl, B4.out⟩
    | true =>
      have h8 := h7 rfl
      clear h7
      go_wp2_with fail
      refine (runs_bx W x _ B3.out).mono ?_
      rintro e w4 ⟨rfl, hb⟩
      have B4 := Lib.hid hb.2
      clear hb
      go_wp2_with fail
      go_ret
      exact ⟨rfl, B4.out⟩

#print axioms spanLate_walk
end Go.Proofs.Ytglkphngddnieaa.Span
