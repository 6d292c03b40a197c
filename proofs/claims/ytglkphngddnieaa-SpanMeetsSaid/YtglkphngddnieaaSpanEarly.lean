/-
  SpanEarly and SpanLate walked.
-/
import Derived.Test.YtglkphngddnieaaSpanTells
namespace Go.Proofs.Ytglkphngddnieaa.Span
open Go.ChangeShapes Go.WideShapes Go.ChangeAt Go.RowKit Go.Proofs.Ytglkphngddnieaa.Mem Go.Proofs.Ytglkphngddnieaa.FleetMath Go.Proofs.Ytglkphngddnieaa.Rec
set_option linter.unusedVariables false

theorem beginT_no {x : Win} {a : Int} (h : beginT x a = none) : right x = false ∨ x.to < a := by
  unfold beginT at h
  split at h
  · assumption
  · cases h
theorem not_false' {b : Bool} (h : ¬ b = true) : b = false := by cases b; rfl; exact absurd rfl h
theorem neq_num {a b : Int} (h : ¬ a = b) : (a == b) = false ∧ (a != b) = true := by simp [h]

set_option maxRecDepth 100000 in
set_option maxHeartbeats 4000000 in
theorem spanEarly_walk (x : Win) (a l : Int) (W : World) (hxw : (Lit.int .i64 x.fr).wf = true ∧ (Lit.int .i64 x.to).wf = true) (ha : (Lit.int .i64 a).wf = true) (hl : (Lit.int .i64 l).wf = true) :
    Calls Try.prog 7 #[winV x, .int .i64 a, .int .i64 l] W fun e w' => e = .returned (.bool true) ∧ Below W.heap.size W w' := by
  obtain ⟨v2, r2, h2⟩ := optV_form (beginT x l)
  have H2 := Lib.hid h2
  clear hxw ha hl
  have B0 := Lib.hid (BX.new W x)
  cases hq : beginT x a with
  | none =>
    have H1 : Hid (optV (beginT x a) = .tuple #[.int .i64 0, .bool false]) := by rw [hq]; rfl
    have hno := beginT_no hq
    clear hq h2
    go_enter Try.func7, Try.ntmps7
    go_wp2_with fail
    refine (gbegin_bx W x _ B0.out a 0 false H1.out).mono ?_
    rintro e w1 ⟨rfl, hb⟩
    have B1 := Lib.hid hb
    obtain ⟨c0, c1, _⟩ := hb.cells
    clear hb
    go_wp2_with fail
    refine (gbegin_bx W x _ B1.out l v2 r2 H2.out).mono ?_
    rintro e w2 ⟨rfl, hb⟩
    have B2 := Lib.hid hb
    clear c0 c1
    obtain ⟨c0, c1, _⟩ := hb.cells
    clear hb B1
    by_cases hr : right x = true
    · have hlt : x.to < a := by
        rcases hno with h | h
        · rw [hr] at h; cases h
        · exact h
      have HR := Lib.hid hr
      clear hno hr
      go_wp2_with fail
      refine (gright_bx W x _ B2.out true HR.out).mono ?_
      rintro e w3 ⟨rfl, hb⟩
      have B3 := Lib.hid hb
      clear c0 c1
      obtain ⟨c0, c1, _⟩ := hb.cells
      clear hb B2
      go_wp2_with fail
      refine (runs_bx W x _ B3.out).mono ?_
      rintro e w4 ⟨rfl, hb⟩
      have B4 := Lib.hid hb.2
      clear hb
      go_wp2_with fail
      go_ret
      exact ⟨rfl, B4.out⟩
    · have HR : Hid (right x = false) := not_false' hr
      clear hno hr
      go_wp2_with fail
      refine (gright_bx W x _ B2.out false HR.out).mono ?_
      rintro e w3 ⟨rfl, hb⟩
      have B3 := Lib.hid hb
      clear c0 c1
      obtain ⟨c0, c1, _⟩ := hb.cells
      clear hb B2
      go_wp2_with fail
      refine (runs_bx W x _ B3.out).mono ?_
      rintro e w4 ⟨rfl, hb⟩
      have B4 := Lib.hid hb.2
      clear hb
      go_wp2_with fail
      go_ret
      exact ⟨rfl, B4.out⟩
  | some v =>
    have H1 : Hid (optV (beginT x a) = .tuple #[.int .i64 v, .bool true]) := by rw [hq]; rfl
    obtain ⟨f1, f2, f3, f4, f5⟩ := beginT_in hq
    have HH := Lib.hid f1
    have hr := (has_iff.1 f1).1
    have h7 : ¬ (r2 = true ∧ a ≤ l ∧ v2 < v) := by
      rintro ⟨rfl, hle, hlt⟩
      cases hql : beginT x l with
      | none => rw [hql] at h2; injection h2 with h2; injection h2 with h2; simp at h2
      | some v' =>
        rw [hql] at h2
        injection h2 with h2
        injection h2 with h2
        simp at h2
        obtain ⟨b, hb, hbl⟩ := beginT_mono (a := a) hql hle
        rw [hq] at hb
        injection hb with hb
        omega
    have h9 : r2 = decide (l ≤ x.to) := by
      cases hql : beginT x l with
      | none =>
        rw [hql] at h2
        injection h2 with h2
        injection h2 with h2
        simp at h2
        rcases beginT_no hql with h | h
        · rw [hr] at h; cases h
        · rw [h2.2]; simp; omega
      | some v' =>
        rw [hql] at h2
        injection h2 with h2
        injection h2 with h2
        simp at h2
        have := (beginT_some.1 hql).2.1
        rw [h2.2]; simp; omega
    clear hq h2 f1 hr
    go_enter Try.func7, Try.ntmps7
    go_wp2_with fail
    refine (gbegin_bx W x _ B0.out a v true H1.out).mono ?_
    rintro e w1 ⟨rfl, hb⟩
    have B1 := Lib.hid hb
    obtain ⟨c0, c1, _⟩ := hb.cells
    clear hb
    go_wp2_with fail
    refine (gbegin_bx W x _ B1.out l v2 r2 H2.out).mono ?_
    rintro e w2 ⟨rfl, hb⟩
    have B2 := Lib.hid hb
    clear c0 c1
    obtain ⟨c0, c1, _⟩ := hb.cells
    clear hb B1
    go_wp2_with fail
    refine (ghas_bx W x _ B2.out v true HH.out).mono ?_
    rintro e w3 ⟨rfl, hb⟩
    have B3 := Lib.hid hb
    clear c0 c1
    obtain ⟨c0, c1, _⟩ := hb.cells
    clear hb B2
    have hdone : ∀ (w : World), BX W x w → True := fun _ _ => trivial
    clear hdone
    have H7 := Lib.hid h7
    have H9 := Lib.hid h9
    clear h7 h9
    by_cases hva : v = a
    · subst hva
      clear f5
      cases r2 with
      | false =>
        have hg : ¬ l ≤ x.to := by have := H9.out; simpa using this.symm
        go_wp2_with fail
        refine (runs_bx W x _ B3.out).mono ?_
        rintro e w4 ⟨rfl, hb⟩
        have B4 := Lib.hid hb.2
        clear hb
        go_wp2_with fail
        go_ret
        exact ⟨rfl, B4.out⟩
      | true =>
        have hg : l ≤ x.to := by have := H9.out; simpa using this.symm
        by_cases hll : v ≤ l
        · have hvv : ¬ v2 < v := fun h => H7.out ⟨rfl, hll, h⟩
          go_wp2_with fail
          refine (runs_bx W x _ B3.out).mono ?_
          rintro e w4 ⟨rfl, hb⟩
          have B4 := Lib.hid hb.2
          clear hb
          go_wp2_with fail
          go_ret
          exact ⟨rfl, B4.out⟩
        · go_wp2_with fail
          refine (runs_bx W x _ B3.out).mono ?_
          rintro e w4 ⟨rfl, hb⟩
          have B4 := Lib.hid hb.2
          clear hb
          go_wp2_with fail
          go_ret
          exact ⟨rfl, B4.out⟩
    · have hvf : v = x.fr := by omega
      obtain ⟨n1, n2⟩ := neq_num hva
      clear f5 hva
      obtain ⟨xf, xt⟩ := x
      simp only at hvf
      subst hvf
      cases r2 with
      | false =>
        have hg : ¬ l ≤ xt := by have := H9.out; simpa using this.symm
        go_wp2_with fail
        refine (runs_bx W _ _ B3.out).mono ?_
        rintro e w4 ⟨rfl, hb⟩
        have B4 := Lib.hid hb.2
        clear hb
        go_wp2_with fail
        go_ret
        exact ⟨rfl, B4.out⟩
      | true =>
        have hg : l ≤ xt := by have := H9.out; simpa using this.symm
        by_cases hll : a ≤ l
        · have hvv : ¬ v2 < v := fun h => H7.out ⟨rfl, hll, h⟩
          go_wp2_with fail
          refine (runs_bx W _ _ B3.out).mono ?_
          rintro e w4 ⟨rfl, hb⟩
          have B4 := Lib.hid hb.2
          clear hb
          go_wp2_with fail
          go_ret
          exact ⟨rfl, B4.out⟩
        · go_wp2_with fail
          refine (runs_bx W _ _ B3.out).mono ?_
          rintro e w4 ⟨rfl, hb⟩
          have B4 := Lib.hid hb.2
          clear hb
          go_wp2_with fail
          go_ret
          exact ⟨rfl, B4.out⟩

#print axioms spanEarly_walk
end Go.Proofs.Ytglkphngddnieaa.Span
