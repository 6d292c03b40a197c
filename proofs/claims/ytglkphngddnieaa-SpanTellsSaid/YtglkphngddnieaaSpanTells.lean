/-
  SpanTells walked.
-/
import Derived.Test.YtglkphngddnieaaSpanRuns
import Derived.Deep.RegionHeld3
import Derived.Deep.DeepCutAuto
import Derived.Deep.RegionLaw
namespace Go.Proofs.Ytglkphngddnieaa.Span
open Go.ChangeShapes Go.WideShapes Go.ChangeAt Go.RowKit Go.Proofs.Ytglkphngddnieaa.Mem Go.Proofs.Ytglkphngddnieaa.FleetMath Go.Proofs.Ytglkphngddnieaa.Rec
set_option linter.unusedVariables false

/-- a window that was handed in, boxed; nothing that was there has turned -/
def BX (W : World) (x : Win) (u : World) : Prop := BoxAt u W.heap.size x ∧ Below W.heap.size W u
theorem BX.new (W : World) (x : Win) : BX W x (W.alloc (.cells #[.int .i64 x.fr, .int .i64 x.to] 23)) := ⟨BoxAt.new W x, (Below.refl _ _).alloc (Nat.le_refl _) _⟩
theorem BX.below {W u u' : World} {x : Win} (h : BX W x u) (hb : Below u.heap.size u u') : BX W x u' := ⟨h.1.below hb, h.2.trans (hb.mono h.2.size)⟩
theorem BX.drew {W u : World} {x : Win} (h : BX W x u) : BX W x u.drew := ⟨h.1, h.2.drew⟩
theorem BX.drewN {W u : World} {x : Win} (h : BX W x u) (d : Nat) : BX W x (u.drewN d) := ⟨h.1, below_drewN h.2 d⟩
theorem BX.cells {W u : World} {x : Win} (h : BX W x u) : u.cell? ⟨W.heap.size, 0, none⟩ = some (.int .i64 x.fr) ∧ u.cell? ⟨W.heap.size, 1, none⟩ = some (.int .i64 x.to) ∧ BX W x u := ⟨h.1.cells.1, h.1.cells.2, h⟩
section
variable (W : World) (x : Win) (u : World) (h : BX W x u)
include h
theorem gright_bx (r : Bool) (hr : right x = r) : Calls Try.prog 16 #[winV x] u fun e w' => e = .returned (.bool r) ∧ BX W x w' := (gright_val x u r hr).mono fun e w' ⟨h1, h2⟩ => ⟨h1, h.below h2⟩
theorem rright_bx (r : Bool) (hr : right x = r) : Calls Try.prog 17 #[winV x] u fun e w' => e = .returned (.bool r) ∧ BX W x w' := (rright_val x r u hr).mono fun e w' ⟨h1, h2⟩ => ⟨h1, h.below h2⟩
theorem ghas_bx (t : Int) (r : Bool) (hr : has x t = r) : Calls Try.prog 18 #[winV x, .int .i64 t] u fun e w' => e = .returned (.bool r) ∧ BX W x w' := (ghas_val x u t r hr).mono fun e w' ⟨h1, h2⟩ => ⟨h1, h.below h2⟩
theorem rhas_bx (t : Int) (r : Bool) (hr : has x t = r) : Calls Try.prog 19 #[winV x, .int .i64 t] u fun e w' => e = .returned (.bool r) ∧ BX W x w' := (rhas_val x u t r hr).mono fun e w' ⟨h1, h2⟩ => ⟨h1, h.below h2⟩
theorem gbegin_bx (t v : Int) (r : Bool) (hr : optV (beginT x t) = .tuple #[.int .i64 v, .bool r]) : Calls Try.prog 12 #[winV x, .int .i64 t] u fun e w' => e = .returned (.tuple #[.int .i64 v, .bool r]) ∧ BX W x w' := (gbegin_val x u t v r hr).mono fun e w' ⟨h1, h2⟩ => ⟨h1, h.below h2⟩
theorem rbegin_bx (t v : Int) (r : Bool) (hr : optV (beginT x t) = .tuple #[.int .i64 v, .bool r]) : Calls Try.prog 13 #[winV x, .int .i64 t] u fun e w' => e = .returned (.tuple #[.int .i64 v, .bool r]) ∧ BX W x w' := (rbegin_val x u t v r hr).mono fun e w' ⟨h1, h2⟩ => ⟨h1, h.below h2⟩
theorem glast_bx (s t v : Int) (r : Bool) (hs : (Lit.int .i64 s).wf = true) (ht : (Lit.int .i64 t).wf = true) (hr : optV (lastT x s t) = .tuple #[.int .i64 v, .bool r]) : Calls Try.prog 14 #[winV x, .int .i64 s, .int .i64 t] u fun e w' => e = .returned (.tuple #[.int .i64 v, .bool r]) ∧ BX W x w' := (glast_val x u s t v r hs ht hr).mono fun e w' ⟨h1, h2⟩ => ⟨h1, h.below h2⟩
theorem rlast_bx (s t v : Int) (r : Bool) (ht : t ≤ 9223372036854775807) (hr : optV (lastT x s t) = .tuple #[.int .i64 v, .bool r]) : Calls Try.prog 15 #[winV x, .int .i64 s, .int .i64 t] u fun e w' => e = .returned (.tuple #[.int .i64 v, .bool r]) ∧ BX W x w' := (rlast_val x u s t v r ht hr).mono fun e w' ⟨h1, h2⟩ => ⟨h1, h.below h2⟩
theorem runs_bx : Calls Try.prog 3 #[] u fun e w' => e = .returned (.bool true) ∧ BX W x w' := (runs_any u).mono fun e w' ⟨h1, h2⟩ => ⟨h1, h.below h2⟩
end
theorem wf_bounds {v : Int} (h : (Lit.int .i64 v).wf = true) : -9223372036854775808 ≤ v ∧ v ≤ 9223372036854775807 := by
  simp [Lit.wf, IntKind.min, IntKind.max, IntKind.signed, IntKind.bits] at h; omega

set_option maxRecDepth 100000 in
set_option maxHeartbeats 4000000 in
theorem spanTells_walk (x : Win) (t s u : Int) (W : World) (hxw : (Lit.int .i64 x.fr).wf = true ∧ (Lit.int .i64 x.to).wf = true) (ht : (Lit.int .i64 t).wf = true) (hs : (Lit.int .i64 s).wf = true) (hu : (Lit.int .i64 u).wf = true) :
    Calls Try.prog 4 #[winV x, .int .i64 t, .int .i64 s, .int .i64 u] W fun e w' => e = .returned (.bool true) ∧ Below W.heap.size W w' := by
  obtain ⟨v1, r1, h1⟩ := optV_form (beginT x t)
  obtain ⟨v2, r2, h2⟩ := optV_form (lastT x s u)
  obtain ⟨r3, h3⟩ : ∃ r, right x = r := ⟨_, rfl⟩
  obtain ⟨r4, h4⟩ : ∃ r, has x t = r := ⟨_, rfl⟩
  have HU := Lib.hid (wf_bounds hu).2
  have H1 := Lib.hid h1
  have H2 := Lib.hid h2
  have H3 := Lib.hid h3
  have H4 := Lib.hid h4
  have HS := Lib.hid hs
  have HUW := Lib.hid hu
  clear h1 h2 h3 h4 hxw ht hs hu
  have B0 := Lib.hid (BX.new W x)
  go_enter Try.func4, Try.ntmps4
  go_wp2_with fail
  refine (gbegin_bx W x _ B0.out t v1 r1 H1.out).mono ?_
  rintro e w1 ⟨rfl, hb⟩
  have B1 := Lib.hid hb
  obtain ⟨c0, c1, _⟩ := hb.cells
  clear hb
  go_wp2_with fail
  refine (rbegin_bx W x _ B1.out t v1 r1 H1.out).mono ?_
  rintro e w2 ⟨rfl, hb⟩
  have B2 := Lib.hid hb
  clear c0 c1
  obtain ⟨c0, c1, _⟩ := hb.cells
  clear hb B1
  go_wp2_with fail
  refine (glast_bx W x _ B2.out s u v2 r2 HS.out HUW.out H2.out).mono ?_
  rintro e w3 ⟨rfl, hb⟩
  have B3 := Lib.hid hb
  clear c0 c1
  obtain ⟨c0, c1, _⟩ := hb.cells
  clear hb B2
  go_wp2_with fail
  refine (rlast_bx W x _ B3.out s u v2 r2 HU.out H2.out).mono ?_
  rintro e w4 ⟨rfl, hb⟩
  have B4 := Lib.hid hb
  clear c0 c1 hb B3
  go_upto_region 5 with fail
  go_region_held3 (fun u => u.cell? ⟨W.heap.size, 0, none⟩ = some (.int .i64 x.fr) ∧ u.cell? ⟨W.heap.size, 1, none⟩ = some (.int .i64 x.to) ∧ BX W x u)
    (first
      | exact B4.out.drew.cells
      | exact BX.cells (by assumption)
      | exact BX.cells (BX.drew (by assumption)))
    (first
      | (go_at_call 16; (with_reducible refine (gright_bx W x _ (by first | assumption | exact B4.out.drew) r3 H3.out).mono ?_); rintro e w' ⟨rfl, hbx⟩)
      | (go_at_call 17; (with_reducible refine (rright_bx W x _ (by first | assumption | exact B4.out.drew) r3 H3.out).mono ?_); rintro e w' ⟨rfl, hbx⟩)
      | (go_at_call 18; (with_reducible refine (ghas_bx W x _ (by first | assumption | exact B4.out.drew) t r4 H4.out).mono ?_); rintro e w' ⟨rfl, hbx⟩)
      | (go_at_call 19; (with_reducible refine (rhas_bx W x _ (by first | assumption | exact B4.out.drew) t r4 H4.out).mono ?_); rintro e w' ⟨rfl, hbx⟩)
      | (go_at_call 3; (with_reducible refine (runs_bx W x _ (by first | assumption | exact B4.out.drew)).mono ?_); rintro e w' ⟨rfl, hbx⟩))
  all_goals
    go_wp2_with fail
    go_ret
    exact ⟨rfl, (show BX W x _ by assumption).2⟩

#print axioms spanTells_walk
end Go.Proofs.Ytglkphngddnieaa.Span
