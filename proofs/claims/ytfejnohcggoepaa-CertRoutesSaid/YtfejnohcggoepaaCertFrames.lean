/-
  The walks of chapter 10's statements, over what came in.
-/
import Derived.Test.YtfejnohcggoepaaCertMakes
import Derived.Test.YtfejnohcggoepaaCertRoutes
import Derived.Test.YtfejnohcggoepaaFrameCrt
import Derived.Test.YtfejnohcggoepaaFrameWorldP
namespace Go.Proofs.Ytfejnohcggoepaa.Cert
open Go.ChangeShapes Go.WideShapes Go.ChangeAt Go.RowKit Go.Proofs.Ytfejnohcggoepaa.Mem Go.Proofs.Ytfejnohcggoepaa.GeoMath Go.Proofs.Ytfejnohcggoepaa.FleetMath Go.Proofs.Ytfejnohcggoepaa.PlanMath Go.Proofs.Ytfejnohcggoepaa.CertMath Go.Proofs.Ytfejnohcggoepaa.Rec Go.Proofs.Ytfejnohcggoepaa.Keep Go.Proofs.Ytfejnohcggoepaa.Plan Go.Proofs.Ytfejnohcggoepaa.Frames
set_option linter.unusedVariables false

abbrev WorldIn (W : World) (x : Wd) : Prop := ∃ ts ds os ps, WdOk W x ts ds os ∧ PlnOk W x.pl.a x.pl.n x.pl.c ps
theorem certMakes_w (x : Wd) (W : World) (h : WorldIn W x) : Calls Try.prog 4 #[wdV x] W fun e w' => e = .returned (.bool true) ∧ Below W.heap.size W w' := by
  obtain ⟨ts, ds, os, ps, h1, h2⟩ := h
  exact certMakes_walk x ts ds os ps W h1.ts h1.ds h1.os h2.plns (by have := h2.le; have := h2.few; omega)
theorem certChecks_w (x : Wd) (a : Option Addr) (n c : Nat) (l : List CM) (W : World) (h : WorldIn W x) (hc : CrtOk W a n c l) : Calls Try.prog 5 #[wdV x, .slice a n c] W fun e w' => e = .returned (.bool true) ∧ Below W.heap.size W w' := by
  obtain ⟨ts, ds, os, ps, h1, h2⟩ := h
  exact certChecks_walk x ts ds os ps a n c l W h1.ts h1.ds h1.os h2.plns hc.crts (by have := hc.le; have := hc.few; omega)
theorem certOnly_w (x : Wd) (a : Option Addr) (n c : Nat) (l : List CM) (own : Bool) (W : World) (h : WorldIn W x) (hc : CrtOk W a n c l) : Calls Try.prog 7 #[wdV x, .slice a n c, .bool own] W fun e w' => e = .returned (.bool true) ∧ Below W.heap.size W w' := by
  obtain ⟨ts, ds, os, ps, h1, h2⟩ := h
  exact certOnly_walk x ts ds os ps a n c l own W h1.ts h1.ds h1.os h2.plns hc.crts
theorem certRoutes_w (x : Wd) (W : World) (h : WorldIn W x) : Calls Try.prog 8 #[wdV x] W fun e w' => e = .returned (.bool true) ∧ Below W.heap.size W w' := by
  obtain ⟨ts, ds, os, ps, h1, h2⟩ := h
  exact certRoutes_walk x ts ds os ps W h1.ts h1.ds h1.os h2.plns
#print axioms certMakes_w
end Go.Proofs.Ytfejnohcggoepaa.Cert
