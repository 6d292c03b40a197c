/-
  A world that came in by value, opened: its plan too.
-/
import Derived.Test.YtpigklkidagolaaFrames
import Derived.Test.YtpigklkidagolaaFramePlans
namespace Go.Proofs.Ytpigklkidagolaa.Frames
open Go.ChangeShapes Go.WideShapes Go.ChangeAt Go.RowKit Go.Deep Go.Proofs.Ytpigklkidagolaa.Mem Go.Proofs.Ytpigklkidagolaa.Rec Go.Proofs.Ytpigklkidagolaa.FleetMath Go.Proofs.Ytpigklkidagolaa.PlanMath Go.Proofs.Ytpigklkidagolaa.Keep

set_option maxRecDepth 100000
theorem world_openP {H : Type} {enc : TypeId × Value → H} {W : World} {r : Reach} {b0 : Nat} {v : Value} {d : DataW H} {p : List MemPlace} (hv : Value.okWide Try.prog W r b0 51 v) (h : DataW.Trod enc Try.prog W 0 (fun _ => true) true 51 v d p)
    {ts : List TypeId} {ds : List (DataW H)} (hsz : (DataW.weightsEach Try.prog ts ds).all (· ≤ reachBytes) = true) {j : Nat} (ht : ts[j]? = some 51) (hd : ds[j]? = some d) :
    ∃ x : Wd, v = wdV x ∧ ∃ ts ds os ps, WdOk W x ts ds os ∧ PlnOk W x.pl.a x.pl.n x.pl.c ps := by
  obtain ⟨x, rfl, zs, vs, rs, ok⟩ := world_open hv h hsz ht hd
  obtain ⟨fuel, hf⟩ := h
  obtain ⟨xs, k, hx, hl, hlen, hfs⟩ := fields_of Try.underlying51 hf
  simp only at hx
  subst hx
  have hw := Light.of hsz ht hd
  obtain ⟨z4, x4, h4⟩ := hfs 4 47 4 rfl
  have hlt := hw.field (i := 4) (T := 47) (d := z4.1) Try.underlying51 rfl (by simp [x4])
  simp only [show Try.prog.cellsOf 47 = 1 by kernel_rfl] at h4
  obtain ⟨a, n, c, e, l, ok2, _⟩ := plan_in h4 (.inl hlt)
  simp [Value.cells] at e
  obtain ⟨rfl, rfl, rfl⟩ := e
  exact ⟨x, rfl, zs, vs, rs, l, ok, ok2⟩
#print axioms world_openP
end Go.Proofs.Ytpigklkidagolaa.Frames
