import Derived.Test.YtilggpkmdmelmaaGreatFrames
import Derived.Test.YtilggpkmdmelmaaGreatFramePlan
namespace Go.Proofs.YtilggpkmdmelmaaGreat.Frames
open Go.ChangeShapes Go.WideShapes Go.ChangeAt Go.RowKit Go.Deep Go.Proofs.YtilggpkmdmelmaaGreat.Mem Go.Proofs.YtilggpkmdmelmaaGreat.Rec Go.Proofs.YtilggpkmdmelmaaGreat.FleetMath Go.Proofs.YtilggpkmdmelmaaGreat.PlanMath Go.Proofs.YtilggpkmdmelmaaGreat.Keep
set_option maxRecDepth 100000
theorem world_openP {H : Type} {enc : TypeId × Value → H} {W : World} {r : Reach} {b0 : Nat} {v : Value} {d : DataW H} {p : List MemPlace} (hv : Value.okWide Tryz.prog W r b0 54 v) (h : DataW.Trod enc Tryz.prog W 0 (fun _ => true) true 54 v d p)
    {ts : List TypeId} {ds : List (DataW H)} (hsz : (DataW.weightsEach Tryz.prog ts ds).all (· ≤ reachBytes) = true) {j : Nat} (ht : ts[j]? = some 54) (hd : ds[j]? = some d) :
    ∃ x : Wd, v = wdV x ∧ ∃ ts ds os ps, WdOk W x ts ds os ∧ PlnOk W x.pl.a x.pl.n x.pl.c ps := by
  obtain ⟨x, rfl, zs, vs, rs, ok⟩ := world_open hv h hsz ht hd
  obtain ⟨fuel, hf⟩ := h
  obtain ⟨xs, k, hx, hl, hlen, hfs⟩ := fields_of Tryz.underlying54 hf
  simp only at hx
  subst hx
  have hw := Light.of hsz ht hd
  obtain ⟨z4, x4, h4⟩ := hfs 4 42 4 rfl
  have hlt := hw.field (i := 4) (T := 42) (d := z4.1) Tryz.underlying54 rfl (by simp [x4])
  simp only [show Tryz.prog.cellsOf 42 = 1 by kernel_rfl] at h4
  obtain ⟨a, n, c, e, l, ok2, _⟩ := plan_in h4 (.inl hlt)
  simp [Value.cells] at e
  obtain ⟨rfl, rfl, rfl⟩ := e
  exact ⟨x, rfl, zs, vs, rs, l, ok, ok2⟩
end Go.Proofs.YtilggpkmdmelmaaGreat.Frames
