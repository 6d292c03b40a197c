/-
  Worlds that are handed in: one of the drivers (Driver).
-/
import Derived.Test.YtofkhpcigjcegaaKeepMaps
import Derived.Test.YtofkhpcigjcegaaWithin
import Derived.Test.YtofkhpcigjcegaaDealRDriver
import Derived.Deep.RegionLaw
import Derived.Deep.DeepCutAuto
namespace Go.Proofs.Ytofkhpcigjcegaa.Keep
open Go.ChangeShapes Go.WideShapes Go.ChangeAt Go.RowKit Go.Proofs.Ytofkhpcigjcegaa.Mem Go.Proofs.Ytofkhpcigjcegaa.GeoMath Go.Proofs.Ytofkhpcigjcegaa.FleetMath Go.Proofs.Ytofkhpcigjcegaa.Rec Go.Proofs.Ytofkhpcigjcegaa.Geo Go.Proofs.Ytofkhpcigjcegaa.Deal

def zeroDrv : Drv := ⟨0, 0, 0, ⟨0, 0⟩, false⟩
/-- one of the list, or the zero one where there is none -/
def DrvIn (ds : List Drv) (d : Drv) : Prop := d ∈ ds ∨ (ds = [] ∧ d = zeroDrv)
def DriverOk (w : World) (ds : List Drv) (e : Ending) (w' : World) : Prop := ∃ d, DrvIn ds d ∧ e = .returned (drvV d) ∧ Below w.heap.size w w'

set_option maxRecDepth 100000 in
set_option maxHeartbeats 1000000 in
theorem kdriver_any (x : Wd) (ds : List Drv) (at_ : Int) (w : World) (h : Drvs w w.heap.size x.ds.a x.ds.n ds) (hn : x.ds.n ≤ 1125899906842624) :
    Calls Try.prog 21 #[wdV x, .int .i64 at_] w (DriverOk w ds) := by
  obtain ⟨nn, ⟨ta, tn, tc⟩, ⟨a, n, c⟩, ⟨oa, on, oc⟩, ⟨pa, pn, pc⟩⟩ := x
  simp only [wdV, Sl.v] at h hn ⊢
  have HL := Lib.hid h.length
  have HB : Hid (Below w.heap.size w ((w.alloc (.cells #[.int .i64 nn, .slice ta tn tc, .slice a n c, .slice oa on oc, .slice pa pn pc] 47)).alloc (.cells #[.int .i64 0, .int .i64 0, .int .i64 0, .int .i64 0, .int .i64 0, .bool false] 33))) := ((Below.refl _ _).alloc (Nat.le_refl _) _).alloc (by simp) _
  rcases Nat.eq_zero_or_pos n with h0 | h0
  · subst h0
    have HN : Hid (ds = []) := List.eq_nil_of_length_eq_zero HL.out
    clear h hn
    go_enter Try.func21, Try.ntmps21
    go_wp2
    refine bodyPost_ret (v := drvV zeroDrv) ?_ rfl ⟨zeroDrv, .inr ⟨HN.out, rfl⟩, rfl, ?_⟩
    · simp [results, Try.results21, go_sem, zeroDrv]
    · exact HB.out
  · obtain ⟨b, off, e, hb, hc⟩ := h.2.2 h0
    subst e
    have HC : Hid (∀ k : Nat, k < n → ∃ y : Drv, y ∈ ds ∧ ∀ u, Below w.heap.size w u → u.cell? ⟨b, off + k * 6, none⟩ = some (.int .i64 y.id) ∧ u.cell? ⟨b, off + k * 6 + 1, none⟩ = some (.int .i64 y.room) ∧ u.cell? ⟨b, off + k * 6 + 2, none⟩ = some (.int .i64 y.home) ∧ u.cell? ⟨b, off + k * 6 + 3, none⟩ = some (.int .i64 y.win.fr) ∧ u.cell? ⟨b, off + k * 6 + 4, none⟩ = some (.int .i64 y.win.to) ∧ u.cell? ⟨b, off + k * 6 + 5, none⟩ = some (.bool y.retired)) := fun k hk => by
      obtain ⟨y, hy⟩ : ∃ y, ds[k]? = some y := ⟨_, List.getElem?_eq_getElem (by have := HL.out; omega)⟩
      refine ⟨y, List.mem_of_getElem? hy, fun u hu => ?_⟩
      obtain ⟨b', off', y', e', _, hy', _, g0, g1, g2, g3, g4, g5⟩ := Drvs.at_ (Recs.keep h hu) hk
      injection e' with e'
      injection e' with e1 e2
      subst e1
      subst e2
      rw [hy] at hy'
      injection hy' with hy'
      subst hy'
      exact ⟨g0, g1, g2, g3, g4, g5⟩
    clear h hc
    go_enter Try.func21, Try.ntmps21
    go_wp2
    have hi16 : IntKind.i64.wrap ((n : Int) - 1) = (n : Int) - 1 := IntWalk.i64_in _ (by omega)
    go_region_law (go_simp; go_at_call 36; refine (within_any at_ 0 ((n : Int) - 1) _ (by omega) (by omega) (by omega)).mono ?_; rintro e w' ⟨k, hk, rfl, rfl⟩; obtain ⟨y, hy, hcs⟩ := HC.out k (by omega); have HY := Lib.hid hy; obtain ⟨g0, g1, g2, g3, g4, g5⟩ := hcs _ HB.out; clear hy hcs; have hkn : (k : Int) < (n : Int) := by omega)
    all_goals
      go_wp2_with fail
      refine bodyPost_ret (v := drvV y) ?_ rfl ⟨y, .inl HY.out, rfl, ?_⟩
      · simp [results, Try.results21, go_sem]
      · exact (((Below.refl _ _).alloc (Nat.le_refl _) _).alloc (by simp) _).drew

#print axioms kdriver_any
end Go.Proofs.Ytofkhpcigjcegaa.Keep
