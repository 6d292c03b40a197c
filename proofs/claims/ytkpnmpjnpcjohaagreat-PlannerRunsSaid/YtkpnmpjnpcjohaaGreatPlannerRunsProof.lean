/-
  Chapter 14's example runs come out as the chapter says: PlannerRuns returns true. No conditions.
-/
import Derived.Test.YtkpnmpjnpcjohaaGreatPlnrRuns
import Derived.Test.YtkpnmpjnpcjohaaGreatKeepMaps
import Derived.Test.YtkpnmpjnpcjohaaGreatFrame
import Derived.Test.YtkpnmpjnpcjohaaGreatLibRows
import Derived.Deep.Slices
import Derived.Test.YtkpnmpjnpcjohaaGreatWords
import Derived.Test.YtkpnmpjnpcjohaaGreatWordsRte
namespace Go.Proofs.YtkpnmpjnpcjohaaGreat.plannerRuns
open Go.ChangeShapes Go.WideShapes Go.ChangeAt Go.RowKit Mem Frames Go.Proofs.YtkpnmpjnpcjohaaGreat.Insert Keep Rec FleetMath PlanMath Pln
set_option linter.unusedVariables false
set_option maxRecDepth 100000 in
theorem contract (H : Type) (enc : TypeId × Value → H) (W : World) (base : Nat) (args : Array Value) (ds gs : List (DataW H)) (before : List MemPlace)
    (hval : ∀ (j : Nat) t v, Tryz.f3.params[j]? = some t → args[j]? = some v → Value.okWide Tryz.prog W .any base t v)
    (hW : DataW.Whole enc Tryz.prog Tryz.f3.params.toList Rows.plannerRunsSpec.vars false W args.toList ds gs before)
    (hsz : (DataW.weightsEach Tryz.prog (Tryz.f3.params.toList ++ Rows.plannerRunsSpec.plain.varTypes Tryz.prog) (ds ++ gs)).all (· ≤ reachBytes) = true) :
    Calls Tryz.prog 3 args W fun e W' => ∃ v, e = .returned v ∧ Rows.plannerRunsSpec.post enc Tryz.prog Tryz.f3 false true false false W args v W' := by
  have hW' := hW
  obtain ⟨p, q, hA0, hV, rfl, hfz, hnd⟩ := hW
  have hA : DataW.TrodAll enc Tryz.prog W 0 (fun _ => true) true Tryz.f3.params.toList args.toList ds p := hA0
  rw [Tryz.params3] at hA hval hsz
  obtain ⟨rfl, rfl, rfl⟩ := trodAll_none hA
  obtain ⟨rfl, rfl⟩ := trodVars_none hV
  clear hA0 hval hsz
  refine (pruns_any W).mono fun e W' ⟨he, bel⟩ => ?_
  subst he
  exact ⟨_, rfl, _, _, _, [], _, [], hW', trodAll_mk1 (shut_bool Tryz.underlying4 _), trodAll_mk0, rfl, bel.frame _, fun h => by cases h⟩
set_option maxRecDepth 100000 in
theorem lifted (os : Os) (started : os.Started) (H : Type) (enc : TypeId × Value → H) :
    ReturnsInHanded {} Tryz.checked os 3 .any (Rows.plannerRunsSpec.pre6 enc Tryz.prog Tryz.f3 Rows.plannerRunsRow.domain false) (Rows.plannerRunsSpec.post enc Tryz.prog Tryz.f3 false true false false) := by
  refine returnsInHanded_of_change_sized (C := Tryz.checked) Frames.own started (by kernel_rfl) Tryz.func3
    (ChangeSpec.witness6 (enc := enc) (C := Tryz.checked) false ⟨#[], #[], []⟩ 8 (by kernel_rfl) (by kernel_rfl) (by kernel_rfl) (by kernel_rfl)) ?_
  intro W base args ds gs before hval hW _ hsz _
  exact contract H enc W base args ds gs before hval hW hsz
theorem holds : Rows.PlannerRunsSaid :=
  OpenClaim.holds_of_wide 3 Tryz.f3 rfl rfl rfl rfl rfl rfl rfl ⟨rfl, rfl, rfl, rfl, rfl⟩ rfl rfl rfl rfl rfl (by kernel_rfl) Tryz.func3 (by kernel_rfl)
    (of_decide_eq_true (by kernel_rfl)) (by unfold Func.isWrapper; first | (rw [if_pos (by decide +kernel)]; kernel_rfl) | (rw [if_neg (by decide +kernel)]; exact ⟨rfl, rfl⟩))
    (fun os started H enc _ => lifted os started H enc)
end Go.Proofs.YtkpnmpjnpcjohaaGreat.plannerRuns
namespace Go.Proofs.YtkpnmpjnpcjohaaGreat
theorem plannerRuns_holds : Rows.PlannerRunsSaid := plannerRuns.holds
end Go.Proofs.YtkpnmpjnpcjohaaGreat
