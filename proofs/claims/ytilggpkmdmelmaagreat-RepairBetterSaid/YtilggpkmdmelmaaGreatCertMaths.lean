/-
  CertMath, CertMath2, CertMath3: one text.
-/
import Derived.Test.YtilggpkmdmelmaaGreatPlanMaths
import Derived.Test.YtilggpkmdmelmaaGreatMaths
namespace Go.Proofs.YtilggpkmdmelmaaGreat.CertMath
open Go.Proofs.YtilggpkmdmelmaaGreat.FleetMath Go.Proofs.YtilggpkmdmelmaaGreat.PlanMath
set_option linter.unusedVariables false
def drvOf (ds : List Drv) (id : Int) : Option Drv := ds.find? fun d => decide (d.id = id)
def DistD (ds : List Drv) : Prop := ds.Pairwise fun a b => a.id ≠ b.id
instance (ds : List Drv) : Decidable (DistD ds) := by unfold DistD; infer_instance
def wellC (m : Option Mp) (ds : List Drv) (os : List FleetMath.Ord) (p : List Rte) : Bool :=
  m.isSome && decide (ds.length ≤ 8) && known m os && rightP p && decide (∀ d ∈ ds, drvE m d = 0) && decide (DistD ds)
def makeFrom (m : Option Mp) (ds : List Drv) (os : List FleetMath.Ord) : Nat → List Rte → Except (Nat × Int) (List (List Vis))
  | _, [] => .ok []
  | i, r :: t =>
    match drvOf ds r.drv with
    | none => .error (i, 8)
    | some d =>
      if (drive m d os r.stops).2.2 ≠ 0 then .error (i, (drive m d os r.stops).2.2)
      else match makeFrom m ds os (i + 1) t with
        | .error x => .error x
        | .ok c => .ok ((drive m d os r.stops).1 :: c)
def makeC (m : Option Mp) (ds : List Drv) (os : List FleetMath.Ord) (p : List Rte) : List (List Vis) × Nat × Int :=
  if wellC m ds os p then
    match makeFrom m ds os 0 p with
    | .error (i, e) => ([], i, e)
    | .ok c => (c, 0, 0)
  else ([], 0, 1)
theorem wellC_parts {m : Option Mp} {ds : List Drv} {os : List FleetMath.Ord} {p : List Rte} (h : wellC m ds os p = true) : ∃ m', m = some m' ∧ ds.length ≤ 8 ∧ known m os = true ∧ rightP p = true ∧ (∀ d ∈ ds, drvE m d = 0) ∧ DistD ds := by
  simp only [wellC, Bool.and_eq_true, decide_eq_true_eq] at h
  obtain ⟨⟨⟨⟨⟨h1, h2⟩, h3⟩, h4⟩, h5⟩, h6⟩ := h
  obtain ⟨m', rfl⟩ := Option.isSome_iff_exists.1 h1
  exact ⟨m', rfl, h2, h3, h4, h5, h6⟩
theorem makeFrom_err {m : Option Mp} {ds : List Drv} {os : List FleetMath.Ord} {p : List Rte} {i k : Nat} {e : Int} (h : makeFrom m ds os i p = .error (k, e)) : ¬ e = 0 := by
  induction p generalizing i with
  | nil => rw [makeFrom] at h; cases h
  | cons r t ih =>
    rw [makeFrom] at h
    split at h
    · injection h with h; injection h with _ h; omega
    · split at h
      · rename_i hne
        injection h with h
        injection h with _ h
        rw [← h]
        exact hne
      · split at h
        · rename_i hr
          injection h with h
          rw [h] at hr
          exact ih hr
        · cases h
end Go.Proofs.YtilggpkmdmelmaaGreat.CertMath

namespace Go.Proofs.YtilggpkmdmelmaaGreat.CertMath
open Go.Proofs.YtilggpkmdmelmaaGreat.FleetMath Go.Proofs.YtilggpkmdmelmaaGreat.PlanMath
set_option linter.unusedVariables false
theorem drive_few (m : Option Mp) (d : Drv) (os : List FleetMath.Ord) (stops : List Stp) : (drive m d os stops).1.length ≤ 80 := by
  by_cases hb : drvE m d ≠ 0 ∨ known m os = false ∨ 80 < stops.length
  · rw [drive_bad hb]; exact Nat.zero_le _
  · unfold drive
    split
    · exact Nat.zero_le _
    · rw [if_neg hb]
      unfold driveM
      split
      · exact Nat.zero_le _
      · rename_i hr
        have := run_len hr
        split
        · exact Nat.zero_le _
        · simp only at *; omega
section
variable {m : Option Mp} {ds : List Drv} {os : List FleetMath.Ord} {p : List Rte} {k : Nat} {r : Rte} {d : Drv} {done : List (List Vis)} {X : Except (Nat × Int) (List (List Vis))}
def pre (done : List (List Vis)) : Except (Nat × Int) (List (List Vis)) → Except (Nat × Int) (List (List Vis))
  | .error x => .error x
  | .ok c => .ok (done ++ c)
theorem pre_start (x : Except (Nat × Int) (List (List Vis))) : x = pre [] x := by cases x <;> rfl
theorem mk_none (h : X = pre done (makeFrom m ds os k (p.drop k))) (hp : p.drop k = r :: p.drop (k + 1)) (hd : drvOf ds r.drv = none) : X = .error (k, 8) := by
  rw [h, hp, makeFrom, hd]; rfl
theorem mk_fault (h : X = pre done (makeFrom m ds os k (p.drop k))) (hp : p.drop k = r :: p.drop (k + 1)) (hd : drvOf ds r.drv = some d) {e : Int} (he : (drive m d os r.stops).2.2 = e) (hn : e ≠ 0) : X = .error (k, e) := by
  subst he
  rw [h, hp, makeFrom, hd]
  simp only
  rw [if_pos hn]
  rfl
theorem mk_next (h : X = pre done (makeFrom m ds os k (p.drop k))) (hp : p.drop k = r :: p.drop (k + 1)) (hd : drvOf ds r.drv = some d) {vs : List Vis} {j : Nat} (he : drive m d os r.stops = (vs, j, 0)) : X = pre (done ++ [vs]) (makeFrom m ds os (k + 1) (p.drop (k + 1))) := by
  rw [h, hp, makeFrom, hd]
  simp only
  rw [he]
  simp only
  rw [if_neg (by simp)]
  cases makeFrom m ds os (k + 1) (p.drop (k + 1)) with
  | error x => rfl
  | ok c => simp [pre]
theorem mk_end (h : X = pre done (makeFrom m ds os k (p.drop k))) (hk : p.length ≤ k) : X = .ok done := by
  rw [h, List.drop_of_length_le hk, makeFrom]
  simp [pre]
theorem makeC_no (h : wellC m ds os p = false) : makeC m ds os p = ([], 0, 1) := by unfold makeC; rw [h]; rfl
theorem makeC_err {e : Int} (h : wellC m ds os p = true) (hx : makeFrom m ds os 0 p = .error (k, e)) : makeC m ds os p = ([], k, e) := by unfold makeC; rw [h, hx]; rfl
theorem makeC_ok {c : List (List Vis)} (h : wellC m ds os p = true) (hx : makeFrom m ds os 0 p = .ok c) : makeC m ds os p = (c, 0, 0) := by unfold makeC; rw [h, hx]; rfl
end
section
variable {m : Mp} {ds : List Drv} {os : List FleetMath.Ord} {p : List Rte} {k : Nat} {r : Rte} {d : Drv} {c : List (List Vis)} {v : List Vis} {X : Nat × Int}
end
end Go.Proofs.YtilggpkmdmelmaaGreat.CertMath

namespace Go.Proofs.YtilggpkmdmelmaaGreat.CertMath
open Go.Proofs.YtilggpkmdmelmaaGreat.GeoMath Go.Proofs.YtilggpkmdmelmaaGreat.FleetMath Go.Proofs.YtilggpkmdmelmaaGreat.PlanMath
set_option linter.unusedVariables false
def followE (m : Mp) (d : Drv) (os : List FleetMath.Ord) (seen : List Stp) (st : St) (v : Vis) : Except Int St :=
  match find os v.stop.ord with
  | none => .error 8
  | some o =>
    if v.stop.drop = true ∧ Stp.mk v.stop.ord false ∉ seen then .error 17
    else if v.load ≠ loadOf o v.stop st.load ∨ d.room < loadOf o v.stop st.load then .error 14
    else match beginT (siteOf o v.stop).win (st.left + time m st.at_ (siteOf o v.stop).place) with
      | none => .error 15
      | some b =>
        if v.arrive ≠ st.left + time m st.at_ (siteOf o v.stop).place ∨ v.start ≠ b ∨ v.leave ≠ b + (siteOf o v.stop).serv ∨ d.win.to < b + (siteOf o v.stop).serv then .error 15
        else .ok ⟨(siteOf o v.stop).place, v.leave, loadOf o v.stop st.load⟩
section
variable {m : Mp} {d : Drv} {os : List FleetMath.Ord} {seen : List Stp} {st st' : St} {x : Vis} {r vs : List Vis} {v e : Int} {o : FleetMath.Ord} {b : Int} {k : Nat} {stops : List Stp}
structure OB (st : St) (k : Nat) : Prop where
  left : 0 ≤ st.left ∧ st.left ≤ 2000000
  load : -(1000 * (k : Int)) ≤ st.load ∧ st.load ≤ 1000 * (k : Int)
theorem OB.start (hd : DrvOk m d) : OB (st0 d) 0 := by
  have hw := right_iff.1 hd.win
  exact ⟨⟨hw.1, by show d.win.fr ≤ 2000000; omega⟩, ⟨by simp [st0], by simp [st0]⟩⟩
theorem site_serv (ho : OrdOk m o) (s : Stp) : 0 ≤ (siteOf o s).serv ∧ (siteOf o s).serv ≤ 1000000 := by
  unfold siteOf
  split
  · exact ho.dropS
  · exact ho.pickS
theorem OB.next (h : OB st k) (ho : ∀ o ∈ os, OrdOk m o) (hf : followE m d os seen st x = .ok st') : OB st' (k + 1) := by
  unfold followE at hf
  split at hf
  · cases hf
  rename_i o hfo
  have hk := ho o (List.mem_of_find?_eq_some hfo)
  split at hf
  · cases hf
  split at hf
  · cases hf
  split at hf
  · cases hf
  rename_i b hb
  split at hf
  · cases hf
  rename_i h4
  injection hf with hf
  subst hf
  have h3 : x.leave = b + (siteOf o x.stop).serv := Decidable.not_not.1 fun e => h4 (Or.inr (Or.inr (Or.inl e)))
  have hw := right_iff.1 (has_iff.1 (beginT_in hb).1).1
  have hb := beginT_in hb
  have hsz := hk.size
  have hsv := site_serv hk x.stop
  refine ⟨⟨?_, ?_⟩, ?_⟩
  · simp only [h3]; omega
  · simp only [h3]; omega
  · have := h.load
    simp only [loadOf]
    split <;> constructor <;> omega
end
end Go.Proofs.YtilggpkmdmelmaaGreat.CertMath
