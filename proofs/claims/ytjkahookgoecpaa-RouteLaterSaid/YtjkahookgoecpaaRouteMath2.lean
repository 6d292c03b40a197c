/-
  What follows of drives, as the statements of chapter 7 ask it: what a fault says, a driver that begins later. No program is named here.
-/
import Derived.Test.YtjkahookgoecpaaRouteRCost
namespace Go.Proofs.Ytjkahookgoecpaa.FleetMath
open Go.Proofs.Ytjkahookgoecpaa.GeoMath
/-- the number of a fault in a drive whose arguments are right -/
theorem driveM_why (m : Mp) (d : Drv) (os : List Ord) (stops : List Stp) : (driveM m d os stops).2.2 ≠ 1 ∧ ((driveM m d os stops).2.2 ≠ 0 → (driveM m d os stops).1 = []) := by
  unfold driveM
  cases hr : run m d os [] (st0 d) stops with
  | error x =>
    obtain ⟨k, e⟩ := x
    obtain ⟨s, _, hs, st1, vs, _, hst⟩ := run_fault hr
    refine ⟨fun he => ?_, fun _ => rfl⟩
    simp only at he
    subst he
    unfold step at hst
    split at hst
    · injection hst with hst; omega
    · split at hst
      · injection hst with hst; omega
      · split at hst
        · injection hst with hst; omega
        · split at hst
          · injection hst with hst; omega
          · split at hst
            · injection hst with hst; omega
            · cases hst
  | ok p =>
    obtain ⟨st, vs⟩ := p
    simp only
    split
    · exact ⟨by simp, fun _ => rfl⟩
    · exact ⟨by simp, fun h => absurd rfl h⟩
theorem drive_args {m : Option Mp} {d : Drv} {os : List Ord} {stops : List Stp} (h : (drive m d os stops).2.2 ≠ 1) : ∃ m', m = some m' ∧ drvE m d = 0 ∧ known m os = true ∧ stops.length ≤ 80 := by
  by_cases hb : drvE m d ≠ 0 ∨ known m os = false ∨ 80 < stops.length
  · rw [drive_bad hb] at h; exact absurd rfl h
  · have h1 : drvE m d = 0 := Decidable.not_not.1 fun hx => hb (.inl hx)
    obtain ⟨m', hm, _⟩ := drvE_ok.1 h1
    refine ⟨m', hm, h1, ?_, ?_⟩
    · cases hk : known m os
      · exact absurd (.inr (.inl hk)) hb
      · rfl
    · have : ¬ 80 < stops.length := fun hx => hb (.inr (.inr hx))
      omega
theorem drive_empty {m : Option Mp} {d : Drv} {os : List Ord} {stops : List Stp} (h : (drive m d os stops).2.2 ≠ 0) : (drive m d os stops).1 = [] := by
  by_cases h1 : (drive m d os stops).2.2 = 1
  · by_cases hb : drvE m d ≠ 0 ∨ known m os = false ∨ 80 < stops.length
    · rw [drive_bad hb]
    · have e1 : drvE m d = 0 := Decidable.not_not.1 fun hx => hb (.inl hx)
      obtain ⟨m', rfl, _⟩ := drvE_ok.1 e1
      have e2 : known (some m') os = true := by
        cases hk : known (some m') os
        · exact absurd (.inr (.inl hk)) hb
        · rfl
      have e3 : stops.length ≤ 80 := by
        have : ¬ 80 < stops.length := fun hx => hb (.inr (.inr hx))
        omega
      rw [drive_arg e1 e2 e3] at h1
      exact absurd h1 (driveM_why m' d os stops).1
  · obtain ⟨m', rfl, e1, e2, e3⟩ := drive_args h1
    rw [drive_arg e1 e2 e3] at h ⊢
    exact (driveM_why m' d os stops).2 h
/-- who begins later begins no stop earlier -/
theorem drive_later {m : Option Mp} {d : Drv} {os : List Ord} {stops : List Stp} {fr : Int} (h : (drive m d os stops).2.2 ≠ 1) (hf : fr = d.win.fr ∨ (d.win.fr < fr ∧ fr ≤ d.win.to))
    (hg : (drive m ⟨d.id, d.room, d.home, ⟨fr, d.win.to⟩, d.retired⟩ os stops).2.2 = 0) :
    (drive m d os stops).2.2 = 0 ∧ Later (drive m d os stops).1 (drive m ⟨d.id, d.room, d.home, ⟨fr, d.win.to⟩, d.retired⟩ os stops).1 := by
  obtain ⟨m', rfl, e1, e2, e3⟩ := drive_args h
  obtain ⟨m2, st2, hm2, hr, _, _, e4⟩ := drive_fine hg
  injection hm2 with hm2
  subst hm2
  have hload : ¬ 0 < st2.load := by
    intro hl
    rw [drive_arg e4 e2 e3] at hg
    unfold driveM at hg
    rw [hr] at hg
    simp only at hg
    rw [if_pos hl] at hg
    simp at hg
  obtain ⟨st1, vs, h1, h2, h3⟩ := run_later (d := d) (d' := ⟨d.id, d.room, d.home, ⟨fr, d.win.to⟩, d.retired⟩) (st := st0 d) (st' := st0 ⟨d.id, d.room, d.home, ⟨fr, d.win.to⟩, d.retired⟩) rfl rfl rfl rfl (by simp only [st0]; omega) hr
  have hd : drive (some m') d os stops = (vs, 0, 0) := by
    rw [drive_arg e1 e2 e3]
    unfold driveM
    rw [h1]
    simp only
    rw [if_neg (by omega)]
  rw [hd]
  exact ⟨rfl, h3⟩

#print axioms drive_later
end Go.Proofs.Ytjkahookgoecpaa.FleetMath
