/-
  The plain mathematics of P6.5: an order served alone by a driver with more room, a later end, a later beginning; an order that may be begun later. No program is named here.
-/
import Derived.Test.YtofkhpcigjcegaaFleetMath
namespace Go.Proofs.Ytofkhpcigjcegaa.FleetMath
open Go.Proofs.Ytofkhpcigjcegaa.GeoMath

/-- an order served alone, taken apart -/
theorem alone_some {m : Option Mp} {d : Drv} {o : Ord} {t : Int} : alone m d o = some t ↔
    ∃ m', m = some m' ∧ ordE m o = 0 ∧ drvE m d = 0 ∧ o.size ≤ d.room ∧ ∃ b1 l b2, served m' d.home d.win.fr o.pick d.win.to = some (b1, l) ∧ served m' o.pick.place l o.drop d.win.to = some (b2, t) := by
  unfold alone
  cases m with
  | none => simp
  | some m' =>
    simp only
    constructor
    · intro h
      split at h
      · cases h
      · rename_i hn
        split at h
        · cases h
        · rename_i b1 l h1
          split at h
          · cases h
          · rename_i b2 v h2
            injection h with h
            subst h
            exact ⟨m', rfl, by omega, by omega, by omega, b1, l, b2, h1, h2⟩
    · rintro ⟨m'', e, h1, h2, h3, b1, l, b2, h4, h5⟩
      injection e with e
      subst e
      rw [if_neg (by omega), h4]
      simp only
      rw [h5]
theorem drvE_more {m : Option Mp} {d d' : Drv} (h : drvE m d = 0) (hid : d'.id = d.id) (hhome : d'.home = d.home) (hr : 1 ≤ d'.room ∧ d'.room ≤ 1000) (hw : right d'.win = true) : drvE m d' = 0 := by
  obtain ⟨m', e, k⟩ := drvE_ok.1 h
  exact drvE_ok.2 ⟨m', e, by rw [hid]; exact k.id, hr, by rw [hhome]; exact k.home, hw⟩
theorem alone_more {m : Option Mp} {d : Drv} {o : Ord} {t room til : Int} (h : alone m d o = some t) (hr : room = d.room ∨ (d.room < room ∧ room ≤ 1000)) (ht : til = d.win.to ∨ (d.win.to < til ∧ til ≤ 1000000)) :
    alone m ⟨d.id, room, d.home, ⟨d.win.fr, til⟩, d.retired⟩ o = some t := by
  obtain ⟨m', e, h1, h2, h3, b1, l, b2, h4, h5⟩ := alone_some.1 h
  obtain ⟨m'', e', k⟩ := drvE_ok.1 h2
  have hw := right_iff.1 k.win
  have hroom := k.room
  refine alone_some.2 ⟨m', e, h1, drvE_more h2 rfl rfl (by simp only; omega) (right_iff.2 (by simp only; omega)), by simp only; omega, b1, l, b2, served_til h4 (by simp only; omega), served_til h5 (by simp only; omega)⟩
theorem alone_slow {m : Option Mp} {d : Drv} {o : Ord} {u fr : Int} (hd : drvE m d = 0) (hf : fr = d.win.fr ∨ (d.win.fr < fr ∧ fr ≤ d.win.to)) (h : alone m ⟨d.id, d.room, d.home, ⟨fr, d.win.to⟩, d.retired⟩ o = some u) :
    ∃ t, alone m d o = some t ∧ t ≤ u := by
  obtain ⟨m', e, h1, h2, h3, b1, l, b2, h4, h5⟩ := alone_some.1 h
  simp only at h3 h4 h5
  obtain ⟨b1', l', k1, k2, k3⟩ := served_mono h4 (l := d.win.fr) (by omega)
  obtain ⟨b2', t, k4, k5, k6⟩ := served_mono h5 k3
  exact ⟨t, alone_some.2 ⟨m', e, h1, hd, h3, b1', l', b2', k1, k4⟩, k6⟩
theorem alone_next {m : Option Mp} {d : Drv} {o : Ord} {v fr : Int} (ho : ordE m o = 0) (hf : fr = o.pick.win.fr ∨ (o.pick.win.fr < fr ∧ fr ≤ o.pick.win.to)) (h : alone m d ⟨o.id, o.size, ⟨o.pick.place, ⟨fr, o.pick.win.to⟩, o.pick.serv⟩, o.drop⟩ = some v) :
    ∃ t, alone m d o = some t ∧ t ≤ v := by
  obtain ⟨m', e, h1, h2, h3, b1, l, b2, h4, h5⟩ := alone_some.1 h
  simp only at h3 h4 h5
  obtain ⟨m'', e', k⟩ := ordE_ok.1 ho
  have hw := k.pickW
  obtain ⟨s1, s2, s3⟩ := served_some.1 h4
  simp only at s1 s2 s3
  obtain ⟨r1, r2, r3⟩ := beginT_some.1 s1
  simp only at r1 r2 r3
  have hb : ∃ b0, beginT o.pick.win (d.win.fr + time m' d.home o.pick.place) = some b0 ∧ b0 ≤ b1 := by
    refine ⟨_, beginT_some.2 ⟨hw, r2, rfl⟩, ?_⟩
    rw [r3]
    split <;> split <;> omega
  obtain ⟨b0, hb1, hb2⟩ := hb
  have k1 : served m' d.home d.win.fr o.pick d.win.to = some (b0, b0 + o.pick.serv) := served_some.2 ⟨hb1, rfl, by omega⟩
  obtain ⟨b2', t, k4, k5, k6⟩ := served_mono h5 (l := b0 + o.pick.serv) (by omega)
  exact ⟨t, alone_some.2 ⟨m', e, ho, h2, h3, b0, _, b2', k1, k4⟩, k6⟩
theorem alone_bounds {m : Option Mp} {d : Drv} {o : Ord} {t : Int} (hm : ∀ m', m = some m' → ∀ a b, 0 ≤ time m' a b) (h : alone m d o = some t) : d.win.fr + o.pick.serv + o.drop.serv ≤ t ∧ t ≤ d.win.to := by
  obtain ⟨m', e, h1, h2, h3, b1, l, b2, h4, h5⟩ := alone_some.1 h
  obtain ⟨s1, s2, s3⟩ := served_some.1 h4
  obtain ⟨q1, q2, q3⟩ := served_some.1 h5
  have i1 := (beginT_in s1).2.1
  have i2 := (beginT_in q1).2.1
  have t1 := hm m' e d.home o.pick.place
  have t2 := hm m' e o.pick.place o.drop.place
  omega
theorem alone_none {m : Option Mp} {d : Drv} {o : Ord} (h : drvE m d ≠ 0 ∨ ordE m o ≠ 0) : alone m d o = none := by
  cases ha : alone m d o with
  | none => rfl
  | some t =>
    obtain ⟨_, _, h1, h2, _⟩ := alone_some.1 ha
    omega

#print axioms alone_next
end Go.Proofs.Ytofkhpcigjcegaa.FleetMath
