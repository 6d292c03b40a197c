/-
  RouteMath2, RouteMath3, RouteMath4: one text.
-/
import Derived.Test.YtjkahookgoecpaaRouteRCost
/-
  What follows of drives, as the statements of chapter 7 ask it: what a fault says, a driver that begins later. No program is named here.
-/
namespace Go.Proofs.Ytjkahookgoecpaa.FleetMath
open Go.Proofs.Ytjkahookgoecpaa.GeoMath
/-- the number of a fault in a drive whose arguments are right -/
theorem driveM_why (m : Mp) (d : Drv) (os : List Ord) (stops : List Stp) : (driveM m d os stops).2.2 ≠ 1 ∧ ((driveM m d os stops).2.2 ≠ 0 → (driveM m d os stops).1 = []) := by
  unfold driveM
  cases hr : run m d os [] (st0 d) stops with
  | error x =>
    obtain ⟨k, e⟩ := x
    obtain ⟨s, _, hs, st1, vs, _, hst⟩ := run_fault hr
    refine ⟨fun he => ?_, fun _ => rfl⟩
    simp only at he
    subst he
    unfold step at hst
    split at hst
    · injection hst with hst; omega
    · split at hst
      · injection hst with hst; omega
      · split at hst
        · injection hst with hst; omega
        · split at hst
          · injection hst with hst; omega
          · split at hst
            · injection hst with hst; omega
            · cases hst
  | ok p =>
    obtain ⟨st, vs⟩ := p
    simp only
    split
    · exact ⟨by simp, fun _ => rfl⟩
    · exact ⟨by simp, fun h => absurd rfl h⟩
theorem drive_args {m : Option Mp} {d : Drv} {os : List Ord} {stops : List Stp} (h : (drive m d os stops).2.2 ≠ 1) : ∃ m', m = some m' ∧ drvE m d = 0 ∧ known m os = true ∧ stops.length ≤ 80 := by
  by_cases hb : drvE m d ≠ 0 ∨ known m os = false ∨ 80 < stops.length
  · rw [drive_bad hb] at h; exact absurd rfl h
  · have h1 : drvE m d = 0 := Decidable.not_not.1 fun hx => hb (.inl hx)
    obtain ⟨m', hm, _⟩ := drvE_ok.1 h1
    refine ⟨m', hm, h1, ?_, ?_⟩
    · cases hk : known m os
      · exact absurd (.inr (.inl hk)) hb
      · rfl
    · have : ¬ 80 < stops.length := fun hx => hb (.inr (.inr hx))
      omega
theorem drive_empty {m : Option Mp} {d : Drv} {os : List Ord} {stops : List Stp} (h : (drive m d os stops).2.2 ≠ 0) : (drive m d os stops).1 = [] := by
  by_cases h1 : (drive m d os stops).2.2 = 1
  · by_cases hb : drvE m d ≠ 0 ∨ known m os = false ∨ 80 < stops.length
    · rw [drive_bad hb]
    · have e1 : drvE m d = 0 := Decidable.not_not.1 fun hx => hb (.inl hx)
      obtain ⟨m', rfl, _⟩ := drvE_ok.1 e1
      have e2 : known (some m') os = true := by
        cases hk : known (some m') os
        · exact absurd (.inr (.inl hk)) hb
        · rfl
      have e3 : stops.length ≤ 80 := by
        have : ¬ 80 < stops.length := fun hx => hb (.inr (.inr hx))
        omega
      rw [drive_arg e1 e2 e3] at h1
      exact absurd h1 (driveM_why m' d os stops).1
  · obtain ⟨m', rfl, e1, e2, e3⟩ := drive_args h1
    rw [drive_arg e1 e2 e3] at h ⊢
    exact (driveM_why m' d os stops).2 h
/-- who begins later begins no stop earlier -/
theorem drive_later {m : Option Mp} {d : Drv} {os : List Ord} {stops : List Stp} {fr : Int} (h : (drive m d os stops).2.2 ≠ 1) (hf : fr = d.win.fr ∨ (d.win.fr < fr ∧ fr ≤ d.win.to))
    (hg : (drive m ⟨d.id, d.room, d.home, ⟨fr, d.win.to⟩, d.retired⟩ os stops).2.2 = 0) :
    (drive m d os stops).2.2 = 0 ∧ Later (drive m d os stops).1 (drive m ⟨d.id, d.room, d.home, ⟨fr, d.win.to⟩, d.retired⟩ os stops).1 := by
  obtain ⟨m', rfl, e1, e2, e3⟩ := drive_args h
  obtain ⟨m2, st2, hm2, hr, _, _, e4⟩ := drive_fine hg
  injection hm2 with hm2
  subst hm2
  have hload : ¬ 0 < st2.load := by
    intro hl
    rw [drive_arg e4 e2 e3] at hg
    unfold driveM at hg
    rw [hr] at hg
    simp only at hg
    rw [if_pos hl] at hg
    simp at hg
  obtain ⟨st1, vs, h1, h2, h3⟩ := run_later (d := d) (d' := ⟨d.id, d.room, d.home, ⟨fr, d.win.to⟩, d.retired⟩) (st := st0 d) (st' := st0 ⟨d.id, d.room, d.home, ⟨fr, d.win.to⟩, d.retired⟩) rfl rfl rfl rfl (by simp only [st0]; omega) hr
  have hd : drive (some m') d os stops = (vs, 0, 0) := by
    rw [drive_arg e1 e2 e3]
    unfold driveM
    rw [h1]
    simp only
    rw [if_neg (by omega)]
  rw [hd]
  exact ⟨rfl, h3⟩

#print axioms drive_later
end Go.Proofs.Ytjkahookgoecpaa.FleetMath

/-
  What follows of drives, as the statements of chapter 7 ask it: where a fault is. No program is named here.
-/
namespace Go.Proofs.Ytjkahookgoecpaa.FleetMath
open Go.Proofs.Ytjkahookgoecpaa.GeoMath
theorem step_why {m : Mp} {d : Drv} {os : List Ord} {seen : List Stp} {st : St} {s : Stp} {e : Int} (h : step m d os seen st s = .error e) : e = 8 ∨ e = 16 ∨ e = 17 ∨ e = 14 ∨ e = 15 := by
  unfold step at h
  split at h
  · injection h with h; omega
  · split at h
    · injection h with h; omega
    · split at h
      · injection h with h; omega
      · split at h
        · injection h with h; omega
        · split at h
          · injection h with h; omega
          · cases h
/-- a drive ends well, or with what is handed in, or with what lacks, or at a stop -/
theorem drive_cases {m : Option Mp} {d : Drv} {os : List Ord} {stops : List Stp} {vs : List Vis} {k : Nat} {e : Int} (h : drive m d os stops = (vs, k, e)) :
    (e = 0 ∧ k = 0) ∨ (e = 1 ∧ k = 0) ∨ (e = 18 ∧ k = stops.length) ∨
    (e ≠ 0 ∧ e ≠ 1 ∧ e ≠ 18 ∧ k < stops.length ∧ k < 80 ∧ (∃ us, drive m d os (stops.take k) = (us, 0, 0) ∨ drive m d os (stops.take k) = (us, k, 18)) ∧
      ∀ ys : List Stp, k + 1 + ys.length ≤ 80 → drive m d os (stops.take (k + 1) ++ ys) = ([], k, e)) := by
  by_cases hb : drvE m d ≠ 0 ∨ known m os = false ∨ 80 < stops.length
  · rw [drive_bad hb] at h
    injection h with _ h
    injection h with h1 h2
    exact .inr (.inl ⟨h2.symm, h1.symm⟩)
  have e1 : drvE m d = 0 := Decidable.not_not.1 fun hx => hb (.inl hx)
  obtain ⟨m', rfl, _⟩ := drvE_ok.1 e1
  have e2 : known (some m') os = true := by
    cases hk : known (some m') os
    · exact absurd (.inr (.inl hk)) hb
    · rfl
  have e3 : stops.length ≤ 80 := by
    have : ¬ 80 < stops.length := fun hx => hb (.inr (.inr hx))
    omega
  rw [drive_arg e1 e2 e3] at h
  unfold driveM at h
  cases hr : run m' d os [] (st0 d) stops with
  | ok p =>
    obtain ⟨st, us⟩ := p
    rw [hr] at h
    simp only at h
    split at h
    · injection h with _ h; injection h with h1 h2
      exact .inr (.inr (.inl ⟨h2.symm, h1.symm⟩))
    · injection h with _ h; injection h with h1 h2
      exact .inl ⟨h2.symm, h1.symm⟩
  | error x =>
    obtain ⟨k', e'⟩ := x
    rw [hr] at h
    simp only at h
    injection h with _ h; injection h with h1 h2
    subst h1; subst h2
    obtain ⟨s, _, hs, st1, us, h3, h4⟩ := run_fault hr
    simp only [List.length_nil, Nat.sub_zero, List.nil_append] at hs h3 h4
    have hlt := (List.getElem?_eq_some_iff.1 hs).1
    have hw := step_why h4
    refine .inr (.inr (.inr ⟨by omega, by omega, by omega, hlt, by omega, ?_, fun ys hy => ?_⟩))
    · have hl : (stops.take k').length = k' := by rw [List.length_take]; omega
      by_cases h0 : 0 < st1.load
      · refine ⟨[], .inr ?_⟩
        rw [drive_arg e1 e2 (by omega)]
        unfold driveM
        rw [h3]
        simp only
        rw [if_pos h0, hl]
      · refine ⟨us, .inl ?_⟩
        rw [drive_arg e1 e2 (by omega)]
        unfold driveM
        rw [h3]
        simp only
        rw [if_neg h0]
    · have hl : (stops.take k').length = k' := by rw [List.length_take]; omega
      have hx : stops.take (k' + 1) ++ ys = stops.take k' ++ s :: ys := by
        rw [List.take_add_one, hs]
        simp
      have hlen : (stops.take (k' + 1) ++ ys).length ≤ 80 := by
        rw [hx, List.length_append, List.length_cons, hl]
        omega
      rw [drive_arg e1 e2 hlen]
      unfold driveM
      rw [hx, run_fault_at h3 (by simpa using h4), hl]
      simp
#print axioms drive_cases
end Go.Proofs.Ytjkahookgoecpaa.FleetMath

/-
  What follows of drives, as the statements of chapter 7 ask it: stop by stop, whoever is no earlier. No program is named here.
-/
namespace Go.Proofs.Ytjkahookgoecpaa.FleetMath
open Go.Proofs.Ytjkahookgoecpaa.GeoMath
/-- behind k stops nothing is wrong -/
structure Vup (m : Mp) (d : Drv) (os : List Ord) (stops : List Stp) (k : Nat) (st : St) (us : List Vis) : Prop where
  run : run m d os [] (st0 d) (stops.take k) = .ok (st, us)
  place : isPlace m st.at_ = true
  left : 0 ≤ st.left ∧ st.left ≤ 1000000
  load : 0 ≤ st.load ∧ st.load ≤ 1000
section
variable {m : Mp} {d : Drv} {os : List Ord} {stops : List Stp} {k : Nat} {st : St} {us : List Vis} {s : Stp}
theorem Vup.start (hd : DrvOk m d) : Vup m d os stops 0 (st0 d) [] := by
  have hw := right_iff.1 hd.win
  exact ⟨by simp [FleetMath.run], hd.home, ⟨hw.1, by show d.win.fr ≤ 1000000; omega⟩, ⟨Int.le_refl _, by show (0 : Int) ≤ 1000; omega⟩⟩
theorem siteOf_ok {o : Ord} (ho : OrdOk m o) (s : Stp) : isPlace m (siteOf o s).place = true ∧ right (siteOf o s).win = true ∧ 0 ≤ (siteOf o s).serv ∧ (siteOf o s).serv ≤ 1000000 := by
  unfold siteOf
  split
  · exact ⟨ho.dropP, ho.dropW, ho.dropS⟩
  · exact ⟨ho.pickP, ho.pickW, ho.pickS⟩
/-- what is known of a visit that was made -/
structure Vis1 (m : Mp) (d : Drv) (os : List Ord) (st : St) (s : Stp) (o : Ord) (v : Vis) : Prop where
  find : find os s.ord = some o
  ok : OrdOk m o
  stop : v.stop = s
  arrive : v.arrive = st.left + time m st.at_ (siteOf o s).place
  late : v.arrive ≤ v.start
  fr : (siteOf o s).win.fr ≤ v.start
  upto : v.start ≤ (siteOf o s).win.to
  soon : v.start = v.arrive ∨ v.start = (siteOf o s).win.fr
  leave : v.leave = v.start + (siteOf o s).serv
  til : v.leave ≤ d.win.to
  load : v.load = loadOf o s st.load
  room : 0 ≤ v.load ∧ v.load ≤ d.room
theorem Vup.next {stF : St} {vs : List Vis} (h : Vup m d os stops k st us) (hr : FleetMath.run m d os [] (st0 d) stops = .ok (stF, vs)) (hk : known (some m) os = true) (hd : DrvOk m d) (hs : stops[k]? = some s) :
    ∃ o v, vs[k]? = some v ∧ Vis1 m d os st s o v ∧ Vup m d os stops (k + 1) ⟨(siteOf o s).place, v.leave, v.load⟩ (vs.take (k + 1)) := by
  obtain ⟨st1, st2, v, h1, h2, h3, h4⟩ := run_at hr hs
  have e1 := h.run
  rw [h1] at e1
  injection e1 with e1
  injection e1 with e1 e2
  subst e1
  obtain ⟨o, hm⟩ := step_ok.1 h3
  have ho := known_ok hk o (find_some hm.find).1
  obtain ⟨q1, q2, q3⟩ := served_some.1 hm.serve
  have hb := beginT_in q1
  have hst := hm.st'
  have hso := siteOf_ok ho s
  have hw := right_iff.1 hd.win
  have hwr := right_iff.1 hso.2.1
  have hl0 : 0 ≤ st2.load := run_load (fun o ho' => (known_ok hk o ho').size.1) h4
  have hv : v.load = st2.load := by rw [hst, hm.vload]
  have hrm := hd.room
  refine ⟨o, v, h2, ⟨hm.find, ho, hm.stop, hm.arrive, ?_, hb.2.2.1, hb.2.2.2.1, ?_, q2, q3, hm.vload, ?_⟩, ?_⟩
  · rw [hm.arrive]; exact hb.2.1
  · rw [hm.arrive]; exact hb.2.2.2.2
  · have := hm.load
    rw [hv] 
    refine ⟨hl0, ?_⟩
    rw [hst]
    exact this
  · rw [hst, ← hm.vload] at h4
    refine ⟨h4, hso.1, ⟨?_, ?_⟩, ⟨?_, ?_⟩⟩
    · simp only; omega
    · simp only; omega
    · simp only; omega
    · have := hm.load
      have h5 := hm.vload
      simp only
      omega
theorem costM_run {seen : List Stp} {st st' : St} {xs : List Stp} {vs : List Vis} (h : FleetMath.run m d os seen st xs = .ok (st', vs)) (s : Stp) : costM m os st.at_ (xs ++ [s]) = costM m os st.at_ xs + time m st'.at_ (siteAt os s).place := by
  induction xs generalizing seen st vs with
  | nil =>
    rw [run_nil] at h
    injection h with h
    injection h with h1 _
    subst h1
    simp [costM]
  | cons x r ih =>
    rw [run_cons] at h
    split at h
    · cases h
    rename_i st1 v hst
    split at h
    · cases h
    rename_i st2 us hr
    injection h with h
    injection h with h1 _
    subst h1
    obtain ⟨o, hm⟩ := step_ok.1 hst
    have e1 : st1.at_ = (siteAt os x).place := by rw [hm.st', siteAt_of hm.find]
    have := ih hr
    rw [e1] at this
    simp only [List.cons_append, costM, this]
    omega
theorem cost_next (h : Vup m d os stops k st us) (hs : stops[k]? = some s) {o : Ord} (hf : find os s.ord = some o) : costM m os d.home (stops.take (k + 1)) = costM m os d.home (stops.take k) + time m st.at_ (siteOf o s).place := by
  have := costM_run h.run s
  rw [siteAt_of hf] at this
  rw [List.take_add_one, hs]
  exact this
/-- whoever is no earlier at a stop than the drive, and makes it in time: the drive makes it, no later -/
theorem Vup.early {b : Int} (_h : Vup m d os stops k st us) (hk : known (some m) os = true) (_hd : DrvOk m d) (_hs : stops[k]? = some s) {o : Ord} (hf : find os s.ord = some o) {left : Int} (hl : st.left ≤ left) (hb1 : left + time m st.at_ (siteOf o s).place ≤ b) (hb2 : (siteOf o s).win.fr ≤ b) (hb3 : b ≤ (siteOf o s).win.to) (hb4 : b + (siteOf o s).serv ≤ d.win.to) :
    ∃ c v, served m st.at_ st.left (siteOf o s) d.win.to = some (c, v) ∧ c ≤ b ∧ v ≤ b + (siteOf o s).serv :=
  served_le (siteOf_ok (known_ok hk o (find_some hf).1) s).2.1 (by omega) hb2 hb3 hb4
/-- a drive that is late at stop k -/
theorem drive_lateAt {mo : Option Mp} {vs : List Vis} (h : drive mo d os stops = (vs, k, 15)) : ∃ m' st us s o, mo = some m' ∧ known mo os = true ∧ drvE mo d = 0 ∧ run m' d os [] (st0 d) (stops.take k) = .ok (st, us) ∧ stops[k]? = some s ∧ find os s.ord = some o ∧ served m' st.at_ st.left (siteOf o s) d.win.to = none := by
  obtain ⟨m', rfl, e1, e2, e3⟩ := drive_args (by rw [h]; simp : (drive mo d os stops).2.2 ≠ 1)
  rw [drive_arg e1 e2 e3] at h
  unfold driveM at h
  cases hr : FleetMath.run m' d os [] (st0 d) stops with
  | ok p =>
    obtain ⟨st, us⟩ := p
    rw [hr] at h
    simp only at h
    split at h
    · injection h with _ h; injection h with _ h; omega
    · injection h with _ h; injection h with _ h; omega
  | error x =>
    obtain ⟨k', e'⟩ := x
    rw [hr] at h
    simp only at h
    injection h with _ h; injection h with h1 h2
    subst h1; subst h2
    obtain ⟨s, _, hs, st1, us, h3, h4⟩ := run_fault hr
    simp only [List.length_nil, Nat.sub_zero, List.nil_append] at hs h3 h4
    obtain ⟨o, ho, hn⟩ := step_late h4
    exact ⟨m', st1, us, s, o, rfl, e2, e1, h3, hs, ho, hn⟩
/-- up to stop k a drive is as it is up to any stop behind -/
theorem run_take {j : Nat} {stF : St} {vs : List Vis} (h : FleetMath.run m d os [] (st0 d) (stops.take j) = .ok (stF, vs)) (hkj : k < j) (hs : stops[k]? = some s) :
    FleetMath.run m d os [] (st0 d) (stops.take j) = .ok (stF, vs) ∧ (stops.take j)[k]? = some s ∧ (stops.take j).take k = stops.take k ∧ (stops.take j).take (k + 1) = stops.take (k + 1) := by
  refine ⟨h, ?_, ?_, ?_⟩
  · rw [List.getElem?_take, if_pos hkj]; exact hs
  · rw [List.take_take, Nat.min_eq_left (by omega)]
  · rw [List.take_take, Nat.min_eq_left (by omega)]
theorem Vup.to {j : Nat} {stF : St} {vs : List Vis} (h : Vup m d os stops k st us) (hr : FleetMath.run m d os [] (st0 d) (stops.take j) = .ok (stF, vs)) (hkj : k < j) (hk : known (some m) os = true) (hd : DrvOk m d) (hs : stops[k]? = some s) :
    ∃ o v, vs[k]? = some v ∧ Vis1 m d os st s o v ∧ Vup m d os stops (k + 1) ⟨(siteOf o s).place, v.leave, v.load⟩ (vs.take (k + 1)) := by
  obtain ⟨h1, h2, h3, h4⟩ := run_take hr hkj hs
  have h' : Vup m d os (stops.take j) k st us := ⟨by rw [h3]; exact h.run, h.place, h.left, h.load⟩
  obtain ⟨o, v, q1, q2, q3⟩ := h'.next h1 hk hd h2
  exact ⟨o, v, q1, q2, by have := q3.run; rw [h4] at this; exact this, q3.place, q3.left, q3.load⟩
end
#print axioms Vup.to
#print axioms drive_lateAt
end Go.Proofs.Ytjkahookgoecpaa.FleetMath
