/-
  Chapter 8's consequence: with a stop's Window begun later, at a time from its beginning on, all can be made just up to its latest time; an order put between stops. No program is named here.
-/
import Derived.Test.YtjkahookgoecpaaFleetMath2
namespace Go.Proofs.Ytjkahookgoecpaa.FleetMath
open Go.Proofs.Ytjkahookgoecpaa.GeoMath

def siteAt (os : List Ord) (s : Stp) : Site := match find os s.ord with | none => ⟨0, ⟨0, 0⟩, 0⟩ | some o => siteOf o s
theorem siteAt_of {os : List Ord} {s : Stp} {o : Ord} (h : find os s.ord = some o) : siteAt os s = siteOf o s := by unfold siteAt; rw [h]
def latestOf (m : Mp) (d : Drv) (os : List Ord) (stops : List Stp) : List Int := latest m d.win.to (stops.map (siteAt os))

section
variable {m : Mp} {d : Drv} {os ps : List Ord}
theorem latest_drop (til : Int) (l : List Site) (k : Nat) : (latest m til l).drop k = latest m til (l.drop k) := by
  induction l generalizing k with
  | nil => simp [latest]
  | cons s r ih =>
    cases k with
    | zero => rfl
    | succ k => simpa [latest] using ih k
theorem siteOk {o : Ord} (h : OrdOk m o) (s : Stp) : SiteOk (siteOf o s) := by
  unfold siteOf
  split
  · exact ⟨h.dropW, h.dropS.1⟩
  · exact ⟨h.pickW, h.pickS.1⟩
theorem siteAt_ok (h : ∀ o ∈ os, OrdOk m o) {s : Stp} {o : Ord} (hf : find os s.ord = some o) : SiteOk (siteAt os s) := by
  rw [siteAt_of hf]
  exact siteOk (h o (find_some hf).1) s

/-- all sites can be made, leaving a place at a time -/
def feas (m : Mp) (til a l : Int) : List Site → Prop
  | [] => True
  | s :: r => ∃ c, beginT s.win (l + time m a s.place) = some c ∧ good m til c (s :: r)
theorem feas_cons {til a l : Int} {s : Site} {r : List Site} : feas m til a l (s :: r) ↔ ∃ c v, served m a l s til = some (c, v) ∧ feas m til s.place v r := by
  constructor
  · rintro ⟨c, hc, h1, h2, h3, h4⟩
    refine ⟨c, c + s.serv, served_some.2 ⟨hc, rfl, h3⟩, ?_⟩
    cases r with
    | nil => trivial
    | cons s' r' => exact h4
  · rintro ⟨c, v, hs, hf⟩
    obtain ⟨hc, rfl, hle⟩ := served_some.1 hs
    have := beginT_in hc
    refine ⟨c, hc, by omega, by omega, by omega, ?_⟩
    cases r with
    | nil => trivial
    | cons s' r' => exact hf
theorem run_feas {seen : List Stp} {st f : St} {xs : List Stp} {vs : List Vis} (h : run m d os seen st xs = .ok (f, vs)) : feas m d.win.to st.at_ st.left (xs.map (siteAt os)) := by
  induction xs generalizing seen st vs with
  | nil => trivial
  | cons s r ih =>
    rw [run_cons] at h
    split at h
    · cases h
    rename_i st1 v hs
    split at h
    · cases h
    rename_i st2 us hr
    injection h with h; injection h with e1 e2
    subst e1
    obtain ⟨o, hm⟩ := step_ok.1 hs
    rw [List.map_cons, feas_cons]
    refine ⟨v.start, v.leave, by rw [siteAt_of hm.find]; exact hm.serve, ?_⟩
    have := ih hr
    rw [hm.st'] at this
    rw [siteAt_of hm.find]
    exact this
/-- orders that differ in sites alone -/
def Alike (os ps : List Ord) (s : Stp) : Prop := ∃ o p, find os s.ord = some o ∧ find ps s.ord = some p ∧ p.size = o.size
/-- what was made can be made with other sites, and from another time, just if the times let -/
theorem run_retime {seen : List Stp} {st st' f : St} {xs : List Stp} {vs : List Vis} (h : run m d os seen st xs = .ok (f, vs)) (hl : st'.load = st.load) (ha : ∀ s ∈ xs, Alike os ps s)
    (hf : feas m d.win.to st'.at_ st'.left (xs.map (siteAt ps))) : ∃ f' us, run m d ps seen st' xs = .ok (f', us) ∧ f'.load = f.load := by
  induction xs generalizing seen st st' vs with
  | nil => rw [run_nil] at h; injection h with h; injection h with h _; subst h; exact ⟨st', [], rfl, hl⟩
  | cons s r ih =>
    rw [run_cons] at h
    split at h
    · cases h
    rename_i st1 v hs
    split at h
    · cases h
    rename_i st2 us hr
    injection h with h; injection h with e1 e2
    subst e1
    obtain ⟨o, hm⟩ := step_ok.1 hs
    obtain ⟨o', p, ho, hp, hsz⟩ := ha s (by simp)
    rw [hm.find] at ho
    injection ho with ho
    subst ho
    rw [List.map_cons, feas_cons, siteAt_of hp] at hf
    obtain ⟨c, t, hserve, hf⟩ := hf
    have hld : loadOf p s st'.load = loadOf o s st.load := by unfold loadOf; rw [hl, hsz]
    have hmade : Made m d ps seen st' s p ⟨(siteOf p s).place, t, loadOf p s st'.load⟩ ⟨s, st'.left + time m st'.at_ (siteOf p s).place, c, t, loadOf p s st'.load⟩ :=
      ⟨hp, hm.new, hm.first, by rw [hld]; exact hm.load, hserve, rfl, rfl, rfl, rfl⟩
    obtain ⟨f', us', h1, h2⟩ := ih (st' := ⟨(siteOf p s).place, t, loadOf p s st'.load⟩) hr (by rw [hm.st']; exact hld) (fun x hx => ha x (by simp [hx])) hf
    refine ⟨f', (⟨s, st'.left + time m st'.at_ (siteOf p s).place, c, t, loadOf p s st'.load⟩ : Vis) :: us', ?_, h2⟩
    rw [run_cons, step_ok.2 ⟨p, hmade⟩]
    simp only [h1]
theorem step_same {seen : List Stp} {st : St} {s : Stp} (ha : Alike os ps s) (hs : siteAt ps s = siteAt os s) : step m d ps seen st s = step m d os seen st s := by
  obtain ⟨o, p, ho, hp, hz⟩ := ha
  rw [siteAt_of ho, siteAt_of hp] at hs
  have hl : ∀ l, loadOf p s l = loadOf o s l := fun l => by unfold loadOf; rw [hz]
  unfold step
  rw [ho, hp]
  simp only [hs, hl]
theorem run_same {seen : List Stp} {st : St} {xs : List Stp} (h : ∀ s ∈ xs, Alike os ps s ∧ siteAt ps s = siteAt os s) : run m d ps seen st xs = run m d os seen st xs := by
  induction xs generalizing seen st with
  | nil => rfl
  | cons s r ih =>
    rw [run_cons, run_cons, step_same (h s (by simp)).1 (h s (by simp)).2]
    simp only [ih fun x hx => h x (by simp [hx])]
theorem run_head {seen : List Stp} {st f : St} {s : Stp} {xs : List Stp} {v : Vis} {vs : List Vis} (h : run m d os seen st (s :: xs) = .ok (f, v :: vs)) : ∃ o st1, Made m d os seen st s o st1 v := by
  rw [run_cons] at h
  split at h
  · cases h
  rename_i st1 v' hs
  split at h
  · cases h
  injection h with h; injection h with e1 e2; injection e2 with e2 e3
  subst e2
  obtain ⟨o, hm⟩ := step_ok.1 hs
  exact ⟨o, st1, hm⟩

theorem run_good {seen : List Stp} {st f : St} {s : Stp} {xs : List Stp} {v : Vis} {vs : List Vis} (h : run m d os seen st (s :: xs) = .ok (f, v :: vs)) : good m d.win.to v.start ((s :: xs).map (siteAt os)) := by
  obtain ⟨c, hc, hg⟩ := run_feas h
  obtain ⟨o, st1, hm⟩ := run_head h
  rw [siteAt_of hm.find] at hc
  have := (served_some.1 hm.serve).1
  rw [this] at hc
  injection hc with hc
  rw [hc]
  exact hg

theorem run_new {seen : List Stp} {st f : St} {xs : List Stp} {vs : List Vis} (h : run m d os seen st xs = .ok (f, vs)) : (∀ s ∈ xs, s ∉ seen) ∧ xs.Pairwise (· ≠ ·) ∧ ∀ s ∈ xs, ∃ o, find os s.ord = some o := by
  induction xs generalizing seen st f vs with
  | nil => simp
  | cons s r ih =>
    rw [run_cons] at h
    split at h
    · cases h
    rename_i st1 v hs
    split at h
    · cases h
    rename_i st2 us hr
    obtain ⟨o, hm⟩ := step_ok.1 hs
    obtain ⟨h1, h2, h3⟩ := ih hr
    refine ⟨?_, List.pairwise_cons.2 ⟨?_, h2⟩, ?_⟩
    · intro x hx
      rcases List.mem_cons.1 hx with rfl | hx
      · exact hm.new
      · exact fun hin => h1 x hx (List.mem_append.2 (Or.inl hin))
    · intro x hx e
      subst e
      exact h1 s hx (List.mem_append.2 (Or.inr (by simp)))
    · intro x hx
      rcases List.mem_cons.1 hx with rfl | hx
      · exact ⟨o, hm.find⟩
      · exact h3 x hx

/-- the sites of a list of orders in which one site begins later -/
structure Turned (os ps : List Ord) (s : Stp) (t : Int) : Prop where
  alike : ∀ x o, find os x = some o → ∃ p, find ps x = some p ∧ p.size = o.size
  others : ∀ x o, find os x.ord = some o → x ≠ s → siteAt ps x = siteAt os x
  this : siteAt ps s = ⟨(siteAt os s).place, ⟨t, (siteAt os s).win.to⟩, (siteAt os s).serv⟩

theorem good_turned {til b : Int} {s : Site} {r : List Site} (h : s.win.fr ≤ b) : good m til b (⟨s.place, ⟨b, s.win.to⟩, s.serv⟩ :: r) ↔ good m til b (s :: r) := by
  cases r with
  | nil => simp only [good]; constructor <;> rintro ⟨_, h2⟩ <;> exact ⟨by omega, h2⟩
  | cons s' r' => simp only [good]; constructor <;> rintro ⟨_, h2⟩ <;> exact ⟨by omega, h2⟩
theorem limit {f : St} {xs : List Stp} {vs : List Vis} {k : Nat} {s : Stp} {v : Vis} {t : Int} (hok : ∀ o ∈ os, OrdOk m o)
    (h : run m d os [] (st0 d) xs = .ok (f, vs)) (hk : xs[k]? = some s) (hv : vs[k]? = some v) (hT : Turned os ps s t) (h1 : v.start ≤ t) (h2 : t ≤ (siteAt os s).win.to) :
    ∃ l, (latestOf m d os xs)[k]? = some l ∧ v.start ≤ l ∧ (siteAt os s).win.fr ≤ l ∧ l ≤ (siteAt os s).win.to ∧ right (siteAt os s).win = true ∧
      (t ≤ l → ∃ f' us, run m d ps [] (st0 d) xs = .ok (f', us) ∧ f'.load = f.load) ∧ (¬ t ≤ l → ∀ r, run m d ps [] (st0 d) xs ≠ .ok r) := by
  have hlt : k < xs.length := (List.getElem?_eq_some_iff.1 hk).1
  have hs : xs[k] = s := (List.getElem?_eq_some_iff.1 hk).2
  have hx : xs.take k ++ (s :: xs.drop (k + 1)) = xs := by rw [← hs, List.getElem_cons_drop, List.take_append_drop]
  have hlen : (xs.take k).length = k := by rw [List.length_take]; omega
  obtain ⟨hn1, hn2, hn3⟩ := run_new h
  rw [← hx] at hn2
  obtain ⟨hp1, hp2, hp3⟩ := List.pairwise_append.1 hn2
  have hpre : ∀ x ∈ xs.take k, x ≠ s := fun x hx' e => hp3 x hx' s (by simp) e
  have hpost : ∀ x ∈ xs.drop (k + 1), x ≠ s := fun x hx' e => (List.pairwise_cons.1 hp2).1 x hx' e.symm
  have hal : ∀ x ∈ xs, Alike os ps x := fun x hx' => by
    obtain ⟨o, ho⟩ := hn3 x hx'
    obtain ⟨p, hp, hz⟩ := hT.alike _ _ ho
    exact ⟨o, p, ho, hp, hz⟩
  have hmem : s ∈ xs := List.mem_of_getElem? hk
  have hx' := h
  rw [← hx] at hx'
  obtain ⟨st1, hr1, hr2⟩ := run_prefix hx'
  rw [hlen] at hr1 hr2
  have hvs : vs.drop k = v :: vs.drop (k + 1) := by
    have hlt' := (List.getElem?_eq_some_iff.1 hv).1
    rw [List.drop_eq_getElem_cons hlt', (List.getElem?_eq_some_iff.1 hv).2]
  rw [hvs] at hr2
  have hg := run_good hr2
  rw [List.map_cons] at hg
  have hoks : ∀ x ∈ siteAt os s :: (xs.drop (k + 1)).map (siteAt os), SiteOk x := by
    intro x hx2
    rcases List.mem_cons.1 hx2 with rfl | hx2
    · obtain ⟨o, ho⟩ := hn3 s hmem; exact siteAt_ok hok ho
    · obtain ⟨y, hy, rfl⟩ := List.mem_map.1 hx2
      obtain ⟨o, ho⟩ := hn3 y (List.mem_of_mem_drop hy); exact siteAt_ok hok ho
  obtain ⟨l, ls, e1, e2, hi⟩ := good_iff hoks hg
  have hfr : (siteAt os s).win.fr ≤ v.start := hg.1
  have hvl := (hi v.start hfr).1 hg
  obtain ⟨hr, _, hlf, _, hle⟩ := lastT_some.1 e2
  have hlto : l ≤ (siteAt os s).win.to := by rw [hle]; split <;> omega
  have hlk : (latestOf m d os xs)[k]? = some l := by
    have : ((latestOf m d os xs).drop k)[0]? = some l := by
      unfold latestOf
      rw [latest_drop, ← List.map_drop, List.drop_eq_getElem_cons hlt, hs, List.map_cons, e1]
      rfl
    simpa using this
  refine ⟨l, hlk, hvl, hlf, hlto, hr, ?_, ?_⟩
  all_goals
    have hpreR : run m d ps [] (st0 d) (xs.take k) = .ok (st1, vs.take k) := by
      rw [run_same (os := os) fun x hx2 => ?_]
      · exact hr1
      · obtain ⟨o, ho⟩ := hn3 x (List.mem_of_mem_take hx2)
        exact ⟨hal x (List.mem_of_mem_take hx2), hT.others x o ho (hpre x hx2)⟩
    have hm2 : (xs.drop (k + 1)).map (siteAt ps) = (xs.drop (k + 1)).map (siteAt os) := List.map_congr_left fun x hx2 => by
      obtain ⟨o, ho⟩ := hn3 x (List.mem_of_mem_drop hx2)
      exact hT.others x o ho (hpost x hx2)
    have hfe : feas m d.win.to st1.at_ st1.left ((s :: xs.drop (k + 1)).map (siteAt ps)) ↔ t ≤ l := by
      obtain ⟨o, st2, hm⟩ := run_head hr2
      have hb := beginT_in (served_some.1 hm.serve).1
      rw [← siteAt_of hm.find] at hb
      have hr3 := right_iff.1 hr
      have hbt : beginT (siteAt ps s).win (st1.left + time m st1.at_ (siteAt ps s).place) = some t := by
        rw [hT.this]
        refine beginT_some.2 ⟨right_iff.2 ⟨by simp only; omega, h2, hr3.2.2⟩, by simp only; omega, ?_⟩
        simp only
        split <;> omega
      rw [List.map_cons, hm2, ← hi t (by omega), ← good_turned (by omega), ← hT.this]
      constructor
      · rintro ⟨c, hc, hgd⟩
        rw [hbt] at hc
        injection hc with hc
        rw [hc]; exact hgd
      · exact fun hgd => ⟨t, hbt, hgd⟩
  · intro htl
    obtain ⟨f', us, h3, h4⟩ := run_retime (st' := st1) (ps := ps) hr2 rfl (fun x hx2 => hal x (by
      rcases List.mem_cons.1 hx2 with rfl | hx2
      · exact hmem
      · exact List.mem_of_mem_drop hx2)) (hfe.2 htl)
    refine ⟨f', vs.take k ++ us, ?_, h4⟩
    rw [← hx, run_append, hpreR]
    simp only [h3]
  · intro htl r hr'
    obtain ⟨f', us⟩ := r
    rw [← hx] at hr'
    obtain ⟨st3, h3, h4⟩ := run_prefix hr'
    rw [hpreR] at h3
    injection h3 with h3; injection h3 with h3 _
    subst h3
    exact htl (hfe.1 (run_feas h4))
end
#print axioms limit
end Go.Proofs.Ytjkahookgoecpaa.FleetMath
