/-
  What follows of the drive of chapter 7 (loads are never negative; who leaves later begins nothing earlier; no schedule begins earlier; how orders are listed does not matter), and the latest times of chapter 8. No program is named here.
-/
import Derived.Test.YtjkahookgoecpaaFleetMath
namespace Go.Proofs.Ytjkahookgoecpaa.FleetMath
open Go.Proofs.Ytjkahookgoecpaa.GeoMath

theorem known_iff {m : Option Mp} {os : List Ord} : known m os = true ↔ os.length ≤ 40 ∧ (∀ o ∈ os, ordE m o = 0) ∧ Dist os := by simp [known]
theorem known_ok {m : Mp} {os : List Ord} (h : known (some m) os = true) : ∀ o ∈ os, OrdOk m o := fun o ho => by
  obtain ⟨m', e, h'⟩ := ordE_ok.1 ((known_iff.1 h).2.1 o ho)
  injection e with e
  rw [e]; exact h'
theorem drive_arg {m : Mp} {d : Drv} {os : List Ord} {stops : List Stp} (h1 : drvE (some m) d = 0) (h2 : known (some m) os = true) (h3 : stops.length ≤ 80) :
    drive (some m) d os stops = driveM m d os stops := by
  unfold drive
  simp only
  rw [if_neg]
  rintro (h | h | h)
  · exact h h1
  · rw [h2] at h; cases h
  · omega
theorem drive_bad {m : Option Mp} {d : Drv} {os : List Ord} {stops : List Stp} (h : drvE m d ≠ 0 ∨ known m os = false ∨ 80 < stops.length) : drive m d os stops = ([], 0, 1) := by
  unfold drive
  split
  · rfl
  · rw [if_pos h]

section
variable {m : Mp} {d d' : Drv} {os ps : List Ord}
theorem run_open {seen : List Stp} {st st' : St} {xs : List Stp} {vs : List Vis} {opn : List Int} (h : run m d os seen st xs = .ok (st', vs)) (ho : Open os seen st.load opn) : ∃ opn', Open os (seen ++ xs) st'.load opn' := by
  induction xs generalizing seen st vs opn with
  | nil => rw [run_nil] at h; injection h with h; injection h with h _; subst h; exact ⟨opn, by simpa using ho⟩
  | cons s r ih =>
    rw [run_cons] at h
    split at h
    · cases h
    rename_i st1 v hs
    split at h
    · cases h
    rename_i st2 us hr
    injection h with h; injection h with e1 e2
    subst e1
    obtain ⟨o, hm⟩ := step_ok.1 hs
    obtain ⟨opn1, ho1⟩ := ho.step hm
    obtain ⟨opn2, ho2⟩ := ih hr ho1
    exact ⟨opn2, by simpa using ho2⟩
theorem run_load {st' : St} {xs : List Stp} {vs : List Vis} (hs : ∀ o ∈ os, 1 ≤ o.size) (h : run m d os [] (st0 d) xs = .ok (st', vs)) : 0 ≤ st'.load := by
  obtain ⟨opn, ho⟩ := run_open h (Open.start os)
  rw [ho.sum]
  exact sum_pos os hs opn

/-- visits that begin no earlier, with the same loads -/
def Later (vs us : List Vis) : Prop := vs.length = us.length ∧ ∀ (k : Nat) (v u : Vis), vs[k]? = some v → us[k]? = some u → v.start ≤ u.start ∧ v.load = u.load
theorem Later.cons {vs us : List Vis} {v u : Vis} (h : Later vs us) (h1 : v.start ≤ u.start) (h2 : v.load = u.load) : Later (v :: vs) (u :: us) := by
  refine ⟨by simp [h.1], fun k => ?_⟩
  cases k with
  | zero => intro a b ha hb; simp at ha hb; subst ha; subst hb; exact ⟨h1, h2⟩
  | succ k => intro a b ha hb; exact h.2 k a b (by simpa using ha) (by simpa using hb)
theorem step_later {seen : List Stp} {st st' f' : St} {s : Stp} {u : Vis} (hr : d.room = d'.room) (ht : d.win.to = d'.win.to) (ha : st.at_ = st'.at_) (hl : st.load = st'.load) (hle : st.left ≤ st'.left)
    (h : step m d' os seen st' s = .ok (f', u)) : ∃ f v, step m d os seen st s = .ok (f, v) ∧ f.at_ = f'.at_ ∧ f.load = f'.load ∧ f.left ≤ f'.left ∧ v.start ≤ u.start ∧ v.load = u.load := by
  obtain ⟨o, hm⟩ := step_ok.1 h
  obtain ⟨b, t, h1, h2, h3⟩ := served_mono (l := st.left) hm.serve hle
  refine ⟨⟨(siteOf o s).place, t, loadOf o s st.load⟩, ⟨s, st.left + time m st.at_ (siteOf o s).place, b, t, loadOf o s st.load⟩, step_ok.2 ⟨o, hm.find, hm.new, hm.first, ?_, ?_, rfl, rfl, rfl, rfl⟩, ?_, ?_, ?_, h2, ?_⟩
  · rw [hr, hl]; exact hm.load
  · rw [ht, ha]; exact h1
  · rw [hm.st']
  · rw [hm.st', hl]
  · rw [hm.st']; exact h3
  · rw [hm.vload, hl]
/-- who leaves later begins nothing earlier -/
theorem run_later {seen : List Stp} {st st' f' : St} {xs : List Stp} {us : List Vis} (hr : d.room = d'.room) (ht : d.win.to = d'.win.to) (ha : st.at_ = st'.at_) (hl : st.load = st'.load) (hle : st.left ≤ st'.left)
    (h : run m d' os seen st' xs = .ok (f', us)) : ∃ f vs, run m d os seen st xs = .ok (f, vs) ∧ f.load = f'.load ∧ Later vs us := by
  induction xs generalizing seen st st' us with
  | nil =>
    rw [run_nil] at h; injection h with h; injection h with h1 h2; subst h1; subst h2
    exact ⟨st, [], rfl, hl, rfl, fun k v u hv => by simp at hv⟩
  | cons s r ih =>
    rw [run_cons] at h
    split at h
    · cases h
    rename_i st1 u hs
    split at h
    · cases h
    rename_i st2 ws hw
    injection h with h; injection h with e1 e2
    subst e1; subst e2
    obtain ⟨f1, v, h1, h2, h3, h4, h5, h6⟩ := step_later hr ht ha hl hle hs
    obtain ⟨f2, vs, h7, h8, h9⟩ := ih h2 h3 h4 hw
    refine ⟨f2, v :: vs, ?_, h8, h9.cons h5 h6⟩
    rw [run_cons, h1]
    simp only [h7]

/-- a site that can be begun at b, not ahead of its arrival, is begun no later by who leaves no later -/
theorem served_le {f l b til : Int} {s : Site} (hr : right s.win = true) (h1 : l + time m f s.place ≤ b) (h2 : s.win.fr ≤ b) (h3 : b ≤ s.win.to) (h4 : b + s.serv ≤ til) :
    ∃ c v, served m f l s til = some (c, v) ∧ c ≤ b ∧ v ≤ b + s.serv := by
  refine ⟨_, _, served_some.2 ⟨beginT_some.2 ⟨hr, by omega, rfl⟩, rfl, ?_⟩, ?_, ?_⟩ <;> split <;> omega
theorem step_late {seen : List Stp} {st : St} {s : Stp} (h : step m d os seen st s = .error 15) : ∃ o, find os s.ord = some o ∧ served m st.at_ st.left (siteOf o s) d.win.to = none := by
  unfold step at h
  split at h
  · injection h with h; omega
  rename_i o ho
  split at h
  · injection h with h; omega
  split at h
  · injection h with h; omega
  split at h
  · injection h with h; omega
  split at h
  · rename_i hn; exact ⟨o, ho, hn⟩
  · cases h

theorem step_congr {seen : List Stp} {st : St} {s : Stp} (h : find os s.ord = find ps s.ord) : step m d os seen st s = step m d ps seen st s := by
  unfold step; rw [h]
theorem run_congr {seen : List Stp} {st : St} {xs : List Stp} (h : ∀ s ∈ xs, find os s.ord = find ps s.ord) : run m d os seen st xs = run m d ps seen st xs := by
  induction xs generalizing seen st with
  | nil => rfl
  | cons s r ih =>
    rw [run_cons, run_cons, step_congr (h s (by simp))]
    simp only [ih fun x hx => h x (by simp [hx])]
theorem driveM_congr {xs : List Stp} (h : ∀ s ∈ xs, find os s.ord = find ps s.ord) : driveM m d os xs = driveM m d ps xs := by
  unfold driveM; rw [run_congr h]
theorem Dist.reverse (h : Dist os) : Dist os.reverse := by
  unfold Dist; rw [List.pairwise_reverse]; exact h.imp fun h => h.symm
theorem Dist.filter (h : Dist os) (p : Ord → Bool) : Dist (os.filter p) := List.Pairwise.filter p h
theorem known_reverse {m : Option Mp} (h : known m os = true) : known m os.reverse = true := by
  obtain ⟨h1, h2, h3⟩ := known_iff.1 h
  exact known_iff.2 ⟨by simpa using h1, by simpa using h2, h3.reverse⟩
theorem known_filter {m : Option Mp} (h : known m os = true) (p : Ord → Bool) : known m (os.filter p) = true := by
  obtain ⟨h1, h2, h3⟩ := known_iff.1 h
  exact known_iff.2 ⟨Nat.le_trans (List.length_filter_le _ _) h1, fun o ho => h2 o (List.mem_filter.1 ho).1, h3.filter p⟩
/-- the same orders, listed the other way round; those that have no stop left out -/
theorem find_reverse (h : Dist os) (id : Int) : find os id = find os.reverse id := find_congr h.reverse fun o _ => by simp
theorem find_filter (h : Dist os) (p : Ord → Bool) (id : Int) (hp : ∀ o ∈ os, o.id = id → p o = true) : find os id = find (os.filter p) id :=
  find_congr (h.filter p) fun o e => by
    rw [List.mem_filter]
    exact ⟨fun ho => ⟨ho, hp o ho e⟩, fun ho => ho.1⟩

/-- chapter 8: lastT -/
theorem lastT_some {w : Win} {s u t : Int} : lastT w s u = some t ↔ right w = true ∧ 0 ≤ s ∧ w.fr ≤ t ∧ s ≤ u ∧ t = (if w.to < u - s then w.to else u - s) := by
  unfold lastT
  split
  · rename_i h
    constructor
    · intro h'; cases h'
    · rintro ⟨h1, h2, _, h4, _⟩
      rcases h with h | h | h
      · rw [h1] at h; cases h
      · omega
      · omega
  · rename_i h
    simp only [not_or, not_false] at h
    obtain ⟨h1, h2, h3⟩ := h
    generalize (if w.to < u - s then w.to else u - s) = x
    split
    · rename_i h4
      constructor
      · intro h'; cases h'
      · rintro ⟨_, _, h5, _, rfl⟩; omega
    · rename_i h4
      constructor
      · intro h'; injection h' with h'; subst h'; exact ⟨h1, by omega, by omega, by omega, rfl⟩
      · rintro ⟨_, _, _, _, rfl⟩; rfl
/-- a time does, for this site and this end -/
theorem lastT_iff {w : Win} {s u b : Int} (hr : right w = true) (hs : 0 ≤ s) (hb : w.fr ≤ b) : (b ≤ w.to ∧ b + s ≤ u) ↔ ∃ t, lastT w s u = some t ∧ b ≤ t := by
  have hr' := right_iff.1 hr
  constructor
  · rintro ⟨h1, h2⟩
    refine ⟨_, lastT_some.2 ⟨hr, hs, ?_, by omega, rfl⟩, ?_⟩ <;> split <;> omega
  · rintro ⟨t, h, hle⟩
    obtain ⟨_, _, h3, h4, rfl⟩ := lastT_some.1 h
    split at hle <;> omega
/-- the sites from a begun one on: can all be made? -/
def good (m : Mp) (til : Int) : Int → List Site → Prop
  | _, [] => True
  | b, s :: r => s.win.fr ≤ b ∧ b ≤ s.win.to ∧ b + s.serv ≤ til ∧
    match r with
    | [] => True
    | s' :: _ => ∃ c, beginT s'.win (b + s.serv + time m s.place s'.place) = some c ∧ good m til c r
/-- the latest times, from behind -/
def untilOf (m : Mp) (til : Int) (s : Site) : List Site → List Int → Int
  | s' :: _, t :: _ => if t - time m s.place s'.place < til then t - time m s.place s'.place else til
  | _, _ => til
def latest (m : Mp) (til : Int) : List Site → List Int
  | [] => []
  | s :: r => (lastT s.win s.serv (untilOf m til s r (latest m til r))).getD 0 :: latest m til r
theorem latest_len (til : Int) (l : List Site) : (latest m til l).length = l.length := by
  induction l with
  | nil => rfl
  | cons s r ih => simp [latest, ih]
structure SiteOk (s : Site) : Prop where
  win : right s.win = true
  serv : 0 ≤ s.serv
/-- some beginning does: then the latest one is told, and all ahead of it do -/
theorem good_iff {til b0 : Int} {s : Site} {r : List Site} (hok : ∀ x ∈ s :: r, SiteOk x) (h0 : good m til b0 (s :: r)) :
    ∃ t ts, latest m til (s :: r) = t :: ts ∧ lastT s.win s.serv (untilOf m til s r (latest m til r)) = some t ∧ ∀ b, s.win.fr ≤ b → (good m til b (s :: r) ↔ b ≤ t) := by
  induction r generalizing s b0 with
  | nil =>
    have hs := hok s (by simp)
    have key : ∀ b, s.win.fr ≤ b → (good m til b [s] ↔ ∃ t, lastT s.win s.serv til = some t ∧ b ≤ t) := fun b hb => by
      rw [← lastT_iff hs.win hs.serv hb]
      simp only [good, and_true]
      exact ⟨fun h => h.2, fun h => ⟨hb, h⟩⟩
    obtain ⟨t, ht, _⟩ := (key b0 h0.1).1 h0
    refine ⟨t, [], by simp [latest, untilOf, ht], by simp [untilOf, ht], fun b hb => ?_⟩
    rw [key b hb, ht]
    simp
  | cons s' r ih =>
    have hs := hok s (by simp)
    have hs' := hok s' (by simp)
    obtain ⟨g1, g2, g3, c0, hc0, g4⟩ := h0
    obtain ⟨t', ts, e1, e2, hi⟩ := ih (fun x hx => hok x (by simp [hx])) g4
    obtain ⟨_, _, hf', _, ht'⟩ := lastT_some.1 e2
    have hto : t' ≤ s'.win.to := by rw [ht']; split <;> omega
    have key : ∀ b, s.win.fr ≤ b → (good m til b (s :: s' :: r) ↔ (b ≤ s.win.to ∧ b + s.serv ≤ (if t' - time m s.place s'.place < til then t' - time m s.place s'.place else til))) := fun b hb => by
      constructor
      · rintro ⟨_, h2, h3, c, hc, h4⟩
        have hcin := beginT_in hc
        have := (hi c hcin.2.2.1).1 h4
        refine ⟨h2, ?_⟩
        split <;> omega
      · rintro ⟨h2, h3⟩
        have h4 : b + s.serv ≤ til ∧ b + s.serv + time m s.place s'.place ≤ t' := by split at h3 <;> omega
        have hb' : beginT s'.win (b + s.serv + time m s.place s'.place) = some (if b + s.serv + time m s.place s'.place < s'.win.fr then s'.win.fr else b + s.serv + time m s.place s'.place) := beginT_some.2 ⟨hs'.win, by omega, rfl⟩
        refine ⟨hb, h2, h4.1, _, hb', ?_⟩
        have hcin := beginT_in hb'
        refine (hi _ hcin.2.2.1).2 ?_
        split <;> omega
    have key2 : ∀ b, s.win.fr ≤ b → (good m til b (s :: s' :: r) ↔ ∃ t, lastT s.win s.serv (if t' - time m s.place s'.place < til then t' - time m s.place s'.place else til) = some t ∧ b ≤ t) := fun b hb => by
      rw [key b hb, lastT_iff hs.win hs.serv hb]
    have hu : untilOf m til s (s' :: r) (latest m til (s' :: r)) = (if t' - time m s.place s'.place < til then t' - time m s.place s'.place else til) := by rw [e1]; rfl
    obtain ⟨t, ht, _⟩ := (key2 b0 g1).1 ⟨g1, g2, g3, c0, hc0, g4⟩
    refine ⟨t, latest m til (s' :: r), ?_, by rw [hu, ht], fun b hb => ?_⟩
    · rw [show latest m til (s :: s' :: r) = (lastT s.win s.serv (untilOf m til s (s' :: r) (latest m til (s' :: r)))).getD 0 :: latest m til (s' :: r) from rfl, hu, ht]
      rfl
    · rw [key2 b hb, ht]
      simp
end
#print axioms good_iff
end Go.Proofs.Ytjkahookgoecpaa.FleetMath
