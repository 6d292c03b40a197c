/-
  CertMath, CertMath2, CertMath3: one text.
-/
import Derived.Test.YtpigklkidagolaaPlanMaths
import Derived.Test.YtpigklkidagolaaMaths
/-
  The plain mathematics of chapter 10: certificates. No program is named here.
-/
namespace Go.Proofs.Ytpigklkidagolaa.CertMath
open Go.Proofs.Ytpigklkidagolaa.FleetMath Go.Proofs.Ytpigklkidagolaa.PlanMath
set_option linter.unusedVariables false

/-- the driver of a number -/
def drvOf (ds : List Drv) (id : Int) : Option Drv := ds.find? fun d => decide (d.id = id)
def DistD (ds : List Drv) : Prop := ds.Pairwise fun a b => a.id ≠ b.id
instance (ds : List Drv) : Decidable (DistD ds) := by unfold DistD; infer_instance
/-- P10.1: do they go together? -/
def wellC (m : Option Mp) (ds : List Drv) (os : List FleetMath.Ord) (p : List Rte) : Bool :=
  m.isSome && decide (ds.length ≤ 8) && known m os && rightP p && decide (∀ d ∈ ds, drvE m d = 0) && decide (DistD ds)
/-- P10.2: the lists of visits, from the i-th route on -/
def makeFrom (m : Option Mp) (ds : List Drv) (os : List FleetMath.Ord) : Nat → List Rte → Except (Nat × Int) (List (List Vis))
  | _, [] => .ok []
  | i, r :: t =>
    match drvOf ds r.drv with
    | none => .error (i, 8)
    | some d =>
      if (drive m d os r.stops).2.2 ≠ 0 then .error (i, (drive m d os r.stops).2.2)
      else match makeFrom m ds os (i + 1) t with
        | .error x => .error x
        | .ok c => .ok ((drive m d os r.stops).1 :: c)
def makeC (m : Option Mp) (ds : List Drv) (os : List FleetMath.Ord) (p : List Rte) : List (List Vis) × Nat × Int :=
  if wellC m ds os p then
    match makeFrom m ds os 0 p with
    | .error (i, e) => ([], i, e)
    | .ok c => (c, 0, 0)
  else ([], 0, 1)
/-- P10.3: visit by visit -/
def oneGo (m : Mp) (d : Drv) (os : List FleetMath.Ord) : List Stp → St → List Vis → Int
  | _, st, [] => if 0 < st.load then 18 else 0
  | seen, st, v :: r =>
    match find os v.stop.ord with
    | none => 8
    | some o =>
      if v.stop.drop = true ∧ Stp.mk v.stop.ord false ∉ seen then 17
      else if v.load ≠ loadOf o v.stop st.load ∨ d.room < loadOf o v.stop st.load then 14
      else match beginT (siteOf o v.stop).win (st.left + time m st.at_ (siteOf o v.stop).place) with
        | none => 15
        | some b =>
          if v.arrive ≠ st.left + time m st.at_ (siteOf o v.stop).place ∨ v.start ≠ b ∨ v.leave ≠ b + (siteOf o v.stop).serv ∨ d.win.to < b + (siteOf o v.stop).serv then 15
          else oneGo m d os (seen ++ [v.stop]) ⟨(siteOf o v.stop).place, v.leave, loadOf o v.stop st.load⟩ r
def oneC (m : Mp) (d : Drv) (os : List FleetMath.Ord) (stops : List Stp) (vs : List Vis) : Int := if vs.map (·.stop) = stops then oneGo m d os [] (st0 d) vs else 4
def checkFrom (m : Mp) (ds : List Drv) (os : List FleetMath.Ord) : Nat → List Rte → List (List Vis) → Nat × Int
  | i, r :: t, v :: c =>
    match drvOf ds r.drv with
    | none => (i, 8)
    | some d => if oneC m d os r.stops v ≠ 0 then (i, oneC m d os r.stops v) else checkFrom m ds os (i + 1) t c
  | _, _, _ => (0, 0)
def checkC (m : Option Mp) (ds : List Drv) (os : List FleetMath.Ord) (p : List Rte) (c : List (List Vis)) : Nat × Int :=
  if wellC m ds os p then
    match m with
    | none => (0, 1)
    | some m' => if c.length = p.length then checkFrom m' ds os 0 p c else (0, 4)
  else (0, 1)

theorem oneGo_cons (m : Mp) (d : Drv) (os : List FleetMath.Ord) (seen : List Stp) (st : St) (v : Vis) (r : List Vis) : oneGo m d os seen st (v :: r) =
    match find os v.stop.ord with
    | none => 8
    | some o =>
      if v.stop.drop = true ∧ Stp.mk v.stop.ord false ∉ seen then 17
      else if v.load ≠ loadOf o v.stop st.load ∨ d.room < loadOf o v.stop st.load then 14
      else match beginT (siteOf o v.stop).win (st.left + time m st.at_ (siteOf o v.stop).place) with
        | none => 15
        | some b =>
          if v.arrive ≠ st.left + time m st.at_ (siteOf o v.stop).place ∨ v.start ≠ b ∨ v.leave ≠ b + (siteOf o v.stop).serv ∨ d.win.to < b + (siteOf o v.stop).serv then 15
          else oneGo m d os (seen ++ [v.stop]) ⟨(siteOf o v.stop).place, v.leave, loadOf o v.stop st.load⟩ r := rfl
/-- a list of visits is right just if it is what is driven -/
theorem oneGo_iff (m : Mp) (d : Drv) (os : List FleetMath.Ord) (vs : List Vis) (seen : List Stp) (st : St) (hn : (seen ++ vs.map (·.stop)).Nodup) :
    oneGo m d os seen st vs = 0 ↔ ∃ st', run m d os seen st (vs.map (·.stop)) = .ok (st', vs) ∧ ¬ 0 < st'.load := by
  induction vs generalizing seen st with
  | nil =>
    rw [List.map_nil, run_nil]
    show (if 0 < st.load then (18 : Int) else 0) = 0 ↔ _
    constructor
    · intro h
      split at h
      · omega
      · rename_i hl
        exact ⟨st, rfl, hl⟩
    · rintro ⟨st', e, hl⟩
      injection e with e
      injection e with e _
      subst e
      rw [if_neg hl]
  | cons v r ih =>
    have hs : v.stop ∉ seen := by
      rw [List.map_cons, List.nodup_append] at hn
      exact fun h => hn.2.2 _ h _ (by simp) rfl
    have hn' : ((seen ++ [v.stop]) ++ r.map (·.stop)).Nodup := by
      rw [List.append_assoc]
      exact hn
    rw [oneGo_cons, List.map_cons, run_cons]
    unfold FleetMath.step
    cases hf : find os v.stop.ord with
    | none => simp
    | some o =>
      simp only [if_neg hs]
      by_cases h1 : v.stop.drop = true ∧ Stp.mk v.stop.ord false ∉ seen
      · simp [if_pos h1]
      · rw [if_neg h1, if_neg h1]
        by_cases h2 : d.room < loadOf o v.stop st.load
        · rw [if_pos (Or.inr h2), if_pos h2]
          simp
        · rw [if_neg h2]
          unfold FleetMath.served
          cases hb : beginT (siteOf o v.stop).win (st.left + time m st.at_ (siteOf o v.stop).place) with
          | none =>
            simp only
            constructor
            · intro h
              split at h <;> omega
            · rintro ⟨_, e, _⟩; cases e
          | some b =>
            simp only
            by_cases h3 : d.win.to < b + (siteOf o v.stop).serv
            · rw [if_pos h3]
              simp only
              constructor
              · intro h
                split at h
                · omega
                · rw [if_pos (Or.inr (Or.inr (Or.inr h3)))] at h
                  omega
              · rintro ⟨_, e, _⟩; cases e
            · rw [if_neg h3]
              simp only
              constructor
              · intro h
                split at h
                · omega
                rename_i h4
                split at h
                · omega
                rename_i h5
                have h5' : v.arrive = st.left + time m st.at_ (siteOf o v.stop).place ∧ v.start = b ∧ v.leave = b + (siteOf o v.stop).serv := by
                  refine ⟨?_, ?_, ?_⟩
                  · exact Decidable.not_not.1 fun e => h5 (Or.inl e)
                  · exact Decidable.not_not.1 fun e => h5 (Or.inr (Or.inl e))
                  · exact Decidable.not_not.1 fun e => h5 (Or.inr (Or.inr (Or.inl e)))
                have h4' : v.load = loadOf o v.stop st.load := Decidable.not_not.1 fun e => h4 (Or.inl e)
                obtain ⟨st', hr, hl⟩ := (ih _ _ hn').1 h
                rw [h5'.2.2] at hr
                refine ⟨st', ?_, hl⟩
                rw [hr]
                simp only
                have ev : (⟨v.stop, st.left + time m st.at_ (siteOf o v.stop).place, b, b + (siteOf o v.stop).serv, loadOf o v.stop st.load⟩ : Vis) = v := by
                  obtain ⟨s, x1, x2, x3, x4⟩ := v
                  simp only at h4' h5'
                  rw [h4', h5'.1, h5'.2.1, h5'.2.2]
                rw [ev]
              · rintro ⟨st', e, hl⟩
                cases hr : run m d os (seen ++ [v.stop]) ⟨(siteOf o v.stop).place, b + (siteOf o v.stop).serv, loadOf o v.stop st.load⟩ (r.map (·.stop)) with
                | error x => rw [hr] at e; cases e
                | ok q =>
                  obtain ⟨st2, us⟩ := q
                  rw [hr] at e
                  simp only at e
                  injection e with e
                  injection e with e1 e2
                  injection e2 with e2 e3
                  subst e1
                  subst e3
                  have ev : v.arrive = st.left + time m st.at_ (siteOf o v.stop).place ∧ v.start = b ∧ v.leave = b + (siteOf o v.stop).serv ∧ v.load = loadOf o v.stop st.load := by
                    rw [← e2]
                    exact ⟨rfl, rfl, rfl, rfl⟩
                  rw [if_neg (by rintro (h | h); exact h ev.2.2.2; exact h2 h), if_neg (by rintro (h | h | h | h); exact h ev.1; exact h ev.2.1; exact h ev.2.2.1; exact h3 h), ev.2.2.1]
                  exact (ih _ _ hn').2 ⟨st2, hr, hl⟩
theorem step_stop {m : Mp} {d : Drv} {os : List FleetMath.Ord} {seen : List Stp} {st st' : St} {s : Stp} {v : Vis} (h : FleetMath.step m d os seen st s = .ok (st', v)) : v.stop = s := by
  unfold FleetMath.step at h
  split at h
  · cases h
  split at h
  · cases h
  split at h
  · cases h
  split at h
  · cases h
  split at h
  · cases h
  injection h with h
  injection h with _ h
  rw [← h]
theorem step_err {m : Mp} {d : Drv} {os : List FleetMath.Ord} {seen : List Stp} {st : St} {s : Stp} {e : Int} (h : FleetMath.step m d os seen st s = .error e) : e ≠ 0 := by
  unfold FleetMath.step at h
  split at h
  · injection h with h; omega
  split at h
  · injection h with h; omega
  split at h
  · injection h with h; omega
  split at h
  · injection h with h; omega
  split at h
  · injection h with h; omega
  cases h
theorem run_map {m : Mp} {d : Drv} {os : List FleetMath.Ord} {seen : List Stp} {st st' : St} {xs : List Stp} {vs : List Vis} (h : run m d os seen st xs = .ok (st', vs)) : vs.map (·.stop) = xs := by
  induction xs generalizing seen st st' vs with
  | nil => rw [run_nil] at h; injection h with h; injection h with _ h; rw [← h]; rfl
  | cons s r ih =>
    rw [run_cons] at h
    split at h
    · cases h
    · rename_i hs
      split at h
      · cases h
      · rename_i hr
        injection h with h
        injection h with _ h
        rw [← h, List.map_cons, ih hr, step_stop hs]
theorem run_err {m : Mp} {d : Drv} {os : List FleetMath.Ord} {seen : List Stp} {st : St} {xs : List Stp} {k : Nat} {e : Int} (h : run m d os seen st xs = .error (k, e)) : ¬ e = 0 := by
  induction xs generalizing seen st with
  | nil => rw [run_nil] at h; cases h
  | cons s r ih =>
    rw [run_cons] at h
    split at h
    · rename_i hs
      injection h with h
      injection h with _ h
      rw [← h]
      exact step_err hs
    · split at h
      · rename_i hr
        injection h with h
        rw [h] at hr
        exact ih hr
      · cases h
/-- P10.4, route by route -/
theorem oneC_iff {m : Mp} {d : Drv} {os : List FleetMath.Ord} {stops : List Stp} {vs : List Vis} (hd : drvE (some m) d = 0) (hk : known (some m) os = true) (hl : stops.length ≤ 80) (hn : stops.Nodup) :
    oneC m d os stops vs = 0 ↔ (drive (some m) d os stops).2.2 = 0 ∧ vs = (drive (some m) d os stops).1 := by
  have hdr : drive (some m) d os stops = driveM m d os stops := by
    unfold drive
    simp only
    rw [if_neg (by rintro (h | h | h); exact h hd; rw [hk] at h; cases h; omega)]
  rw [hdr]
  unfold oneC driveM
  constructor
  · intro h
    split at h
    · rename_i e
      obtain ⟨st', hr, hload⟩ := (oneGo_iff m d os vs [] (st0 d) (by rw [List.nil_append, e]; exact hn)).1 h
      rw [e] at hr
      rw [hr]
      simp only
      rw [if_neg hload]
      exact ⟨rfl, rfl⟩
    · omega
  · rintro ⟨h1, h2⟩
    cases hr : run m d os [] (st0 d) stops with
    | error x =>
      rw [hr] at h1 h2
      obtain ⟨k, e⟩ := x
      simp only at h1 h2
      exact absurd h1 (run_err hr)
    | ok q =>
      obtain ⟨st', us⟩ := q
      rw [hr] at h1 h2
      simp only at h1 h2
      split at h1
      · exact absurd h1 (by show ¬ (18 : Int) = 0; decide)
      rename_i hload
      rw [if_neg hload] at h2
      simp only at h2
      subst h2
      have e : vs.map (·.stop) = stops := run_map hr
      rw [if_pos e]
      exact (oneGo_iff m d os vs [] (st0 d) (by rw [List.nil_append, e]; exact hn)).2 ⟨st', by rw [e]; exact hr, hload⟩
theorem checkFrom_iff {m : Mp} {ds : List Drv} {os : List FleetMath.Ord} (hd : ∀ d ∈ ds, drvE (some m) d = 0) (hk : known (some m) os = true) (p : List Rte) (c : List (List Vis)) (i : Nat) (hlen : c.length = p.length) (hp : ∀ r ∈ p, r.stops.length ≤ 80 ∧ r.stops.Nodup) :
    (checkFrom m ds os i p c).2 = 0 ↔ makeFrom (some m) ds os i p = .ok c := by
  induction p generalizing i c with
  | nil =>
    obtain rfl : c = [] := List.eq_nil_of_length_eq_zero (by simpa using hlen)
    simp [checkFrom, makeFrom]
  | cons r t ih =>
    match c, hlen with
    | v :: c, hlen =>
      have ih' := ih c (i + 1) (by simpa using hlen) fun r hr => hp r (by simp [hr])
      obtain ⟨h80, hn⟩ := hp r (by simp)
      rw [checkFrom, makeFrom]
      cases hf : drvOf ds r.drv with
      | none => simp
      | some d =>
        have hdm : drvE (some m) d = 0 := hd d (List.mem_of_find?_eq_some hf)
        have h1 := oneC_iff (vs := v) hdm hk h80 hn
        simp only
        by_cases ho : oneC m d os r.stops v = 0
        · obtain ⟨h2, h3⟩ := h1.1 ho
          rw [if_neg (by simpa using ho), if_neg (by simpa using h2), ih']
          cases hm : makeFrom (some m) ds os (i + 1) t with
          | error x => simp
          | ok c' => simp [h3]
        · rw [if_pos ho]
          constructor
          · intro h; exact absurd h ho
          · intro h
            exfalso
            split at h
            · cases h
            rename_i h2
            split at h
            · cases h
            injection h with h
            injection h with h3 _
            exact ho (h1.2 ⟨Decidable.not_not.1 h2, h3.symm⟩)
theorem wellC_parts {m : Option Mp} {ds : List Drv} {os : List FleetMath.Ord} {p : List Rte} (h : wellC m ds os p = true) : ∃ m', m = some m' ∧ ds.length ≤ 8 ∧ known m os = true ∧ rightP p = true ∧ (∀ d ∈ ds, drvE m d = 0) ∧ DistD ds := by
  simp only [wellC, Bool.and_eq_true, decide_eq_true_eq] at h
  obtain ⟨⟨⟨⟨⟨h1, h2⟩, h3⟩, h4⟩, h5⟩, h6⟩ := h
  obtain ⟨m', rfl⟩ := Option.isSome_iff_exists.1 h1
  exact ⟨m', rfl, h2, h3, h4, h5, h6⟩
theorem right_stops {p : List Rte} (h : rightP p = true) : ∀ r ∈ p, r.stops.length ≤ 80 ∧ r.stops.Nodup := by
  intro r hr
  refine ⟨boundR_len (rightP_bound h hr), ?_⟩
  rw [rightP_from, Bool.and_eq_true, rightFrom_iff] at h
  have hn := h.2.2.2
  rw [List.nil_append] at hn
  exact List.Sublist.nodup (List.sublist_flatten_of_mem (List.mem_map.2 ⟨r, hr, rfl⟩) |>.trans (by rw [allS, List.flatMap_def]; exact List.Sublist.refl _)) hn
theorem makeFrom_err {m : Option Mp} {ds : List Drv} {os : List FleetMath.Ord} {p : List Rte} {i k : Nat} {e : Int} (h : makeFrom m ds os i p = .error (k, e)) : ¬ e = 0 := by
  induction p generalizing i with
  | nil => rw [makeFrom] at h; cases h
  | cons r t ih =>
    rw [makeFrom] at h
    split at h
    · injection h with h; injection h with _ h; omega
    · split at h
      · rename_i hne
        injection h with h
        injection h with _ h
        rw [← h]
        exact hne
      · split at h
        · rename_i hr
          injection h with h
          rw [h] at hr
          exact ih hr
        · cases h
/-- P10.4 -/
theorem check_make (m : Option Mp) (ds : List Drv) (os : List FleetMath.Ord) (p : List Rte) (c : List (List Vis)) : (checkC m ds os p c).2 = 0 ↔ (makeC m ds os p).2.2 = 0 ∧ c = (makeC m ds os p).1 := by
  unfold checkC makeC
  cases hw : wellC m ds os p with
  | false => simp
  | true =>
    obtain ⟨m', rfl, _, h2, h3, h4, _⟩ := wellC_parts hw
    simp only [if_true]
    by_cases hl : c.length = p.length
    · rw [if_pos hl, checkFrom_iff h4 h2 p c 0 hl (right_stops h3)]
      cases hm : makeFrom (some m') ds os 0 p with
      | error x =>
        obtain ⟨k, e⟩ := x
        simp only
        constructor
        · intro h; cases h
        · rintro ⟨h, _⟩; exact absurd h (makeFrom_err hm)
      | ok c' =>
        simp only [Except.ok.injEq, true_and]
        exact eq_comm
    · rw [if_neg hl]
      constructor
      · intro h; exact absurd h (by decide)
      · rintro ⟨h1, h2⟩
        exfalso
        cases hm : makeFrom (some m') ds os 0 p with
        | error x =>
          obtain ⟨k, e⟩ := x
          rw [hm] at h1
          exact makeFrom_err hm h1
        | ok c' =>
          rw [hm] at h2
          simp only at h2
          subst h2
          refine hl ?_
          have key : ∀ (p : List Rte) (i : Nat) (c : List (List Vis)), makeFrom (some m') ds os i p = .ok c → c.length = p.length := by
            intro p
            induction p with
            | nil => intro i c h; rw [makeFrom] at h; injection h with h; rw [← h]; rfl
            | cons r t ih =>
              intro i c h
              rw [makeFrom] at h
              split at h
              · cases h
              · split at h
                · cases h
                · split at h
                  · cases h
                  · rename_i hr
                    injection h with h
                    rw [← h, List.length_cons, List.length_cons, ih _ _ hr]
          exact key p 0 c hm
#print axioms check_make
end Go.Proofs.Ytpigklkidagolaa.CertMath

/-
  Chapter 10's words, route by route: how a certificate is made and checked.
-/
namespace Go.Proofs.Ytpigklkidagolaa.CertMath
open Go.Proofs.Ytpigklkidagolaa.FleetMath Go.Proofs.Ytpigklkidagolaa.PlanMath
set_option linter.unusedVariables false

theorem drive_few (m : Option Mp) (d : Drv) (os : List FleetMath.Ord) (stops : List Stp) : (drive m d os stops).1.length ≤ 80 := by
  by_cases hb : drvE m d ≠ 0 ∨ known m os = false ∨ 80 < stops.length
  · rw [drive_bad hb]; exact Nat.zero_le _
  · unfold drive
    split
    · exact Nat.zero_le _
    · rw [if_neg hb]
      unfold driveM
      split
      · exact Nat.zero_le _
      · rename_i hr
        have := run_len hr
        split
        · exact Nat.zero_le _
        · simp only at *; omega
section
variable {m : Option Mp} {ds : List Drv} {os : List FleetMath.Ord} {p : List Rte} {k : Nat} {r : Rte} {d : Drv} {done : List (List Vis)} {X : Except (Nat × Int) (List (List Vis))}
/-- what is made of the rest, behind what is made -/
def pre (done : List (List Vis)) : Except (Nat × Int) (List (List Vis)) → Except (Nat × Int) (List (List Vis))
  | .error x => .error x
  | .ok c => .ok (done ++ c)
theorem pre_start (x : Except (Nat × Int) (List (List Vis))) : x = pre [] x := by cases x <;> rfl
theorem mk_none (h : X = pre done (makeFrom m ds os k (p.drop k))) (hp : p.drop k = r :: p.drop (k + 1)) (hd : drvOf ds r.drv = none) : X = .error (k, 8) := by
  rw [h, hp, makeFrom, hd]; rfl
theorem mk_fault (h : X = pre done (makeFrom m ds os k (p.drop k))) (hp : p.drop k = r :: p.drop (k + 1)) (hd : drvOf ds r.drv = some d) {e : Int} (he : (drive m d os r.stops).2.2 = e) (hn : e ≠ 0) : X = .error (k, e) := by
  subst he
  rw [h, hp, makeFrom, hd]
  simp only
  rw [if_pos hn]
  rfl
theorem mk_next (h : X = pre done (makeFrom m ds os k (p.drop k))) (hp : p.drop k = r :: p.drop (k + 1)) (hd : drvOf ds r.drv = some d) {vs : List Vis} {j : Nat} (he : drive m d os r.stops = (vs, j, 0)) : X = pre (done ++ [vs]) (makeFrom m ds os (k + 1) (p.drop (k + 1))) := by
  rw [h, hp, makeFrom, hd]
  simp only
  rw [he]
  simp only
  rw [if_neg (by simp)]
  cases makeFrom m ds os (k + 1) (p.drop (k + 1)) with
  | error x => rfl
  | ok c => simp [pre]
theorem mk_end (h : X = pre done (makeFrom m ds os k (p.drop k))) (hk : p.length ≤ k) : X = .ok done := by
  rw [h, List.drop_of_length_le hk, makeFrom]
  simp [pre]
theorem makeC_no (h : wellC m ds os p = false) : makeC m ds os p = ([], 0, 1) := by unfold makeC; rw [h]; rfl
theorem makeC_err {e : Int} (h : wellC m ds os p = true) (hx : makeFrom m ds os 0 p = .error (k, e)) : makeC m ds os p = ([], k, e) := by unfold makeC; rw [h, hx]; rfl
theorem makeC_ok {c : List (List Vis)} (h : wellC m ds os p = true) (hx : makeFrom m ds os 0 p = .ok c) : makeC m ds os p = (c, 0, 0) := by unfold makeC; rw [h, hx]; rfl
end
section
variable {m : Mp} {ds : List Drv} {os : List FleetMath.Ord} {p : List Rte} {k : Nat} {r : Rte} {d : Drv} {c : List (List Vis)} {v : List Vis} {X : Nat × Int}
theorem ck_none (h : X = checkFrom m ds os k (p.drop k) (c.drop k)) (hp : p.drop k = r :: p.drop (k + 1)) (hc : c.drop k = v :: c.drop (k + 1)) (hd : drvOf ds r.drv = none) : X = (k, 8) := by
  rw [h, hp, hc, checkFrom, hd]
theorem ck_fault (h : X = checkFrom m ds os k (p.drop k) (c.drop k)) (hp : p.drop k = r :: p.drop (k + 1)) (hc : c.drop k = v :: c.drop (k + 1)) (hd : drvOf ds r.drv = some d) {e : Int} (he : oneC m d os r.stops v = e) (hn : e ≠ 0) : X = (k, e) := by
  subst he
  rw [h, hp, hc, checkFrom, hd]
  simp only
  rw [if_pos hn]
theorem ck_next (h : X = checkFrom m ds os k (p.drop k) (c.drop k)) (hp : p.drop k = r :: p.drop (k + 1)) (hc : c.drop k = v :: c.drop (k + 1)) (hd : drvOf ds r.drv = some d) (he : oneC m d os r.stops v = 0) : X = checkFrom m ds os (k + 1) (p.drop (k + 1)) (c.drop (k + 1)) := by
  rw [h, hp, hc, checkFrom, hd]
  simp only
  rw [if_neg (by simpa using he)]
theorem ck_end (h : X = checkFrom m ds os k (p.drop k) (c.drop k)) (hk : p.length ≤ k) : X = (0, 0) := by
  rw [h, List.drop_of_length_le hk, checkFrom]
  simp
theorem checkC_no {m : Option Mp} (h : wellC m ds os p = false) : checkC m ds os p c = (0, 1) := by unfold checkC; rw [h]; rfl
theorem checkC_len (h : wellC (some m) ds os p = true) (hl : c.length ≠ p.length) : checkC (some m) ds os p c = (0, 4) := by unfold checkC; rw [h]; simp [hl]
theorem checkC_go (h : wellC (some m) ds os p = true) (hl : c.length = p.length) : checkC (some m) ds os p c = checkFrom m ds os 0 p c := by unfold checkC; rw [h]; simp [hl]
end
#print axioms mk_next
end Go.Proofs.Ytpigklkidagolaa.CertMath

/-
  The plain mathematics of a check, visit by visit, as a loop meets it. No program is named here.
-/
namespace Go.Proofs.Ytpigklkidagolaa.CertMath
open Go.Proofs.Ytpigklkidagolaa.GeoMath Go.Proofs.Ytpigklkidagolaa.FleetMath Go.Proofs.Ytpigklkidagolaa.PlanMath
set_option linter.unusedVariables false

/-- what comes behind a visit, or what is wrong with it -/
def followE (m : Mp) (d : Drv) (os : List FleetMath.Ord) (seen : List Stp) (st : St) (v : Vis) : Except Int St :=
  match find os v.stop.ord with
  | none => .error 8
  | some o =>
    if v.stop.drop = true ∧ Stp.mk v.stop.ord false ∉ seen then .error 17
    else if v.load ≠ loadOf o v.stop st.load ∨ d.room < loadOf o v.stop st.load then .error 14
    else match beginT (siteOf o v.stop).win (st.left + time m st.at_ (siteOf o v.stop).place) with
      | none => .error 15
      | some b =>
        if v.arrive ≠ st.left + time m st.at_ (siteOf o v.stop).place ∨ v.start ≠ b ∨ v.leave ≠ b + (siteOf o v.stop).serv ∨ d.win.to < b + (siteOf o v.stop).serv then .error 15
        else .ok ⟨(siteOf o v.stop).place, v.leave, loadOf o v.stop st.load⟩
section
variable {m : Mp} {d : Drv} {os : List FleetMath.Ord} {seen : List Stp} {st st' : St} {x : Vis} {r vs : List Vis} {v e : Int} {o : FleetMath.Ord} {b : Int} {k : Nat} {stops : List Stp}
theorem oneGo_follow : oneGo m d os seen st (x :: r) = match followE m d os seen st x with | .error e => e | .ok st' => oneGo m d os (seen ++ [x.stop]) st' r := by
  rw [oneGo_cons]
  unfold followE
  cases find os x.stop.ord with
  | none => rfl
  | some o =>
    simp only
    split
    · rfl
    split
    · rfl
    cases beginT (siteOf o x.stop).win (st.left + time m st.at_ (siteOf o x.stop).place) with
    | none => rfl
    | some b =>
      simp only
      split <;> rfl
theorem follow_none (h : find os x.stop.ord = none) : followE m d os seen st x = .error 8 := by unfold followE; rw [h]
theorem follow_first (h : find os x.stop.ord = some o) (h1 : x.stop.drop = true) (h2 : Stp.mk x.stop.ord false ∉ seen) : followE m d os seen st x = .error 17 := by unfold followE; rw [h]; simp only; rw [if_pos ⟨h1, h2⟩]
theorem follow_load (h : find os x.stop.ord = some o) (h1 : ¬(x.stop.drop = true ∧ Stp.mk x.stop.ord false ∉ seen)) (h2 : x.load ≠ loadOf o x.stop st.load ∨ d.room < loadOf o x.stop st.load) : followE m d os seen st x = .error 14 := by
  unfold followE; rw [h]; simp only; rw [if_neg h1, if_pos h2]
theorem follow_late (h : find os x.stop.ord = some o) (h1 : ¬(x.stop.drop = true ∧ Stp.mk x.stop.ord false ∉ seen)) (h2 : ¬(x.load ≠ loadOf o x.stop st.load ∨ d.room < loadOf o x.stop st.load)) (h3 : beginT (siteOf o x.stop).win (st.left + time m st.at_ (siteOf o x.stop).place) = none) : followE m d os seen st x = .error 15 := by
  unfold followE; rw [h]; simp only; rw [if_neg h1, if_neg h2, h3]
theorem follow_tardy (h : find os x.stop.ord = some o) (h1 : ¬(x.stop.drop = true ∧ Stp.mk x.stop.ord false ∉ seen)) (h2 : ¬(x.load ≠ loadOf o x.stop st.load ∨ d.room < loadOf o x.stop st.load)) (h3 : beginT (siteOf o x.stop).win (st.left + time m st.at_ (siteOf o x.stop).place) = some b)
    (h4 : x.arrive ≠ st.left + time m st.at_ (siteOf o x.stop).place ∨ x.start ≠ b ∨ x.leave ≠ b + (siteOf o x.stop).serv ∨ d.win.to < b + (siteOf o x.stop).serv) : followE m d os seen st x = .error 15 := by
  unfold followE; rw [h]; simp only; rw [if_neg h1, if_neg h2, h3]; simp only; rw [if_pos h4]
theorem follow_ok (h : find os x.stop.ord = some o) (h1 : ¬(x.stop.drop = true ∧ Stp.mk x.stop.ord false ∉ seen)) (h2 : ¬(x.load ≠ loadOf o x.stop st.load ∨ d.room < loadOf o x.stop st.load)) (h3 : beginT (siteOf o x.stop).win (st.left + time m st.at_ (siteOf o x.stop).place) = some b)
    (h4 : ¬(x.arrive ≠ st.left + time m st.at_ (siteOf o x.stop).place ∨ x.start ≠ b ∨ x.leave ≠ b + (siteOf o x.stop).serv ∨ d.win.to < b + (siteOf o x.stop).serv)) : followE m d os seen st x = .ok ⟨(siteOf o x.stop).place, x.leave, loadOf o x.stop st.load⟩ := by
  unfold followE; rw [h]; simp only; rw [if_neg h1, if_neg h2, h3]; simp only; rw [if_neg h4]
/-- behind k visits that are right: the time and the load are small -/
structure OB (st : St) (k : Nat) : Prop where
  left : 0 ≤ st.left ∧ st.left ≤ 2000000
  load : -(1000 * (k : Int)) ≤ st.load ∧ st.load ≤ 1000 * (k : Int)
theorem OB.start (hd : DrvOk m d) : OB (st0 d) 0 := by
  have hw := right_iff.1 hd.win
  exact ⟨⟨hw.1, by show d.win.fr ≤ 2000000; omega⟩, ⟨by simp [st0], by simp [st0]⟩⟩
theorem site_serv (ho : OrdOk m o) (s : Stp) : 0 ≤ (siteOf o s).serv ∧ (siteOf o s).serv ≤ 1000000 := by
  unfold siteOf
  split
  · exact ho.dropS
  · exact ho.pickS
theorem OB.next (h : OB st k) (ho : ∀ o ∈ os, OrdOk m o) (hf : followE m d os seen st x = .ok st') : OB st' (k + 1) := by
  unfold followE at hf
  split at hf
  · cases hf
  rename_i o hfo
  have hk := ho o (List.mem_of_find?_eq_some hfo)
  split at hf
  · cases hf
  split at hf
  · cases hf
  split at hf
  · cases hf
  rename_i b hb
  split at hf
  · cases hf
  rename_i h4
  injection hf with hf
  subst hf
  have h3 : x.leave = b + (siteOf o x.stop).serv := Decidable.not_not.1 fun e => h4 (Or.inr (Or.inr (Or.inl e)))
  have hw := right_iff.1 (has_iff.1 (beginT_in hb).1).1
  have hb := beginT_in hb
  have hsz := hk.size
  have hsv := site_serv hk x.stop
  refine ⟨⟨?_, ?_⟩, ?_⟩
  · simp only [h3]; omega
  · simp only [h3]; omega
  · have := h.load
    simp only [loadOf]
    split <;> constructor <;> omega
theorem og_fault (h : v = oneGo m d os seen st (x :: r)) (hf : followE m d os seen st x = .error e) : v = e := by rw [h, oneGo_follow, hf]
theorem og_next (h : v = oneGo m d os seen st (x :: r)) (hf : followE m d os seen st x = .ok st') : v = oneGo m d os (seen ++ [x.stop]) st' r := by rw [h, oneGo_follow, hf]
theorem og_end (h : v = oneGo m d os seen st []) : v = if 0 < st.load then 18 else 0 := h
theorem oneC_no (h : vs.map (·.stop) ≠ stops) : oneC m d os stops vs = 4 := by unfold oneC; rw [if_neg h]
theorem oneC_go (h : vs.map (·.stop) = stops) : oneC m d os stops vs = oneGo m d os (stops.take 0) (st0 d) (vs.drop 0) := by unfold oneC; rw [if_pos h]; rfl
end
#print axioms OB.next
end Go.Proofs.Ytpigklkidagolaa.CertMath
