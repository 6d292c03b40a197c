/-
  CertMath, CertMath2, CertMath3: one text.
-/
import Derived.Test.YtkpnmpjnpcjohaaGreatPlanMaths
import Derived.Test.YtkpnmpjnpcjohaaGreatMaths
namespace Go.Proofs.YtkpnmpjnpcjohaaGreat.CertMath
open FleetMath PlanMath
set_option linter.unusedVariables false
def drvOf (ds : List Drv) (id : Int) : Option Drv := ds.find? fun d => decide (d.id = id)
def DistD (ds : List Drv) : Prop := ds.Pairwise fun a b => a.id ≠ b.id
instance (ds : List Drv) : Decidable (DistD ds) := by unfold DistD; infer_instance
def wellC (m : Option Mp) (ds : List Drv) (os : List FleetMath.Ord) (p : List Rte) : Bool :=
  m.isSome && decide (ds.length ≤ 8) && known m os && rightP p && decide (∀ d ∈ ds, drvE m d = 0) && decide (DistD ds)
def makeFrom (m : Option Mp) (ds : List Drv) (os : List FleetMath.Ord) : Nat → List Rte → Except (Nat × Int) (List (List Vis))
  | _, [] => .ok []
  | i, r :: t =>
    match drvOf ds r.drv with
    | none => .error (i, 8)
    | some d =>
      if (drive m d os r.stops).2.2 ≠ 0 then .error (i, (drive m d os r.stops).2.2)
      else match makeFrom m ds os (i + 1) t with
        | .error x => .error x
        | .ok c => .ok ((drive m d os r.stops).1 :: c)
def makeC (m : Option Mp) (ds : List Drv) (os : List FleetMath.Ord) (p : List Rte) : List (List Vis) × Nat × Int :=
  if wellC m ds os p then
    match makeFrom m ds os 0 p with
    | .error (i, e) => ([], i, e)
    | .ok c => (c, 0, 0)
  else ([], 0, 1)
def oneGo (m : Mp) (d : Drv) (os : List FleetMath.Ord) : List Stp → St → List Vis → Int
  | _, st, [] => if 0 < st.load then 18 else 0
  | seen, st, v :: r =>
    match find os v.stop.ord with
    | none => 8
    | some o =>
      if v.stop.drop = true ∧ Stp.mk v.stop.ord false ∉ seen then 17
      else if v.load ≠ loadOf o v.stop st.load ∨ d.room < loadOf o v.stop st.load then 14
      else match beginT (siteOf o v.stop).win (st.left + time m st.at_ (siteOf o v.stop).place) with
        | none => 15
        | some b =>
          if v.arrive ≠ st.left + time m st.at_ (siteOf o v.stop).place ∨ v.start ≠ b ∨ v.leave ≠ b + (siteOf o v.stop).serv ∨ d.win.to < b + (siteOf o v.stop).serv then 15
          else oneGo m d os (seen ++ [v.stop]) ⟨(siteOf o v.stop).place, v.leave, loadOf o v.stop st.load⟩ r
def oneC (m : Mp) (d : Drv) (os : List FleetMath.Ord) (stops : List Stp) (vs : List Vis) : Int := if vs.map (·.stop) = stops then oneGo m d os [] (st0 d) vs else 4
def checkFrom (m : Mp) (ds : List Drv) (os : List FleetMath.Ord) : Nat → List Rte → List (List Vis) → Nat × Int
  | i, r :: t, v :: c =>
    match drvOf ds r.drv with
    | none => (i, 8)
    | some d => if oneC m d os r.stops v ≠ 0 then (i, oneC m d os r.stops v) else checkFrom m ds os (i + 1) t c
  | _, _, _ => (0, 0)
def checkC (m : Option Mp) (ds : List Drv) (os : List FleetMath.Ord) (p : List Rte) (c : List (List Vis)) : Nat × Int :=
  if wellC m ds os p then
    match m with
    | none => (0, 1)
    | some m' => if c.length = p.length then checkFrom m' ds os 0 p c else (0, 4)
  else (0, 1)
theorem oneGo_cons (m : Mp) (d : Drv) (os : List FleetMath.Ord) (seen : List Stp) (st : St) (v : Vis) (r : List Vis) : oneGo m d os seen st (v :: r) =
    match find os v.stop.ord with
    | none => 8
    | some o =>
      if v.stop.drop = true ∧ Stp.mk v.stop.ord false ∉ seen then 17
      else if v.load ≠ loadOf o v.stop st.load ∨ d.room < loadOf o v.stop st.load then 14
      else match beginT (siteOf o v.stop).win (st.left + time m st.at_ (siteOf o v.stop).place) with
        | none => 15
        | some b =>
          if v.arrive ≠ st.left + time m st.at_ (siteOf o v.stop).place ∨ v.start ≠ b ∨ v.leave ≠ b + (siteOf o v.stop).serv ∨ d.win.to < b + (siteOf o v.stop).serv then 15
          else oneGo m d os (seen ++ [v.stop]) ⟨(siteOf o v.stop).place, v.leave, loadOf o v.stop st.load⟩ r := rfl
theorem step_err {m : Mp} {d : Drv} {os : List FleetMath.Ord} {seen : List Stp} {st : St} {s : Stp} {e : Int} (h : FleetMath.step m d os seen st s = .error e) : e ≠ 0 := by
  unfold FleetMath.step at h
  split at h
  · injection h with h; omega
  split at h
  · injection h with h; omega
  split at h
  · injection h with h; omega
  split at h
  · injection h with h; omega
  split at h
  · injection h with h; omega
  cases h
theorem run_err {m : Mp} {d : Drv} {os : List FleetMath.Ord} {seen : List Stp} {st : St} {xs : List Stp} {k : Nat} {e : Int} (h : run m d os seen st xs = .error (k, e)) : ¬ e = 0 := by
  induction xs generalizing seen st with
  | nil => rw [run_nil] at h; cases h
  | cons s r ih =>
    rw [run_cons] at h
    split at h
    · rename_i hs
      injection h with h
      injection h with _ h
      rw [← h]
      exact step_err hs
    · split at h
      · rename_i hr
        injection h with h
        rw [h] at hr
        exact ih hr
      · cases h
theorem wellC_parts {m : Option Mp} {ds : List Drv} {os : List FleetMath.Ord} {p : List Rte} (h : wellC m ds os p = true) : ∃ m', m = some m' ∧ ds.length ≤ 8 ∧ known m os = true ∧ rightP p = true ∧ (∀ d ∈ ds, drvE m d = 0) ∧ DistD ds := by
  simp only [wellC, Bool.and_eq_true, decide_eq_true_eq] at h
  obtain ⟨⟨⟨⟨⟨h1, h2⟩, h3⟩, h4⟩, h5⟩, h6⟩ := h
  obtain ⟨m', rfl⟩ := Option.isSome_iff_exists.1 h1
  exact ⟨m', rfl, h2, h3, h4, h5, h6⟩
theorem right_stops {p : List Rte} (h : rightP p = true) : ∀ r ∈ p, r.stops.length ≤ 80 ∧ r.stops.Nodup := by
  intro r hr
  refine ⟨boundR_len (rightP_bound h hr), ?_⟩
  rw [rightP_from, Bool.and_eq_true, rightFrom_iff] at h
  have hn := h.2.2.2
  rw [List.nil_append] at hn
  exact List.Sublist.nodup (List.sublist_flatten_of_mem (List.mem_map.2 ⟨r, hr, rfl⟩) |>.trans (by rw [allS, List.flatMap_def]; exact List.Sublist.refl _)) hn
theorem makeFrom_err {m : Option Mp} {ds : List Drv} {os : List FleetMath.Ord} {p : List Rte} {i k : Nat} {e : Int} (h : makeFrom m ds os i p = .error (k, e)) : ¬ e = 0 := by
  induction p generalizing i with
  | nil => rw [makeFrom] at h; cases h
  | cons r t ih =>
    rw [makeFrom] at h
    split at h
    · injection h with h; injection h with _ h; omega
    · split at h
      · rename_i hne
        injection h with h
        injection h with _ h
        rw [← h]
        exact hne
      · split at h
        · rename_i hr
          injection h with h
          rw [h] at hr
          exact ih hr
        · cases h
end Go.Proofs.YtkpnmpjnpcjohaaGreat.CertMath

namespace Go.Proofs.YtkpnmpjnpcjohaaGreat.CertMath
open FleetMath PlanMath
set_option linter.unusedVariables false
theorem drive_few (m : Option Mp) (d : Drv) (os : List FleetMath.Ord) (stops : List Stp) : (drive m d os stops).1.length ≤ 80 := by
  by_cases hb : drvE m d ≠ 0 ∨ known m os = false ∨ 80 < stops.length
  · rw [drive_bad hb]; exact Nat.zero_le _
  · unfold drive
    split
    · exact Nat.zero_le _
    · rw [if_neg hb]
      unfold driveM
      split
      · exact Nat.zero_le _
      · rename_i hr
        have := run_len hr
        split
        · exact Nat.zero_le _
        · simp only at *; omega
section
variable {m : Option Mp} {ds : List Drv} {os : List FleetMath.Ord} {p : List Rte} {k : Nat} {r : Rte} {d : Drv} {done : List (List Vis)} {X : Except (Nat × Int) (List (List Vis))}
def pre (done : List (List Vis)) : Except (Nat × Int) (List (List Vis)) → Except (Nat × Int) (List (List Vis))
  | .error x => .error x
  | .ok c => .ok (done ++ c)
theorem pre_start (x : Except (Nat × Int) (List (List Vis))) : x = pre [] x := by cases x <;> rfl
theorem mk_none (h : X = pre done (makeFrom m ds os k (p.drop k))) (hp : p.drop k = r :: p.drop (k + 1)) (hd : drvOf ds r.drv = none) : X = .error (k, 8) := by
  rw [h, hp, makeFrom, hd]; rfl
theorem mk_fault (h : X = pre done (makeFrom m ds os k (p.drop k))) (hp : p.drop k = r :: p.drop (k + 1)) (hd : drvOf ds r.drv = some d) {e : Int} (he : (drive m d os r.stops).2.2 = e) (hn : e ≠ 0) : X = .error (k, e) := by
  subst he
  rw [h, hp, makeFrom, hd]
  simp only
  rw [if_pos hn]
  rfl
theorem mk_next (h : X = pre done (makeFrom m ds os k (p.drop k))) (hp : p.drop k = r :: p.drop (k + 1)) (hd : drvOf ds r.drv = some d) {vs : List Vis} {j : Nat} (he : drive m d os r.stops = (vs, j, 0)) : X = pre (done ++ [vs]) (makeFrom m ds os (k + 1) (p.drop (k + 1))) := by
  rw [h, hp, makeFrom, hd]
  simp only
  rw [he]
  simp only
  rw [if_neg (by simp)]
  cases makeFrom m ds os (k + 1) (p.drop (k + 1)) with
  | error x => rfl
  | ok c => simp [pre]
theorem mk_end (h : X = pre done (makeFrom m ds os k (p.drop k))) (hk : p.length ≤ k) : X = .ok done := by
  rw [h, List.drop_of_length_le hk, makeFrom]
  simp [pre]
theorem makeC_no (h : wellC m ds os p = false) : makeC m ds os p = ([], 0, 1) := by unfold makeC; rw [h]; rfl
theorem makeC_err {e : Int} (h : wellC m ds os p = true) (hx : makeFrom m ds os 0 p = .error (k, e)) : makeC m ds os p = ([], k, e) := by unfold makeC; rw [h, hx]; rfl
theorem makeC_ok {c : List (List Vis)} (h : wellC m ds os p = true) (hx : makeFrom m ds os 0 p = .ok c) : makeC m ds os p = (c, 0, 0) := by unfold makeC; rw [h, hx]; rfl
end
section
variable {m : Mp} {ds : List Drv} {os : List FleetMath.Ord} {p : List Rte} {k : Nat} {r : Rte} {d : Drv} {c : List (List Vis)} {v : List Vis} {X : Nat × Int}
theorem ck_none (h : X = checkFrom m ds os k (p.drop k) (c.drop k)) (hp : p.drop k = r :: p.drop (k + 1)) (hc : c.drop k = v :: c.drop (k + 1)) (hd : drvOf ds r.drv = none) : X = (k, 8) := by
  rw [h, hp, hc, checkFrom, hd]
theorem ck_fault (h : X = checkFrom m ds os k (p.drop k) (c.drop k)) (hp : p.drop k = r :: p.drop (k + 1)) (hc : c.drop k = v :: c.drop (k + 1)) (hd : drvOf ds r.drv = some d) {e : Int} (he : oneC m d os r.stops v = e) (hn : e ≠ 0) : X = (k, e) := by
  subst he
  rw [h, hp, hc, checkFrom, hd]
  simp only
  rw [if_pos hn]
theorem ck_next (h : X = checkFrom m ds os k (p.drop k) (c.drop k)) (hp : p.drop k = r :: p.drop (k + 1)) (hc : c.drop k = v :: c.drop (k + 1)) (hd : drvOf ds r.drv = some d) (he : oneC m d os r.stops v = 0) : X = checkFrom m ds os (k + 1) (p.drop (k + 1)) (c.drop (k + 1)) := by
  rw [h, hp, hc, checkFrom, hd]
  simp only
  rw [if_neg (by simpa using he)]
theorem ck_end (h : X = checkFrom m ds os k (p.drop k) (c.drop k)) (hk : p.length ≤ k) : X = (0, 0) := by
  rw [h, List.drop_of_length_le hk, checkFrom]
  simp
theorem checkC_no {m : Option Mp} (h : wellC m ds os p = false) : checkC m ds os p c = (0, 1) := by unfold checkC; rw [h]; rfl
theorem checkC_len (h : wellC (some m) ds os p = true) (hl : c.length ≠ p.length) : checkC (some m) ds os p c = (0, 4) := by unfold checkC; rw [h]; simp [hl]
theorem checkC_go (h : wellC (some m) ds os p = true) (hl : c.length = p.length) : checkC (some m) ds os p c = checkFrom m ds os 0 p c := by unfold checkC; rw [h]; simp [hl]
end
end Go.Proofs.YtkpnmpjnpcjohaaGreat.CertMath

namespace Go.Proofs.YtkpnmpjnpcjohaaGreat.CertMath
open GeoMath FleetMath PlanMath
set_option linter.unusedVariables false
def followE (m : Mp) (d : Drv) (os : List FleetMath.Ord) (seen : List Stp) (st : St) (v : Vis) : Except Int St :=
  match find os v.stop.ord with
  | none => .error 8
  | some o =>
    if v.stop.drop = true ∧ Stp.mk v.stop.ord false ∉ seen then .error 17
    else if v.load ≠ loadOf o v.stop st.load ∨ d.room < loadOf o v.stop st.load then .error 14
    else match beginT (siteOf o v.stop).win (st.left + time m st.at_ (siteOf o v.stop).place) with
      | none => .error 15
      | some b =>
        if v.arrive ≠ st.left + time m st.at_ (siteOf o v.stop).place ∨ v.start ≠ b ∨ v.leave ≠ b + (siteOf o v.stop).serv ∨ d.win.to < b + (siteOf o v.stop).serv then .error 15
        else .ok ⟨(siteOf o v.stop).place, v.leave, loadOf o v.stop st.load⟩
section
variable {m : Mp} {d : Drv} {os : List FleetMath.Ord} {seen : List Stp} {st st' : St} {x : Vis} {r vs : List Vis} {v e : Int} {o : FleetMath.Ord} {b : Int} {k : Nat} {stops : List Stp}
theorem oneGo_follow : oneGo m d os seen st (x :: r) = match followE m d os seen st x with | .error e => e | .ok st' => oneGo m d os (seen ++ [x.stop]) st' r := by
  rw [oneGo_cons]
  unfold followE
  cases find os x.stop.ord with
  | none => rfl
  | some o =>
    simp only
    split
    · rfl
    split
    · rfl
    cases beginT (siteOf o x.stop).win (st.left + time m st.at_ (siteOf o x.stop).place) with
    | none => rfl
    | some b =>
      simp only
      split <;> rfl
theorem follow_none (h : find os x.stop.ord = none) : followE m d os seen st x = .error 8 := by unfold followE; rw [h]
theorem follow_first (h : find os x.stop.ord = some o) (h1 : x.stop.drop = true) (h2 : Stp.mk x.stop.ord false ∉ seen) : followE m d os seen st x = .error 17 := by unfold followE; rw [h]; simp only; rw [if_pos ⟨h1, h2⟩]
theorem follow_load (h : find os x.stop.ord = some o) (h1 : ¬(x.stop.drop = true ∧ Stp.mk x.stop.ord false ∉ seen)) (h2 : x.load ≠ loadOf o x.stop st.load ∨ d.room < loadOf o x.stop st.load) : followE m d os seen st x = .error 14 := by
  unfold followE; rw [h]; simp only; rw [if_neg h1, if_pos h2]
theorem follow_late (h : find os x.stop.ord = some o) (h1 : ¬(x.stop.drop = true ∧ Stp.mk x.stop.ord false ∉ seen)) (h2 : ¬(x.load ≠ loadOf o x.stop st.load ∨ d.room < loadOf o x.stop st.load)) (h3 : beginT (siteOf o x.stop).win (st.left + time m st.at_ (siteOf o x.stop).place) = none) : followE m d os seen st x = .error 15 := by
  unfold followE; rw [h]; simp only; rw [if_neg h1, if_neg h2, h3]
theorem follow_tardy (h : find os x.stop.ord = some o) (h1 : ¬(x.stop.drop = true ∧ Stp.mk x.stop.ord false ∉ seen)) (h2 : ¬(x.load ≠ loadOf o x.stop st.load ∨ d.room < loadOf o x.stop st.load)) (h3 : beginT (siteOf o x.stop).win (st.left + time m st.at_ (siteOf o x.stop).place) = some b)
    (h4 : x.arrive ≠ st.left + time m st.at_ (siteOf o x.stop).place ∨ x.start ≠ b ∨ x.leave ≠ b + (siteOf o x.stop).serv ∨ d.win.to < b + (siteOf o x.stop).serv) : followE m d os seen st x = .error 15 := by
  unfold followE; rw [h]; simp only; rw [if_neg h1, if_neg h2, h3]; simp only; rw [if_pos h4]
theorem follow_ok (h : find os x.stop.ord = some o) (h1 : ¬(x.stop.drop = true ∧ Stp.mk x.stop.ord false ∉ seen)) (h2 : ¬(x.load ≠ loadOf o x.stop st.load ∨ d.room < loadOf o x.stop st.load)) (h3 : beginT (siteOf o x.stop).win (st.left + time m st.at_ (siteOf o x.stop).place) = some b)
    (h4 : ¬(x.arrive ≠ st.left + time m st.at_ (siteOf o x.stop).place ∨ x.start ≠ b ∨ x.leave ≠ b + (siteOf o x.stop).serv ∨ d.win.to < b + (siteOf o x.stop).serv)) : followE m d os seen st x = .ok ⟨(siteOf o x.stop).place, x.leave, loadOf o x.stop st.load⟩ := by
  unfold followE; rw [h]; simp only; rw [if_neg h1, if_neg h2, h3]; simp only; rw [if_neg h4]
structure OB (st : St) (k : Nat) : Prop where
  left : 0 ≤ st.left ∧ st.left ≤ 2000000
  load : -(1000 * (k : Int)) ≤ st.load ∧ st.load ≤ 1000 * (k : Int)
theorem OB.start (hd : DrvOk m d) : OB (st0 d) 0 := by
  have hw := right_iff.1 hd.win
  exact ⟨⟨hw.1, by show d.win.fr ≤ 2000000; omega⟩, ⟨by simp [st0], by simp [st0]⟩⟩
theorem site_serv (ho : OrdOk m o) (s : Stp) : 0 ≤ (siteOf o s).serv ∧ (siteOf o s).serv ≤ 1000000 := by
  unfold siteOf
  split
  · exact ho.dropS
  · exact ho.pickS
theorem OB.next (h : OB st k) (ho : ∀ o ∈ os, OrdOk m o) (hf : followE m d os seen st x = .ok st') : OB st' (k + 1) := by
  unfold followE at hf
  split at hf
  · cases hf
  rename_i o hfo
  have hk := ho o (List.mem_of_find?_eq_some hfo)
  split at hf
  · cases hf
  split at hf
  · cases hf
  split at hf
  · cases hf
  rename_i b hb
  split at hf
  · cases hf
  rename_i h4
  injection hf with hf
  subst hf
  have h3 : x.leave = b + (siteOf o x.stop).serv := Decidable.not_not.1 fun e => h4 (Or.inr (Or.inr (Or.inl e)))
  have hw := right_iff.1 (has_iff.1 (beginT_in hb).1).1
  have hb := beginT_in hb
  have hsz := hk.size
  have hsv := site_serv hk x.stop
  refine ⟨⟨?_, ?_⟩, ?_⟩
  · simp only [h3]; omega
  · simp only [h3]; omega
  · have := h.load
    simp only [loadOf]
    split <;> constructor <;> omega
theorem og_fault (h : v = oneGo m d os seen st (x :: r)) (hf : followE m d os seen st x = .error e) : v = e := by rw [h, oneGo_follow, hf]
theorem og_next (h : v = oneGo m d os seen st (x :: r)) (hf : followE m d os seen st x = .ok st') : v = oneGo m d os (seen ++ [x.stop]) st' r := by rw [h, oneGo_follow, hf]
theorem og_end (h : v = oneGo m d os seen st []) : v = if 0 < st.load then 18 else 0 := h
theorem oneC_no (h : vs.map (·.stop) ≠ stops) : oneC m d os stops vs = 4 := by unfold oneC; rw [if_neg h]
theorem oneC_go (h : vs.map (·.stop) = stops) : oneC m d os stops vs = oneGo m d os (stops.take 0) (st0 d) (vs.drop 0) := by unfold oneC; rw [if_pos h]; rfl
end
end Go.Proofs.YtkpnmpjnpcjohaaGreat.CertMath
