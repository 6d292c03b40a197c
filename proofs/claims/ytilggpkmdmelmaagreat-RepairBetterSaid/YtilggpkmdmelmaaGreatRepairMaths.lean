/-
  RepairMath, RepairMath2, RepairMath3, RepairMath4, RepairMath5, RepairMath6: one text.
-/
import Derived.Test.YtilggpkmdmelmaaGreatInsertMaths
import Derived.Test.YtilggpkmdmelmaaGreatAuditMaths
import Derived.Test.YtilggpkmdmelmaaGreatPlanMaths
import Derived.Test.YtilggpkmdmelmaaGreatInsertRs
import Derived.KernelRfl
namespace Go.Proofs.YtilggpkmdmelmaaGreat.RepairMath
open Go.Proofs.YtilggpkmdmelmaaGreat.GeoMath Go.Proofs.YtilggpkmdmelmaaGreat.FleetMath Go.Proofs.YtilggpkmdmelmaaGreat.PlanMath Go.Proofs.YtilggpkmdmelmaaGreat.CertMath Go.Proofs.YtilggpkmdmelmaaGreat.AuditMath Go.Proofs.YtilggpkmdmelmaaGreat.InsertMath
set_option linter.unusedVariables false
def costR (m : Option Mp) (ds : List Drv) (os : List FleetMath.Ord) (r : Rte) : Int :=
  match drvOf ds r.drv with
  | none => 0
  | some d => (cost m d os r.stops).getD 0
def totalS (m : Option Mp) (ds : List Drv) (os : List FleetMath.Ord) (p : List Rte) : Int := (p.map (costR m ds os)).sum
def totalM (m : Option Mp) (ds : List Drv) (os : List FleetMath.Ord) (p : List Rte) : Option Int := if (makeC m ds os p).2.2 = 0 then some (totalS m ds os p) else none
theorem totalM_some {m : Option Mp} {ds : List Drv} {os : List FleetMath.Ord} {p : List Rte} {t : Int} (h : totalM m ds os p = some t) : (makeC m ds os p).2.2 = 0 ∧ t = totalS m ds os p := by
  unfold totalM at h
  split at h
  · injection h with h; exact ⟨by assumption, h.symm⟩
  · cases h
structure PSt where
  out : List Rte
  total : Int
  steps : Nat
def othersM (os : List FleetMath.Ord) (i : Int) : List FleetMath.Ord := os.filter fun o => !decide (o.id = i)
def movedM (m : Option Mp) (ds : List Drv) (os : List FleetMath.Ord) (p : List Rte) (i : Int) (b : Int) : Option (List Rte) × Nat :=
  match find os i with
  | none => (none, 0)
  | some o =>
    if (findP p i).isSome = false ∨ begunP p i = true then (none, 0)
    else match cheapM m ds (othersM os i) (withoutP p [i]) o b with
      | (s, n, e) => (if e = 0 then withP (withoutP p [i]) i ⟨s.drv, s.pick, s.drop⟩ else none, n.toNat)
def passStep (m : Option Mp) (ds : List Drv) (os : List FleetMath.Ord) (b : Nat) (st : PSt) (i : Int) : PSt :=
  if b ≤ st.steps then st
  else match movedM m ds os st.out i ((b - st.steps : Nat) : Int) with
    | (none, n) => ⟨st.out, st.total, st.steps + n⟩
    | (some q, n) => match totalM m ds os q with
      | none => ⟨st.out, st.total, st.steps + n⟩
      | some t => if t < st.total then ⟨q, t, st.steps + n⟩ else ⟨st.out, st.total, st.steps + n⟩
def idsM (os : List FleetMath.Ord) : List Int := (os.map (·.id)).mergeSort fun x y => decide (x ≤ y)
def passGo (m : Option Mp) (ds : List Drv) (os : List FleetMath.Ord) (b : Nat) (st : PSt) : PSt := (idsM os).foldl (passStep m ds os b) st
def passM (m : Option Mp) (ds : List Drv) (os : List FleetMath.Ord) (p : List Rte) (b : Int) : Option (List Rte × Nat) :=
  match totalM m ds os p with
  | none => none
  | some t => if b < 0 ∨ 100000 < b then none else let r := passGo m ds os b.toNat ⟨p, t, 0⟩; some (r.out, r.steps)
section
variable {m : Option Mp} {ds : List Drv} {os : List FleetMath.Ord} {p q : List Rte} {b c : Nat} {st : PSt} {i : Int}
theorem cheap_steps {o : FleetMath.Ord} {b : Int} {s : Sp4} {n e : Int} (h : cheapM m ds os p o b = (s, n, e)) (hb : 0 ≤ b) : 0 ≤ n ∧ n ≤ b := by
  unfold cheapM at h
  split at h
  · injection h with _ h; injection h with h _; omega
  · have hl := goOn_le (b := b.toNat) (s := (none, 0)) (Nat.zero_le _) (p.flatMap (candD m ds os o))
    unfold toldM at h
    split at h
    all_goals
      injection h with _ h
      injection h with h _
      omega
theorem moved_steps {n : Nat} {x : Option (List Rte)} {b : Nat} (h : movedM m ds os p i (b : Int) = (x, n)) : n ≤ b := by
  unfold movedM at h
  split at h
  · injection h with _ h; omega
  · split at h
    · injection h with _ h; omega
    · rename_i o _ _
      obtain ⟨⟨s, k, e⟩, hc⟩ : ∃ z, cheapM m ds (othersM os i) (withoutP p [i]) o (b : Int) = z := ⟨_, rfl⟩
      rw [hc] at h
      simp only at h
      injection h with _ h
      have := cheap_steps hc (by omega)
      omega
theorem moved_more {n : Nat} {x : Option (List Rte)} {b c : Nat} (h : movedM m ds os p i (b : Int) = (x, n)) (hn : n < b) (hbc : b ≤ c) (hc : c ≤ 100000) : movedM m ds os p i (c : Int) = (x, n) := by
  unfold movedM at h ⊢
  split at h
  · exact h
  · split at h
    · rename_i o h1 h2
      simp only [h1] at *
      rw [if_pos h2]
      exact h
    · rename_i o h1 h2
      simp only [h1] at *
      rw [if_neg h2]
      obtain ⟨⟨s, k, e⟩, hA⟩ : ∃ z, cheapM m ds (othersM os i) (withoutP p [i]) o (b : Int) = z := ⟨_, rfl⟩
      obtain ⟨⟨t, l, f⟩, hB⟩ : ∃ z, cheapM m ds (othersM os i) (withoutP p [i]) o (c : Int) = z := ⟨_, rfl⟩
      rw [hA] at h
      rw [hB]
      simp only at h ⊢
      injection h with h3 h4
      have hk := cheap_steps hA (by omega)
      have hsame : (t, l, f) = (s, k, e) := by
        rw [← hA, ← hB]
        unfold cheapM
        have hbad : cheapBad m ds (othersM os i) (withoutP p [i]) o (b : Int) ↔ cheapBad m ds (othersM os i) (withoutP p [i]) o (c : Int) := by
          unfold cheapBad
          constructor
          · rintro (h | h | h | h | h)
            · exact .inl h
            · exact .inr (.inl h)
            · exact .inr (.inr (.inl h))
            · omega
            · omega
          · rintro (h | h | h | h | h)
            · exact .inl h
            · exact .inr (.inl h)
            · exact .inr (.inr (.inl h))
            · omega
            · omega
        by_cases h5 : cheapBad m ds (othersM os i) (withoutP p [i]) o (b : Int)
        · rw [if_pos h5, if_pos (hbad.1 h5)]
        · rw [if_neg h5, if_neg (fun h => h5 (hbad.2 h))]
          have hg : goOn (b : Int).toNat (none, 0) ((withoutP p [i]).flatMap (candD m ds (othersM os i) o)) = goOn (c : Int).toNat (none, 0) ((withoutP p [i]).flatMap (candD m ds (othersM os i) o)) := by
            unfold cheapM at hA
            rw [if_neg h5] at hA
            obtain ⟨L, hL⟩ : ∃ L, (withoutP p [i]).flatMap (candD m ds (othersM os i) o) = L := ⟨_, rfl⟩
            rw [hL] at hA ⊢
            have hlen : L.length < b := by
              unfold toldM goOn at hA
              simp only [Int.toNat_natCast, Nat.sub_zero, Nat.zero_add] at hA
              split at hA <;> injection hA with _ hA <;> injection hA with hA _ <;> omega
            unfold goOn
            simp only [Int.toNat_natCast, Nat.sub_zero, Nat.zero_add]
            rw [List.take_of_length_le (by omega), List.take_of_length_le (by omega)]
            congr 1
            omega
          rw [hg]
      injection hsame with h5 h6
      injection h6 with h6 h7
      subst h5
      subst h6
      subst h7
      rw [h3, h4]
end
end Go.Proofs.YtilggpkmdmelmaaGreat.RepairMath

namespace Go.Proofs.YtilggpkmdmelmaaGreat.RepairMath
open Go.Proofs.YtilggpkmdmelmaaGreat.GeoMath Go.Proofs.YtilggpkmdmelmaaGreat.FleetMath Go.Proofs.YtilggpkmdmelmaaGreat.PlanMath Go.Proofs.YtilggpkmdmelmaaGreat.CertMath Go.Proofs.YtilggpkmdmelmaaGreat.AuditMath Go.Proofs.YtilggpkmdmelmaaGreat.InsertMath
set_option linter.unusedVariables false
section
variable {m : Option Mp} {ds : List Drv} {os : List FleetMath.Ord} {p q : List Rte} {b c : Nat} {st : PSt} {i : Int}
theorem without_mem {y : Int} (hb : begunP p i = false) : y ∈ (allS (withoutP p [i])).map (·.ord) ↔ y ≠ i ∧ y ∈ (allS p).map (·.ord) := by
  simp only [allS, withoutP, List.mem_map, List.mem_flatMap]
  constructor
  · rintro ⟨s, ⟨r', ⟨r, hr, rfl⟩, hs⟩, rfl⟩
    simp only [List.mem_filter, Bool.or_eq_true, Bool.not_eq_true', decide_eq_false_iff_not, List.mem_singleton] at hs
    refine ⟨fun e => ?_, s, ⟨r, hr, hs.1⟩, rfl⟩
    rcases hs.2 with h | h
    · exact h e
    · rw [e, hb] at h; cases h
  · rintro ⟨hy, s, ⟨r, hr, hs⟩, rfl⟩
    refine ⟨s, ⟨_, ⟨r, hr, rfl⟩, ?_⟩, rfl⟩
    simp only [List.mem_filter, Bool.or_eq_true, Bool.not_eq_true', decide_eq_false_iff_not, List.mem_singleton]
    exact ⟨hs, .inl hy⟩
theorem moved_some {b : Int} {n : Nat} (h : movedM m ds os p i b = (some q, n)) : begunP p i = false ∧ (findP p i).isSome = true ∧ (∃ s, withP (withoutP p [i]) i s = some q) ∧ 1 ≤ n := by
  unfold movedM at h
  split at h
  · injection h with h _; cases h
  · split at h
    · injection h with h _; cases h
    · rename_i o _ hn
      obtain ⟨⟨s, k, e⟩, hc⟩ : ∃ z, cheapM m ds (othersM os i) (withoutP p [i]) o b = z := ⟨_, rfl⟩
      rw [hc] at h
      simp only at h
      injection h with h1 h2
      split at h1
      · rename_i he
        subst he
        refine ⟨by cases hb : begunP p i with | false => rfl | true => exact absurd (.inr hb) hn, by cases hb : (findP p i).isSome with | true => rfl | false => exact absurd (.inl hb) hn, ⟨_, h1⟩, ?_⟩
        unfold cheapM at hc
        split at hc
        · injection hc with _ hc; injection hc with _ hc; cases hc
        · rw [goOn_start] at hc
          unfold toldM at hc
          split at hc
          · injection hc with _ hc; injection hc with _ hc; cases hc
          · rename_i x hx
            injection hc with _ hc
            injection hc with hc _
            obtain ⟨L, hL⟩ : ∃ L, (withoutP p [i]).flatMap (candD m ds (othersM os i) o) = L := ⟨_, rfl⟩
            rw [hL] at hx hc
            have h0 : min b.toNat L.length ≠ 0 := by
              intro h0
              have : L.take b.toNat = [] := by
                apply List.eq_nil_of_length_eq_zero
                rw [List.length_take]; exact h0
              simp only [this] at hx
              simp [bestOf] at hx
            simp only at hc
            omega
      · cases h1
theorem moved_orders {b : Int} {n : Nat} (h : movedM m ds os p i b = (some q, n)) : ordersM q = ordersM p := by
  obtain ⟨hb, hf, ⟨s, hw⟩, _⟩ := moved_some h
  obtain ⟨k, x, hW, rfl⟩ := withP_some hw
  refine ordersM_eq (ordersM_all _).1 fun y => ((ordersM_all _).2 y).trans ((hW.allMem y).trans ?_)
  rw [without_mem hb]
  constructor
  · rintro (rfl | h)
    · cases hn : findP p y with
      | none => rw [hn] at hf; cases hf
      | some z =>
        refine Classical.byContradiction fun hm => ?_
        have : findP p y = none := findP_none.2 fun x hx s hs e => hm (List.mem_map.2 ⟨s, List.mem_flatMap.2 ⟨x, hx, hs⟩, e⟩)
        rw [hn] at this
        cases this
    · exact h.2
  · intro hy
    by_cases e : y = i
    · exact .inl e
    · exact .inr ⟨e, hy⟩
theorem moved_kept {b : Int} {n : Nat} (h : movedM m ds os p i b = (some q, n)) (hr : rightP p = true) : keptP p q = true := by
  obtain ⟨_, _, ⟨s, hw⟩, _⟩ := moved_some h
  exact keptP_trans (keptP_without hr) (keptP_with hw).1
theorem total_right {t : Int} (h : totalM m ds os p = some t) : rightP p = true := by
  have h0 := (totalM_some h).1
  unfold makeC at h0
  split at h0
  · rename_i hw
    simp only [wellC, Bool.and_eq_true] at hw
    exact hw.1.1.2
  · cases h0
structure PInv (m : Option Mp) (ds : List Drv) (os : List FleetMath.Ord) (p : List Rte) (t : Int) (b : Nat) (st : PSt) : Prop where
  total : totalM m ds os st.out = some st.total
  kept : keptP p st.out = true
  orders : ordersM st.out = ordersM p
  le : st.total ≤ t
  same : st.out ≠ p → st.total < t
  steps : st.steps ≤ b
theorem PInv.start {t : Int} (h : totalM m ds os p = some t) : PInv m ds os p t b ⟨p, t, 0⟩ :=
  ⟨h, by rw [keptP_self]; exact total_right h, rfl, by simp, fun h => absurd rfl h, Nat.zero_le _⟩
theorem passStep_cases (m : Option Mp) (ds : List Drv) (os : List FleetMath.Ord) (b : Nat) (st : PSt) (i : Int) :
    (b ≤ st.steps ∧ passStep m ds os b st i = st) ∨
    (st.steps < b ∧ ∃ x n, movedM m ds os st.out i ((b - st.steps : Nat) : Int) = (x, n) ∧
      ((passStep m ds os b st i = ⟨st.out, st.total, st.steps + n⟩ ∧ ∀ q t, x = some q → totalM m ds os q = some t → ¬ t < st.total) ∨
       ∃ q t, x = some q ∧ totalM m ds os q = some t ∧ t < st.total ∧ passStep m ds os b st i = ⟨q, t, st.steps + n⟩)) := by
  unfold passStep
  split
  · exact .inl ⟨by assumption, rfl⟩
  · refine .inr ⟨by omega, ?_⟩
    obtain ⟨⟨x, n⟩, hx⟩ : ∃ z, movedM m ds os st.out i ((b - st.steps : Nat) : Int) = z := ⟨_, rfl⟩
    rw [hx]
    refine ⟨x, n, rfl, ?_⟩
    cases x with
    | none => exact .inl ⟨rfl, fun q t h => by cases h⟩
    | some q =>
      simp only
      cases ht : totalM m ds os q with
      | none => exact .inl ⟨rfl, fun q' t h h2 => by injection h with h; subst h; rw [ht] at h2; cases h2⟩
      | some t =>
        simp only
        by_cases hl : t < st.total
        · rw [if_pos hl]; exact .inr ⟨q, t, rfl, ht, hl, rfl⟩
        · rw [if_neg hl]
          refine .inl ⟨rfl, fun q' t' h h2 => ?_⟩
          injection h with h; subst h; rw [ht] at h2; injection h2 with h2; subst h2; exact hl
theorem PInv.step {t : Int} (h : PInv m ds os p t b st) (i : Int) : PInv m ds os p t b (passStep m ds os b st i) := by
  rcases passStep_cases m ds os b st i with ⟨_, e⟩ | ⟨hb, x, n, hm, ⟨e, _⟩ | ⟨q, t', rfl, ht, hl, e⟩⟩
  · rw [e]; exact h
  · rw [e]
    have := moved_steps hm
    exact ⟨h.total, h.kept, h.orders, h.le, h.same, by show st.steps + n ≤ b; omega⟩
  · rw [e]
    have := moved_steps hm
    have hle := h.le
    exact ⟨ht, keptP_trans h.kept (moved_kept hm (total_right h.total)), (moved_orders hm).trans h.orders, by show t' ≤ t; omega, fun _ => by show t' < t; omega, by show st.steps + n ≤ b; omega⟩
theorem PInv.fold {t : Int} (l : List Int) (h : PInv m ds os p t b st) : PInv m ds os p t b (l.foldl (passStep m ds os b) st) := by
  induction l generalizing st with
  | nil => exact h
  | cons x r ih => exact ih (h.step x)
theorem passGo_inv {t : Int} (h : totalM m ds os p = some t) : PInv m ds os p t b (passGo m ds os b ⟨p, t, 0⟩) := (PInv.start h).fold _
theorem step_more (i : Int) : st.steps ≤ (passStep m ds os b st i).steps := by
  rcases passStep_cases m ds os b st i with ⟨_, e⟩ | ⟨hb, x, n, hm, ⟨e, _⟩ | ⟨q, t', rfl, ht, hl, e⟩⟩
  · rw [e]; exact Nat.le_refl _
  · rw [e]; exact Nat.le_add_right _ _
  · rw [e]; exact Nat.le_add_right _ _
theorem fold_more (l : List Int) : st.steps ≤ (l.foldl (passStep m ds os b) st).steps := by
  induction l generalizing st with
  | nil => exact Nat.le_refl _
  | cons x r ih => exact Nat.le_trans (step_more x) ih
theorem step_budget (h : (passStep m ds os b st i).steps < b) (hbc : b ≤ c) (hc : c ≤ 100000) : passStep m ds os c st i = passStep m ds os b st i := by
  have hs := step_more (m := m) (ds := ds) (os := os) (b := b) (st := st) i
  obtain ⟨⟨x, n⟩, hx⟩ : ∃ z, movedM m ds os st.out i ((b - st.steps : Nat) : Int) = z := ⟨_, rfl⟩
  have hn : n < b - st.steps := by
    rcases passStep_cases m ds os b st i with ⟨h1, e⟩ | ⟨hb, x', n', hm, ⟨e, _⟩ | ⟨q, t', rfl, ht, hl, e⟩⟩
    · omega
    · rw [hx] at hm; injection hm with _ hm; subst hm
      rw [e] at h; simp only at h; omega
    · rw [hx] at hm; injection hm with _ hm; subst hm
      rw [e] at h; simp only at h; omega
  have hy := moved_more hx hn (c := c - st.steps) (by omega) (by omega)
  unfold passStep
  rw [if_neg (by omega), if_neg (by omega), hx, hy]
theorem fold_budget (l : List Int) (h : (l.foldl (passStep m ds os b) st).steps < b) (hbc : b ≤ c) (hc : c ≤ 100000) : l.foldl (passStep m ds os c) st = l.foldl (passStep m ds os b) st := by
  induction l generalizing st with
  | nil => rfl
  | cons x r ih =>
    rw [List.foldl_cons] at h
    have := fold_more (m := m) (ds := ds) (os := os) (b := b) (st := passStep m ds os b st x) r
    rw [List.foldl_cons, List.foldl_cons, step_budget (by omega) hbc hc]
    exact ih h
theorem passGo_budget (h : (passGo m ds os b st).steps < b) (hbc : b ≤ c) (hc : c ≤ 100000) : passGo m ds os c st = passGo m ds os b st := fold_budget _ h hbc hc
theorem step_changed (h : (passStep m ds os b st i).out ≠ st.out) : st.steps < (passStep m ds os b st i).steps := by
  rcases passStep_cases m ds os b st i with ⟨h1, e⟩ | ⟨hb, x, n, hm, ⟨e, _⟩ | ⟨q, t', rfl, ht, hl, e⟩⟩
  · rw [e] at h; exact absurd rfl h
  · rw [e] at h; exact absurd rfl h
  · rw [e]
    have := (moved_some hm).2.2.2
    show st.steps < st.steps + n
    omega
theorem fold_changed (l : List Int) (h : (l.foldl (passStep m ds os b) st).out ≠ st.out) : st.steps < (l.foldl (passStep m ds os b) st).steps := by
  induction l generalizing st with
  | nil => exact absurd rfl h
  | cons x r ih =>
    rw [List.foldl_cons] at h ⊢
    by_cases hx : (passStep m ds os b st x).out = st.out
    · exact Nat.lt_of_le_of_lt (step_more x) (ih (by rw [hx]; exact h))
    · exact Nat.lt_of_lt_of_le (step_changed hx) (fold_more r)
end
end Go.Proofs.YtilggpkmdmelmaaGreat.RepairMath

namespace Go.Proofs.YtilggpkmdmelmaaGreat.RepairMath
open Go.Proofs.YtilggpkmdmelmaaGreat.GeoMath Go.Proofs.YtilggpkmdmelmaaGreat.FleetMath Go.Proofs.YtilggpkmdmelmaaGreat.PlanMath Go.Proofs.YtilggpkmdmelmaaGreat.CertMath Go.Proofs.YtilggpkmdmelmaaGreat.AuditMath Go.Proofs.YtilggpkmdmelmaaGreat.InsertMath
set_option linter.unusedVariables false
structure RSt where
  out : List Rte
  steps : Nat
  passes : Nat
instance : DecidableEq Rte := fun a b => decidable_of_iff (a.drv = b.drv ∧ a.served = b.served ∧ a.stops = b.stops)
  ⟨fun h => by cases a; cases b; simp only at h; obtain ⟨rfl, rfl, rfl⟩ := h; rfl, fun h => by subst h; exact ⟨rfl, rfl, rfl⟩⟩
def passR (m : Option Mp) (ds : List Drv) (os : List FleetMath.Ord) (b : Nat) (s : RSt) : PSt := passGo m ds os (b - s.steps) ⟨s.out, totalS m ds os s.out, 0⟩
def repairGo (m : Option Mp) (ds : List Drv) (os : List FleetMath.Ord) (b : Nat) : Nat → RSt → RSt
  | 0, s => s
  | k + 1, s =>
    if b ≤ s.steps then s
    else if (passR m ds os b s).out = s.out then ⟨s.out, s.steps + (passR m ds os b s).steps, s.passes + 1⟩
    else repairGo m ds os b k ⟨(passR m ds os b s).out, s.steps + (passR m ds os b s).steps, s.passes + 1⟩
def repairM (m : Option Mp) (ds : List Drv) (os : List FleetMath.Ord) (p : List Rte) (b : Int) : Option RSt :=
  match totalM m ds os p with
  | none => none
  | some _ => if b < 0 ∨ 100000 < b then none else some (repairGo m ds os b.toNat (b.toNat + 1) ⟨p, 0, 0⟩)
section
variable {m : Option Mp} {ds : List Drv} {os : List FleetMath.Ord} {p q : List Rte} {b c : Nat} {s : RSt} {k : Nat} {t : Int}
theorem repair_stop (h : b ≤ s.steps) : repairGo m ds os b k s = s := by
  cases k with
  | zero => rfl
  | succ k => rw [repairGo, if_pos h]
theorem repair_rest (h : s.steps < b) (hk : 0 < k) (ho : (passR m ds os b s).out = s.out) : repairGo m ds os b k s = ⟨s.out, s.steps + (passR m ds os b s).steps, s.passes + 1⟩ := by
  cases k with
  | zero => omega
  | succ k => rw [repairGo, if_neg (by omega), if_pos ho]
theorem repair_next (h : s.steps < b) (ho : (passR m ds os b s).out ≠ s.out) : repairGo m ds os b (k + 1) s = repairGo m ds os b k ⟨(passR m ds os b s).out, s.steps + (passR m ds os b s).steps, s.passes + 1⟩ := by
  rw [repairGo, if_neg (by omega), if_neg ho]
theorem passR_changed (ho : (passR m ds os b s).out ≠ s.out) : 0 < (passR m ds os b s).steps := fold_changed (st := ⟨s.out, totalS m ds os s.out, 0⟩) _ ho
theorem repair_fuel {k' : Nat} (h : b - s.steps < k) (h' : b - s.steps < k') : repairGo m ds os b k s = repairGo m ds os b k' s := by
  induction k generalizing k' s with
  | zero => omega
  | succ k ih =>
    cases k' with
    | zero => omega
    | succ k' =>
      rw [repairGo, repairGo]
      split
      · rfl
      · split
        · rfl
        · rename_i h1 h2
          have := passR_changed h2
          exact ih (by simp only; omega) (by simp only; omega)
structure RInv (m : Option Mp) (ds : List Drv) (os : List FleetMath.Ord) (p : List Rte) (t : Int) (b : Nat) (s : RSt) : Prop where
  total : totalM m ds os s.out = some (totalS m ds os s.out)
  kept : keptP p s.out = true
  orders : ordersM s.out = ordersM p
  le : totalS m ds os s.out ≤ t
  same : s.out ≠ p → totalS m ds os s.out < t
  steps : s.steps ≤ b
theorem total_self (h : totalM m ds os p = some t) : totalM m ds os p = some (totalS m ds os p) := by rw [h, (totalM_some h).2]
theorem RInv.start (h : totalM m ds os p = some t) : RInv m ds os p t b ⟨p, 0, 0⟩ :=
  ⟨total_self h, by rw [keptP_self]; exact total_right h, rfl, by rw [(totalM_some h).2]; exact Int.le_refl _, fun h => absurd rfl h, Nat.zero_le _⟩
theorem RInv.pass (h : RInv m ds os p t b s) : PInv m ds os s.out (totalS m ds os s.out) (b - s.steps) (passR m ds os b s) := passGo_inv h.total
theorem RInv.next (h : RInv m ds os p t b s) (x : Nat) : RInv m ds os p t b ⟨(passR m ds os b s).out, s.steps + (passR m ds os b s).steps, x⟩ := by
  have hp := h.pass
  have e := (totalM_some hp.total).2
  have hl := hp.le
  have hl2 := h.le
  have hs := h.steps
  have hs2 := hp.steps
  refine ⟨total_self hp.total, keptP_trans h.kept hp.kept, hp.orders.trans h.orders, by simp only; omega, fun hn => ?_, by simp only; omega⟩
  simp only at hn ⊢
  by_cases hx : (passR m ds os b s).out = s.out
  · have := h.same (by rw [← hx]; exact hn)
    rw [hx]; exact this
  · have := hp.same hx
    omega
theorem RInv.go (h : RInv m ds os p t b s) (k : Nat) : RInv m ds os p t b (repairGo m ds os b k s) := by
  induction k generalizing s with
  | zero => exact h
  | succ k ih =>
    rw [repairGo]
    split
    · exact h
    · split
      · rename_i ho
        have := h.next (s.passes + 1)
        rw [ho] at this
        exact this
      · exact ih (h.next _)
theorem repair_rests (h : RInv m ds os p t b s) (hk : b - s.steps < k) (hn : (repairGo m ds os b k s).steps < b) (hb : b ≤ c) (hc : c ≤ 100000) :
    (passGo m ds os c ⟨(repairGo m ds os b k s).out, totalS m ds os (repairGo m ds os b k s).out, 0⟩).out = (repairGo m ds os b k s).out := by
  induction k generalizing s with
  | zero => omega
  | succ k ih =>
    rw [repairGo] at hn ⊢
    split at hn
    · omega
    · rename_i h1
      rw [if_neg h1]
      split at hn
      · rename_i ho
        rw [if_pos ho]
        simp only at hn ⊢
        have hp := h.pass
        rw [passGo_budget (b := b - s.steps) (by show (passR m ds os b s).steps < _; omega) (by omega) hc]
        exact ho
      · rename_i ho
        rw [if_neg ho]
        have := passR_changed ho
        exact ih (h.next _) (by simp only; omega) hn
theorem repair_again {u : Int} (hq : (passGo m ds os b ⟨q, totalS m ds os q, 0⟩).out = q) (hb : 0 < b) (hk : 0 < k) :
    (repairGo m ds os b k ⟨q, 0, 0⟩).out = q ∧ (repairGo m ds os b k ⟨q, 0, 0⟩).passes = 1 := by
  rw [repair_rest (s := ⟨q, 0, 0⟩) hb hk (by simpa [passR] using hq)]
  exact ⟨rfl, rfl⟩
theorem passM_some {b : Int} (h : totalM m ds os p = some t) (hb : 0 ≤ b) (hc : b ≤ 100000) : passM m ds os p b = some ((passGo m ds os b.toNat ⟨p, t, 0⟩).out, (passGo m ds os b.toNat ⟨p, t, 0⟩).steps) := by
  unfold passM; rw [h]; simp only; rw [if_neg (by omega)]
theorem repairM_some {b : Int} (h : totalM m ds os p = some t) (hb : 0 ≤ b) (hc : b ≤ 100000) : repairM m ds os p b = some (repairGo m ds os b.toNat (b.toNat + 1) ⟨p, 0, 0⟩) := by
  unfold repairM; rw [h]; simp only; rw [if_neg (by omega)]
theorem pass_law {b : Int} {n : Nat} (h : passM m ds os p b = some (q, n)) : 0 ≤ b ∧ b ≤ 100000 ∧ (n : Int) ≤ b ∧ ∃ t u, totalM m ds os p = some t ∧ totalM m ds os q = some u ∧ u ≤ t ∧ (u = t ↔ q = p) ∧ keptP p q = true ∧ ordersM q = ordersM p := by
  unfold passM at h
  split at h
  · cases h
  · rename_i t ht
    split at h
    · cases h
    · simp only at h
      injection h with h
      injection h with h1 h2
      have hI := passGo_inv (b := b.toNat) ht
      rw [show (passGo m ds os b.toNat ⟨p, t, 0⟩) = ⟨q, (passGo m ds os b.toNat ⟨p, t, 0⟩).total, n⟩ by rw [← h1, ← h2]] at hI
      obtain ⟨k1, k2, k3, k4, k5, k6⟩ := hI
      simp only at k1 k2 k3 k4 k5 k6
      refine ⟨by omega, by omega, by omega, t, _, ht, k1, k4, ⟨fun e => ?_, fun e => ?_⟩, k2, k3⟩
      · refine Classical.byContradiction fun hne => ?_
        have := k5 hne
        omega
      · rw [e, ht] at k1
        injection k1 with k1
        exact k1.symm
theorem repair_law {b : Int} {r : RSt} (h : repairM m ds os p b = some r) : 0 ≤ b ∧ b ≤ 100000 ∧ (r.steps : Int) ≤ b ∧ ∃ t u, totalM m ds os p = some t ∧ totalM m ds os r.out = some u ∧ u ≤ t ∧ (u = t ↔ r.out = p) ∧ keptP p r.out = true ∧ ordersM r.out = ordersM p := by
  unfold repairM at h
  split at h
  · cases h
  · rename_i t ht
    split at h
    · cases h
    · injection h with h
      have hI := (RInv.start (b := b.toNat) ht).go (b.toNat + 1)
      rw [h] at hI
      obtain ⟨k1, k2, k3, k4, k5, k6⟩ := hI
      refine ⟨by omega, by omega, by omega, t, _, ht, k1, k4, ⟨fun e => ?_, fun e => ?_⟩, k2, k3⟩
      · refine Classical.byContradiction fun hne => ?_
        have := k5 hne
        omega
      · rw [e, (totalM_some ht).2]
theorem rests_law {b : Int} {r : RSt} (h : repairM m ds os p b = some r) (hn : (r.steps : Int) < b) : (∃ n, passM m ds os r.out b = some (r.out, n)) ∧ ∃ r', repairM m ds os r.out b = some r' ∧ r'.out = r.out ∧ r'.passes = 1 := by
  obtain ⟨h0, h1, _, t, u, ht, hu, _⟩ := repair_law h
  rw [repairM_some ht h0 h1] at h
  injection h with h
  have hr := repair_rests (RInv.start (b := b.toNat) ht) (k := b.toNat + 1) (c := b.toNat) (by simp only; omega) (by rw [h]; omega) (Nat.le_refl _) (by omega)
  rw [h] at hr
  have e := (totalM_some hu).2
  refine ⟨⟨(passGo m ds os b.toNat ⟨r.out, u, 0⟩).steps, ?_⟩, ?_⟩
  · rw [passM_some hu h0 h1, e, hr]
  · rw [repairM_some hu h0 h1]
    obtain ⟨a1, a2⟩ := repair_again (u := u) hr (k := b.toNat + 1) (by omega) (by omega)
    exact ⟨_, rfl, a1, a2⟩
end
end Go.Proofs.YtilggpkmdmelmaaGreat.RepairMath

namespace Go.Proofs.YtilggpkmdmelmaaGreat.RepairMath
open Go.Proofs.YtilggpkmdmelmaaGreat.GeoMath Go.Proofs.YtilggpkmdmelmaaGreat.FleetMath Go.Proofs.YtilggpkmdmelmaaGreat.PlanMath Go.Proofs.YtilggpkmdmelmaaGreat.CertMath Go.Proofs.YtilggpkmdmelmaaGreat.AuditMath Go.Proofs.YtilggpkmdmelmaaGreat.InsertMath Go.Proofs.YtilggpkmdmelmaaGreat.Insert
set_option linter.unusedVariables false
section
variable {m : Option Mp} {ds : List Drv} {os : List FleetMath.Ord} {p q : List Rte} {i t : Int}
theorem known_dist (h : known m os = true) : Dist os := by
  simp only [known, decide_eq_true_eq] at h
  exact h.2.2
theorem total_well (h : totalM m ds os p = some t) : wellC m ds os p = true ∧ ∀ r ∈ p, ∃ d, drvOf ds r.drv = some d ∧ (drive m d os r.stops).2.2 = 0 := make_zero.1 (totalM_some h).1
def uptoS (m : Option Mp) (ds : List Drv) (os : List FleetMath.Ord) (p : List Rte) (k : Nat) : Int := totalS m ds os (p.take k)
theorem upto_zero : uptoS m ds os p 0 = 0 := by simp [uptoS, totalS]
theorem upto_next {k : Nat} {r : Rte} (h : p[k]? = some r) : uptoS m ds os p (k + 1) = uptoS m ds os p k + costR m ds os r := by
  unfold uptoS totalS
  rw [List.take_add_one, h]
  simp
theorem upto_all {k : Nat} (h : p.length ≤ k) : uptoS m ds os p k = totalS m ds os p := by
  unfold uptoS; rw [List.take_of_length_le h]
theorem costR_some {r : Rte} {d : Drv} (h : drvOf ds r.drv = some d) : costR m ds os r = oldC m d os r.stops := by
  unfold costR oldC; rw [h]
theorem costR_bound {r : Rte} (hm : Near m) (hl : r.stops.length ≤ 100) : 0 ≤ costR m ds os r ∧ costR m ds os r ≤ 100000000 := by
  unfold costR
  split
  · omega
  · exact old_bound hm hl
theorem sum_bound {l : List Int} (h : ∀ x ∈ l, 0 ≤ x ∧ x ≤ 100000000) : 0 ≤ l.sum ∧ l.sum ≤ 100000000 * (l.length : Int) := by
  induction l with
  | nil => simp
  | cons x r ih =>
    have h1 := h x (by simp)
    have h2 := ih fun y hy => h y (List.mem_cons_of_mem _ hy)
    rw [List.sum_cons, List.length_cons]
    omega
theorem upto_bound (hm : Near m) (hr : rightP p = true) (k : Nat) : 0 ≤ uptoS m ds os p k ∧ uptoS m ds os p k ≤ 800000000 := by
  have h := sum_bound (l := (p.take k).map (costR m ds os)) fun x hx => by
    obtain ⟨r, h1, rfl⟩ := List.mem_map.1 hx
    have := boundR_len (rightP_bound hr (List.mem_of_mem_take h1))
    exact costR_bound hm (by omega)
  rw [List.length_map, List.length_take] at h
  have := rightP_few hr
  unfold uptoS totalS
  omega
def partS (m : Option Mp) (ds : List Drv) (os : List FleetMath.Ord) (r : Rte) (k : Nat) : Int := if (ds.take k).any (fun d => decide (d.id = r.drv)) then costR m ds os r else 0
theorem part_zero {r : Rte} : partS m ds os r 0 = 0 := by simp [partS]
theorem part_skip {r : Rte} {k : Nat} {d : Drv} (hd : ds[k]? = some d) (he : d.id ≠ r.drv) : partS m ds os r (k + 1) = partS m ds os r k := by
  unfold partS
  rw [List.take_add_one, hd]
  simp [he]
theorem part_next {r : Rte} {k : Nat} {d : Drv} (hD : DistD ds) (hd : ds[k]? = some d) (he : d.id = r.drv) : partS m ds os r k = 0 ∧ partS m ds os r (k + 1) = oldC m d os r.stops := by
  have h1 : drvOf ds r.drv = some d := by rw [← he]; exact drv_one hD hd
  unfold partS
  constructor
  · rw [if_neg]
    rw [List.any_eq_true]
    rintro ⟨x, hx, hi⟩
    rw [decide_eq_true_eq] at hi
    obtain ⟨j, hj⟩ := List.mem_iff_getElem?.1 hx
    rw [List.getElem?_take] at hj
    split at hj
    · have := drv_idx hD hd hj (by rw [hi, he])
      omega
    · cases hj
  · rw [List.take_add_one, hd, if_pos (by simp [he]), costR_some h1]
theorem part_all {r : Rte} {k : Nat} (hk : ds.length ≤ k) : partS m ds os r k = costR m ds os r := by
  unfold partS
  rw [List.take_of_length_le hk]
  split
  · rfl
  · rename_i h
    unfold costR
    cases hd : drvOf ds r.drv with
    | none => rfl
    | some d =>
      refine absurd ?_ h
      rw [List.any_eq_true]
      have h1 := List.mem_of_find?_eq_some hd
      have h2 := List.find?_some hd
      exact ⟨d, h1, h2⟩
end
end Go.Proofs.YtilggpkmdmelmaaGreat.RepairMath

namespace Go.Proofs.YtilggpkmdmelmaaGreat.RepairMath
open Go.Proofs.YtilggpkmdmelmaaGreat.GeoMath Go.Proofs.YtilggpkmdmelmaaGreat.FleetMath Go.Proofs.YtilggpkmdmelmaaGreat.PlanMath Go.Proofs.YtilggpkmdmelmaaGreat.CertMath Go.Proofs.YtilggpkmdmelmaaGreat.AuditMath Go.Proofs.YtilggpkmdmelmaaGreat.InsertMath
abbrev eM : Option Mp := some ⟨2, [0, 5, 7, 0]⟩
abbrev eO : FleetMath.Ord := ⟨1, 3, ⟨0, ⟨2, 9⟩, 1⟩, ⟨1, ⟨0, 20⟩, 2⟩⟩
abbrev eR : FleetMath.Ord := ⟨2, 1, ⟨0, ⟨0, 100⟩, 1⟩, ⟨1, ⟨0, 100⟩, 2⟩⟩
abbrev eOs : List FleetMath.Ord := [eO, eR]
abbrev eDs : List Drv := [⟨4, 4, 1, ⟨1, 30⟩, false⟩, ⟨5, 4, 0, ⟨1, 30⟩, false⟩]
abbrev eP : List Rte := [⟨4, 0, [⟨1, false⟩, ⟨1, true⟩]⟩, ⟨5, 0, [⟨2, false⟩, ⟨2, true⟩]⟩]
abbrev eQ : List Rte := [⟨4, 0, []⟩, ⟨5, 0, [⟨1, false⟩, ⟨2, false⟩, ⟨1, true⟩, ⟨2, true⟩]⟩]
theorem e_ids : idsM eOs = [1, 2] := by simp [idsM, List.mergeSort, List.MergeSort.Internal.splitInTwo]
theorem e_total : totalM eM eDs eOs eP = some 17 := by kernel_rfl
theorem e_go (b : Nat) (st : PSt) : passGo eM eDs eOs b st = passStep eM eDs eOs b (passStep eM eDs eOs b st 1) 2 := by unfold passGo; rw [e_ids]; rfl
theorem e_p1 : passGo eM eDs eOs 100 ⟨eP, 17, 0⟩ = ⟨eQ, 5, 14⟩ := by rw [e_go]; kernel_rfl
theorem e_p2 : passGo eM eDs eOs 86 ⟨eQ, 5, 0⟩ = ⟨eQ, 5, 14⟩ := by rw [e_go]; kernel_rfl
theorem e_t2 : totalS eM eDs eOs eQ = 5 := by kernel_rfl
theorem e_t1 : totalS eM eDs eOs eP = 17 := by kernel_rfl
theorem e_pass : passM eM eDs eOs eP 100 = some (eQ, 14) := by
  rw [passM_some e_total (by omega) (by omega)]
  show some ((passGo eM eDs eOs 100 ⟨eP, 17, 0⟩).out, _) = _
  rw [e_p1]
  show some (eQ, (passGo eM eDs eOs 100 ⟨eP, 17, 0⟩).steps) = _
  rw [e_p1]
theorem e_bad : passM eM eDs eOs eP (-1) = none := by
  unfold passM; rw [e_total]; rfl
theorem e_repair0 : repairM eM eDs eOs eP 0 = some ⟨eP, 0, 0⟩ := by
  rw [repairM_some e_total (by omega) (by omega)]; rfl
theorem e_repair : repairM eM eDs eOs eP 100 = some ⟨eQ, 28, 2⟩ := by
  rw [repairM_some e_total (by omega) (by omega)]
  have h1 : passR eM eDs eOs 100 ⟨eP, 0, 0⟩ = ⟨eQ, 5, 14⟩ := by unfold passR; rw [e_t1]; exact e_p1
  have h2 : passR eM eDs eOs 100 ⟨eQ, 14, 1⟩ = ⟨eQ, 5, 14⟩ := by unfold passR; rw [e_t2]; exact e_p2
  show some (repairGo eM eDs eOs 100 101 ⟨eP, 0, 0⟩) = _
  rw [repair_next (by decide) (by rw [h1]; decide), h1]
  rw [repair_rest (by decide) (by decide) (by show (passR eM eDs eOs 100 ⟨eQ, 14, 1⟩).out = eQ; rw [h2])]
  show some (⟨eQ, 14 + (passR eM eDs eOs 100 ⟨eQ, 14, 1⟩).steps, 2⟩ : RSt) = _
  rw [h2]
  rfl
end Go.Proofs.YtilggpkmdmelmaaGreat.RepairMath

namespace Go.Proofs.YtilggpkmdmelmaaGreat.RepairMath
open Go.Proofs.YtilggpkmdmelmaaGreat.GeoMath Go.Proofs.YtilggpkmdmelmaaGreat.FleetMath Go.Proofs.YtilggpkmdmelmaaGreat.PlanMath Go.Proofs.YtilggpkmdmelmaaGreat.CertMath Go.Proofs.YtilggpkmdmelmaaGreat.AuditMath Go.Proofs.YtilggpkmdmelmaaGreat.InsertMath
set_option linter.unusedVariables false
theorem run_pair {m : Mp} {d : Drv} {os : List FleetMath.Ord} {o : Int} (stops : List Stp) (seen : List Stp) (st : St) (x : St × List Vis) (k : Nat) (h : run m d os seen st stops = .ok x) (ho : Stp.mk o true ∈ stops) :
    Stp.mk o false ∈ seen ∨ (Stp.mk o false ∈ stops ∧ idxFrom stops ⟨o, false⟩ k < idxFrom stops ⟨o, true⟩ k) := by
  induction stops generalizing seen st x k with
  | nil => cases ho
  | cons s r ih =>
    unfold run at h
    split at h
    · cases h
    · rename_i st' v hst
      split at h
      · cases h
      · rename_i st'' vs hr
        by_cases hs : s = ⟨o, true⟩
        · subst hs
          left
          unfold FleetMath.step at hst
          split at hst
          · cases hst
          · split at hst
            · cases hst
            · split at hst
              · cases hst
              · rename_i hn
                exact Classical.not_not.1 fun hh => hn ⟨rfl, hh⟩
        · have hr' : Stp.mk o true ∈ r := by
            rcases List.mem_cons.1 ho with e | e
            · exact absurd e.symm hs
            · exact e
          have e2 : idxFrom (s :: r) ⟨o, true⟩ k = idxFrom r ⟨o, true⟩ (k + 1) := by rw [idxFrom_cons, if_neg hs]
          by_cases hp : s = ⟨o, false⟩
          · right
            refine ⟨by rw [hp]; exact List.mem_cons_self, ?_⟩
            rw [e2, idxFrom_cons, if_pos hp]
            have := idxFrom_yes hr' (k + 1)
            omega
          · rcases ih (seen ++ [s]) st' _ (k + 1) hr hr' with h1 | ⟨h1, h2⟩
            · rcases List.mem_append.1 h1 with h1 | h1
              · exact .inl h1
              · exact absurd (List.mem_singleton.1 h1).symm hp
            · right
              refine ⟨List.mem_cons_of_mem _ h1, ?_⟩
              rw [e2, idxFrom_cons, if_neg hp]
              exact h2
theorem fine_pair {m : Option Mp} {d : Drv} {os : List FleetMath.Ord} {stops : List Stp} {o : Int} (h : (drive m d os stops).2.2 = 0) (ho : Stp.mk o true ∈ stops) : Stp.mk o false ∈ stops ∧ idxS stops ⟨o, false⟩ < idxS stops ⟨o, true⟩ := by
  obtain ⟨m', st, _, hr, _⟩ := drive_fine h
  rcases run_pair stops [] _ _ 0 hr ho with h1 | h1
  · cases h1
  · exact h1
theorem mem_take {l : List Stp} {s : Stp} (n k : Nat) : s ∈ l.take n ↔ s ∈ l ∧ idxFrom l s k < ((k + n : Nat) : Int) := by
  induction l generalizing n k with
  | nil => simp
  | cons x r ih =>
    cases n with
    | zero =>
      simp only [List.take_zero, List.not_mem_nil, false_iff, Nat.add_zero]
      rintro ⟨h1, h2⟩
      have := idxFrom_yes h1 k
      omega
    | succ n =>
      rw [List.take_succ_cons, List.mem_cons, List.mem_cons, ih n (k + 1), idxFrom_cons]
      by_cases e : x = s
      · subst e
        rw [if_pos rfl]
        constructor
        · intro _; exact ⟨.inl rfl, by omega⟩
        · intro _; exact .inl rfl
      · rw [if_neg e]
        constructor
        · rintro (h | ⟨h1, h2⟩)
          · exact absurd h.symm e
          · exact ⟨.inr h1, by omega⟩
        · rintro ⟨h1 | h1, h2⟩
          · exact absurd h1.symm e
          · exact .inr ⟨h1, by omega⟩
theorem done_iff {x : Rte} {o : Int} (hs : 0 ≤ x.served) (hp : Stp.mk o false ∈ x.stops) (hd : Stp.mk o true ∈ x.stops → idxS x.stops ⟨o, false⟩ < idxS x.stops ⟨o, true⟩) :
    (doneR x).any (fun s => decide (s.ord = o)) = decide (idxS x.stops ⟨o, false⟩ < x.served) := by
  have key : (∃ s ∈ doneR x, s.ord = o) ↔ idxS x.stops ⟨o, false⟩ < x.served := by
    unfold doneR
    constructor
    · rintro ⟨⟨so, f⟩, h1, h2⟩
      simp only at h2
      subst h2
      obtain ⟨h3, h4⟩ := (mem_take x.served.toNat 0).1 h1
      cases f with
      | false => unfold idxS; omega
      | true =>
        have := hd h3
        unfold idxS at this ⊢
        omega
    · intro h
      exact ⟨⟨o, false⟩, (mem_take x.served.toNat 0).2 ⟨hp, by unfold idxS at h; omega⟩, rfl⟩
  rw [Bool.eq_iff_iff, List.any_eq_true]
  simp only [decide_eq_true_eq]
  exact key
def movR (s : Spt) (r : Rte) : Bool := (r.drv == s.drv) && decide (r.served ≤ s.pick)
def movableM (p : List Rte) (o : Int) : Bool := match findP p o with
  | none => false
  | some s => p.any (movR s)
theorem pw_any {α : Type} {R : α → α → Prop} {l : List α} (h : l.Pairwise R) {x y : α} (hx : x ∈ l) (hy : y ∈ l) : x = y ∨ R x y ∨ R y x := by
  induction h with
  | nil => cases hx
  | cons h1 _ ih =>
    rcases List.mem_cons.1 hx with e1 | k1
    · rcases List.mem_cons.1 hy with e2 | k2
      · exact .inl (e1.trans e2.symm)
      · exact .inr (.inl (by rw [e1]; exact h1 _ k2))
    · rcases List.mem_cons.1 hy with e2 | k2
      · exact .inr (.inr (by rw [e2]; exact h1 _ k1))
      · exact ih k1 k2
theorem findP_has {p : List Rte} {o : Int} {s : Spt} (h : findP p o = some s) : ∃ x ∈ p, s.drv = x.drv ∧ s.pick = idxS x.stops ⟨o, false⟩ ∧ (Stp.mk o false ∈ x.stops ∨ Stp.mk o true ∈ x.stops) := by
  induction p with
  | nil => cases h
  | cons x r ih =>
    rw [findP_cons] at h
    split at h
    · rename_i hc
      injection h with h
      subst h
      exact ⟨x, List.mem_cons_self, rfl, rfl, hc.imp idxS_iff.1 idxS_iff.1⟩
    · obtain ⟨y, hy, h2⟩ := ih h
      exact ⟨y, List.mem_cons_of_mem _ hy, h2⟩
theorem movable_iff {p : List Rte} {o : Int} (hr : rightP p = true) (hf : ∀ r ∈ p, Stp.mk o true ∈ r.stops → Stp.mk o false ∈ r.stops ∧ idxS r.stops ⟨o, false⟩ < idxS r.stops ⟨o, true⟩) :
    movableM p o = ((findP p o).isSome && !begunP p o) := by
  unfold movableM
  cases h : findP p o with
  | none => rfl
  | some s =>
    simp only [Option.isSome_some, Bool.true_and]
    obtain ⟨x, hx, h1, h2, h3⟩ := findP_has h
    have hp : Stp.mk o false ∈ x.stops := by
      rcases h3 with h3 | h3
      · exact h3
      · exact (hf x hx h3).1
    have hdist : p.Pairwise fun a b => a.drv < b.drv := by
      simp only [rightP, Bool.and_eq_true, decide_eq_true_eq] at hr
      exact hr.1.2
    have hall : (allS p).Pairwise (· ≠ ·) := by
      simp only [rightP, Bool.and_eq_true, decide_eq_true_eq] at hr
      exact hr.2
    have hno : ∀ y ∈ p, y ≠ x → ∀ s ∈ y.stops, s.ord ≠ o := by
      intro y hy hne s hs he
      have hpy : Stp.mk o false ∈ y.stops := by
        obtain ⟨so, f⟩ := s
        simp only at he
        subst he
        cases f with
        | false => exact hs
        | true => exact (hf y hy hs).1
      unfold allS at hall
      rw [List.pairwise_flatMap] at hall
      rcases pw_any hall.2 hx hy with e | e | e
      · exact hne e.symm
      · exact e _ hp _ hpy rfl
      · exact e _ hpy _ hp rfl
    have hb : begunP p o = decide (idxS x.stops ⟨o, false⟩ < x.served) := by
      rw [← done_iff (rightP_served hr hx) hp fun h => (hf x hx h).2]
      rw [Bool.eq_iff_iff]
      unfold begunP
      rw [List.any_eq_true]
      constructor
      · rintro ⟨y, hy, hd⟩
        by_cases e : y = x
        · rw [← e]; exact hd
        · obtain ⟨s, hs, he⟩ := List.any_eq_true.1 hd
          exact absurd (by simpa using he) (hno y hy e s (List.mem_of_mem_take hs))
      · exact fun hd => ⟨x, hx, hd⟩
    rw [hb, Bool.eq_iff_iff, List.any_eq_true]
    constructor
    · rintro ⟨y, hy, hm⟩
      unfold movR at hm
      simp only [Bool.and_eq_true, beq_iff_eq, decide_eq_true_eq] at hm
      have e : y = x := by
        rcases pw_any hdist hy hx with e | e | e
        · exact e
        · omega
        · omega
      subst e
      simp only [Bool.not_eq_true', decide_eq_false_iff_not]
      omega
    · intro hm
      simp only [Bool.not_eq_true', decide_eq_false_iff_not] at hm
      refine ⟨x, hx, ?_⟩
      unfold movR
      simp only [Bool.and_eq_true, beq_iff_eq, decide_eq_true_eq]
      omega
section
variable {m : Option Mp} {ds : List Drv} {os : List FleetMath.Ord} {p q : List Rte} {b : Nat} {st : PSt} {o : FleetMath.Ord} {t : Int}
def movedC (m : Option Mp) (ds : List Drv) (os : List FleetMath.Ord) (p : List Rte) (o : FleetMath.Ord) (b : Int) : List Rte × Nat :=
  match cheapM m ds (othersM os o.id) (withoutP p [o.id]) o b with
  | (s, n, e) => (if e = 0 then (withP (withoutP p [o.id]) o.id ⟨s.drv, s.pick, s.drop⟩).getD [] else p, n.toNat)
def stepC (m : Option Mp) (ds : List Drv) (os : List FleetMath.Ord) (b : Nat) (st : PSt) (o : FleetMath.Ord) : PSt :=
  if movableM st.out o.id = true then
    match movedC m ds os st.out o ((b - st.steps : Nat) : Int) with
    | (q, n) => match totalM m ds os q with
      | none => ⟨st.out, st.total, st.steps + n⟩
      | some t => if t < st.total then ⟨q, t, st.steps + n⟩ else ⟨st.out, st.total, st.steps + n⟩
  else st
theorem total_movable (h : totalM m ds os p = some t) (i : Int) : movableM p i = ((findP p i).isSome && !begunP p i) := by
  obtain ⟨hw, hall⟩ := total_well h
  obtain ⟨_, _, _, _, hr, _, _⟩ := wellC_parts hw
  refine movable_iff hr fun r hr' ho => ?_
  obtain ⟨d, _, h2⟩ := hall r hr'
  exact fine_pair h2 ho
theorem step_eq (h : totalM m ds os st.out = some st.total) (ho : o ∈ os) (hb : st.steps < b) : stepC m ds os b st o = passStep m ds os b st o.id := by
  obtain ⟨hw, _⟩ := total_well h
  obtain ⟨_, _, _, hk, _, _, _⟩ := wellC_parts hw
  have hfd : find os o.id = some o := find_mem (known_dist hk) ho
  have hm := total_movable h o.id
  unfold stepC passStep
  rw [if_neg (by omega : ¬ b ≤ st.steps)]
  by_cases hv : movableM st.out o.id = true
  · rw [if_pos hv]
    rw [hm] at hv
    have hmv : movedM m ds os st.out o.id ((b - st.steps : Nat) : Int) = (match cheapM m ds (othersM os o.id) (withoutP st.out [o.id]) o ((b - st.steps : Nat) : Int) with
      | (s, n, e) => (if e = 0 then withP (withoutP st.out [o.id]) o.id ⟨s.drv, s.pick, s.drop⟩ else none, n.toNat)) := by
      unfold movedM
      rw [hfd]
      simp only
      rw [if_neg]
      rintro (h1 | h1)
      · rw [h1] at hv; simp at hv
      · rw [h1] at hv; simp at hv
    rw [hmv]
    unfold movedC
    obtain ⟨⟨s, n, e⟩, hc⟩ : ∃ z, cheapM m ds (othersM os o.id) (withoutP st.out [o.id]) o ((b - st.steps : Nat) : Int) = z := ⟨_, rfl⟩
    rw [hc]
    simp only
    by_cases he : e = 0
    · subst he
      obtain ⟨q, hq, _, _⟩ := fits_plan hc
      rw [if_pos rfl, if_pos rfl, hq]
      rfl
    · rw [if_neg he, if_neg he]
      simp only [h, Int.lt_irrefl, if_false]
  · rw [if_neg hv]
    have hmv : movedM m ds os st.out o.id ((b - st.steps : Nat) : Int) = (none, 0) := by
      unfold movedM
      rw [hfd]
      simp only
      rw [if_pos]
      rw [hm] at hv
      cases h1 : (findP st.out o.id).isSome with
      | false => exact .inl rfl
      | true =>
        rw [h1] at hv
        cases h2 : begunP st.out o.id with
        | false => rw [h2] at hv; exact absurd rfl hv
        | true => exact .inr rfl
    rw [hmv]
    rfl
theorem ids_of {l : List FleetMath.Ord} (hp : l.Perm os) (hs : l.Pairwise fun a b => a.id ≤ b.id) : l.map (·.id) = idsM os := by
  unfold idsM
  refine (hp.map _).trans (List.mergeSort_perm _ _).symm |>.eq_of_pairwise (le := fun a b : Int => a ≤ b) (fun a b _ _ h1 h2 => Int.le_antisymm h1 h2) ?_ ?_
  · rw [List.pairwise_map]; exact hs
  · have := List.pairwise_mergeSort (le := fun x y : Int => decide (x ≤ y)) (fun a b c h1 h2 => by simp only [decide_eq_true_eq] at *; omega) (fun a b => by simp only [Bool.or_eq_true, decide_eq_true_eq]; omega) (os.map (·.id))
    exact this.imp fun h => by simpa using h
def passAt (m : Option Mp) (ds : List Drv) (os : List FleetMath.Ord) (b : Nat) (st : PSt) (l : List FleetMath.Ord) (k : Nat) : PSt := ((l.take k).map (·.id)).foldl (passStep m ds os b) st
theorem passAt_zero {l : List FleetMath.Ord} : passAt m ds os b st l 0 = st := by simp [passAt]
theorem passAt_next {l : List FleetMath.Ord} {k : Nat} (h : l[k]? = some o) : passAt m ds os b st l (k + 1) = passStep m ds os b (passAt m ds os b st l k) o.id := by
  unfold passAt
  rw [List.take_add_one, h, List.map_append, List.foldl_append]; rfl
theorem passAt_all {l : List FleetMath.Ord} {k : Nat} (hl : l.length ≤ k) (hi : l.map (·.id) = idsM os) : passAt m ds os b st l k = passGo m ds os b st := by
  unfold passAt passGo
  rw [List.take_of_length_le hl, hi]
theorem pass_full (l : List Int) (h : b ≤ st.steps) : l.foldl (passStep m ds os b) st = st := by
  induction l with
  | nil => rfl
  | cons x r ih =>
    rw [List.foldl_cons, show passStep m ds os b st x = st by unfold passStep; rw [if_pos h], ih]
theorem passAt_full {l : List FleetMath.Ord} {k : Nat} (h : b ≤ (passAt m ds os b st l k).steps) (hi : l.map (·.id) = idsM os) : passAt m ds os b st l k = passGo m ds os b st := by
  have e : passGo m ds os b st = ((l.drop k).map (·.id)).foldl (passStep m ds os b) (passAt m ds os b st l k) := by
    unfold passGo passAt
    rw [← List.foldl_append, ← List.map_append, List.take_append_drop, hi]
  rw [e, pass_full _ h]
theorem passAt_inv (h : totalM m ds os p = some t) (l : List FleetMath.Ord) (k : Nat) : PInv m ds os p t b (passAt m ds os b ⟨p, t, 0⟩ l k) := (PInv.start h).fold _
theorem moved_le {n : Nat} (h : (movedC m ds os p o (b : Int)).2 = n) : n ≤ b := by
  subst h
  unfold movedC
  obtain ⟨⟨s, k, e⟩, hc⟩ : ∃ z, cheapM m ds (othersM os o.id) (withoutP p [o.id]) o (b : Int) = z := ⟨_, rfl⟩
  rw [hc]
  have := cheap_steps hc (by omega)
  simp only
  omega
theorem known_ids (hk : known m os = true) : ∀ o ∈ os, 1 ≤ o.id ∧ o.id ≤ 1000000 := fun o ho => by
  obtain ⟨_, _, h⟩ := ordE_ok.1 ((known_iff.1 hk).2.1 o ho)
  exact h.id
end
end Go.Proofs.YtilggpkmdmelmaaGreat.RepairMath
