/-
  PlanMath, PlanMath2, PlanMath4, PlanMath5, PlanMath6: one text.
-/
import Derived.Test.YtilggpkmdmelmaaGreatMaths
import Derived.Lib.SlicesCompact
namespace Go.Proofs.YtilggpkmdmelmaaGreat.PlanMath
open Go.Proofs.YtilggpkmdmelmaaGreat.FleetMath
structure Rte where
  drv : Int
  served : Int
  stops : List Stp
def idxFrom : List Stp → Stp → Nat → Int
  | [], _, _ => -1
  | x :: r, s, k => if x = s then (k : Int) else idxFrom r s (k + 1)
abbrev idxS (l : List Stp) (s : Stp) : Int := idxFrom l s 0
def numFrom : List Rte → Int → Nat → Int
  | [], _, _ => -1
  | x :: r, d, k => if x.drv = d then (k : Int) else numFrom r d (k + 1)
structure Spt where
  drv : Int
  pick : Int
  drop : Int
def findP : List Rte → Int → Option Spt
  | [], _ => none
  | x :: r, o => if 0 ≤ idxS x.stops ⟨o, false⟩ ∨ 0 ≤ idxS x.stops ⟨o, true⟩ then some ⟨x.drv, idxS x.stops ⟨o, false⟩, idxS x.stops ⟨o, true⟩⟩ else findP r o
def doneR (r : Rte) : List Stp := r.stops.take r.served.toNat
def begunP (l : List Rte) (o : Int) : Bool := l.any fun r => (doneR r).any fun s => decide (s.ord = o)
def withoutP (l : List Rte) (os : List Int) : List Rte := l.map fun r => ⟨r.drv, r.served, r.stops.filter fun s => !decide (s.ord ∈ os) || begunP l s.ord⟩
def rightR (r : Rte) : Bool := decide (1 ≤ r.drv ∧ r.drv ≤ 1000000 ∧ r.stops.length ≤ 80 ∧ 0 ≤ r.served ∧ r.served ≤ r.stops.length ∧ ∀ s ∈ r.stops, 1 ≤ s.ord ∧ s.ord ≤ 1000000)
def allS (l : List Rte) : List Stp := l.flatMap (·.stops)
def rightP (l : List Rte) : Bool := decide (l.length ≤ 8) && l.all rightR && decide (l.Pairwise fun a b => a.drv < b.drv) && decide ((allS l).Pairwise (· ≠ ·))
theorem idxFrom_cons (x : Stp) (r : List Stp) (s : Stp) (k : Nat) : idxFrom (x :: r) s k = if x = s then (k : Int) else idxFrom r s (k + 1) := rfl
theorem numFrom_cons (x : Rte) (r : List Rte) (d : Int) (k : Nat) : numFrom (x :: r) d k = if x.drv = d then (k : Int) else numFrom r d (k + 1) := rfl
theorem findP_cons (x : Rte) (r : List Rte) (o : Int) : findP (x :: r) o = if 0 ≤ idxS x.stops ⟨o, false⟩ ∨ 0 ≤ idxS x.stops ⟨o, true⟩ then some ⟨x.drv, idxS x.stops ⟨o, false⟩, idxS x.stops ⟨o, true⟩⟩ else findP r o := rfl
def nmb (a : Int) : Bool := decide (1 ≤ a ∧ a ≤ 1000000)
def boundR (r : Rte) : Bool := decide (r.stops.length ≤ 80 ∧ 0 ≤ r.served ∧ r.served ≤ r.stops.length) && r.stops.all fun s => nmb s.ord
def rightFrom (last : Int) (L : List Stp) : List Rte → Bool
  | [] => decide L.Nodup
  | x :: r => decide (last < x.drv ∧ x.drv ≤ 1000000) && boundR x && rightFrom x.drv (L ++ x.stops) r
theorem rightFrom_cons (last : Int) (L : List Stp) (x : Rte) (r : List Rte) : rightFrom last L (x :: r) = (decide (last < x.drv ∧ x.drv ≤ 1000000) && boundR x && rightFrom x.drv (L ++ x.stops) r) := rfl
theorem boundR_len {x : Rte} (h : boundR x = true) : x.stops.length ≤ 80 := by
  simp only [boundR, Bool.and_eq_true, decide_eq_true_eq] at h
  exact h.1.1
theorem boundR_num {x : Rte} (h : boundR x = true) {s : Stp} (hs : s ∈ x.stops) : 1 ≤ s.ord ∧ s.ord ≤ 1000000 := by
  simp only [boundR, Bool.and_eq_true, List.all_eq_true, nmb, decide_eq_true_eq] at h
  exact h.2 s hs
theorem rightFrom_iff (l : List Rte) (last : Int) (L : List Stp) : rightFrom last L l = true ↔ (∀ r ∈ l, last < r.drv ∧ r.drv ≤ 1000000 ∧ boundR r = true) ∧ l.Pairwise (fun a b => a.drv < b.drv) ∧ (L ++ allS l).Nodup := by
  induction l generalizing last L with
  | nil => simp [rightFrom, allS]
  | cons x r ih =>
    rw [rightFrom_cons, Bool.and_eq_true, Bool.and_eq_true, ih, decide_eq_true_eq, List.pairwise_cons]
    have e : L ++ allS (x :: r) = L ++ x.stops ++ allS r := by simp [allS]
    rw [e]
    constructor
    · rintro ⟨⟨⟨h1, h2⟩, h3⟩, h4, h5, h6⟩
      refine ⟨fun q hq => ?_, ⟨fun q hq => (h4 q hq).1, h5⟩, h6⟩
      rcases List.mem_cons.1 hq with rfl | hq
      · exact ⟨h1, h2, h3⟩
      · exact ⟨Int.lt_trans h1 (h4 q hq).1, (h4 q hq).2⟩
    · rintro ⟨h1, ⟨h2, h3⟩, h4⟩
      obtain ⟨a1, a2, a3⟩ := h1 x (by simp)
      exact ⟨⟨⟨a1, a2⟩, a3⟩, fun q hq => ⟨h2 q hq, (h1 q (by simp [hq])).2⟩, h3, h4⟩
theorem rightR_iff (r : Rte) : rightR r = true ↔ 0 < r.drv ∧ r.drv ≤ 1000000 ∧ boundR r = true := by
  simp only [rightR, boundR, nmb, decide_eq_true_eq, Bool.and_eq_true, List.all_eq_true]
  constructor
  · rintro ⟨h1, h2, h3, h4, h5, h6⟩; exact ⟨by omega, h2, ⟨h3, h4, h5⟩, h6⟩
  · rintro ⟨h1, h2, ⟨h3, h4, h5⟩, h6⟩; exact ⟨by omega, h2, h3, h4, h5, h6⟩
theorem rightP_from (l : List Rte) : rightP l = (decide (l.length ≤ 8) && rightFrom 0 [] l) := by
  rw [Bool.eq_iff_iff]
  simp only [rightP, Bool.and_eq_true, decide_eq_true_eq, List.all_eq_true, rightFrom_iff, List.nil_append, rightR_iff, List.Nodup]
  constructor
  · rintro ⟨⟨⟨h1, h2⟩, h3⟩, h4⟩; exact ⟨h1, h2, h3, h4⟩
  · rintro ⟨h1, h2, h3, h4⟩; exact ⟨⟨⟨h1, h2⟩, h3⟩, h4⟩
theorem rightP_bound {l : List Rte} (h : rightP l = true) {x : Rte} (hx : x ∈ l) : boundR x = true := by
  rw [rightP_from, Bool.and_eq_true, rightFrom_iff] at h
  exact (h.2.1 x hx).2.2
theorem rightP_served {l : List Rte} (h : rightP l = true) {x : Rte} (hx : x ∈ l) : 0 ≤ x.served := by
  have := rightP_bound h hx
  simp only [boundR, Bool.and_eq_true, decide_eq_true_eq] at this
  exact this.1.2.1
theorem rightP_few {l : List Rte} (h : rightP l = true) : l.length ≤ 8 := by
  rw [rightP_from, Bool.and_eq_true, decide_eq_true_eq] at h
  exact h.1
def withOk (l : List Rte) (o : Int) (s : Spt) (x : Rte) : Bool := rightP l && nmb o && (findP l o).isNone && decide (x.stops.length ≤ 78 ∧ x.served ≤ s.pick ∧ s.pick ≤ s.drop ∧ s.drop ≤ x.stops.length)
def withP (l : List Rte) (o : Int) (s : Spt) : Option (List Rte) :=
  if numFrom l s.drv 0 < 0 then none else match l[(numFrom l s.drv 0).toNat]? with
  | none => none
  | some x => if withOk l o s x then some (l.set (numFrom l s.drv 0).toNat ⟨x.drv, x.served, putR x.stops o s.pick s.drop⟩) else none
end Go.Proofs.YtilggpkmdmelmaaGreat.PlanMath

namespace Go.Proofs.YtilggpkmdmelmaaGreat.PlanMath
open Go.Proofs.YtilggpkmdmelmaaGreat.FleetMath
set_option linter.unusedVariables false
theorem withoutP_nil (l : List Rte) : withoutP l [] = l := by
  unfold withoutP
  have : (fun r : Rte => (⟨r.drv, r.served, r.stops.filter fun s => !decide (s.ord ∈ ([] : List Int)) || begunP l s.ord⟩ : Rte)) = id := by
    funext r
    have e : (r.stops.filter fun s => !decide (s.ord ∈ ([] : List Int)) || begunP l s.ord) = r.stops := by
      rw [List.filter_eq_self]
      intro s _
      simp
    rw [e]
    rfl
  rw [this, List.map_id]
theorem wf_ord {l : List Rte} (h : rightP l = true) : ∀ r ∈ l, ∀ s ∈ r.stops, 1 ≤ s.ord ∧ s.ord ≤ 1000000 := fun r hr s hs => boundR_num (rightP_bound h hr) hs
theorem putR_len {l : List Stp} {o i j : Int} (h : 0 ≤ i ∧ i ≤ j ∧ j ≤ l.length) : (putR l o i j).length = l.length + 2 := by
  unfold putR
  rw [if_pos h]
  exact putM_len (by omega) (by omega)
end Go.Proofs.YtilggpkmdmelmaaGreat.PlanMath

namespace Go.Proofs.YtilggpkmdmelmaaGreat.PlanMath
open Go.Proofs.YtilggpkmdmelmaaGreat.FleetMath
set_option linter.unusedVariables false
def ordersM (l : List Rte) : List Int := Lib.compact ((allS l).map (·.ord) |>.mergeSort fun x y => decide (x ≤ y))
theorem asc_unique : ∀ {l m : List Int}, l.Pairwise (· < ·) → m.Pairwise (· < ·) → (∀ x, x ∈ l ↔ x ∈ m) → l = m
  | [], [], _, _, _ => rfl
  | [], b :: m, _, _, h => absurd ((h b).2 (by simp)) (by simp)
  | a :: l, [], _, _, h => absurd ((h a).1 (by simp)) (by simp)
  | a :: l, b :: m, hl, hm, h => by
    rw [List.pairwise_cons] at hl hm
    have hab : a = b := by
      rcases List.mem_cons.1 ((h a).1 (by simp)) with e | e
      · exact e
      · rcases List.mem_cons.1 ((h b).2 (by simp)) with e' | e'
        · exact e'.symm
        · have h1 := hm.1 a e
          have h2 := hl.1 b e'
          omega
    subst hab
    rw [asc_unique hl.2 hm.2 fun x => ?_]
    constructor
    · intro hx
      have := hl.1 x hx
      rcases List.mem_cons.1 ((h x).1 (by simp [hx])) with e | e
      · omega
      · exact e
    · intro hx
      have := hm.1 x hx
      rcases List.mem_cons.1 ((h x).2 (by simp [hx])) with e | e
      · omega
      · exact e
theorem compact_to {d : Array Int} (hs : ∀ i j, i ≤ j → j < d.size → d[i]! ≤ d[j]!) (m : Nat) (hm : m ≤ d.size) :
    (Lib.compactUpTo d m).Pairwise (· < ·) ∧ ∀ x, x ∈ Lib.compactUpTo d m ↔ ∃ j, j < m ∧ d[j]! = x := by
  induction m with
  | zero => exact ⟨by simp [Lib.compactUpTo], fun x => by simp [Lib.compactUpTo]⟩
  | succ m ih =>
    obtain ⟨h1, h2⟩ := ih (by omega)
    rw [Lib.compactUpTo_succ]
    cases hk : Lib.keeps d m with
    | true =>
      rw [if_pos rfl]
      refine ⟨List.pairwise_append.2 ⟨h1, by simp, fun x hx y hy => ?_⟩, fun x => ?_⟩
      · obtain rfl : y = d[m]! := by simpa using hy
        obtain ⟨j, hj, rfl⟩ := (h2 x).1 hx
        have hne : d[m]! ≠ d[m - 1]! := by
          simp only [Lib.keeps, decide_eq_true_eq] at hk
          rcases hk with hk | hk
          · omega
          · exact hk
        have e1 := hs j (m - 1) (by omega) (by omega)
        have e2 := hs (m - 1) m (by omega) (by omega)
        omega
      · rw [List.mem_append, h2, List.mem_singleton]
        constructor
        · rintro (⟨j, hj, e⟩ | e)
          · exact ⟨j, by omega, e⟩
          · exact ⟨m, by omega, e.symm⟩
        · rintro ⟨j, hj, e⟩
          by_cases hjm : j = m
          · subst hjm; exact Or.inr e.symm
          · exact Or.inl ⟨j, by omega, e⟩
    | false =>
      rw [if_neg (by decide), List.append_nil]
      refine ⟨h1, fun x => (h2 x).trans ?_⟩
      simp only [Lib.keeps, decide_eq_false_iff_not, not_or, Decidable.not_not] at hk
      constructor
      · rintro ⟨j, hj, e⟩; exact ⟨j, by omega, e⟩
      · rintro ⟨j, hj, e⟩
        by_cases hjm : j = m
        · subst hjm; exact ⟨j - 1, by omega, by rw [← hk.2]; exact e⟩
        · exact ⟨j, by omega, e⟩
theorem compact_sorted {l : List Int} (hs : l.Pairwise (· ≤ ·)) : (Lib.compact l).Pairwise (· < ·) ∧ ∀ x, x ∈ Lib.compact l ↔ x ∈ l := by
  have hget : ∀ j, j < l.length → l.toArray[j]! = l[j]! := fun j hj => by simp
  have key := compact_to (d := l.toArray) (fun i j hij hj => by
    have hj' : j < l.length := by simpa using hj
    rw [getElem!_pos l.toArray i (by simp; omega), getElem!_pos l.toArray j (by simp; omega)]
    simp only [List.getElem_toArray]
    rcases Nat.lt_or_ge i j with h | h
    · exact List.pairwise_iff_getElem.1 hs i j (by omega) hj' h
    · obtain rfl : i = j := by omega
      exact Int.le_refl _) l.length (by simp)
  refine ⟨key.1, fun x => (key.2 x).trans ?_⟩
  rw [List.mem_iff_getElem]
  constructor
  · rintro ⟨j, hj, e⟩
    rw [getElem!_pos l.toArray j (by simpa using hj)] at e
    exact ⟨j, hj, by simpa using e⟩
  · rintro ⟨j, hj, e⟩
    exact ⟨j, hj, by rw [getElem!_pos l.toArray j (by simpa using hj)]; simpa using e⟩
theorem ordersM_all (l : List Rte) : (ordersM l).Pairwise (· < ·) ∧ ∀ x, x ∈ ordersM l ↔ x ∈ (allS l).map (·.ord) := by
  have hs : (((allS l).map (·.ord)).mergeSort fun x y => decide (x ≤ y)).Pairwise (· ≤ ·) := by
    have := List.pairwise_mergeSort (le := fun x y : Int => decide (x ≤ y)) (fun a b c h1 h2 => by simp only [decide_eq_true_eq] at *; omega) (fun a b => by simp only [Bool.or_eq_true, decide_eq_true_eq]; omega) ((allS l).map (·.ord))
    exact this.imp fun h => by simpa using h
  obtain ⟨h1, h2⟩ := compact_sorted hs
  exact ⟨h1, fun x => (h2 x).trans (List.mem_mergeSort)⟩
theorem ordersM_eq {l : List Rte} {f : List Int} (h : f.Pairwise (· < ·)) (hm : ∀ x, x ∈ f ↔ x ∈ (allS l).map (·.ord)) : f = ordersM l :=
  asc_unique h (ordersM_all l).1 fun x => (hm x).trans ((ordersM_all l).2 x).symm
end Go.Proofs.YtilggpkmdmelmaaGreat.PlanMath

namespace Go.Proofs.YtilggpkmdmelmaaGreat.PlanMath
open Go.Proofs.YtilggpkmdmelmaaGreat.FleetMath
set_option linter.unusedVariables false
theorem idxFrom_no {l : List Stp} {s : Stp} (h : s ∉ l) (k : Nat) : idxFrom l s k = -1 := by
  induction l generalizing k with
  | nil => rfl
  | cons x r ih =>
    rw [idxFrom_cons, if_neg (fun e => h (by simp [e])), ih fun hr => h (by simp [hr])]
theorem idxFrom_yes {l : List Stp} {s : Stp} (h : s ∈ l) (k : Nat) : (k : Int) ≤ idxFrom l s k := by
  induction l generalizing k with
  | nil => cases h
  | cons x r ih =>
    rw [idxFrom_cons]
    split
    · exact Int.le_refl _
    · rename_i hx
      rcases List.mem_cons.1 h with e | e
      · exact absurd e.symm hx
      · have := ih e (k + 1)
        omega
theorem idxS_iff {l : List Stp} {s : Stp} : 0 ≤ idxS l s ↔ s ∈ l := by
  constructor
  · intro h
    by_cases hs : s ∈ l
    · exact hs
    · have h' := h
      unfold idxS at h'
      rw [idxFrom_no hs] at h'
      omega
  · intro h
    exact idxFrom_yes h 0
theorem findP_none {l : List Rte} {o : Int} : findP l o = none ↔ ∀ x ∈ l, ∀ s ∈ x.stops, s.ord ≠ o := by
  induction l with
  | nil => simp [findP]
  | cons x r ih =>
    rw [findP_cons]
    constructor
    · intro h
      split at h
      · cases h
      · rename_i hn
        rw [idxS_iff, idxS_iff, not_or] at hn
        intro y hy s hs
        rcases List.mem_cons.1 hy with rfl | hy
        · rintro rfl
          obtain ⟨so, sd⟩ := s
          cases sd
          · exact hn.1 hs
          · exact hn.2 hs
        · exact ih.1 h y hy s hs
    · intro h
      rw [if_neg]
      · exact ih.2 fun y hy => h y (by simp [hy])
      · rw [idxS_iff, idxS_iff]
        rintro (hs | hs)
        · exact h x (by simp) _ hs rfl
        · exact h x (by simp) _ hs rfl
theorem numFrom_at {l : List Rte} {d : Int} {k : Nat} (h : 0 ≤ numFrom l d k) : ∃ i x, numFrom l d k = ((k + i : Nat) : Int) ∧ l[i]? = some x ∧ x.drv = d := by
  induction l generalizing k with
  | nil => exact absurd h (by show ¬ (0 : Int) ≤ -1; decide)
  | cons x r ih =>
    rw [numFrom_cons] at h ⊢
    split
    · rename_i e
      exact ⟨0, x, rfl, rfl, e⟩
    · rename_i e
      rw [if_neg e] at h
      obtain ⟨i, y, h1, h2, h3⟩ := ih h
      exact ⟨i + 1, y, by rw [h1]; congr 1; omega, by simpa using h2, h3⟩
theorem putM_mem {l : List Stp} {o : Int} {i j : Nat} (hij : i ≤ j) (hj : j ≤ l.length) (s : Stp) : s ∈ putM l o i j ↔ s = ⟨o, false⟩ ∨ s = ⟨o, true⟩ ∨ s ∈ l := by
  have e : l = l.take i ++ ((l.drop i).take (j - i) ++ l.drop j) := by
    have h1 : (l.drop i).drop (j - i) = l.drop j := by rw [List.drop_drop]; congr 1; omega
    rw [← h1, List.take_append_drop, List.take_append_drop]
  have hm : s ∈ l ↔ s ∈ l.take i ∨ s ∈ (l.drop i).take (j - i) ∨ s ∈ l.drop j := by
    conv => lhs; rw [e]
    rw [List.mem_append, List.mem_append]
  rw [hm]
  unfold putM
  simp only [List.mem_append, List.mem_cons]
  constructor
  · rintro (h | h | h | h | h)
    · exact Or.inr (Or.inr (Or.inl h))
    · exact Or.inl h
    · exact Or.inr (Or.inr (Or.inr (Or.inl h)))
    · exact Or.inr (Or.inl h)
    · exact Or.inr (Or.inr (Or.inr (Or.inr h)))
  · rintro (h | h | h | h | h)
    · exact Or.inr (Or.inl h)
    · exact Or.inr (Or.inr (Or.inr (Or.inl h)))
    · exact Or.inl h
    · exact Or.inr (Or.inr (Or.inl h))
    · exact Or.inr (Or.inr (Or.inr (Or.inr h)))
theorem putM_perm {l : List Stp} {o : Int} {i j : Nat} (hij : i ≤ j) : (putM l o i j).Perm (⟨o, false⟩ :: ⟨o, true⟩ :: l) := by
  have e : l = l.take i ++ ((l.drop i).take (j - i) ++ l.drop j) := by
    have h1 : (l.drop i).drop (j - i) = l.drop j := by rw [List.drop_drop]; congr 1; omega
    rw [← h1, List.take_append_drop, List.take_append_drop]
  unfold putM
  refine List.perm_middle.trans (List.Perm.cons _ ?_)
  rw [← List.append_assoc]
  refine List.perm_middle.trans (List.Perm.cons _ ?_)
  rw [List.append_assoc, ← e]
theorem putM_take {l : List Stp} {o : Int} {i j k : Nat} (hk : k ≤ i) (hi : i ≤ l.length) : (putM l o i j).take k = l.take k := by
  unfold putM
  rw [List.take_append_of_le_length (by rw [List.length_take]; omega), List.take_take]
  congr 1
  omega
structure WithAt (l : List Rte) (o : Int) (s : Spt) (i : Nat) (x : Rte) : Prop where
  at_ : l[i]? = some x
  drv : x.drv = s.drv
  right : rightP l = true
  num : 1 ≤ o ∧ o ≤ 1000000
  new : ∀ y ∈ l, ∀ t ∈ y.stops, t.ord ≠ o
  few : x.stops.length ≤ 78
  served : 0 ≤ x.served ∧ x.served ≤ s.pick
  le : s.pick ≤ s.drop
  len : s.drop ≤ x.stops.length
theorem withP_some {l : List Rte} {o : Int} {s : Spt} {q : List Rte} (h : withP l o s = some q) :
    ∃ i x, WithAt l o s i x ∧ q = l.set i ⟨x.drv, x.served, putM x.stops o s.pick.toNat s.drop.toNat⟩ := by
  unfold withP at h
  split at h
  · cases h
  rename_i hn
  obtain ⟨i, x, h1, h2, h3⟩ := numFrom_at (Int.not_lt.1 hn)
  rw [Nat.zero_add] at h1
  rw [h1, Int.toNat_natCast, h2] at h
  simp only at h
  split at h
  · rename_i hok
    injection h with h
    simp only [withOk, Bool.and_eq_true, decide_eq_true_eq, nmb, Option.isNone_iff_eq_none] at hok
    obtain ⟨⟨⟨k1, k2⟩, k3⟩, k4, k5, k6, k7⟩ := hok
    have hs := rightP_served k1 (List.mem_of_getElem? h2)
    refine ⟨i, x, ⟨h2, h3, k1, k2, findP_none.1 k3, k4, ⟨hs, k5⟩, k6, k7⟩, ?_⟩
    rw [← h]
    unfold putR
    rw [if_pos ⟨by omega, k6, k7⟩]
  · cases h
section
variable {l : List Rte} {o : Int} {s : Spt} {i : Nat} {x : Rte}
theorem WithAt.lt (h : WithAt l o s i x) : i < l.length := (List.getElem?_eq_some_iff.1 h.at_).1
theorem WithAt.mem (h : WithAt l o s i x) : x ∈ l := List.mem_of_getElem? h.at_
abbrev newR (x : Rte) (o : Int) (s : Spt) : Rte := ⟨x.drv, x.served, putM x.stops o s.pick.toNat s.drop.toNat⟩
theorem WithAt.le' (h : WithAt l o s i x) : s.pick.toNat ≤ s.drop.toNat ∧ s.drop.toNat ≤ x.stops.length ∧ x.served.toNat ≤ s.pick.toNat := by
  have := h.le; have := h.len; have := h.served; omega
theorem WithAt.split (h : WithAt l o s i x) : l = l.take i ++ x :: l.drop (i + 1) ∧ l.set i (newR x o s) = l.take i ++ newR x o s :: l.drop (i + 1) := by
  refine ⟨?_, List.set_eq_take_append_cons_drop.trans (if_pos h.lt)⟩
  conv => lhs; rw [← List.take_append_drop i l, List.drop_eq_getElem_cons h.lt]
  have : l[i]'h.lt = x := by have := h.at_; rw [List.getElem?_eq_getElem h.lt] at this; exact Option.some.inj this
  rw [this]
theorem WithAt.allPerm (h : WithAt l o s i x) : (allS (l.set i (newR x o s))).Perm (⟨o, false⟩ :: ⟨o, true⟩ :: allS l) := by
  obtain ⟨e1, e2⟩ := h.split
  have ea : allS l = allS (l.take i) ++ (x.stops ++ allS (l.drop (i + 1))) := by
    conv => lhs; rw [e1]
    simp [allS]
  rw [e2, ea]
  have eb : allS (l.take i ++ newR x o s :: l.drop (i + 1)) = allS (l.take i) ++ (putM x.stops o s.pick.toNat s.drop.toNat ++ allS (l.drop (i + 1))) := by simp [allS]
  rw [eb]
  refine ((putM_perm h.le'.1).append_right _).append_left _ |>.trans ?_
  rw [List.cons_append, List.cons_append]
  refine List.perm_middle.trans (List.Perm.cons _ ?_)
  exact List.perm_middle
theorem WithAt.allMem (h : WithAt l o s i x) (y : Int) : y ∈ (allS (l.set i (newR x o s))).map (·.ord) ↔ y = o ∨ y ∈ (allS l).map (·.ord) := by
  rw [(h.allPerm.map (·.ord)).mem_iff]
  simp
theorem WithAt.fresh (h : WithAt l o s i x) : o ∉ (allS l).map (·.ord) := by
  intro hm
  simp only [List.mem_map, allS, List.mem_flatMap] at hm
  obtain ⟨t, ⟨y, hy, ht⟩, e⟩ := hm
  exact h.new y hy t ht e
theorem WithAt.right' (h : WithAt l o s i x) : rightP (l.set i (newR x o s)) = true := by
  have hr := h.right
  have hb := rightP_bound hr h.mem
  obtain ⟨h1, h2, h3⟩ := h.le'
  rw [rightP_from, Bool.and_eq_true, decide_eq_true_eq, rightFrom_iff] at hr ⊢
  obtain ⟨k1, k2, k3, k4⟩ := hr
  refine ⟨by rw [List.length_set]; exact k1, fun r hm => ?_, ?_, ?_⟩
  · rcases List.mem_or_eq_of_mem_set hm with hm | rfl
    · exact k2 r hm
    · obtain ⟨a1, a2, _⟩ := k2 x h.mem
      refine ⟨a1, a2, ?_⟩
      simp only [boundR, Bool.and_eq_true, decide_eq_true_eq, List.all_eq_true, nmb] at hb ⊢
      obtain ⟨⟨b1, b2, b3⟩, b4⟩ := hb
      have hl := putM_len (o := o) h1 h2
      refine ⟨⟨by rw [hl]; have := h.few; omega, b2, by rw [hl]; omega⟩, fun t ht => ?_⟩
      rcases (putM_mem h1 h2 t).1 ht with rfl | rfl | ht
      · exact h.num
      · exact h.num
      · exact b4 t ht
  · have e : ∀ q : List Rte, q.Pairwise (fun a b => a.drv < b.drv) ↔ (q.map (·.drv)).Pairwise (· < ·) := fun q => List.pairwise_map.symm
    rw [e] at k3 ⊢
    have em : (l.set i (newR x o s)).map (·.drv) = l.map (·.drv) := by
      rw [List.map_set]
      apply List.ext_getElem?
      intro j
      by_cases hj : j = i
      · subst hj
        rw [List.getElem?_set_self (by rw [List.length_map]; exact h.lt), List.getElem?_map, h.at_]
        rfl
      · rw [List.getElem?_set_ne (by omega)]
    rw [em]
    exact k3
  · rw [List.nil_append] at k4 ⊢
    rw [h.allPerm.nodup_iff]
    refine List.nodup_cons.2 ⟨fun hm => ?_, List.nodup_cons.2 ⟨fun hm => ?_, k4⟩⟩
    · rcases List.mem_cons.1 hm with hm | hm
      · cases hm
      · exact h.fresh (List.mem_map.2 ⟨_, hm, rfl⟩)
    · exact h.fresh (List.mem_map.2 ⟨_, hm, rfl⟩)
end
end Go.Proofs.YtilggpkmdmelmaaGreat.PlanMath

namespace Go.Proofs.YtilggpkmdmelmaaGreat.PlanMath
open Go.Proofs.YtilggpkmdmelmaaGreat.FleetMath
set_option linter.unusedVariables false
def okR (last : Int) (x : Rte) : Prop := last < x.drv ∧ x.drv ≤ 1000000 ∧ x.stops.length ≤ 80 ∧ 0 ≤ x.served ∧ x.served ≤ x.stops.length
structure RG (l : List Rte) (k : Nat) (last : Int) : Prop where
  first : k = 0 → last = 0
  prev : ∀ j y, k = j + 1 → l[j]? = some y → last = y.drv
  pos : 0 ≤ last
  val : rightP l = rightFrom last (allS (l.take k)) (l.drop k)
  nodup : (allS (l.take k)).Nodup
  len : (allS (l.take k)).length ≤ k * 80
theorem rightFrom_dup {l : List Rte} {last : Int} {L : List Stp} (h : ¬ L.Nodup) : rightFrom last L l = false := by
  cases hr : rightFrom last L l with
  | false => rfl
  | true =>
    rw [rightFrom_iff] at hr
    exact absurd (List.nodup_append.1 hr.2.2).1 h
section
variable {l : List Rte} {k j : Nat} {last : Int} {x : Rte} {f : List Stp} {s : Stp}
theorem RG.start (h8 : l.length ≤ 8) : RG l 0 0 := by
  refine ⟨fun _ => rfl, fun j y h => by omega, Int.le_refl _, ?_, by simp [allS], by simp [allS]⟩
  rw [rightP_from, decide_eq_true h8]
  simp [allS]
theorem drop_at (hx : l[k]? = some x) : l.drop k = x :: l.drop (k + 1) := by
  obtain ⟨h, e⟩ := List.getElem?_eq_some_iff.1 hx
  rw [List.drop_eq_getElem_cons h, e]
theorem RG.at_ (h : RG l k last) (hx : l[k]? = some x) : rightP l = (decide (last < x.drv ∧ x.drv ≤ 1000000) && boundR x && rightFrom x.drv (allS (l.take k) ++ x.stops) (l.drop (k + 1))) := by
  rw [h.val, drop_at hx, rightFrom_cons]
theorem RG.no (h : RG l k last) (hx : l[k]? = some x) (hn : ¬ okR last x) : rightP l = false := by
  rw [h.at_ hx]
  cases h1 : decide (last < x.drv ∧ x.drv ≤ 1000000) with
  | false => rfl
  | true =>
    cases h2 : boundR x with
    | false => rfl
    | true =>
      exfalso
      simp only [boundR, Bool.and_eq_true, decide_eq_true_eq] at h1 h2
      exact hn ⟨h1.1, h1.2, h2.1.1, h2.1.2.1, h2.1.2.2⟩
structure RI (l : List Rte) (k : Nat) (last : Int) (x : Rte) (j : Nat) (f : List Stp) : Prop where
  go : RG l k last
  at_ : l[k]? = some x
  ok : okR last x
  is : f = allS (l.take k) ++ x.stops.take j
  nodup : f.Nodup
  nums : ∀ t ∈ x.stops.take j, nmb t.ord = true
theorem RI.start (h : RG l k last) (hx : l[k]? = some x) (ok : okR last x) : RI l k last x 0 (allS (l.take k)) :=
  ⟨h, hx, ok, by simp, h.nodup, by simp⟩
theorem RI.num (h : RI l k last x j f) (hs : x.stops[j]? = some s) (hn : ¬ (1 ≤ s.ord ∧ s.ord ≤ 1000000)) : rightP l = false := by
  rw [h.go.at_ h.at_]
  have hb : boundR x = false := by
    cases hb : boundR x with
    | false => rfl
    | true => exact absurd (boundR_num hb (List.mem_of_getElem? hs)) hn
  rw [hb, Bool.and_false, Bool.false_and]
theorem RI.dup (h : RI l k last x j f) (hs : x.stops[j]? = some s) (hm : s ∈ f) : rightP l = false := by
  rw [h.go.at_ h.at_, rightFrom_dup, Bool.and_false]
  intro hn
  have e : allS (l.take k) ++ x.stops = f ++ (s :: x.stops.drop (j + 1)) := by
    rw [h.is, List.append_assoc]
    congr 1
    obtain ⟨hlt, he⟩ := List.getElem?_eq_some_iff.1 hs
    rw [← he, ← List.drop_eq_getElem_cons hlt, List.take_append_drop]
  rw [e, List.nodup_append] at hn
  exact hn.2.2 s hm s (by simp) rfl
theorem RI.next (h : RI l k last x j f) (hs : x.stops[j]? = some s) (hm : s ∉ f) (hn : 1 ≤ s.ord ∧ s.ord ≤ 1000000) : RI l k last x (j + 1) (f ++ [s]) := by
  have e : x.stops.take (j + 1) = x.stops.take j ++ [s] := by rw [List.take_add_one, hs]; rfl
  refine ⟨h.go, h.at_, h.ok, by rw [e, h.is, List.append_assoc], ?_, fun t ht => ?_⟩
  · rw [List.nodup_append]
    exact ⟨h.nodup, by simp, fun a ha b hb e => hm (by
      have hb' : b = s := by simpa using hb
      rw [← hb', ← e]
      exact ha)⟩
  · rw [e] at ht
    rcases List.mem_append.1 ht with ht | ht
    · exact h.nums t ht
    · obtain rfl : t = s := by simpa using ht
      exact decide_eq_true hn
theorem RI.done (h : RI l k last x j f) (hj : x.stops.length ≤ j) : f = allS (l.take (k + 1)) ∧ RG l (k + 1) x.drv := by
  have e : f = allS (l.take (k + 1)) := by
    rw [h.is, List.take_of_length_le hj, List.take_add_one, h.at_]
    simp [allS]
  have hb : boundR x = true := by
    simp only [boundR, Bool.and_eq_true, decide_eq_true_eq, List.all_eq_true]
    refine ⟨⟨h.ok.2.2.1, h.ok.2.2.2.1, h.ok.2.2.2.2⟩, fun t ht => h.nums t ?_⟩
    rwa [List.take_of_length_le hj]
  refine ⟨e, fun h0 => by omega, fun j' y hj' hy => ?_, by have := h.go.pos; have := h.ok.1; omega, ?_, by rw [← e]; exact h.nodup, ?_⟩
  · have : j' = k := by omega
    subst this
    rw [h.at_] at hy
    injection hy with hy
    rw [hy]
  · rw [h.go.at_ h.at_, hb, decide_eq_true ⟨h.ok.1, h.ok.2.1⟩, ← e]
    simp only [Bool.true_and]
    rw [h.is, List.take_of_length_le hj]
  · rw [← e, h.is, List.length_append, List.length_take]
    have := h.go.len
    have := h.ok.2.2.1
    omega
theorem RI.len (h : RI l k last x j f) : f.length ≤ k * 80 + 80 := by
  rw [h.is, List.length_append, List.length_take]
  have := h.go.len
  have := h.ok.2.2.1
  omega
theorem RG.all (h : RG l k last) (hk : l.length ≤ k) : rightP l = true := by
  rw [h.val, List.drop_of_length_le hk]
  exact decide_eq_true h.nodup
end
end Go.Proofs.YtilggpkmdmelmaaGreat.PlanMath
