/-
  PlanMath, PlanMath2, PlanMath4, PlanMath5: one text.
-/
import Derived.Test.YtkpnmpjnpcjohaaGreatMaths
import Derived.Lib.SlicesCompact
namespace Go.Proofs.YtkpnmpjnpcjohaaGreat.PlanMath
open FleetMath
structure Rte where
  drv : Int
  served : Int
  stops : List Stp
def idxFrom : List Stp → Stp → Nat → Int
  | [], _, _ => -1
  | x :: r, s, k => if x = s then (k : Int) else idxFrom r s (k + 1)
abbrev idxS (l : List Stp) (s : Stp) : Int := idxFrom l s 0
def numFrom : List Rte → Int → Nat → Int
  | [], _, _ => -1
  | x :: r, d, k => if x.drv = d then (k : Int) else numFrom r d (k + 1)
structure Spt where
  drv : Int
  pick : Int
  drop : Int
def findP : List Rte → Int → Option Spt
  | [], _ => none
  | x :: r, o => if 0 ≤ idxS x.stops ⟨o, false⟩ ∨ 0 ≤ idxS x.stops ⟨o, true⟩ then some ⟨x.drv, idxS x.stops ⟨o, false⟩, idxS x.stops ⟨o, true⟩⟩ else findP r o
def doneR (r : Rte) : List Stp := r.stops.take r.served.toNat
def begunP (l : List Rte) (o : Int) : Bool := l.any fun r => (doneR r).any fun s => decide (s.ord = o)
def withoutP (l : List Rte) (os : List Int) : List Rte := l.map fun r => ⟨r.drv, r.served, r.stops.filter fun s => !decide (s.ord ∈ os) || begunP l s.ord⟩
def rightR (r : Rte) : Bool := decide (1 ≤ r.drv ∧ r.drv ≤ 1000000 ∧ r.stops.length ≤ 80 ∧ 0 ≤ r.served ∧ r.served ≤ r.stops.length ∧ ∀ s ∈ r.stops, 1 ≤ s.ord ∧ s.ord ≤ 1000000)
def allS (l : List Rte) : List Stp := l.flatMap (·.stops)
def rightP (l : List Rte) : Bool := decide (l.length ≤ 8) && l.all rightR && decide (l.Pairwise fun a b => a.drv < b.drv) && decide ((allS l).Pairwise (· ≠ ·))
theorem idxFrom_cons (x : Stp) (r : List Stp) (s : Stp) (k : Nat) : idxFrom (x :: r) s k = if x = s then (k : Int) else idxFrom r s (k + 1) := rfl
theorem numFrom_cons (x : Rte) (r : List Rte) (d : Int) (k : Nat) : numFrom (x :: r) d k = if x.drv = d then (k : Int) else numFrom r d (k + 1) := rfl
theorem findP_cons (x : Rte) (r : List Rte) (o : Int) : findP (x :: r) o = if 0 ≤ idxS x.stops ⟨o, false⟩ ∨ 0 ≤ idxS x.stops ⟨o, true⟩ then some ⟨x.drv, idxS x.stops ⟨o, false⟩, idxS x.stops ⟨o, true⟩⟩ else findP r o := rfl
def nmb (a : Int) : Bool := decide (1 ≤ a ∧ a ≤ 1000000)
def boundR (r : Rte) : Bool := decide (r.stops.length ≤ 80 ∧ 0 ≤ r.served ∧ r.served ≤ r.stops.length) && r.stops.all fun s => nmb s.ord
def rightFrom (last : Int) (L : List Stp) : List Rte → Bool
  | [] => decide L.Nodup
  | x :: r => decide (last < x.drv ∧ x.drv ≤ 1000000) && boundR x && rightFrom x.drv (L ++ x.stops) r
theorem rightFrom_cons (last : Int) (L : List Stp) (x : Rte) (r : List Rte) : rightFrom last L (x :: r) = (decide (last < x.drv ∧ x.drv ≤ 1000000) && boundR x && rightFrom x.drv (L ++ x.stops) r) := rfl
theorem boundR_len {x : Rte} (h : boundR x = true) : x.stops.length ≤ 80 := by
  simp only [boundR, Bool.and_eq_true, decide_eq_true_eq] at h
  exact h.1.1
theorem boundR_num {x : Rte} (h : boundR x = true) {s : Stp} (hs : s ∈ x.stops) : 1 ≤ s.ord ∧ s.ord ≤ 1000000 := by
  simp only [boundR, Bool.and_eq_true, List.all_eq_true, nmb, decide_eq_true_eq] at h
  exact h.2 s hs
theorem rightFrom_iff (l : List Rte) (last : Int) (L : List Stp) : rightFrom last L l = true ↔ (∀ r ∈ l, last < r.drv ∧ r.drv ≤ 1000000 ∧ boundR r = true) ∧ l.Pairwise (fun a b => a.drv < b.drv) ∧ (L ++ allS l).Nodup := by
  induction l generalizing last L with
  | nil => simp [rightFrom, allS]
  | cons x r ih =>
    rw [rightFrom_cons, Bool.and_eq_true, Bool.and_eq_true, ih, decide_eq_true_eq, List.pairwise_cons]
    have e : L ++ allS (x :: r) = L ++ x.stops ++ allS r := by simp [allS]
    rw [e]
    constructor
    · rintro ⟨⟨⟨h1, h2⟩, h3⟩, h4, h5, h6⟩
      refine ⟨fun q hq => ?_, ⟨fun q hq => (h4 q hq).1, h5⟩, h6⟩
      rcases List.mem_cons.1 hq with rfl | hq
      · exact ⟨h1, h2, h3⟩
      · exact ⟨Int.lt_trans h1 (h4 q hq).1, (h4 q hq).2⟩
    · rintro ⟨h1, ⟨h2, h3⟩, h4⟩
      obtain ⟨a1, a2, a3⟩ := h1 x (by simp)
      exact ⟨⟨⟨a1, a2⟩, a3⟩, fun q hq => ⟨h2 q hq, (h1 q (by simp [hq])).2⟩, h3, h4⟩
theorem rightR_iff (r : Rte) : rightR r = true ↔ 0 < r.drv ∧ r.drv ≤ 1000000 ∧ boundR r = true := by
  simp only [rightR, boundR, nmb, decide_eq_true_eq, Bool.and_eq_true, List.all_eq_true]
  constructor
  · rintro ⟨h1, h2, h3, h4, h5, h6⟩; exact ⟨by omega, h2, ⟨h3, h4, h5⟩, h6⟩
  · rintro ⟨h1, h2, ⟨h3, h4, h5⟩, h6⟩; exact ⟨by omega, h2, h3, h4, h5, h6⟩
theorem rightP_from (l : List Rte) : rightP l = (decide (l.length ≤ 8) && rightFrom 0 [] l) := by
  rw [Bool.eq_iff_iff]
  simp only [rightP, Bool.and_eq_true, decide_eq_true_eq, List.all_eq_true, rightFrom_iff, List.nil_append, rightR_iff, List.Nodup]
  constructor
  · rintro ⟨⟨⟨h1, h2⟩, h3⟩, h4⟩; exact ⟨h1, h2, h3, h4⟩
  · rintro ⟨h1, h2, h3, h4⟩; exact ⟨⟨⟨h1, h2⟩, h3⟩, h4⟩
theorem rightP_bound {l : List Rte} (h : rightP l = true) {x : Rte} (hx : x ∈ l) : boundR x = true := by
  rw [rightP_from, Bool.and_eq_true, rightFrom_iff] at h
  exact (h.2.1 x hx).2.2
theorem rightP_served {l : List Rte} (h : rightP l = true) {x : Rte} (hx : x ∈ l) : 0 ≤ x.served := by
  have := rightP_bound h hx
  simp only [boundR, Bool.and_eq_true, decide_eq_true_eq] at this
  exact this.1.2.1
theorem rightP_few {l : List Rte} (h : rightP l = true) : l.length ≤ 8 := by
  rw [rightP_from, Bool.and_eq_true, decide_eq_true_eq] at h
  exact h.1
def withOk (l : List Rte) (o : Int) (s : Spt) (x : Rte) : Bool := rightP l && nmb o && (findP l o).isNone && decide (x.stops.length ≤ 78 ∧ x.served ≤ s.pick ∧ s.pick ≤ s.drop ∧ s.drop ≤ x.stops.length)
def withP (l : List Rte) (o : Int) (s : Spt) : Option (List Rte) :=
  if numFrom l s.drv 0 < 0 then none else match l[(numFrom l s.drv 0).toNat]? with
  | none => none
  | some x => if withOk l o s x then some (l.set (numFrom l s.drv 0).toNat ⟨x.drv, x.served, putR x.stops o s.pick s.drop⟩) else none
end Go.Proofs.YtkpnmpjnpcjohaaGreat.PlanMath

namespace Go.Proofs.YtkpnmpjnpcjohaaGreat.PlanMath
open FleetMath
set_option linter.unusedVariables false
theorem withoutP_nil (l : List Rte) : withoutP l [] = l := by
  unfold withoutP
  have : (fun r : Rte => (⟨r.drv, r.served, r.stops.filter fun s => !decide (s.ord ∈ ([] : List Int)) || begunP l s.ord⟩ : Rte)) = id := by
    funext r
    have e : (r.stops.filter fun s => !decide (s.ord ∈ ([] : List Int)) || begunP l s.ord) = r.stops := by
      rw [List.filter_eq_self]
      intro s _
      simp
    rw [e]
    rfl
  rw [this, List.map_id]
theorem wf_ord {l : List Rte} (h : rightP l = true) : ∀ r ∈ l, ∀ s ∈ r.stops, 1 ≤ s.ord ∧ s.ord ≤ 1000000 := fun r hr s hs => boundR_num (rightP_bound h hr) hs
theorem putR_len {l : List Stp} {o i j : Int} (h : 0 ≤ i ∧ i ≤ j ∧ j ≤ l.length) : (putR l o i j).length = l.length + 2 := by
  unfold putR
  rw [if_pos h]
  exact putM_len (by omega) (by omega)
end Go.Proofs.YtkpnmpjnpcjohaaGreat.PlanMath

namespace Go.Proofs.YtkpnmpjnpcjohaaGreat.PlanMath
open FleetMath
set_option linter.unusedVariables false
def ordersM (l : List Rte) : List Int := Lib.compact ((allS l).map (·.ord) |>.mergeSort fun x y => decide (x ≤ y))
theorem asc_unique : ∀ {l m : List Int}, l.Pairwise (· < ·) → m.Pairwise (· < ·) → (∀ x, x ∈ l ↔ x ∈ m) → l = m
  | [], [], _, _, _ => rfl
  | [], b :: m, _, _, h => absurd ((h b).2 (by simp)) (by simp)
  | a :: l, [], _, _, h => absurd ((h a).1 (by simp)) (by simp)
  | a :: l, b :: m, hl, hm, h => by
    rw [List.pairwise_cons] at hl hm
    have hab : a = b := by
      rcases List.mem_cons.1 ((h a).1 (by simp)) with e | e
      · exact e
      · rcases List.mem_cons.1 ((h b).2 (by simp)) with e' | e'
        · exact e'.symm
        · have h1 := hm.1 a e
          have h2 := hl.1 b e'
          omega
    subst hab
    rw [asc_unique hl.2 hm.2 fun x => ?_]
    constructor
    · intro hx
      have := hl.1 x hx
      rcases List.mem_cons.1 ((h x).1 (by simp [hx])) with e | e
      · omega
      · exact e
    · intro hx
      have := hm.1 x hx
      rcases List.mem_cons.1 ((h x).2 (by simp [hx])) with e | e
      · omega
      · exact e
theorem compact_to {d : Array Int} (hs : ∀ i j, i ≤ j → j < d.size → d[i]! ≤ d[j]!) (m : Nat) (hm : m ≤ d.size) :
    (Lib.compactUpTo d m).Pairwise (· < ·) ∧ ∀ x, x ∈ Lib.compactUpTo d m ↔ ∃ j, j < m ∧ d[j]! = x := by
  induction m with
  | zero => exact ⟨by simp [Lib.compactUpTo], fun x => by simp [Lib.compactUpTo]⟩
  | succ m ih =>
    obtain ⟨h1, h2⟩ := ih (by omega)
    rw [Lib.compactUpTo_succ]
    cases hk : Lib.keeps d m with
    | true =>
      rw [if_pos rfl]
      refine ⟨List.pairwise_append.2 ⟨h1, by simp, fun x hx y hy => ?_⟩, fun x => ?_⟩
      · obtain rfl : y = d[m]! := by simpa using hy
        obtain ⟨j, hj, rfl⟩ := (h2 x).1 hx
        have hne : d[m]! ≠ d[m - 1]! := by
          simp only [Lib.keeps, decide_eq_true_eq] at hk
          rcases hk with hk | hk
          · omega
          · exact hk
        have e1 := hs j (m - 1) (by omega) (by omega)
        have e2 := hs (m - 1) m (by omega) (by omega)
        omega
      · rw [List.mem_append, h2, List.mem_singleton]
        constructor
        · rintro (⟨j, hj, e⟩ | e)
          · exact ⟨j, by omega, e⟩
          · exact ⟨m, by omega, e.symm⟩
        · rintro ⟨j, hj, e⟩
          by_cases hjm : j = m
          · subst hjm; exact Or.inr e.symm
          · exact Or.inl ⟨j, by omega, e⟩
    | false =>
      rw [if_neg (by decide), List.append_nil]
      refine ⟨h1, fun x => (h2 x).trans ?_⟩
      simp only [Lib.keeps, decide_eq_false_iff_not, not_or, Decidable.not_not] at hk
      constructor
      · rintro ⟨j, hj, e⟩; exact ⟨j, by omega, e⟩
      · rintro ⟨j, hj, e⟩
        by_cases hjm : j = m
        · subst hjm; exact ⟨j - 1, by omega, by rw [← hk.2]; exact e⟩
        · exact ⟨j, by omega, e⟩
theorem compact_sorted {l : List Int} (hs : l.Pairwise (· ≤ ·)) : (Lib.compact l).Pairwise (· < ·) ∧ ∀ x, x ∈ Lib.compact l ↔ x ∈ l := by
  have hget : ∀ j, j < l.length → l.toArray[j]! = l[j]! := fun j hj => by simp
  have key := compact_to (d := l.toArray) (fun i j hij hj => by
    have hj' : j < l.length := by simpa using hj
    rw [getElem!_pos l.toArray i (by simp; omega), getElem!_pos l.toArray j (by simp; omega)]
    simp only [List.getElem_toArray]
    rcases Nat.lt_or_ge i j with h | h
    · exact List.pairwise_iff_getElem.1 hs i j (by omega) hj' h
    · obtain rfl : i = j := by omega
      exact Int.le_refl _) l.length (by simp)
  refine ⟨key.1, fun x => (key.2 x).trans ?_⟩
  rw [List.mem_iff_getElem]
  constructor
  · rintro ⟨j, hj, e⟩
    rw [getElem!_pos l.toArray j (by simpa using hj)] at e
    exact ⟨j, hj, by simpa using e⟩
  · rintro ⟨j, hj, e⟩
    exact ⟨j, hj, by rw [getElem!_pos l.toArray j (by simpa using hj)]; simpa using e⟩
theorem ordersM_all (l : List Rte) : (ordersM l).Pairwise (· < ·) ∧ ∀ x, x ∈ ordersM l ↔ x ∈ (allS l).map (·.ord) := by
  have hs : (((allS l).map (·.ord)).mergeSort fun x y => decide (x ≤ y)).Pairwise (· ≤ ·) := by
    have := List.pairwise_mergeSort (le := fun x y : Int => decide (x ≤ y)) (fun a b c h1 h2 => by simp only [decide_eq_true_eq] at *; omega) (fun a b => by simp only [Bool.or_eq_true, decide_eq_true_eq]; omega) ((allS l).map (·.ord))
    exact this.imp fun h => by simpa using h
  obtain ⟨h1, h2⟩ := compact_sorted hs
  exact ⟨h1, fun x => (h2 x).trans (List.mem_mergeSort)⟩
end Go.Proofs.YtkpnmpjnpcjohaaGreat.PlanMath

namespace Go.Proofs.YtkpnmpjnpcjohaaGreat.PlanMath
open FleetMath
set_option linter.unusedVariables false
theorem idxFrom_no {l : List Stp} {s : Stp} (h : s ∉ l) (k : Nat) : idxFrom l s k = -1 := by
  induction l generalizing k with
  | nil => rfl
  | cons x r ih =>
    rw [idxFrom_cons, if_neg (fun e => h (by simp [e])), ih fun hr => h (by simp [hr])]
theorem idxFrom_yes {l : List Stp} {s : Stp} (h : s ∈ l) (k : Nat) : (k : Int) ≤ idxFrom l s k := by
  induction l generalizing k with
  | nil => cases h
  | cons x r ih =>
    rw [idxFrom_cons]
    split
    · exact Int.le_refl _
    · rename_i hx
      rcases List.mem_cons.1 h with e | e
      · exact absurd e.symm hx
      · have := ih e (k + 1)
        omega
theorem idxS_iff {l : List Stp} {s : Stp} : 0 ≤ idxS l s ↔ s ∈ l := by
  constructor
  · intro h
    by_cases hs : s ∈ l
    · exact hs
    · have h' := h
      unfold idxS at h'
      rw [idxFrom_no hs] at h'
      omega
  · intro h
    exact idxFrom_yes h 0
theorem findP_none {l : List Rte} {o : Int} : findP l o = none ↔ ∀ x ∈ l, ∀ s ∈ x.stops, s.ord ≠ o := by
  induction l with
  | nil => simp [findP]
  | cons x r ih =>
    rw [findP_cons]
    constructor
    · intro h
      split at h
      · cases h
      · rename_i hn
        rw [idxS_iff, idxS_iff, not_or] at hn
        intro y hy s hs
        rcases List.mem_cons.1 hy with rfl | hy
        · rintro rfl
          obtain ⟨so, sd⟩ := s
          cases sd
          · exact hn.1 hs
          · exact hn.2 hs
        · exact ih.1 h y hy s hs
    · intro h
      rw [if_neg]
      · exact ih.2 fun y hy => h y (by simp [hy])
      · rw [idxS_iff, idxS_iff]
        rintro (hs | hs)
        · exact h x (by simp) _ hs rfl
        · exact h x (by simp) _ hs rfl
end Go.Proofs.YtkpnmpjnpcjohaaGreat.PlanMath
