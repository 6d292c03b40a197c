/-
  PlanEnc, PlanDec, PlanMath3, PlanRunsM: one text.
-/
import Derived.Test.YtbnhbbjmocclmaaPlanMaths
import Derived.Test.YtbnhbbjmocclmaaWireAll
/-
  A plan as bytes: chapter 9's words. No program is named here.
-/
namespace Go.Proofs.Ytbnhbbjmocclmaa.PlanMath
open Go.Proofs.Ytbnhbbjmocclmaa.FleetMath Go.Proofs.Ytbnhbbjmocclmaa.WireMath Go.Proofs.Ytbnhbbjmocclmaa.Wire
set_option linter.unusedVariables false

def encS (s : Stp) : List UInt8 := putN s.ord ++ [flagB s.drop]
def encH (r : Rte) : List UInt8 := putN r.drv ++ putN r.stops.length ++ putN r.served
def encR (r : Rte) : List UInt8 := encH r ++ r.stops.flatMap encS
def encP (l : List Rte) : List UInt8 := putN l.length ++ l.flatMap encR
def encodeP (l : List Rte) : List UInt8 := if rightP l then encP l else []
theorem i64_small {n : Int} (h0 : 0 ≤ n) (h1 : n ≤ 1000000) : i64 n := ⟨by omega, by omega⟩
theorem encS_len {s : Stp} (h : i64 s.ord) : (encS s).length ≤ 11 := by
  have := (putN_len h).2
  unfold encS
  rw [List.length_append, List.length_singleton]
  omega
theorem encSs_len {l : List Stp} (h : ∀ s ∈ l, i64 s.ord) : (l.flatMap encS).length ≤ l.length * 11 := by
  induction l with
  | nil => simp
  | cons x r ih =>
    rw [List.flatMap_cons, List.length_append, List.length_cons]
    have h1 := encS_len (h x (by simp))
    have h2 := ih fun s hs => h s (by simp [hs])
    omega
theorem encH_len {r : Rte} (h1 : i64 r.drv) (h2 : i64 r.stops.length) (h3 : i64 r.served) : (encH r).length ≤ 30 := by
  have := (putN_len h1).2
  have := (putN_len h2).2
  have := (putN_len h3).2
  unfold encH
  rw [List.length_append, List.length_append]
  omega
/-- what is small enough to be written -/
structure Wr (r : Rte) : Prop where
  drv : i64 r.drv
  len : i64 r.stops.length
  served : i64 r.served
  ords : ∀ s ∈ r.stops, i64 s.ord
  few : r.stops.length ≤ 80
theorem Wr.of {l : List Rte} (h : rightP l = true) {r : Rte} (hr : r ∈ l) : Wr r := by
  have hb := rightP_bound h hr
  have hn := wf_ord h r hr
  rw [rightP_from, Bool.and_eq_true, rightFrom_iff] at h
  obtain ⟨h1, h2, _⟩ := h.2.1 r hr
  have hs := boundR_len hb
  simp only [boundR, Bool.and_eq_true, decide_eq_true_eq] at hb
  obtain ⟨⟨b1, b2, b3⟩, _⟩ := hb
  exact ⟨i64_small (by omega) h2, i64_small (by omega) (by omega), i64_small b2 (by omega), fun s hs => i64_small (by have := (hn s hs).1; omega) (hn s hs).2, hs⟩
theorem Wr.encR_len {r : Rte} (h : Wr r) : (encR r).length ≤ 910 := by
  have h1 := encH_len h.drv h.len h.served
  have h2 := encSs_len h.ords
  have h3 := h.few
  unfold encR
  rw [List.length_append]
  omega
theorem encRs_len {l : List Rte} (h : ∀ r ∈ l, Wr r) : (l.flatMap encR).length ≤ l.length * 910 := by
  induction l with
  | nil => simp
  | cons x r ih =>
    rw [List.flatMap_cons, List.length_append, List.length_cons]
    have h1 := (h x (by simp)).encR_len
    have h2 := ih fun s hs => h s (by simp [hs])
    omega
end Go.Proofs.Ytbnhbbjmocclmaa.PlanMath

/-
  Bytes as a plan: chapter 9's words, as the program reads them.
-/
namespace Go.Proofs.Ytbnhbbjmocclmaa.PlanMath
open Go.Proofs.Ytbnhbbjmocclmaa.FleetMath Go.Proofs.Ytbnhbbjmocclmaa.WireMath Go.Proofs.Ytbnhbbjmocclmaa.Wire
set_option linter.unusedVariables false

/-- k stops, one behind the other -/
def rdStops (xs : List UInt8) : Nat → Rd → List Stp × Rd
  | 0, r => ([], r)
  | k + 1, r => ((rdStops xs k r).1 ++ [⟨(rdNum xs (rdStops xs k r).2).1, (rdFlag xs (rdNum xs (rdStops xs k r).2).2).1⟩], (rdFlag xs (rdNum xs (rdStops xs k r).2).2).2)
def rdRte (xs : List UInt8) (r : Rd) : Rte × Rd :=
  (⟨(rdNum xs r).1, (rdNum xs (rdCount xs 80 (rdNum xs r).2).2).1, (rdStops xs (rdCount xs 80 (rdNum xs r).2).1.toNat (rdNum xs (rdCount xs 80 (rdNum xs r).2).2).2).1⟩,
    (rdStops xs (rdCount xs 80 (rdNum xs r).2).1.toNat (rdNum xs (rdCount xs 80 (rdNum xs r).2).2).2).2)
def rdRtes (xs : List UInt8) : Nat → Rd → List Rte × Rd
  | 0, r => ([], r)
  | k + 1, r => ((rdRtes xs k r).1 ++ [(rdRte xs (rdRtes xs k r).2).1], (rdRte xs (rdRtes xs k r).2).2)
def rdPlan (xs : List UInt8) : List Rte × Rd := rdRtes xs (rdCount xs 8 ⟨0, 0, 0⟩).1.toNat (rdCount xs 8 ⟨0, 0, 0⟩).2
def decodeP (xs : List UInt8) : List Rte × Int :=
  if (rdEnd xs (rdPlan xs).2).1 = 0 then (if rightP (rdPlan xs).1 then ((rdPlan xs).1, 0) else ([], 4)) else ([], (rdEnd xs (rdPlan xs).2).1)
theorem rdStops_succ (xs : List UInt8) (k : Nat) (r : Rd) : rdStops xs (k + 1) r = ((rdStops xs k r).1 ++ [⟨(rdNum xs (rdStops xs k r).2).1, (rdFlag xs (rdNum xs (rdStops xs k r).2).2).1⟩], (rdFlag xs (rdNum xs (rdStops xs k r).2).2).2) := rfl
theorem rdRtes_succ (xs : List UInt8) (k : Nat) (r : Rd) : rdRtes xs (k + 1) r = ((rdRtes xs k r).1 ++ [(rdRte xs (rdRtes xs k r).2).1], (rdRte xs (rdRtes xs k r).2).2) := rfl
theorem rdRtes_succ_fst (xs : List UInt8) (k : Nat) (r : Rd) : (rdRtes xs (k + 1) r).1 = (rdRtes xs k r).1 ++ [(rdRte xs (rdRtes xs k r).2).1] := rfl
theorem rdRtes_succ_snd (xs : List UInt8) (k : Nat) (r : Rd) : (rdRtes xs (k + 1) r).2 = (rdRte xs (rdRtes xs k r).2).2 := rfl
theorem rdStops_len (xs : List UInt8) (k : Nat) (r : Rd) : (rdStops xs k r).1.length = k := by
  induction k with
  | zero => rfl
  | succ k ih => rw [rdStops_succ, List.length_append, ih]; rfl
theorem rdRtes_len (xs : List UInt8) (k : Nat) (r : Rd) : (rdRtes xs k r).1.length = k := by
  induction k with
  | zero => rfl
  | succ k ih => rw [rdRtes_succ, List.length_append, ih]; rfl
theorem rdCount_in (xs : List UInt8) {most : Int} (h : 0 ≤ most) (r : Rd) : 0 ≤ (rdCount xs most r).1 ∧ (rdCount xs most r).1 ≤ most := by
  unfold rdCount
  split
  · cases hc : getC most (xs.drop r.next) with
    | error e => exact ⟨Int.le_refl _, h⟩
    | ok q =>
      obtain ⟨v, k⟩ := q
      obtain ⟨_, _, _, _, h1, h2⟩ := getC_only hc
      exact ⟨h1, h2⟩
  · exact ⟨Int.le_refl _, h⟩
end Go.Proofs.Ytbnhbbjmocclmaa.PlanMath

/-
  Chapter 9's bytes: what is written is read back; what is accepted is what is written. No program is named here.
-/
namespace Go.Proofs.Ytbnhbbjmocclmaa.PlanMath
open Go.Proofs.Ytbnhbbjmocclmaa.FleetMath Go.Proofs.Ytbnhbbjmocclmaa.WireMath Go.Proofs.Ytbnhbbjmocclmaa.Wire
set_option linter.unusedVariables false

/-- the reader stands ahead of t, with no fault -/
def AtT (xs : List UInt8) (r : Rd) (t : List UInt8) : Prop := r.why = 0 ∧ xs.drop r.next = t
theorem drop_more {xs : List UInt8} {k : Nat} {a t : List UInt8} (h : xs.drop k = a ++ t) : xs.drop (k + a.length) = t := by
  rw [← List.drop_drop, h, List.drop_left]
theorem num_put {xs : List UInt8} {r : Rd} {n : Int} {t : List UInt8} (h : AtT xs r (putN n ++ t)) (hn : i64 n) : (rdNum xs r).1 = n ∧ AtT xs (rdNum xs r).2 t := by
  obtain ⟨h1, h2⟩ := h
  unfold rdNum
  rw [if_pos h1, h2, getN_putN t hn]
  exact ⟨rfl, rfl, drop_more h2⟩
theorem count_put {xs : List UInt8} {r : Rd} {n most : Int} {t : List UInt8} (h : AtT xs r (putN n ++ t)) (hn : i64 n) (h0 : 0 ≤ n) (hm : n ≤ most) : (rdCount xs most r).1 = n ∧ AtT xs (rdCount xs most r).2 t := by
  obtain ⟨h1, h2⟩ := h
  unfold rdCount
  rw [if_pos h1, h2, getC_put t hn h0 hm]
  exact ⟨rfl, rfl, drop_more h2⟩
theorem flag_put {xs : List UInt8} {r : Rd} {b : Bool} {t : List UInt8} (h : AtT xs r (flagB b :: t)) : (rdFlag xs r).1 = b ∧ AtT xs (rdFlag xs r).2 t := by
  obtain ⟨h1, h2⟩ := h
  have hg : getF (flagB b :: t) = .ok (b, 1) := by cases b <;> rfl
  unfold rdFlag
  rw [if_pos h1, h2, hg]
  exact ⟨rfl, rfl, drop_more (a := [flagB b]) h2⟩
theorem stops_put {xs : List UInt8} {r : Rd} {l : List Stp} {t : List UInt8} (h : AtT xs r (l.flatMap encS ++ t)) (hl : ∀ s ∈ l, i64 s.ord) (k : Nat) (hk : k ≤ l.length) :
    (rdStops xs k r).1 = l.take k ∧ AtT xs (rdStops xs k r).2 ((l.drop k).flatMap encS ++ t) := by
  induction k with
  | zero => exact ⟨rfl, h⟩
  | succ k ih =>
    obtain ⟨h1, h2⟩ := ih (by omega)
    have hlt : k < l.length := by omega
    rw [List.drop_eq_getElem_cons hlt, List.flatMap_cons] at h2
    have h3 : AtT xs (rdStops xs k r).2 (putN l[k].ord ++ (flagB l[k].drop :: ((l.drop (k + 1)).flatMap encS ++ t))) := by
      have e : encS l[k] ++ (l.drop (k + 1)).flatMap encS ++ t = putN l[k].ord ++ (flagB l[k].drop :: ((l.drop (k + 1)).flatMap encS ++ t)) := by simp [encS]
      rw [e] at h2
      exact h2
    obtain ⟨e1, h4⟩ := num_put h3 (hl _ (List.getElem_mem hlt))
    obtain ⟨e2, h5⟩ := flag_put h4
    rw [rdStops_succ, h1, e1, e2, List.take_add_one, List.getElem?_eq_getElem hlt]
    exact ⟨rfl, h5⟩
theorem rte_put {xs : List UInt8} {r : Rd} {x : Rte} {t : List UInt8} (h : AtT xs r (encR x ++ t)) (hx : Wr x) : (rdRte xs r).1 = x ∧ AtT xs (rdRte xs r).2 t := by
  have h0 : AtT xs r (putN x.drv ++ (putN x.stops.length ++ (putN x.served ++ (x.stops.flatMap encS ++ t)))) := by
    have e : encR x ++ t = putN x.drv ++ (putN x.stops.length ++ (putN x.served ++ (x.stops.flatMap encS ++ t))) := by simp [encR, encH]
    rw [e] at h
    exact h
  obtain ⟨e1, h1⟩ := num_put h0 hx.drv
  obtain ⟨e2, h2⟩ := count_put h1 hx.len (by omega) (by have := hx.few; omega : (x.stops.length : Int) ≤ 80)
  obtain ⟨e3, h3⟩ := num_put h2 hx.served
  obtain ⟨e4, h4⟩ := stops_put h3 hx.ords x.stops.length (Nat.le_refl _)
  rw [List.take_of_length_le (Nat.le_refl _)] at e4
  rw [List.drop_of_length_le (Nat.le_refl _)] at h4
  unfold rdRte
  rw [e1, e2, e3, Int.toNat_natCast, e4]
  exact ⟨rfl, h4⟩
theorem rtes_put {xs : List UInt8} {r : Rd} {l : List Rte} {t : List UInt8} (h : AtT xs r (l.flatMap encR ++ t)) (hl : ∀ x ∈ l, Wr x) (k : Nat) (hk : k ≤ l.length) :
    (rdRtes xs k r).1 = l.take k ∧ AtT xs (rdRtes xs k r).2 ((l.drop k).flatMap encR ++ t) := by
  induction k with
  | zero => exact ⟨rfl, h⟩
  | succ k ih =>
    obtain ⟨h1, h2⟩ := ih (by omega)
    have hlt : k < l.length := by omega
    rw [List.drop_eq_getElem_cons hlt, List.flatMap_cons, List.append_assoc] at h2
    obtain ⟨e1, h3⟩ := rte_put h2 (hl _ (List.getElem_mem hlt))
    rw [rdRtes_succ, h1, e1, List.take_add_one, List.getElem?_eq_getElem hlt]
    exact ⟨rfl, h3⟩
/-- what is written is read back -/
theorem decode_encode {l : List Rte} (h : rightP l = true) : decodeP (encodeP l) = (l, 0) := by
  have hw : ∀ x ∈ l, Wr x := fun x hx => Wr.of h hx
  have hf := rightP_few h
  unfold encodeP
  rw [if_pos h]
  have h0 : AtT (encP l) ⟨0, 0, 0⟩ (putN l.length ++ (l.flatMap encR ++ [])) := ⟨rfl, by simp [encP]⟩
  obtain ⟨e1, h1⟩ := count_put (most := 8) h0 (i64_small (by omega) (by omega)) (by omega) (by omega)
  obtain ⟨e2, h2⟩ := rtes_put h1 hw l.length (Nat.le_refl _)
  rw [List.take_of_length_le (Nat.le_refl _)] at e2
  rw [List.drop_of_length_le (Nat.le_refl _)] at h2
  have e3 : (rdPlan (encP l)).1 = l := by unfold rdPlan; rw [e1, Int.toNat_natCast, e2]
  have h3 : AtT (encP l) (rdPlan (encP l)).2 [] := by unfold rdPlan; rw [e1, Int.toNat_natCast]; exact h2
  have e4 : (rdEnd (encP l) (rdPlan (encP l)).2).1 = 0 := by
    unfold rdEnd
    rw [if_neg]
    · exact h3.1
    · rintro ⟨_, hlt⟩
      have := congrArg List.length h3.2
      rw [List.length_drop, List.length_nil] at this
      omega
  unfold decodeP
  rw [e4, if_pos rfl, e3, if_pos h]

/-! ### a reader with a fault stays where it is -/
theorem num_stuck {xs : List UInt8} {r : Rd} (h : ¬ r.why = 0) : rdNum xs r = (0, r) := if_neg h
theorem count_stuck {xs : List UInt8} {r : Rd} {most : Int} (h : ¬ r.why = 0) : rdCount xs most r = (0, r) := if_neg h
theorem flag_stuck {xs : List UInt8} {r : Rd} (h : ¬ r.why = 0) : rdFlag xs r = (false, r) := if_neg h
theorem stops_stuck {xs : List UInt8} {r : Rd} (h : ¬ r.why = 0) (k : Nat) : (rdStops xs k r).2 = r := by
  induction k with
  | zero => rfl
  | succ k ih => rw [rdStops_succ]; simp only [ih, num_stuck h, flag_stuck h]
theorem rte_stuck {xs : List UInt8} {r : Rd} (h : ¬ r.why = 0) : (rdRte xs r).2 = r := by
  unfold rdRte
  simp only [num_stuck h, count_stuck h]
  exact stops_stuck h _
theorem rtes_stuck {xs : List UInt8} {r : Rd} (h : ¬ r.why = 0) (k : Nat) : (rdRtes xs k r).2 = r := by
  induction k with
  | zero => rfl
  | succ k ih => rw [rdRtes_succ]; simp only [ih]; exact rte_stuck h
theorem stops_more {xs : List UInt8} {r : Rd} {j k : Nat} (hjk : j ≤ k) (h : ¬ (rdStops xs j r).2.why = 0) : (rdStops xs k r).2 = (rdStops xs j r).2 := by
  obtain ⟨d, rfl⟩ : ∃ d, k = j + d := ⟨k - j, by omega⟩
  clear hjk
  induction d with
  | zero => rfl
  | succ d ih => rw [← Nat.add_assoc, rdStops_succ]; simp only [ih, num_stuck h, flag_stuck h]
theorem rtes_more {xs : List UInt8} {r : Rd} {j k : Nat} (hjk : j ≤ k) (h : ¬ (rdRtes xs j r).2.why = 0) : (rdRtes xs k r).2 = (rdRtes xs j r).2 := by
  obtain ⟨d, rfl⟩ : ∃ d, k = j + d := ⟨k - j, by omega⟩
  clear hjk
  induction d with
  | zero => rfl
  | succ d ih => rw [← Nat.add_assoc, rdRtes_succ]; simp only [ih]; exact rte_stuck h

/-! ### what is accepted is what is written -/
theorem num_only {xs : List UInt8} {r : Rd} (h : (rdNum xs r).2.why = 0) : r.why = 0 ∧ xs.drop r.next = putN (rdNum xs r).1 ++ xs.drop (rdNum xs r).2.next := by
  by_cases h0 : r.why = 0
  · refine ⟨h0, ?_⟩
    revert h
    unfold rdNum
    rw [if_pos h0]
    cases hg : getN (xs.drop r.next) with
    | error e =>
      intro h
      have h' : e = 0 := h
      rcases getN_err hg with h1 | h1 <;> omega
    | ok q =>
      obtain ⟨v, k⟩ := q
      intro _
      obtain ⟨t, e, hk, _⟩ := getN_only hg
      show xs.drop r.next = putN v ++ xs.drop (r.next + k)
      rw [hk, drop_more e, e]
  · rw [num_stuck h0] at h; exact absurd h h0
theorem getC_err {most : Int} {l : List UInt8} {e : Int} (h : getC most l = .error e) : e ≠ 0 := by
  unfold getC at h
  split at h
  · rename_i e' he
    injection h with h
    subst h
    rcases getN_err he with rfl | rfl <;> decide
  · split at h
    · injection h with h; subst h; decide
    · cases h
theorem count_only {xs : List UInt8} {r : Rd} {most : Int} (h : (rdCount xs most r).2.why = 0) : r.why = 0 ∧ xs.drop r.next = putN (rdCount xs most r).1 ++ xs.drop (rdCount xs most r).2.next ∧ 0 ≤ (rdCount xs most r).1 := by
  by_cases h0 : r.why = 0
  · refine ⟨h0, ?_⟩
    revert h
    unfold rdCount
    rw [if_pos h0]
    cases hg : getC most (xs.drop r.next) with
    | error e => intro h; exact absurd h (getC_err hg)
    | ok q =>
      obtain ⟨v, k⟩ := q
      intro _
      obtain ⟨t, e, hk, _, hv, _⟩ := getC_only hg
      refine ⟨?_, hv⟩
      show xs.drop r.next = putN v ++ xs.drop (r.next + k)
      rw [hk, drop_more e, e]
  · rw [count_stuck h0] at h; exact absurd h h0
theorem flag_only {xs : List UInt8} {r : Rd} (h : (rdFlag xs r).2.why = 0) : r.why = 0 ∧ xs.drop r.next = flagB (rdFlag xs r).1 :: xs.drop (rdFlag xs r).2.next := by
  by_cases h0 : r.why = 0
  · refine ⟨h0, ?_⟩
    revert h
    unfold rdFlag
    rw [if_pos h0]
    cases hd : xs.drop r.next with
    | nil => intro h; exact absurd h (by show ¬ (3 : Int) = 0; decide)
    | cons c t =>
      by_cases hc : 1 < c.toNat
      · have hg : getF (c :: t) = .error 4 := if_pos hc
        rw [hg]
        intro h
        exact absurd h (by show ¬ (4 : Int) = 0; decide)
      · have hg : getF (c :: t) = .ok (decide (c.toNat = 1), 1) := if_neg hc
        rw [hg]
        intro _
        show c :: t = flagB (decide (c.toNat = 1)) :: xs.drop (r.next + 1)
        have e : flagB (decide (c.toNat = 1)) = c := by
          apply UInt8.toNat_inj.1
          by_cases h1 : c.toNat = 1
          · rw [decide_eq_true h1, h1]; rfl
          · rw [decide_eq_false h1]
            show 0 = c.toNat
            omega
        have hd' : xs.drop (r.next + 1) = t := drop_more (a := [c]) hd
        rw [e, hd']
  · rw [flag_stuck h0] at h; exact absurd h h0
theorem stops_only {xs : List UInt8} {r : Rd} (k : Nat) (h : (rdStops xs k r).2.why = 0) : r.why = 0 ∧ xs.drop r.next = (rdStops xs k r).1.flatMap encS ++ xs.drop (rdStops xs k r).2.next := by
  induction k with
  | zero => exact ⟨h, rfl⟩
  | succ k ih =>
    rw [rdStops_succ] at h ⊢
    obtain ⟨h1, e1⟩ := flag_only h
    obtain ⟨h2, e2⟩ := num_only h1
    obtain ⟨h3, e3⟩ := ih h2
    refine ⟨h3, ?_⟩
    rw [e3, e2, e1, List.flatMap_append]
    simp [encS]
theorem rte_only {xs : List UInt8} {r : Rd} (h : (rdRte xs r).2.why = 0) : r.why = 0 ∧ xs.drop r.next = encR (rdRte xs r).1 ++ xs.drop (rdRte xs r).2.next := by
  unfold rdRte at h ⊢
  obtain ⟨h1, e1⟩ := stops_only _ h
  obtain ⟨h2, e2⟩ := num_only h1
  obtain ⟨h3, e3, hc⟩ := count_only h2
  obtain ⟨h4, e4⟩ := num_only h3
  refine ⟨h4, ?_⟩
  rw [e4, e3, e2, e1]
  unfold encR encH
  simp only [rdStops_len, Int.toNat_of_nonneg hc, List.append_assoc]
theorem rtes_only {xs : List UInt8} {r : Rd} (k : Nat) (h : (rdRtes xs k r).2.why = 0) : r.why = 0 ∧ xs.drop r.next = (rdRtes xs k r).1.flatMap encR ++ xs.drop (rdRtes xs k r).2.next := by
  induction k with
  | zero => exact ⟨h, rfl⟩
  | succ k ih =>
    rw [rdRtes_succ] at h ⊢
    obtain ⟨h1, e1⟩ := rte_only h
    obtain ⟨h2, e2⟩ := ih h1
    refine ⟨h2, ?_⟩
    rw [e2, e1, List.flatMap_append]
    simp
theorem end_zero {xs : List UInt8} {r : Rd} (h : (rdEnd xs r).1 = 0) : r.why = 0 ∧ xs.drop r.next = [] := by
  unfold rdEnd at h
  split at h
  · exact absurd h (by show ¬ (5 : Int) = 0; decide)
  · rename_i hn
    refine ⟨h, List.drop_of_length_le ?_⟩
    rcases Nat.lt_or_ge r.next xs.length with h1 | h1
    · exact absurd ⟨h, h1⟩ hn
    · exact h1
theorem encode_decode {xs : List UInt8} (h : (decodeP xs).2 = 0) : rightP (decodeP xs).1 = true ∧ encodeP (decodeP xs).1 = xs := by
  unfold decodeP at h ⊢
  by_cases h0 : (rdEnd xs (rdPlan xs).2).1 = 0
  · rw [if_pos h0] at h ⊢
    cases hr : rightP (rdPlan xs).1 with
    | false => rw [hr] at h; exact absurd h (by show ¬ (4 : Int) = 0; decide)
    | true =>
      rw [if_pos rfl]
      refine ⟨hr, ?_⟩
      obtain ⟨h1, e1⟩ := end_zero h0
      unfold encodeP
      rw [if_pos hr]
      unfold rdPlan at h1 e1 ⊢
      obtain ⟨h2, e2⟩ := rtes_only _ h1
      obtain ⟨h3, e3, hc⟩ := count_only h2
      rw [e1, List.append_nil] at e2
      rw [e2, List.drop_zero] at e3
      unfold encP
      rw [rdRtes_len, Int.toNat_of_nonneg hc]
      exact e3.symm
  · rw [if_neg h0] at h
    exact absurd h h0
theorem decode_none {xs : List UInt8} (h : (decodeP xs).2 ≠ 0) : (decodeP xs).1 = [] := by
  unfold decodeP at h ⊢
  split
  · rename_i h0
    rw [if_pos h0] at h
    split
    · rename_i hr
      rw [if_pos hr] at h
      exact absurd rfl h
    · rfl
  · rfl
theorem encP_ne (l : List Rte) : 0 < (encP l).length := by
  unfold encP
  rw [List.length_append]
  have := List.length_pos_iff.2 (putU_ne (zig l.length))
  have e : (putN (l.length : Int)).length = (putU (zig l.length)).length := rfl
  omega
#print axioms decode_encode
#print axioms encode_decode
end Go.Proofs.Ytbnhbbjmocclmaa.PlanMath

/-
  Chapter 9's example runs: what the words come to. No program is named here.
-/
namespace Go.Proofs.Ytbnhbbjmocclmaa.PlanMath
open Go.Proofs.Ytbnhbbjmocclmaa.FleetMath Go.Proofs.Ytbnhbbjmocclmaa.WireMath Go.Proofs.Ytbnhbbjmocclmaa.Wire
set_option linter.unusedVariables false

abbrev exL : List Stp := [⟨1, false⟩, ⟨1, true⟩, ⟨2, false⟩, ⟨2, true⟩]
abbrev exR0 : Rte := ⟨4, 1, exL⟩
theorem x_find2 : findP [exR0] 2 = some ⟨4, 2, 3⟩ := by kernel_rfl
theorem x_find3 : findP [exR0] 3 = none := by kernel_rfl
theorem x_orders : ordersM [exR0] = [1, 2] := by
  refine (ordersM_eq (by decide) fun x => ?_).symm
  simp [allS]
theorem x_out2 : withoutP [exR0] [1, 2] = [⟨4, 1, [⟨1, false⟩, ⟨1, true⟩]⟩] := by kernel_rfl
theorem x_out1 : withoutP [exR0] [3] = [exR0] := by kernel_rfl
theorem x_with0 : withP [exR0] 9 ⟨4, 0, 0⟩ = none := by kernel_rfl
theorem x_with1 : withP [exR0] 9 ⟨4, 1, 4⟩ = some [⟨4, 1, [⟨1, false⟩, ⟨9, false⟩, ⟨1, true⟩, ⟨2, false⟩, ⟨2, true⟩, ⟨9, true⟩]⟩] := by kernel_rfl
theorem x_right : rightP [exR0] = true := by decide
theorem x_encode : encodeP [exR0] = [2, 8, 8, 2, 2, 0, 2, 1, 4, 0, 4, 1] := by
  unfold encodeP
  rw [if_pos x_right]
  simp [encP, encR, encH, encS, putN, zig, putU_lt, flagB]
theorem x_dec1 : (decodeP [2, 8, 2, 4, 2, 0]).2 = 4 := by decide
theorem x_dec2 : (decodeP [2, 8]).2 = 3 := by decide
theorem x_dec3 : (decodeP [2, 8, 0, 0, 7]).2 = 5 := by decide
end Go.Proofs.Ytbnhbbjmocclmaa.PlanMath
