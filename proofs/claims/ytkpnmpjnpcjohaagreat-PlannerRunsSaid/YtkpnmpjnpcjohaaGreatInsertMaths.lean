/-
  InsertMath, InsertMath4, InsertMath5, InsertMath7: one text.
-/
import Derived.Test.YtkpnmpjnpcjohaaGreatMaths
import Derived.Test.YtkpnmpjnpcjohaaGreatCertMaths
import Derived.Test.YtkpnmpjnpcjohaaGreatAuditMaths
import Derived.Test.YtkpnmpjnpcjohaaGreatPlanMaths
namespace Go.Proofs.YtkpnmpjnpcjohaaGreat.InsertMath
open GeoMath FleetMath PlanMath CertMath
set_option linter.unusedVariables false
structure Sp4 where
  drv : Int
  pick : Int
  drop : Int
  cost : Int
deriving DecidableEq
abbrev sp0 : Sp4 := ⟨0, 0, 0, 0⟩
def betterC (b x : Option Sp4) : Option Sp4 :=
  match x with
  | none => b
  | some y => match b with
    | none => some y
    | some z => if y.cost < z.cost then some y else some z
theorem betterC_none (b : Option Sp4) : betterC b none = b := rfl
theorem betterC_first (y : Sp4) : betterC none (some y) = some y := rfl
theorem betterC_less {y z : Sp4} (h : y.cost < z.cost) : betterC (some z) (some y) = some y := by unfold betterC; simp only; rw [if_pos h]
theorem betterC_more {y z : Sp4} (h : ¬ y.cost < z.cost) : betterC (some z) (some y) = some z := by unfold betterC; simp only; rw [if_neg h]
theorem betterC_zero (x : Option Sp4) : betterC none x = x := by cases x <;> rfl
theorem betterC_assoc (a b c : Option Sp4) : betterC (betterC a b) c = betterC a (betterC b c) := by
  cases c with
  | none => rfl
  | some z =>
    cases b with
    | none => rfl
    | some y =>
      cases a with
      | none => rw [betterC_first, betterC_zero]
      | some x =>
        by_cases h1 : y.cost < x.cost
        · rw [betterC_less h1]
          by_cases h2 : z.cost < y.cost
          · rw [betterC_less h2, betterC_less (by omega)]
          · rw [betterC_more h2, betterC_less h1]
        · rw [betterC_more h1]
          by_cases h2 : z.cost < y.cost
          · rw [betterC_less h2]
          · rw [betterC_more h2, betterC_more h1, betterC_more (by omega)]
def bestOf (l : List (Option Sp4)) : Option Sp4 := l.foldl betterC none
theorem foldl_best (l : List (Option Sp4)) (a : Option Sp4) : l.foldl betterC a = betterC a (bestOf l) := by
  unfold bestOf
  induction l generalizing a with
  | nil => rfl
  | cons x r ih => rw [List.foldl_cons, List.foldl_cons, ih, ih (betterC none x), betterC_zero, betterC_assoc]
def rowL (i j n : Nat) : List (Nat × Nat) := (List.range' j (n + 1 - j)).map fun k => (i, k)
def posL (a n : Nat) : List (Nat × Nat) := (List.range' a (n + 1 - a)).flatMap fun i => rowL i i n
theorem rowL_cons {i j n : Nat} (h : j ≤ n) : rowL i j n = (i, j) :: rowL i (j + 1) n := by
  unfold rowL
  rw [show n + 1 - j = (n + 1 - (j + 1)) + 1 by omega, List.range'_succ]
  rfl
theorem rowL_end {i j n : Nat} (h : n < j) : rowL i j n = [] := by unfold rowL; rw [show n + 1 - j = 0 by omega]; rfl
theorem posL_cons {a n : Nat} (h : a ≤ n) : posL a n = rowL a a n ++ posL (a + 1) n := by
  unfold posL
  rw [show n + 1 - a = (n + 1 - (a + 1)) + 1 by omega, List.range'_succ, List.flatMap_cons]
theorem posL_end {a n : Nat} (h : n < a) : posL a n = [] := by unfold posL; rw [show n + 1 - a = 0 by omega]; rfl
theorem mem_rowL {i j n : Nat} {p : Nat × Nat} : p ∈ rowL i j n ↔ p.1 = i ∧ j ≤ p.2 ∧ p.2 ≤ n := by
  unfold rowL
  simp only [List.mem_map, List.mem_range'_1]
  constructor
  · rintro ⟨k, hk, rfl⟩; exact ⟨rfl, by omega, by omega⟩
  · rintro ⟨h1, h2, h3⟩; exact ⟨p.2, by omega, by rw [← h1]⟩
theorem mem_posL {a n : Nat} {p : Nat × Nat} : p ∈ posL a n ↔ a ≤ p.1 ∧ p.1 ≤ p.2 ∧ p.2 ≤ n := by
  unfold posL
  simp only [List.mem_flatMap, List.mem_range'_1, mem_rowL]
  constructor
  · rintro ⟨i, h1, h2, h3, h4⟩; exact ⟨by omega, by omega, by omega⟩
  · rintro ⟨h1, h2, h3⟩; exact ⟨p.1, by omega, rfl, h2, h3⟩
abbrev Srch := Option Sp4 × Nat
def goOn (b : Nat) (s : Srch) (c : List (Option Sp4)) : Srch := ((c.take (b - s.2)).foldl betterC s.1, s.2 + min (b - s.2) c.length)
theorem goOn_nil (b : Nat) (s : Srch) : goOn b s [] = s := by unfold goOn; simp
theorem goOn_full {b : Nat} {s : Srch} (h : b ≤ s.2) (c : List (Option Sp4)) : goOn b s c = s := by
  unfold goOn
  rw [show b - s.2 = 0 by omega]
  simp
theorem goOn_cons {b : Nat} {s : Srch} (h : s.2 < b) (x : Option Sp4) (c : List (Option Sp4)) : goOn b s (x :: c) = goOn b (betterC s.1 x, s.2 + 1) c := by
  unfold goOn
  obtain ⟨k, hk⟩ : ∃ k, b - s.2 = k + 1 := ⟨b - s.2 - 1, by omega⟩
  rw [hk, List.take_succ_cons, List.foldl_cons, List.length_cons]
  simp only
  rw [show b - (s.2 + 1) = k by omega]
  congr 1
  omega
theorem goOn_append (b : Nat) (s : Srch) (c e : List (Option Sp4)) : goOn b s (c ++ e) = goOn b (goOn b s c) e := by
  induction c generalizing s with
  | nil => rw [goOn_nil, List.nil_append]
  | cons x r ih =>
    by_cases h : s.2 < b
    · rw [List.cons_append, goOn_cons h, goOn_cons h, ih]
    · rw [goOn_full (by omega), goOn_full (s := s) (by omega), goOn_full (by omega)]
theorem goOn_le {b : Nat} {s : Srch} (h : s.2 ≤ b) (c : List (Option Sp4)) : (goOn b s c).2 ≤ b := by
  unfold goOn
  simp only
  omega
def toldM (s : Srch) : Sp4 × Int × Int :=
  match s.1 with
  | none => (sp0, (s.2 : Int), 20)
  | some x => (x, (s.2 : Int), 0)
def oldC (m : Option Mp) (d : Drv) (os : List FleetMath.Ord) (stops : List Stp) : Int := (cost m d os stops).getD 0
def candP (m : Option Mp) (d : Drv) (os : List FleetMath.Ord) (o : FleetMath.Ord) (stops : List Stp) (p : Nat × Nat) : Option Sp4 :=
  match cost m d (os ++ [o]) (putM stops o.id p.1 p.2) with
  | none => none
  | some c => some ⟨d.id, p.1, p.2, c - oldC m d os stops⟩
def candR (m : Option Mp) (d : Drv) (os : List FleetMath.Ord) (o : FleetMath.Ord) (r : Rte) : List (Option Sp4) := (posL r.served.toNat r.stops.length).map (candP m d os o r.stops)
def bestBad (m : Option Mp) (d : Drv) (os : List FleetMath.Ord) (r : Rte) (o : FleetMath.Ord) (b : Int) : Prop :=
  drvE m d ≠ 0 ∨ ordE m o ≠ 0 ∨ known m os = false ∨ (find os o.id).isSome = true ∨ r.drv ≠ d.id ∨ r.served < 0 ∨ (r.stops.length : Int) < r.served ∨ b < 0 ∨ 100000 < b ∨ (drive m d os r.stops).2.2 ≠ 0
instance (m : Option Mp) (d : Drv) (os : List FleetMath.Ord) (r : Rte) (o : FleetMath.Ord) (b : Int) : Decidable (bestBad m d os r o b) := by unfold bestBad; infer_instance
def bestM (m : Option Mp) (d : Drv) (os : List FleetMath.Ord) (r : Rte) (o : FleetMath.Ord) (b : Int) : Sp4 × Int × Int :=
  if bestBad m d os r o b then (sp0, 0, 1) else if d.retired = true then (sp0, 0, 23) else if 78 < r.stops.length then (sp0, 0, 10) else toldM (goOn b.toNat (none, 0) (candR m d os o r))
def openR (d : Drv) (r : Rte) : Bool := !d.retired && decide (r.stops.length ≤ 78)
def candD (m : Option Mp) (ds : List Drv) (os : List FleetMath.Ord) (o : FleetMath.Ord) (r : Rte) : List (Option Sp4) :=
  match drvOf ds r.drv with
  | none => []
  | some d => if openR d r then candR m d os o r else []
def cheapBad (m : Option Mp) (ds : List Drv) (os : List FleetMath.Ord) (p : List Rte) (o : FleetMath.Ord) (b : Int) : Prop := (makeC m ds os p).2.2 ≠ 0 ∨ ordE m o ≠ 0 ∨ (find os o.id).isSome = true ∨ b < 0 ∨ 100000 < b
instance (m : Option Mp) (ds : List Drv) (os : List FleetMath.Ord) (p : List Rte) (o : FleetMath.Ord) (b : Int) : Decidable (cheapBad m ds os p o b) := by unfold cheapBad; infer_instance
def cheapM (m : Option Mp) (ds : List Drv) (os : List FleetMath.Ord) (p : List Rte) (o : FleetMath.Ord) (b : Int) : Sp4 × Int × Int :=
  if cheapBad m ds os p o b then (sp0, 0, 1) else toldM (goOn b.toNat (none, 0) (p.flatMap (candD m ds os o)))
end Go.Proofs.YtkpnmpjnpcjohaaGreat.InsertMath

namespace Go.Proofs.YtkpnmpjnpcjohaaGreat.InsertMath
open GeoMath FleetMath PlanMath CertMath AuditMath
set_option linter.unusedVariables false
theorem num_at {l : List Rte} (h : l.Pairwise fun a b => a.drv < b.drv) {i : Nat} {x : Rte} (hx : l[i]? = some x) (k : Nat) : numFrom l x.drv k = ((k + i : Nat) : Int) := by
  induction l generalizing i k with
  | nil => cases hx
  | cons y r ih =>
    rw [numFrom_cons]
    obtain ⟨h1, h2⟩ := List.pairwise_cons.1 h
    cases i with
    | zero =>
      obtain rfl : y = x := by simpa using hx
      rw [if_pos rfl]; rfl
    | succ i =>
      have hx' : r[i]? = some x := by simpa using hx
      have := h1 x (List.mem_of_getElem? hx')
      rw [if_neg (by omega), ih h2 hx']
      congr 1; omega
theorem right_parts {l : List Rte} (h : rightP l = true) : l.Pairwise (fun a b => a.drv < b.drv) ∧ ∀ r ∈ l, r.stops.length ≤ 80 ∧ 0 ≤ r.served ∧ r.served ≤ r.stops.length := by
  unfold rightP at h
  simp only [Bool.and_eq_true, List.all_eq_true, decide_eq_true_eq] at h
  refine ⟨h.1.2, fun r hr => ?_⟩
  have := h.1.1.2 r hr
  unfold rightR at this
  rw [decide_eq_true_eq] at this
  exact ⟨this.2.2.1, this.2.2.2.1, this.2.2.2.2.1⟩
theorem make_zero {m : Option Mp} {ds : List Drv} {os : List FleetMath.Ord} {p : List Rte} : (makeC m ds os p).2.2 = 0 ↔ wellC m ds os p = true ∧ ∀ r ∈ p, ∃ d, drvOf ds r.drv = some d ∧ (drive m d os r.stops).2.2 = 0 := by
  rw [← makeFrom_iff 0]
  unfold makeC
  cases hw : wellC m ds os p with
  | false => simp
  | true =>
    simp only [if_true]
    cases hx : makeFrom m ds os 0 p with
    | error y =>
      obtain ⟨k, e⟩ := y
      have := makeFrom_err hx
      simp [this]
    | ok c => simp
end Go.Proofs.YtkpnmpjnpcjohaaGreat.InsertMath

namespace Go.Proofs.YtkpnmpjnpcjohaaGreat.InsertMath
open GeoMath FleetMath PlanMath CertMath AuditMath
set_option linter.unusedVariables false
section
variable {m : Option Mp} {ds : List Drv} {os : List FleetMath.Ord} {p : List Rte} {o : FleetMath.Ord} {b : Int}
theorem cheap_good (h : ¬ cheapBad m ds os p o b) : (wellC m ds os p = true ∧ ∀ r ∈ p, ∃ d, drvOf ds r.drv = some d ∧ (drive m d os r.stops).2.2 = 0) ∧ ordE m o = 0 ∧ (find os o.id).isSome = false ∧ 0 ≤ b ∧ b ≤ 100000 := by
  unfold cheapBad at h
  simp only [not_or, Decidable.not_not, Int.not_lt] at h
  obtain ⟨h1, h2, h3, h4, h5⟩ := h
  exact ⟨make_zero.1 h1, h2, by simpa using h3, h4, h5⟩
theorem best_good (h : ¬ cheapBad m ds os p o b) {r : Rte} (hr : r ∈ p) {d : Drv} (hd : drvOf ds r.drv = some d) : ¬ bestBad m d os r o 100000 := by
  obtain ⟨⟨hw, hall⟩, h2, h3, _, _⟩ := cheap_good h
  obtain ⟨m', rfl, hd8, hkn, hrp, hde, hdi⟩ := wellC_parts hw
  obtain ⟨_, hrr⟩ := right_parts hrp
  obtain ⟨hr1, hr2, hr3⟩ := hrr r hr
  obtain ⟨d', h5, h6⟩ := hall r hr
  rw [hd] at h5
  injection h5 with h5
  subst h5
  have hid : d.id = r.drv := by
    have := List.find?_some hd
    simpa using this
  have hdm : d ∈ ds := List.mem_of_find?_eq_some hd
  unfold bestBad
  simp only [not_or, Decidable.not_not, Int.not_lt]
  exact ⟨hde d hdm, h2, by rw [hkn]; decide, by rw [h3]; decide, hid.symm, hr2, hr3, by decide, by decide, h6⟩
end
end Go.Proofs.YtkpnmpjnpcjohaaGreat.InsertMath

namespace Go.Proofs.YtkpnmpjnpcjohaaGreat.InsertMath
open GeoMath FleetMath PlanMath CertMath AuditMath
set_option linter.unusedVariables false
theorem foldl_named {d : Int} (hd : d ≠ 0) (l : List (Option Sp4)) (h : ∀ x ∈ l, ∀ z, x = some z → z.drv = d) (s : Option Sp4) (hs : ∀ z, s = some z → z.drv ≠ 0) : ∀ z, l.foldl betterC s = some z → z.drv ≠ 0 := by
  induction l generalizing s with
  | nil => exact hs
  | cons x r ih =>
    rw [List.foldl_cons]
    refine ih (fun y hy => h y (List.mem_cons_of_mem _ hy)) _ fun z hz => ?_
    cases x with
    | none => exact hs z hz
    | some y =>
      have hy := h (some y) (by simp) y rfl
      cases s with
      | none => injection hz with hz; rw [← hz, hy]; exact hd
      | some w =>
        by_cases hc : y.cost < w.cost
        · rw [betterC_less hc] at hz; injection hz with hz; rw [← hz, hy]; exact hd
        · rw [betterC_more hc] at hz; exact hs z hz
section
variable {m : Option Mp} {ds : List Drv} {os : List FleetMath.Ord} {p : List Rte} {o : FleetMath.Ord} {b : Int}
theorem best_good' (h : ¬ cheapBad m ds os p o b) {r : Rte} (hr : r ∈ p) {d : Drv} (hd : drvOf ds r.drv = some d) {c : Int} (h1 : 0 ≤ c) (h2 : c ≤ 100000) : ¬ bestBad m d os r o c := by
  have h3 := best_good h hr hd
  unfold bestBad at h3 ⊢
  simp only [not_or] at h3 ⊢
  obtain ⟨a1, a2, a3, a4, a5, a6, a7, a8, a9, a10⟩ := h3
  exact ⟨a1, a2, a3, a4, a5, a6, a7, by omega, by omega, a10⟩
theorem drv_id (h : ¬ cheapBad m ds os p o b) {r : Rte} {d : Drv} (hd : drvOf ds r.drv = some d) : d.id ≠ 0 := by
  obtain ⟨⟨hw, _⟩, _⟩ := cheap_good h
  obtain ⟨m', rfl, _, _, _, hde, _⟩ := wellC_parts hw
  obtain ⟨_, _, h1⟩ := drvE_ok.1 (hde d (List.mem_of_find?_eq_some hd))
  have := h1.id
  omega
theorem best_step (h : ¬ cheapBad m ds os p o b) {r : Rte} (hr : r ∈ p) {d : Drv} (hd : drvOf ds r.drv = some d) {bn : Nat} (hbn : bn ≤ 100000) {s : Srch} (hs : s.2 ≤ bn) {y : Sp4} {n e : Int} (hb : bestM m d os r o ((bn : Int) - (s.2 : Int)) = (y, n, e)) :
    ∃ (x : Option Sp4) (j : Nat), n = (j : Int) ∧ s.2 + j ≤ bn ∧ goOn bn s (candD m ds os o r) = (betterC s.1 x, s.2 + j) ∧ (e = 0 → x = some y) ∧ (e ≠ 0 → x = none) ∧ ∀ z, x = some z → z.drv ≠ 0 := by
  unfold bestM at hb
  rw [if_neg (best_good' h hr hd (by omega) (by omega))] at hb
  have hnil : candD m ds os o r = [] → ∃ (x : Option Sp4) (j : Nat), (0 : Int) = (j : Int) ∧ s.2 + j ≤ bn ∧ goOn bn s (candD m ds os o r) = (betterC s.1 x, s.2 + j) ∧ x = none := fun hc => ⟨none, 0, rfl, hs, by rw [hc, goOn_nil, betterC_none]; rfl, rfl⟩
  cases hrt : d.retired with
  | true =>
    rw [if_pos hrt] at hb
    injection hb with _ hb
    injection hb with h1 h2
    subst h1
    subst h2
    obtain ⟨x, j, h3, h4, h5, rfl⟩ := hnil (by unfold candD openR; rw [hd]; simp [hrt])
    exact ⟨none, j, h3, h4, h5, fun h => absurd h (by decide), fun _ => rfl, fun z hz => (by cases hz)⟩
  | false =>
    rw [if_neg (by rw [hrt]; decide)] at hb
    by_cases h78 : 78 < r.stops.length
    · rw [if_pos h78] at hb
      injection hb with _ hb
      injection hb with h1 h2
      subst h1
      subst h2
      obtain ⟨x, j, h3, h4, h5, rfl⟩ := hnil (by unfold candD openR; rw [hd]; simp [hrt]; omega)
      exact ⟨none, j, h3, h4, h5, fun h => absurd h (by decide), fun _ => rfl, fun z hz => (by cases hz)⟩
    · rw [if_neg h78] at hb
      have hc : candD m ds os o r = candR m d os o r := by unfold candD openR; rw [hd]; simp [hrt]; omega
      rw [hc, show ((bn : Int) - (s.2 : Int)).toNat = bn - s.2 by omega] at *
      obtain ⟨x, hx⟩ : ∃ x, ((candR m d os o r).take (bn - s.2)).foldl betterC none = x := ⟨_, rfl⟩
      have hg : goOn bn s (candR m d os o r) = (betterC s.1 x, s.2 + min (bn - s.2) (candR m d os o r).length) := by
        unfold goOn
        rw [foldl_best, ← hx]
        rfl
      have hn : ∀ z, x = some z → z.drv ≠ 0 := by
        rw [← hx]
        refine foldl_named (drv_id h hd) _ (fun c hc z hz => ?_) none fun z hz => (by cases hz)
        have hc := List.mem_of_mem_take hc
        unfold candR at hc
        obtain ⟨q, _, hq⟩ := List.mem_map.1 hc
        rw [hz] at hq
        unfold candP at hq
        split at hq
        · cases hq
        · injection hq with hq; rw [← hq]
      unfold toldM goOn at hb
      simp only [Nat.sub_zero, Nat.zero_add] at hb
      rw [hx] at hb
      refine ⟨x, min (bn - s.2) (candR m d os o r).length, ?_, by omega, hg, ?_, ?_, hn⟩
      · cases x <;> injection hb with _ hb <;> injection hb with h1 h2 <;> exact h1.symm
      · intro he
        cases x with
        | none => injection hb with _ hb; injection hb with h1 h2; rw [he] at h2; exact absurd h2 (by decide)
        | some z => injection hb with h1 hb; rw [h1]
      · intro he
        cases x with
        | none => rfl
        | some z => injection hb with _ hb; injection hb with h1 h2; exact absurd h2.symm he
end
end Go.Proofs.YtkpnmpjnpcjohaaGreat.InsertMath
