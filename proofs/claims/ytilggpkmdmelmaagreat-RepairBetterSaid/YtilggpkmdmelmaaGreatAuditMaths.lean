/-
  AuditMath, AuditMath2, AuditMath3, AuditMath4: one text.
-/
import Derived.Test.YtilggpkmdmelmaaGreatCertMaths
import Derived.Test.YtilggpkmdmelmaaGreatPlanMaths
import Derived.Test.YtilggpkmdmelmaaGreatMaths
namespace Go.Proofs.YtilggpkmdmelmaaGreat.AuditMath
open Go.Proofs.YtilggpkmdmelmaaGreat.GeoMath Go.Proofs.YtilggpkmdmelmaaGreat.FleetMath Go.Proofs.YtilggpkmdmelmaaGreat.PlanMath Go.Proofs.YtilggpkmdmelmaaGreat.CertMath
set_option linter.unusedVariables false
structure Trb where
  drv : Int
  ord : Int
  why : Int
deriving DecidableEq
def isFirst (seen : List Stp) (s : Stp) : Prop := s.drop = true ∧ Stp.mk s.ord false ∉ seen
instance (seen : List Stp) (s : Stp) : Decidable (isFirst seen s) := by unfold isFirst; infer_instance
def beginA (m : Mp) (o : FleetMath.Ord) (st : St) (s : Stp) : Int :=
  if st.left + time m st.at_ (siteOf o s).place < (siteOf o s).win.fr then (siteOf o s).win.fr else st.left + time m st.at_ (siteOf o s).place
def nextT (m : Mp) (o : FleetMath.Ord) (seen : List Stp) (st : St) (s : Stp) : St := ⟨(siteOf o s).place, beginA m o st s + (siteOf o s).serv, if isFirst seen s then st.load else loadOf o s st.load⟩
section
variable {m : Mp} {d : Drv} {os : List FleetMath.Ord} {seen xs r : List Stp} {st st' : St} {s : Stp} {o : FleetMath.Ord} {vs : List Vis} {v : Vis}
theorem site_win (ho : OrdOk m o) (s : Stp) : right (siteOf o s).win = true := by
  unfold siteOf
  split
  · exact ho.dropW
  · exact ho.pickW
end
end Go.Proofs.YtilggpkmdmelmaaGreat.AuditMath

namespace Go.Proofs.YtilggpkmdmelmaaGreat.AuditMath
open Go.Proofs.YtilggpkmdmelmaaGreat.GeoMath Go.Proofs.YtilggpkmdmelmaaGreat.FleetMath Go.Proofs.YtilggpkmdmelmaaGreat.PlanMath Go.Proofs.YtilggpkmdmelmaaGreat.CertMath
set_option linter.unusedVariables false
section
variable {m : Option Mp} {m' : Mp} {ds : List Drv} {os : List FleetMath.Ord} {p : List Rte} {r : Rte}
theorem makeFrom_iff (i : Nat) : (∃ c, makeFrom m ds os i p = .ok c) ↔ ∀ r ∈ p, ∃ d, drvOf ds r.drv = some d ∧ (drive m d os r.stops).2.2 = 0 := by
  induction p generalizing i with
  | nil => exact ⟨fun _ r hr => (by cases hr), fun _ => ⟨[], rfl⟩⟩
  | cons r t ih =>
    rw [makeFrom]
    constructor
    · rintro ⟨c, h⟩ q hq
      split at h
      · cases h
      rename_i d hd
      split at h
      · cases h
      rename_i h0
      split at h
      · cases h
      rename_i c' hc
      rcases List.mem_cons.1 hq with rfl | hq
      · exact ⟨d, hd, Decidable.not_not.1 h0⟩
      · exact (ih (i + 1)).1 ⟨c', hc⟩ q hq
    · intro h
      obtain ⟨d, hd, h0⟩ := h r (by simp)
      obtain ⟨c, hc⟩ := (ih (i + 1)).2 fun q hq => h q (by simp [hq])
      rw [hd]
      simp only
      rw [if_neg (by simpa using h0), hc]
      exact ⟨_, rfl⟩
end
def rteOf (l : List Rte) (d : Int) : Option Rte := l.find? fun r => decide (r.drv = d)
def keptR (old : List Rte) (q : Rte) : Prop :=
  match rteOf old q.drv with
  | none => q.served = 0
  | some r => q.served = r.served ∧ doneR q = doneR r
instance (old : List Rte) (q : Rte) : Decidable (keptR old q) := by unfold keptR; split <;> infer_instance
def keptP (old next : List Rte) : Bool := rightP old && rightP next && decide (∀ r ∈ old, (rteOf next r.drv).isSome = true) && decide (∀ q ∈ next, keptR old q)
theorem keptP_iff {a b : List Rte} : keptP a b = true ↔ rightP a = true ∧ rightP b = true ∧ (∀ r ∈ a, (rteOf b r.drv).isSome = true) ∧ ∀ q ∈ b, keptR a q := by
  simp only [keptP, Bool.and_eq_true, decide_eq_true_eq, and_assoc]
theorem rteOf_some {l : List Rte} {d : Int} {r : Rte} (h : rteOf l d = some r) : r ∈ l ∧ r.drv = d := ⟨List.mem_of_find?_eq_some h, by simpa using List.find?_some h⟩
theorem rteOf_mem {l : List Rte} {r : Rte} (h : rightP l = true) (hr : r ∈ l) : rteOf l r.drv = some r := by
  rw [rightP_from, Bool.and_eq_true, decide_eq_true_eq, rightFrom_iff] at h
  have hp : l.Pairwise fun a b => a.drv < b.drv := h.2.2.1
  clear h
  unfold rteOf
  induction l with
  | nil => cases hr
  | cons x t ih =>
    rw [List.pairwise_cons] at hp
    rw [List.find?_cons]
    rcases List.mem_cons.1 hr with rfl | hr
    · simp
    · have := hp.1 r hr
      rw [decide_eq_false (by omega)]
      exact ih hr hp.2
theorem keptP_self (a : List Rte) : keptP a a = rightP a := by
  cases h : rightP a with
  | false => unfold keptP; rw [h]; rfl
  | true =>
    refine keptP_iff.2 ⟨h, h, fun r hr => by rw [rteOf_mem h hr]; rfl, fun q hq => ?_⟩
    unfold keptR
    rw [rteOf_mem h hq]
    exact ⟨rfl, rfl⟩
theorem keptP_trans {a b c : List Rte} (h1 : keptP a b = true) (h2 : keptP b c = true) : keptP a c = true := by
  obtain ⟨ha, hb, h3, h4⟩ := keptP_iff.1 h1
  obtain ⟨_, hc, h5, h6⟩ := keptP_iff.1 h2
  refine keptP_iff.2 ⟨ha, hc, fun r hr => ?_, fun q hq => ?_⟩
  · obtain ⟨r', hr'⟩ := Option.isSome_iff_exists.1 (h3 r hr)
    obtain ⟨k1, k2⟩ := rteOf_some hr'
    rw [← k2]
    exact h5 r' k1
  · have k := h6 q hq
    unfold keptR at k ⊢
    cases hx : rteOf a q.drv with
    | none =>
      simp only
      cases hy : rteOf b q.drv with
      | none => rw [hy] at k; exact k
      | some r' =>
        rw [hy] at k
        obtain ⟨k1, k2⟩ := rteOf_some hy
        have k3 := h4 r' k1
        unfold keptR at k3
        rw [k2, hx] at k3
        rw [k.1]
        exact k3
    | some r =>
      simp only
      obtain ⟨r1, r2⟩ := rteOf_some hx
      obtain ⟨r', hr'⟩ := Option.isSome_iff_exists.1 (h3 r r1)
      rw [r2] at hr'
      rw [hr'] at k
      obtain ⟨k1, k2⟩ := rteOf_some hr'
      have k3 := h4 r' k1
      unfold keptR at k3
      rw [k2, hx] at k3
      exact ⟨k.1.trans k3.1, k.2.trans k3.2⟩
theorem done_new {x : Rte} {l : List Rte} {o : Int} {s : Spt} {i : Nat} (h : WithAt l o s i x) : doneR (newR x o s) = doneR x := by
  obtain ⟨h1, h2, h3⟩ := h.le'
  show (putM x.stops o s.pick.toNat s.drop.toNat).take x.served.toNat = x.stops.take x.served.toNat
  exact putM_take h3 (by omega)
theorem keptP_with {a q : List Rte} {o : Int} {s : Spt} (hw : withP a o s = some q) : keptP a q = true ∧ keptP q a = true := by
  obtain ⟨i, x, h, hq⟩ := withP_some hw
  have hq' : q = a.set i (newR x o s) := hq
  subst hq'
  have hr := h.right
  have hr' := h.right'
  have hd := done_new h
  have hmem : ∀ r ∈ a, ∃ y ∈ a.set i (newR x o s), y.drv = r.drv ∧ y.served = r.served ∧ doneR y = doneR r := by
    intro r hm
    obtain ⟨j, hj⟩ := List.mem_iff_getElem?.1 hm
    by_cases e : j = i
    · subst e
      rw [h.at_] at hj
      injection hj with hj
      subst hj
      exact ⟨newR x o s, List.mem_iff_getElem?.2 ⟨j, List.getElem?_set_self h.lt⟩, rfl, rfl, hd⟩
    · exact ⟨r, List.mem_iff_getElem?.2 ⟨j, by rw [List.getElem?_set_ne (fun k => e k.symm)]; exact hj⟩, rfl, rfl, rfl⟩
  have hmem2 : ∀ y ∈ a.set i (newR x o s), ∃ r ∈ a, y.drv = r.drv ∧ y.served = r.served ∧ doneR y = doneR r := by
    intro y hy
    rcases List.mem_or_eq_of_mem_set hy with hy | rfl
    · exact ⟨y, hy, rfl, rfl, rfl⟩
    · exact ⟨x, h.mem, rfl, rfl, hd⟩
  constructor
  · refine keptP_iff.2 ⟨hr, hr', fun r hm => ?_, fun y hy => ?_⟩
    · obtain ⟨y, hy, e, _⟩ := hmem r hm
      rw [← e, rteOf_mem hr' hy]; rfl
    · obtain ⟨r, hm, e, e1, e2⟩ := hmem2 y hy
      unfold keptR
      rw [e, rteOf_mem hr hm]
      exact ⟨e1, e2⟩
  · refine keptP_iff.2 ⟨hr', hr, fun y hy => ?_, fun r hm => ?_⟩
    · obtain ⟨r, hm, e, _⟩ := hmem2 y hy
      rw [e, rteOf_mem hr hm]; rfl
    · obtain ⟨y, hy, e, e1, e2⟩ := hmem r hm
      unfold keptR
      rw [← e, rteOf_mem hr' hy]
      exact ⟨e1.symm, e2.symm⟩
theorem filter_front {l : List Stp} {p : Stp → Bool} {n : Nat} (h : ∀ s ∈ l.take n, p s = true) : (l.filter p).take n = l.take n ∧ (n ≤ l.length → n ≤ (l.filter p).length) := by
  have e : l.filter p = l.take n ++ (l.drop n).filter p := by
    conv => lhs; rw [← List.take_append_drop n l]
    rw [List.filter_append, List.filter_eq_self.2 h]
  rw [e]
  constructor
  · rw [List.take_append]
    by_cases hn : n ≤ l.length
    · rw [List.length_take, Nat.min_eq_left hn, Nat.sub_self, List.take_zero, List.append_nil, List.take_take, Nat.min_self]
    · rw [List.take_take, Nat.min_self, List.drop_of_length_le (by omega)]
      simp
  · intro hn
    rw [List.length_append, List.length_take, Nat.min_eq_left hn]
    omega
theorem keptP_without {a : List Rte} {ns : List Int} (hr : rightP a = true) : keptP a (withoutP a ns) = true := by
  have hfront : ∀ r ∈ a, ∀ s ∈ r.stops.take r.served.toNat, (!decide (s.ord ∈ ns) || begunP a s.ord) = true := by
    intro r hm s hs
    have : begunP a s.ord = true := by
      unfold begunP
      rw [List.any_eq_true]
      exact ⟨r, hm, List.any_eq_true.2 ⟨s, hs, by simp⟩⟩
    rw [this, Bool.or_true]
  have hright : rightP (withoutP a ns) = true := by
    have h := hr
    rw [rightP_from, Bool.and_eq_true, decide_eq_true_eq, rightFrom_iff] at h ⊢
    obtain ⟨h1, h2, h3, h4⟩ := h
    refine ⟨by unfold withoutP; rw [List.length_map]; exact h1, fun q hq => ?_, ?_, ?_⟩
    · obtain ⟨r, hm, rfl⟩ := List.mem_map.1 hq
      obtain ⟨k1, k2, k3⟩ := h2 r hm
      refine ⟨k1, k2, ?_⟩
      simp only [boundR, Bool.and_eq_true, decide_eq_true_eq, List.all_eq_true] at k3 ⊢
      obtain ⟨⟨j1, j2, j3⟩, j4⟩ := k3
      refine ⟨⟨Nat.le_trans (List.length_filter_le _ _) j1, j2, ?_⟩, fun s hs => j4 s (List.mem_filter.1 hs).1⟩
      have := (filter_front (hfront r hm)).2 (by omega)
      omega
    · unfold withoutP
      rw [List.pairwise_map]
      exact h3
    · rw [List.nil_append] at h4 ⊢
      have hsub : (allS (withoutP a ns)).Sublist (allS a) := by
        unfold allS withoutP
        rw [List.flatMap_map]
        clear hr hfront h1 h2 h3 h4
        generalize (fun s : Stp => !decide (s.ord ∈ ns) || begunP a s.ord) = f
        induction a with
        | nil => exact List.Sublist.refl _
        | cons x t ih =>
          rw [List.flatMap_cons, List.flatMap_cons]
          exact List.Sublist.append List.filter_sublist ih
      exact hsub.nodup h4
  refine keptP_iff.2 ⟨hr, hright, fun r hm => ?_, fun q hq => ?_⟩
  · have hm' : (⟨r.drv, r.served, r.stops.filter fun s => !decide (s.ord ∈ ns) || begunP a s.ord⟩ : Rte) ∈ withoutP a ns := List.mem_map.2 ⟨r, hm, rfl⟩
    have := rteOf_mem hright hm'
    simp only at this
    rw [this]; rfl
  · obtain ⟨r, hm, rfl⟩ := List.mem_map.1 hq
    unfold keptR
    simp only
    rw [rteOf_mem hr hm]
    exact ⟨rfl, (filter_front (hfront r hm)).1⟩
end Go.Proofs.YtilggpkmdmelmaaGreat.AuditMath

namespace Go.Proofs.YtilggpkmdmelmaaGreat.AuditMath
open Go.Proofs.YtilggpkmdmelmaaGreat.GeoMath Go.Proofs.YtilggpkmdmelmaaGreat.FleetMath Go.Proofs.YtilggpkmdmelmaaGreat.PlanMath Go.Proofs.YtilggpkmdmelmaaGreat.CertMath
set_option linter.unusedVariables false
structure OA (st : St) (k : Nat) : Prop where
  left : 0 ≤ st.left ∧ st.left ≤ 1000000 + 2000000 * (k : Int)
  load : -(1000 * (k : Int)) ≤ st.load ∧ st.load ≤ 1000 * (k : Int)
section
variable {m : Mp} {d : Drv} {os : List FleetMath.Ord} {seen xs r : List Stp} {st : St} {s : Stp} {o : FleetMath.Ord} {k : Nat} {done X : List Trb}
theorem OA.start (hd : DrvOk m d) : OA (st0 d) 0 := by
  have hw := right_iff.1 hd.win
  exact ⟨⟨hw.1, by show d.win.fr ≤ 1000000 + 2000000 * (0 : Nat); omega⟩, ⟨by simp [st0], by simp [st0]⟩⟩
theorem OA.skip (h : OA st k) : OA st (k + 1) := by
  obtain ⟨⟨h1, h2⟩, h3, h4⟩ := h
  exact ⟨⟨h1, by omega⟩, by omega, by omega⟩
theorem OA.next (h : OA st k) (ho : OrdOk m o) (ht : 0 ≤ time m st.at_ (siteOf o s).place ∧ time m st.at_ (siteOf o s).place ≤ 1000000) : OA (nextT m o seen st s) (k + 1) := by
  obtain ⟨⟨h1, h2⟩, h3, h4⟩ := h
  have hw := right_iff.1 (site_win ho s)
  have hsz := ho.size
  have hsv : 0 ≤ (siteOf o s).serv ∧ (siteOf o s).serv ≤ 1000000 := by
    unfold siteOf
    split
    · exact ho.dropS
    · exact ho.pickS
  refine ⟨⟨?_, ?_⟩, ?_, ?_⟩
  · show 0 ≤ beginA m o st s + (siteOf o s).serv
    unfold beginA
    split <;> omega
  · show beginA m o st s + (siteOf o s).serv ≤ _
    unfold beginA
    split <;> omega
  · show _ ≤ if isFirst seen s then st.load else loadOf o s st.load
    unfold loadOf
    split
    · omega
    · split <;> omega
  · show (if isFirst seen s then st.load else loadOf o s st.load) ≤ _
    unfold loadOf
    split
    · omega
    · split <;> omega
end
end Go.Proofs.YtilggpkmdmelmaaGreat.AuditMath

namespace Go.Proofs.YtilggpkmdmelmaaGreat.Audit
open Go.Proofs.YtilggpkmdmelmaaGreat.GeoMath Go.Proofs.YtilggpkmdmelmaaGreat.FleetMath Go.Proofs.YtilggpkmdmelmaaGreat.PlanMath Go.Proofs.YtilggpkmdmelmaaGreat.CertMath Go.Proofs.YtilggpkmdmelmaaGreat.AuditMath
set_option linter.unusedVariables false
theorem num_cases (l : List Rte) (v : Int) (k : Nat) : (rteOf l v = none ∧ numFrom l v k = -1) ∨ ∃ (i : Nat) (r : Rte), l[i]? = some r ∧ rteOf l v = some r ∧ numFrom l v k = ((k + i : Nat) : Int) := by
  unfold rteOf
  induction l generalizing k with
  | nil => exact .inl ⟨rfl, rfl⟩
  | cons x r ih =>
    rw [numFrom_cons]
    by_cases he : x.drv = v
    · exact .inr ⟨0, x, rfl, by simp [he], by rw [if_pos he, Nat.add_zero]⟩
    · rw [if_neg he]
      rcases ih (k + 1) with ⟨h1, h2⟩ | ⟨i, q, h0, h1, h2⟩
      · exact .inl ⟨by simp [he, h1], h2⟩
      · exact .inr ⟨i + 1, q, by simpa using h0, by simp [he, h1], by rw [h2]; congr 1; omega⟩
theorem kept_no {a b : List Rte} (h : ¬ (rightP a = true ∧ rightP b = true ∧ (∀ r ∈ a, (rteOf b r.drv).isSome = true) ∧ ∀ q ∈ b, keptR a q)) : keptP a b = false := by
  cases h1 : keptP a b with
  | false => rfl
  | true => exact absurd (keptP_iff.1 h1) h
theorem served_nat {p : List Rte} {x : Rte} (h : rightP p = true) (hx : x ∈ p) : ∃ n : Nat, x.served = (n : Int) ∧ n ≤ x.stops.length := by
  unfold rightP at h
  simp only [Bool.and_eq_true, List.all_eq_true] at h
  have := h.1.1.2 x hx
  unfold rightR at this
  obtain ⟨_, _, _, h1, h2, _⟩ := of_decide_eq_true this
  exact ⟨x.served.toNat, by omega, by omega⟩
theorem keptR_none {a : List Rte} {q : Rte} (h : rteOf a q.drv = none) : keptR a q ↔ q.served = 0 := by unfold keptR; rw [h]
theorem keptR_some {a : List Rte} {q r : Rte} (h : rteOf a q.drv = some r) : keptR a q ↔ q.served = r.served ∧ doneR q = doneR r := by unfold keptR; rw [h]
def doneO : Option Rte → List Stp
  | none => []
  | some r => doneR r
theorem keptR_done {a : List Rte} {q : Rte} (ha : rightP a = true) (hq : ∃ n : Nat, q.served = (n : Int) ∧ n ≤ q.stops.length) : keptR a q ↔ doneO (rteOf a q.drv) = doneR q := by
  obtain ⟨n, h1, h2⟩ := hq
  have hn : (doneR q).length = n := by unfold doneR; rw [List.length_take, h1]; simp; omega
  cases hr : rteOf a q.drv with
  | none =>
    rw [keptR_none hr]
    constructor
    · intro h
      have h0 : n = 0 := by omega
      rw [h0] at hn
      exact (List.eq_nil_of_length_eq_zero hn).symm
    · intro h
      have : doneR q = [] := h.symm
      rw [this] at hn
      rw [h1, ← hn]; rfl
  | some r =>
    rw [keptR_some hr]
    obtain ⟨k, h3, h4⟩ := served_nat ha (rteOf_some hr).1
    constructor
    · exact fun h => h.2.symm
    · intro h
      have hd : doneR r = doneR q := h
      refine ⟨?_, hd.symm⟩
      have h5 : (doneR r).length = k := by unfold doneR; rw [List.length_take, h3]; simp; omega
      rw [hd, hn] at h5
      rw [h1, h3, h5]
end Go.Proofs.YtilggpkmdmelmaaGreat.Audit
