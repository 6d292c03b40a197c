/-
  AuditMath, AuditMath2, AuditMath3, AuditMath4: one text.
-/
import Derived.Test.YtkpnmpjnpcjohaaGreatCertMaths
import Derived.Test.YtkpnmpjnpcjohaaGreatPlanMaths
import Derived.Test.YtkpnmpjnpcjohaaGreatMaths
namespace Go.Proofs.YtkpnmpjnpcjohaaGreat.AuditMath
open GeoMath FleetMath PlanMath CertMath
set_option linter.unusedVariables false
structure Trb where
  drv : Int
  ord : Int
  why : Int
deriving DecidableEq
def isFirst (seen : List Stp) (s : Stp) : Prop := s.drop = true ∧ Stp.mk s.ord false ∉ seen
instance (seen : List Stp) (s : Stp) : Decidable (isFirst seen s) := by unfold isFirst; infer_instance
def hereT (d : Drv) (o : FleetMath.Ord) (seen : List Stp) (st : St) (s : Stp) : List Trb :=
  if isFirst seen s then [⟨d.id, s.ord, 17⟩] else if s.drop = false ∧ d.room < loadOf o s st.load then [⟨d.id, s.ord, 14⟩] else []
def beginA (m : Mp) (o : FleetMath.Ord) (st : St) (s : Stp) : Int :=
  if st.left + time m st.at_ (siteOf o s).place < (siteOf o s).win.fr then (siteOf o s).win.fr else st.left + time m st.at_ (siteOf o s).place
def lateT (m : Mp) (d : Drv) (o : FleetMath.Ord) (st : St) (s : Stp) : List Trb :=
  if (siteOf o s).win.to < beginA m o st s ∨ d.win.to < beginA m o st s + (siteOf o s).serv then [⟨d.id, s.ord, 15⟩] else []
def nextT (m : Mp) (o : FleetMath.Ord) (seen : List Stp) (st : St) (s : Stp) : St := ⟨(siteOf o s).place, beginA m o st s + (siteOf o s).serv, if isFirst seen s then st.load else loadOf o s st.load⟩
def alongGo (m : Mp) (d : Drv) (os : List FleetMath.Ord) : List Stp → St → List Stp → List Trb
  | _, _, [] => []
  | seen, st, s :: r =>
    match find os s.ord with
    | none => ⟨d.id, s.ord, 8⟩ :: alongGo m d os (seen ++ [s]) st r
    | some o => hereT d o seen st s ++ lateT m d o st s ++ alongGo m d os (seen ++ [s]) (nextT m o seen st s) r
def lackGo (d : Drv) (os : List FleetMath.Ord) : List Stp → List Trb
  | [] => []
  | s :: r => (if s.drop = false ∧ (find os s.ord).isSome = true ∧ Stp.mk s.ord true ∉ r then [⟨d.id, s.ord, 18⟩] else []) ++ lackGo d os r
def alongM (m : Mp) (d : Drv) (os : List FleetMath.Ord) (stops : List Stp) : List Trb := alongGo m d os [] (st0 d) stops ++ lackGo d os stops
def routeT (m : Mp) (ds : List Drv) (os : List FleetMath.Ord) (r : Rte) : List Trb :=
  match drvOf ds r.drv with
  | none => [⟨r.drv, 0, 8⟩]
  | some d => alongM m d os r.stops
def missT (p : List Rte) (os : List FleetMath.Ord) : List Trb := os.filterMap fun o => if (findP p o.id).isSome then none else some ⟨0, o.id, 19⟩
def auditM (m : Option Mp) (ds : List Drv) (os : List FleetMath.Ord) (p : List Rte) : List Trb :=
  if wellC m ds os p then
    match m with
    | none => [⟨0, 0, 1⟩]
    | some m' => p.flatMap (routeT m' ds os) ++ missT p os
  else [⟨0, 0, 1⟩]
section
variable {m : Mp} {d : Drv} {os : List FleetMath.Ord} {seen xs r : List Stp} {st st' : St} {s : Stp} {o : FleetMath.Ord} {vs : List Vis} {v : Vis}
theorem alongGo_none (h : find os s.ord = none) : alongGo m d os seen st (s :: r) = ⟨d.id, s.ord, 8⟩ :: alongGo m d os (seen ++ [s]) st r := by rw [alongGo, h]
theorem alongGo_some (h : find os s.ord = some o) : alongGo m d os seen st (s :: r) = hereT d o seen st s ++ lateT m d o st s ++ alongGo m d os (seen ++ [s]) (nextT m o seen st s) r := by rw [alongGo, h]
theorem site_win (ho : OrdOk m o) (s : Stp) : right (siteOf o s).win = true := by
  unfold siteOf
  split
  · exact ho.dropW
  · exact ho.pickW
theorem late_iff (ho : OrdOk m o) : lateT m d o st s = [] ↔ FleetMath.served m st.at_ st.left (siteOf o s) d.win.to = some (beginA m o st s, beginA m o st s + (siteOf o s).serv) := by
  rw [served_some, beginT_some]
  have hw := site_win ho s
  have hw' := right_iff.1 hw
  unfold lateT
  constructor
  · intro h
    split at h
    · cases h
    rename_i hn
    have h1 : ¬ (siteOf o s).win.to < beginA m o st s := fun e => hn (.inl e)
    have h2 : ¬ d.win.to < beginA m o st s + (siteOf o s).serv := fun e => hn (.inr e)
    refine ⟨⟨hw, ?_, rfl⟩, rfl, by omega⟩
    unfold beginA at h1
    split at h1 <;> omega
  · rintro ⟨⟨_, h1, _⟩, _, h2⟩
    rw [if_neg]
    rintro (h | h)
    · unfold beginA at h
      split at h <;> omega
    · omega
theorem step_clean (ho : OrdOk m o) (hf : find os s.ord = some o) (hn : s ∉ seen) (hl : st.load ≤ d.room) :
    (hereT d o seen st s = [] ∧ lateT m d o st s = []) ↔ ∃ v, FleetMath.step m d os seen st s = .ok (nextT m o seen st s, v) := by
  have hsz := ho.size
  constructor
  · rintro ⟨h1, h2⟩
    have hs := (late_iff ho).1 h2
    have hfirst : ¬ isFirst seen s := fun h => by unfold hereT at h1; rw [if_pos h] at h1; cases h1
    have hload : loadOf o s st.load ≤ d.room := by
      unfold hereT at h1
      rw [if_neg hfirst] at h1
      split at h1
      · cases h1
      rename_i hx
      cases hd : s.drop with
      | true => unfold loadOf; rw [hd]; simp only [if_true]; omega
      | false =>
        have : ¬ d.room < loadOf o s st.load := fun e => hx ⟨hd, e⟩
        omega
    have hm := step_made hf hn (fun hd => Decidable.not_not.1 fun e => hfirst ⟨hd, e⟩) hload hs
    refine ⟨⟨s, st.left + time m st.at_ (siteOf o s).place, beginA m o st s, beginA m o st s + (siteOf o s).serv, loadOf o s st.load⟩, ?_⟩
    rw [hm]
    unfold nextT
    rw [if_neg hfirst]
  · rintro ⟨v, h⟩
    obtain ⟨o', hm⟩ := step_ok.1 h
    have e : o' = o := by have := hm.find; rw [hf] at this; injection this with this; exact this.symm
    subst e
    have hfirst : ¬ isFirst seen s := fun h => h.2 (hm.first h.1)
    have hsv := hm.serve
    obtain ⟨q1, q2, q3⟩ := served_some.1 hsv
    obtain ⟨_, q4, q5⟩ := beginT_some.1 q1
    refine ⟨?_, (late_iff ho).2 ?_⟩
    · unfold hereT
      rw [if_neg hfirst, if_neg]
      rintro ⟨_, h2⟩
      have := hm.load
      omega
    · have eb : v.start = beginA m o' st s := q5
      rw [← eb, ← q2]
      exact hsv
theorem next_load (ho : OrdOk m o) (hl : st.load ≤ d.room) (h : hereT d o seen st s = []) : (nextT m o seen st s).load ≤ d.room := by
  have hsz := ho.size
  unfold nextT
  simp only
  split
  · exact hl
  rename_i hfirst
  unfold hereT at h
  rw [if_neg hfirst] at h
  split at h
  · cases h
  rename_i hx
  cases hd : s.drop with
  | true => unfold loadOf; rw [hd]; simp only [if_true]; omega
  | false =>
    have : ¬ d.room < loadOf o s st.load := fun e => hx ⟨hd, e⟩
    omega
theorem along_clean (hk : ∀ o ∈ os, OrdOk m o) (hn : (seen ++ r).Nodup) (hl : st.load ≤ d.room) : alongGo m d os seen st r = [] ↔ ∃ st' vs, run m d os seen st r = .ok (st', vs) := by
  induction r generalizing seen st with
  | nil => exact ⟨fun _ => ⟨st, [], rfl⟩, fun _ => rfl⟩
  | cons s r ih =>
    have hs : s ∉ seen := by
      rw [List.nodup_append] at hn
      exact fun h => hn.2.2 _ h _ (by simp) rfl
    have hn' : ((seen ++ [s]) ++ r).Nodup := by rw [List.append_assoc]; exact hn
    rw [run_cons]
    cases hf : find os s.ord with
    | none =>
      rw [alongGo_none hf, step_none hf]
      constructor
      · intro h; cases h
      · rintro ⟨_, _, h⟩; cases h
    | some o =>
      have ho := hk o (List.mem_of_find?_eq_some hf)
      rw [alongGo_some hf]
      constructor
      · intro h
        obtain ⟨h1, h2⟩ := List.append_eq_nil_iff.1 h
        obtain ⟨h3, h4⟩ := List.append_eq_nil_iff.1 h1
        obtain ⟨v, hv⟩ := (step_clean ho hf hs hl).1 ⟨h3, h4⟩
        obtain ⟨st', vs, hr⟩ := (ih hn' (next_load ho hl h3)).1 h2
        rw [hv]
        simp only
        rw [hr]
        exact ⟨st', v :: vs, rfl⟩
      · rintro ⟨st', vs, h⟩
        split at h
        · cases h
        rename_i st1 v hv
        split at h
        · cases h
        rename_i st2 us hr
        have e : st1 = nextT m o seen st s := by
          obtain ⟨o', hm⟩ := step_ok.1 hv
          have e : o' = o := by have := hm.find; rw [hf] at this; injection this with this; exact this.symm
          subst e
          have hfirst : ¬ isFirst seen s := fun h => h.2 (hm.first h.1)
          obtain ⟨q1, q2, _⟩ := served_some.1 hm.serve
          obtain ⟨_, _, q5⟩ := beginT_some.1 q1
          rw [hm.st']
          unfold nextT
          rw [if_neg hfirst, q2]
          have eb : v.start = beginA m o' st s := q5
          rw [eb]
        subst e
        obtain ⟨h3, h4⟩ := (step_clean ho hf hs hl).2 ⟨v, hv⟩
        rw [h3, h4, (ih hn' (next_load ho hl h3)).2 ⟨_, _, hr⟩]
        rfl
theorem lack_iff : lackGo d os xs = [] ↔ ∀ i s, xs[i]? = some s → s.drop = false → (find os s.ord).isSome = true → Stp.mk s.ord true ∈ xs.drop (i + 1) := by
  induction xs with
  | nil => exact ⟨fun _ i s h => (by cases h), fun _ => rfl⟩
  | cons x t ih =>
    rw [lackGo, List.append_eq_nil_iff, ih]
    constructor
    · rintro ⟨h1, h2⟩ i s hs hd hf
      cases i with
      | zero =>
        simp only [List.getElem?_cons_zero, Option.some.injEq] at hs
        subst hs
        refine Decidable.not_not.1 fun hn => ?_
        rw [if_pos ⟨hd, hf, hn⟩] at h1
        cases h1
      | succ i => exact h2 i s (by simpa using hs) hd hf
    · intro h
      refine ⟨?_, fun i s hs hd hf => h (i + 1) s (by simpa using hs) hd hf⟩
      rw [if_neg]
      rintro ⟨hd, hf, hn⟩
      exact hn (h 0 x rfl hd hf)
theorem sum_zero (hs : ∀ o ∈ os, 1 ≤ o.size) {l : List Int} (hf : ∀ x ∈ l, (find os x).isSome = true) : (l.map (FleetMath.sizeOf os)).sum = 0 ↔ l = [] := by
  cases l with
  | nil => simp
  | cons x t =>
    have h1 := sum_pos os hs t
    have h2 : 1 ≤ FleetMath.sizeOf os x := by
      obtain ⟨o, ho⟩ := Option.isSome_iff_exists.1 (hf x (by simp))
      unfold FleetMath.sizeOf
      rw [ho]
      exact hs o (List.mem_of_find?_eq_some ho)
    simp only [List.map_cons, List.sum_cons, reduceCtorEq, iff_false]
    omega
theorem run_found (h : run m d os seen st xs = .ok (st', vs)) : ∀ s ∈ xs, (find os s.ord).isSome = true := by
  induction xs generalizing seen st st' vs with
  | nil => intro s hs; cases hs
  | cons x t ih =>
    rw [run_cons] at h
    split at h
    · cases h
    rename_i hx
    split at h
    · cases h
    rename_i hr
    intro s hs
    rcases List.mem_cons.1 hs with rfl | hs
    · obtain ⟨o, hm⟩ := step_ok.1 hx
      rw [hm.find]; rfl
    · exact ih hr s hs
theorem lack_clean (hk : ∀ o ∈ os, OrdOk m o) (hn : xs.Nodup) (h : run m d os [] (st0 d) xs = .ok (st', vs)) : lackGo d os xs = [] ↔ ¬ 0 < st'.load := by
  obtain ⟨opn, ho⟩ := run_open h (Open.start os)
  rw [List.nil_append] at ho
  have hfd := run_found h
  have hsz : ∀ o ∈ os, 1 ≤ o.size := fun o hm => (hk o hm).size.1
  have hfo : ∀ x ∈ opn, (find os x).isSome = true := fun x hx => hfd _ ((ho.mem x).1 hx).1
  have hz := sum_zero hsz hfo
  have hp := sum_pos os hsz opn
  rw [ho.sum, lack_iff]
  constructor
  · intro hl
    have : opn = [] := by
      refine List.eq_nil_iff_forall_not_mem.2 fun x hx => ?_
      obtain ⟨h1, h2⟩ := (ho.mem x).1 hx
      obtain ⟨i, hi⟩ := List.mem_iff_getElem?.1 h1
      exact h2 (List.mem_of_mem_drop (hl i _ hi rfl (hfd _ h1)))
    rw [hz.2 this]
    omega
  · intro hl i s hs hd hf
    have ho' : opn = [] := hz.1 (by omega)
    have hm := List.mem_of_getElem? hs
    have hsm : Stp.mk s.ord false = s := by obtain ⟨a, b⟩ := s; simp only at hd; rw [hd]
    have hin : Stp.mk s.ord true ∈ xs := by
      refine Decidable.not_not.1 fun hx => ?_
      have := (ho.mem s.ord).2 ⟨by rw [hsm]; exact hm, hx⟩
      rw [ho'] at this
      cases this
    obtain ⟨j, hj⟩ := List.mem_iff_getElem?.1 hin
    have hij : i < j := by
      rcases Nat.lt_trichotomy i j with h1 | h1 | h1
      · exact h1
      · subst h1
        rw [hs] at hj
        injection hj with hj
        rw [hj] at hd
        cases hd
      · exfalso
        have e := split_at hj
        rw [e, run_append] at h
        cases hr : run m d os [] (st0 d) (xs.take j) with
        | error z => rw [hr] at h; cases h
        | ok z =>
          obtain ⟨st1, us⟩ := z
          rw [hr] at h
          simp only at h
          rw [run_cons] at h
          cases hst : FleetMath.step m d os ([] ++ xs.take j) st1 ⟨s.ord, true⟩ with
          | error z => rw [hst] at h; simp at h
          | ok z =>
            obtain ⟨st2, v⟩ := z
            obtain ⟨o, hm2⟩ := step_ok.1 hst
            have hfs := hm2.first rfl
            rw [List.nil_append] at hfs
            simp only at hfs
            rw [hsm] at hfs
            obtain ⟨k, hk2⟩ := List.mem_iff_getElem?.1 hfs
            rw [List.getElem?_take] at hk2
            split at hk2
            · rename_i hkj
              have hlt := (List.getElem?_eq_some_iff.1 hs).1
              have := (List.getElem?_inj (i := i) (j := k) hlt hn).1 (by rw [hs, hk2])
              omega
            · cases hk2
    rw [List.mem_iff_getElem?]
    exact ⟨j - (i + 1), by rw [List.getElem?_drop, show i + 1 + (j - (i + 1)) = j by omega]; exact hj⟩
theorem alongM_iff {stops : List Stp} (hd : drvE (some m) d = 0) (hk : known (some m) os = true) (hr0 : 0 ≤ d.room) (h80 : stops.length ≤ 80) (hn : stops.Nodup) : alongM m d os stops = [] ↔ (drive (some m) d os stops).2.2 = 0 := by
  have hok := known_ok hk
  rw [drive_arg hd hk h80]
  unfold alongM driveM
  rw [List.append_eq_nil_iff, along_clean hok (by simpa using hn) (by show (0 : Int) ≤ d.room; exact hr0)]
  constructor
  · rintro ⟨⟨st', vs, hr⟩, h2⟩
    rw [hr]
    simp only
    rw [if_neg ((lack_clean hok hn hr).1 h2)]
  · intro h
    cases hr : run m d os [] (st0 d) stops with
    | error z =>
      rw [hr] at h
      obtain ⟨k, e⟩ := z
      exact absurd h (run_err hr)
    | ok z =>
      obtain ⟨st', vs⟩ := z
      rw [hr] at h
      simp only at h
      split at h
      · exact absurd h (by show ¬ (18 : Int) = 0; decide)
      rename_i hl
      exact ⟨⟨st', vs, rfl⟩, (lack_clean hok hn hr).2 hl⟩
end
end Go.Proofs.YtkpnmpjnpcjohaaGreat.AuditMath

namespace Go.Proofs.YtkpnmpjnpcjohaaGreat.AuditMath
open GeoMath FleetMath PlanMath CertMath
set_option linter.unusedVariables false
section
variable {m : Option Mp} {m' : Mp} {ds : List Drv} {os : List FleetMath.Ord} {p : List Rte} {r : Rte}
theorem makeFrom_iff (i : Nat) : (∃ c, makeFrom m ds os i p = .ok c) ↔ ∀ r ∈ p, ∃ d, drvOf ds r.drv = some d ∧ (drive m d os r.stops).2.2 = 0 := by
  induction p generalizing i with
  | nil => exact ⟨fun _ r hr => (by cases hr), fun _ => ⟨[], rfl⟩⟩
  | cons r t ih =>
    rw [makeFrom]
    constructor
    · rintro ⟨c, h⟩ q hq
      split at h
      · cases h
      rename_i d hd
      split at h
      · cases h
      rename_i h0
      split at h
      · cases h
      rename_i c' hc
      rcases List.mem_cons.1 hq with rfl | hq
      · exact ⟨d, hd, Decidable.not_not.1 h0⟩
      · exact (ih (i + 1)).1 ⟨c', hc⟩ q hq
    · intro h
      obtain ⟨d, hd, h0⟩ := h r (by simp)
      obtain ⟨c, hc⟩ := (ih (i + 1)).2 fun q hq => h q (by simp [hq])
      rw [hd]
      simp only
      rw [if_neg (by simpa using h0), hc]
      exact ⟨_, rfl⟩
theorem routeT_iff (hd : ∀ d ∈ ds, drvE (some m') d = 0) (hk : known (some m') os = true) (h80 : r.stops.length ≤ 80) (hn : r.stops.Nodup) : routeT m' ds os r = [] ↔ ∃ d, drvOf ds r.drv = some d ∧ (drive (some m') d os r.stops).2.2 = 0 := by
  unfold routeT
  cases hf : drvOf ds r.drv with
  | none => exact ⟨fun h => (by cases h), fun ⟨d, h, _⟩ => (by cases h)⟩
  | some d =>
    have hdd := hd d (List.mem_of_find?_eq_some hf)
    obtain ⟨m2, e, hok⟩ := drvE_ok.1 hdd
    simp only
    rw [alongM_iff hdd hk (by have := hok.room; omega) h80 hn]
    exact ⟨fun h => ⟨d, rfl, h⟩, fun ⟨d', e, h⟩ => by injection e with e; rw [e]; exact h⟩
theorem missT_iff : missT p os = [] ↔ ∀ o ∈ os, (findP p o.id).isSome = true := by
  unfold missT
  rw [List.filterMap_eq_nil_iff]
  constructor
  · intro h o ho
    have := h o ho
    split at this
    · rename_i hs; exact hs
    · cases this
  · intro h o ho
    rw [if_pos (h o ho)]
theorem audit_none : auditM m ds os p = [] ↔ (makeC m ds os p).2.2 = 0 ∧ ∀ o ∈ os, (findP p o.id).isSome = true := by
  unfold auditM makeC
  cases hw : wellC m ds os p with
  | false => simp
  | true =>
    obtain ⟨m', rfl, _, h2, h3, h4, _⟩ := wellC_parts hw
    have hst := right_stops h3
    simp only [if_true]
    rw [List.append_eq_nil_iff, List.flatMap_eq_nil_iff, missT_iff]
    have h1 : (∀ r ∈ p, routeT m' ds os r = []) ↔ ∀ r ∈ p, ∃ d, drvOf ds r.drv = some d ∧ (drive (some m') d os r.stops).2.2 = 0 :=
      ⟨fun h r hr => (routeT_iff h4 h2 (hst r hr).1 (hst r hr).2).1 (h r hr), fun h r hr => (routeT_iff h4 h2 (hst r hr).1 (hst r hr).2).2 (h r hr)⟩
    rw [h1, ← makeFrom_iff (m := some m') 0]
    cases hm : makeFrom (some m') ds os 0 p with
    | error x =>
      obtain ⟨k, e⟩ := x
      have := makeFrom_err hm
      simp only
      constructor
      · rintro ⟨⟨c, h⟩, _⟩; cases h
      · rintro ⟨h, _⟩; exact absurd h this
    | ok c => simp
end
def rteOf (l : List Rte) (d : Int) : Option Rte := l.find? fun r => decide (r.drv = d)
def keptR (old : List Rte) (q : Rte) : Prop :=
  match rteOf old q.drv with
  | none => q.served = 0
  | some r => q.served = r.served ∧ doneR q = doneR r
instance (old : List Rte) (q : Rte) : Decidable (keptR old q) := by unfold keptR; split <;> infer_instance
def keptP (old next : List Rte) : Bool := rightP old && rightP next && decide (∀ r ∈ old, (rteOf next r.drv).isSome = true) && decide (∀ q ∈ next, keptR old q)
theorem keptP_iff {a b : List Rte} : keptP a b = true ↔ rightP a = true ∧ rightP b = true ∧ (∀ r ∈ a, (rteOf b r.drv).isSome = true) ∧ ∀ q ∈ b, keptR a q := by
  simp only [keptP, Bool.and_eq_true, decide_eq_true_eq, and_assoc]
theorem rteOf_some {l : List Rte} {d : Int} {r : Rte} (h : rteOf l d = some r) : r ∈ l ∧ r.drv = d := ⟨List.mem_of_find?_eq_some h, by simpa using List.find?_some h⟩
theorem rteOf_mem {l : List Rte} {r : Rte} (h : rightP l = true) (hr : r ∈ l) : rteOf l r.drv = some r := by
  rw [rightP_from, Bool.and_eq_true, decide_eq_true_eq, rightFrom_iff] at h
  have hp : l.Pairwise fun a b => a.drv < b.drv := h.2.2.1
  clear h
  unfold rteOf
  induction l with
  | nil => cases hr
  | cons x t ih =>
    rw [List.pairwise_cons] at hp
    rw [List.find?_cons]
    rcases List.mem_cons.1 hr with rfl | hr
    · simp
    · have := hp.1 r hr
      rw [decide_eq_false (by omega)]
      exact ih hr hp.2
end Go.Proofs.YtkpnmpjnpcjohaaGreat.AuditMath

namespace Go.Proofs.YtkpnmpjnpcjohaaGreat.AuditMath
open GeoMath FleetMath PlanMath CertMath
set_option linter.unusedVariables false
structure OA (st : St) (k : Nat) : Prop where
  left : 0 ≤ st.left ∧ st.left ≤ 1000000 + 2000000 * (k : Int)
  load : -(1000 * (k : Int)) ≤ st.load ∧ st.load ≤ 1000 * (k : Int)
section
variable {m : Mp} {d : Drv} {os : List FleetMath.Ord} {seen xs r : List Stp} {st : St} {s : Stp} {o : FleetMath.Ord} {k : Nat} {done X : List Trb}
theorem OA.start (hd : DrvOk m d) : OA (st0 d) 0 := by
  have hw := right_iff.1 hd.win
  exact ⟨⟨hw.1, by show d.win.fr ≤ 1000000 + 2000000 * (0 : Nat); omega⟩, ⟨by simp [st0], by simp [st0]⟩⟩
theorem OA.skip (h : OA st k) : OA st (k + 1) := by
  obtain ⟨⟨h1, h2⟩, h3, h4⟩ := h
  exact ⟨⟨h1, by omega⟩, by omega, by omega⟩
theorem OA.next (h : OA st k) (ho : OrdOk m o) (ht : 0 ≤ time m st.at_ (siteOf o s).place ∧ time m st.at_ (siteOf o s).place ≤ 1000000) : OA (nextT m o seen st s) (k + 1) := by
  obtain ⟨⟨h1, h2⟩, h3, h4⟩ := h
  have hw := right_iff.1 (site_win ho s)
  have hsz := ho.size
  have hsv : 0 ≤ (siteOf o s).serv ∧ (siteOf o s).serv ≤ 1000000 := by
    unfold siteOf
    split
    · exact ho.dropS
    · exact ho.pickS
  refine ⟨⟨?_, ?_⟩, ?_, ?_⟩
  · show 0 ≤ beginA m o st s + (siteOf o s).serv
    unfold beginA
    split <;> omega
  · show beginA m o st s + (siteOf o s).serv ≤ _
    unfold beginA
    split <;> omega
  · show _ ≤ if isFirst seen s then st.load else loadOf o s st.load
    unfold loadOf
    split
    · omega
    · split <;> omega
  · show (if isFirst seen s then st.load else loadOf o s st.load) ≤ _
    unfold loadOf
    split
    · omega
    · split <;> omega
theorem ag_skip (h : X = done ++ alongGo m d os seen st (s :: r)) (hf : find os s.ord = none) : X = (done ++ [⟨d.id, s.ord, 8⟩]) ++ alongGo m d os (seen ++ [s]) st r := by
  rw [h, alongGo_none hf, List.append_assoc]; rfl
theorem ag_next (h : X = done ++ alongGo m d os seen st (s :: r)) (hf : find os s.ord = some o) {a b : List Trb} (ha : hereT d o seen st s = a) (hb : lateT m d o st s = b) : X = ((done ++ a) ++ b) ++ alongGo m d os (seen ++ [s]) (nextT m o seen st s) r := by
  rw [h, alongGo_some hf, ha, hb, List.append_assoc, List.append_assoc, List.append_assoc]
theorem ag_end (h : X = done ++ alongGo m d os seen st []) : X = done := by rw [h, alongGo, List.append_nil]
theorem lg_next (h : X = done ++ lackGo d os (s :: r)) {a : List Trb} (ha : (if s.drop = false ∧ (find os s.ord).isSome = true ∧ Stp.mk s.ord true ∉ r then [(⟨d.id, s.ord, 18⟩ : Trb)] else []) = a) : X = (done ++ a) ++ lackGo d os r := by
  rw [h, lackGo, ha, List.append_assoc]
theorem lg_end (h : X = done ++ lackGo d os []) : X = done := by rw [h, lackGo, List.append_nil]
theorem here_len (d : Drv) (o : FleetMath.Ord) (seen : List Stp) (st : St) (s : Stp) : (hereT d o seen st s).length ≤ 1 := by unfold hereT; split <;> first | simp | (split <;> simp)
theorem late_len (m : Mp) (d : Drv) (o : FleetMath.Ord) (st : St) (s : Stp) : (lateT m d o st s).length ≤ 1 := by unfold lateT; split <;> simp
end
theorem alongGo_len {m : Mp} {d : Drv} {os : List FleetMath.Ord} {xs : List Stp} : ∀ {seen : List Stp} {st : St}, (alongGo m d os seen st xs).length ≤ 2 * xs.length := by
  induction xs with
  | nil => intro seen st; simp [alongGo]
  | cons s r ih =>
    intro seen st
    cases hf : find os s.ord with
    | none => rw [alongGo_none hf]; have := @ih (seen ++ [s]) st; simp only [List.length_cons]; omega
    | some o =>
      rw [alongGo_some hf]
      have := @ih (seen ++ [s]) (nextT m o seen st s)
      have h1 := here_len d o seen st s
      have h2 := late_len m d o st s
      simp only [List.length_append, List.length_cons]
      omega
theorem lackGo_len {d : Drv} {os : List FleetMath.Ord} {xs : List Stp} : (lackGo d os xs).length ≤ xs.length := by
  induction xs with
  | nil => simp [lackGo]
  | cons s r ih => rw [lackGo, List.length_append, List.length_cons]; split <;> simp <;> omega
theorem alongM_len {m : Mp} {d : Drv} {os : List FleetMath.Ord} {xs : List Stp} : (alongM m d os xs).length ≤ 3 * xs.length := by
  unfold alongM
  have h1 := @alongGo_len m d os xs [] (st0 d)
  have h2 := @lackGo_len d os xs
  rw [List.length_append]
  omega
theorem rightP_short {p : List Rte} {x : Rte} (h : rightP p = true) (hx : x ∈ p) : x.stops.length ≤ 80 := by
  unfold rightP at h
  simp only [Bool.and_eq_true, List.all_eq_true] at h
  have := h.1.1.2 x hx
  unfold rightR at this
  exact (of_decide_eq_true this).2.2.1
theorem routeT_none {m : Mp} {ds : List Drv} {os : List FleetMath.Ord} {r : Rte} (h : drvOf ds r.drv = none) : routeT m ds os r = [⟨r.drv, 0, 8⟩] := by unfold routeT; rw [h]
theorem routeT_some {m : Mp} {ds : List Drv} {os : List FleetMath.Ord} {r : Rte} {d : Drv} (h : drvOf ds r.drv = some d) : routeT m ds os r = alongM m d os r.stops := by unfold routeT; rw [h]
theorem audit_wrong {m : Option Mp} {ds : List Drv} {os : List FleetMath.Ord} {p : List Rte} (h : wellC m ds os p = false) : auditM m ds os p = [⟨0, 0, 1⟩] := by unfold auditM; rw [h]; rfl
theorem audit_right {m : Mp} {ds : List Drv} {os : List FleetMath.Ord} {p : List Rte} (h : wellC (some m) ds os p = true) : auditM (some m) ds os p = p.flatMap (routeT m ds os) ++ missT p os := by unfold auditM; rw [h]; rfl
theorem fm_next {m : Mp} {ds : List Drv} {os : List FleetMath.Ord} {x : Rte} {r : List Rte} {Y l t z : List Trb} (h : Y = l ++ (x :: r).flatMap (routeT m ds os) ++ z) (ht : routeT m ds os x = t) : Y = (l ++ t) ++ r.flatMap (routeT m ds os) ++ z := by
  rw [h, List.flatMap_cons, ht]; simp [List.append_assoc]
theorem ms_next {p : List Rte} {o : FleetMath.Ord} {r : List FleetMath.Ord} {Y l : List Trb} (h : Y = l ++ missT p (o :: r)) : ((findP p o.id).isSome = true → Y = l ++ missT p r) ∧ ((findP p o.id).isSome = false → Y = (l ++ [⟨0, o.id, 19⟩]) ++ missT p r) := by
  constructor
  · intro h1
    rw [h]; unfold missT; rw [List.filterMap_cons]; rw [if_pos h1]
  · intro h1
    rw [h]; unfold missT; rw [List.filterMap_cons]; rw [if_neg (by rw [h1]; decide)]; simp [List.append_assoc]
end Go.Proofs.YtkpnmpjnpcjohaaGreat.AuditMath

namespace Go.Proofs.YtkpnmpjnpcjohaaGreat.Audit
open GeoMath FleetMath PlanMath CertMath AuditMath
set_option linter.unusedVariables false
theorem num_cases (l : List Rte) (v : Int) (k : Nat) : (rteOf l v = none ∧ numFrom l v k = -1) ∨ ∃ (i : Nat) (r : Rte), l[i]? = some r ∧ rteOf l v = some r ∧ numFrom l v k = ((k + i : Nat) : Int) := by
  unfold rteOf
  induction l generalizing k with
  | nil => exact .inl ⟨rfl, rfl⟩
  | cons x r ih =>
    rw [numFrom_cons]
    by_cases he : x.drv = v
    · exact .inr ⟨0, x, rfl, by simp [he], by rw [if_pos he, Nat.add_zero]⟩
    · rw [if_neg he]
      rcases ih (k + 1) with ⟨h1, h2⟩ | ⟨i, q, h0, h1, h2⟩
      · exact .inl ⟨by simp [he, h1], h2⟩
      · exact .inr ⟨i + 1, q, by simpa using h0, by simp [he, h1], by rw [h2]; congr 1; omega⟩
theorem kept_no {a b : List Rte} (h : ¬ (rightP a = true ∧ rightP b = true ∧ (∀ r ∈ a, (rteOf b r.drv).isSome = true) ∧ ∀ q ∈ b, keptR a q)) : keptP a b = false := by
  cases h1 : keptP a b with
  | false => rfl
  | true => exact absurd (keptP_iff.1 h1) h
theorem served_nat {p : List Rte} {x : Rte} (h : rightP p = true) (hx : x ∈ p) : ∃ n : Nat, x.served = (n : Int) ∧ n ≤ x.stops.length := by
  unfold rightP at h
  simp only [Bool.and_eq_true, List.all_eq_true] at h
  have := h.1.1.2 x hx
  unfold rightR at this
  obtain ⟨_, _, _, h1, h2, _⟩ := of_decide_eq_true this
  exact ⟨x.served.toNat, by omega, by omega⟩
theorem keptR_none {a : List Rte} {q : Rte} (h : rteOf a q.drv = none) : keptR a q ↔ q.served = 0 := by unfold keptR; rw [h]
theorem keptR_some {a : List Rte} {q r : Rte} (h : rteOf a q.drv = some r) : keptR a q ↔ q.served = r.served ∧ doneR q = doneR r := by unfold keptR; rw [h]
def doneO : Option Rte → List Stp
  | none => []
  | some r => doneR r
theorem keptR_done {a : List Rte} {q : Rte} (ha : rightP a = true) (hq : ∃ n : Nat, q.served = (n : Int) ∧ n ≤ q.stops.length) : keptR a q ↔ doneO (rteOf a q.drv) = doneR q := by
  obtain ⟨n, h1, h2⟩ := hq
  have hn : (doneR q).length = n := by unfold doneR; rw [List.length_take, h1]; simp; omega
  cases hr : rteOf a q.drv with
  | none =>
    rw [keptR_none hr]
    constructor
    · intro h
      have h0 : n = 0 := by omega
      rw [h0] at hn
      exact (List.eq_nil_of_length_eq_zero hn).symm
    · intro h
      have : doneR q = [] := h.symm
      rw [this] at hn
      rw [h1, ← hn]; rfl
  | some r =>
    rw [keptR_some hr]
    obtain ⟨k, h3, h4⟩ := served_nat ha (rteOf_some hr).1
    constructor
    · exact fun h => h.2.symm
    · intro h
      have hd : doneR r = doneR q := h
      refine ⟨?_, hd.symm⟩
      have h5 : (doneR r).length = k := by unfold doneR; rw [List.length_take, h3]; simp; omega
      rw [hd, hn] at h5
      rw [h1, h3, h5]
end Go.Proofs.YtkpnmpjnpcjohaaGreat.Audit
