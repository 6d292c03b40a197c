/-
  PlannerMath, PlannerMath2, PlannerMath4, PlannerMath5: one text.
-/
import Derived.Test.YtkpnmpjnpcjohaaGreatRepairMaths
import Derived.Test.YtkpnmpjnpcjohaaGreatMaths
import Derived.Test.YtkpnmpjnpcjohaaGreatCertMaths
import Derived.Test.YtkpnmpjnpcjohaaGreatAuditMaths
import Derived.KernelRfl
namespace Go.Proofs.YtkpnmpjnpcjohaaGreat.PlannerMath
open GeoMath FleetMath PlanMath CertMath AuditMath InsertMath RepairMath
set_option linter.unusedVariables false
structure Bk where
  ds : List Drv
  os : List FleetMath.Ord
  pl : List Rte
abbrev bk0 : Bk := ⟨[], [], []⟩
def AscD (l : List Drv) : Prop := l.Pairwise fun a b => a.id < b.id
def AscO (l : List FleetMath.Ord) : Prop := l.Pairwise fun a b => a.id < b.id
instance (l : List Drv) : Decidable (AscD l) := by unfold AscD; infer_instance
instance (l : List FleetMath.Ord) : Decidable (AscO l) := by unfold AscO; infer_instance
def rightB (m : Option Mp) (b : Bk) : Bool := decide (auditM m b.ds b.os b.pl = []) && decide (b.pl.length = b.ds.length) && decide (AscD b.ds) && decide (AscO b.os)
theorem rightB_iff {m : Option Mp} {b : Bk} : rightB m b = true ↔ auditM m b.ds b.os b.pl = [] ∧ b.pl.length = b.ds.length ∧ AscD b.ds ∧ AscO b.os := by
  simp only [rightB, Bool.and_eq_true, decide_eq_true_eq, and_assoc]
def gateM (m : Option Mp) (old next : Bk) : Bk × Int := if rightB m next = true ∧ keptP old.pl next.pl = true then (next, 0) else (bk0, 21)
theorem gate_ok {m : Option Mp} {old next : Bk} (h1 : rightB m next = true) (h2 : keptP old.pl next.pl = true) : gateM m old next = (next, 0) := if_pos ⟨h1, h2⟩
def atO (l : List FleetMath.Ord) (i : Int) : Nat := (l.takeWhile fun x => decide (x.id < i)).length
def atD (l : List Drv) (i : Int) : Nat := (l.takeWhile fun x => decide (x.id < i)).length
def listedM (l : List FleetMath.Ord) (o : FleetMath.Ord) : List FleetMath.Ord := l.take (atO l o.id) ++ o :: l.drop (atO l o.id)
def hiredM (l : List Drv) (d : Drv) : List Drv := l.take (atD l d.id) ++ d :: l.drop (atD l d.id)
def routedM (k : Nat) (p : List Rte) (i : Int) : List Rte := p.take k ++ ⟨i, 0, []⟩ :: p.drop k
def placeM (m : Option Mp) (b : Bk) (o : FleetMath.Ord) (n : Int) : Bk × Int :=
  if rightB m b = false ∨ n < 0 ∨ 100000 < n then (bk0, 1)
  else if ordE m o ≠ 0 then (bk0, ordE m o)
  else if (find b.os o.id).isSome = true then (bk0, 9)
  else if 40 ≤ b.os.length then (bk0, 10)
  else match cheapM m b.ds b.os b.pl o n with
    | (s, _, e) => if e ≠ 0 then (bk0, e) else gateM m b ⟨b.ds, listedM b.os o, (withP b.pl o.id ⟨s.drv, s.pick, s.drop⟩).getD []⟩
def dropM (m : Option Mp) (b : Bk) (i : Int) : Bk × Int :=
  if rightB m b = false then (bk0, 1)
  else if (find b.os i).isSome = false then (bk0, 8)
  else if begunP b.pl i = true then (bk0, 22)
  else gateM m b ⟨b.ds, othersM b.os i, withoutP b.pl [i]⟩
def hireM (m : Option Mp) (b : Bk) (d : Drv) : Bk × Int :=
  if rightB m b = false then (bk0, 1)
  else if drvE m d ≠ 0 then (bk0, drvE m d)
  else if d.retired = true then (bk0, 23)
  else if (drvOf b.ds d.id).isSome = true then (bk0, 9)
  else if 8 ≤ b.ds.length then (bk0, 10)
  else gateM m b ⟨hiredM b.ds d, b.os, routedM (atD b.ds d.id) b.pl d.id⟩
def movingM (p : List Rte) (r : Rte) : List Int := (ordersM [r]).filter fun i => !begunP p i
def againM (m : Option Mp) (ds : List Drv) (all : List FleetMath.Ord) : List Int → List FleetMath.Ord → List Rte → Int → Except Int (List FleetMath.Ord × List Rte)
  | [], os, p, _ => .ok (os, p)
  | i :: r, os, p, left =>
    match find all i with
    | none => .error 8
    | some o => match cheapM m ds os p o left with
      | (s, n, e) => if e ≠ 0 then .error e else againM m ds all r (listedM os o) ((withP p o.id ⟨s.drv, s.pick, s.drop⟩).getD []) (left - n)
def retiredM (ds : List Drv) (i : Int) : List Drv := ds.map fun d => if d.id = i then ⟨d.id, d.room, d.home, d.win, true⟩ else d
def retireM (m : Option Mp) (b : Bk) (i n : Int) : Bk × Int :=
  if rightB m b = false ∨ n < 0 ∨ 100000 < n then (bk0, 1)
  else match drvOf b.ds i with
    | none => (bk0, 8)
    | some d =>
      if d.retired = true then (bk0, 23)
      else match rteOf b.pl i with
        | none => (bk0, 8)
        | some r =>
          if (makeC m (retiredM b.ds i) (b.os.filter fun o => !decide (o.id ∈ movingM b.pl r)) (withoutP b.pl (movingM b.pl r))).2.2 ≠ 0 then (bk0, 21)
          else match againM m (retiredM b.ds i) b.os (movingM b.pl r) (b.os.filter fun o => !decide (o.id ∈ movingM b.pl r)) (withoutP b.pl (movingM b.pl r)) n with
            | .error e => (bk0, e)
            | .ok (os, p) => gateM m b ⟨retiredM b.ds i, os, p⟩
def serveM (m : Option Mp) (b : Bk) (i c : Int) : Bk × Int :=
  if rightB m b = false then (bk0, 1)
  else match b.pl[(numFrom b.pl i 0).toNat]? with
    | none => (bk0, 8)
    | some r =>
      if numFrom b.pl i 0 < 0 then (bk0, 8)
      else if c < 1 ∨ (r.stops.length : Int) - r.served < c then (bk0, 1)
      else (⟨b.ds, b.os, b.pl.set (numFrom b.pl i 0).toNat ⟨r.drv, r.served + c, r.stops⟩⟩, 0)
section
variable {m : Option Mp} {b : Bk} {i : Int}
theorem right_parts' (h : rightB m b = true) : wellC m b.ds b.os b.pl = true ∧ (∀ r ∈ b.pl, ∃ d, drvOf b.ds r.drv = some d ∧ (drive m d b.os r.stops).2.2 = 0) ∧ (∀ o ∈ b.os, (findP b.pl o.id).isSome = true) ∧ b.pl.length = b.ds.length ∧ AscD b.ds ∧ AscO b.os := by
  obtain ⟨h1, h2, h3, h4⟩ := rightB_iff.1 h
  obtain ⟨h5, h6⟩ := audit_none.1 h1
  obtain ⟨h7, h8⟩ := make_zero.1 h5
  exact ⟨h7, h8, h6, h2, h3, h4⟩
theorem well_split {ds : List Drv} {os : List FleetMath.Ord} {p : List Rte} : wellC m ds os p = true ↔ m.isSome = true ∧ ds.length ≤ 8 ∧ known m os = true ∧ rightP p = true ∧ (∀ d ∈ ds, drvE m d = 0) ∧ DistD ds := by
  simp only [wellC, Bool.and_eq_true, decide_eq_true_eq, and_assoc]
theorem found_iff {p : List Rte} {o : Int} : (findP p o).isSome = true ↔ o ∈ (allS p).map (·.ord) := by
  constructor
  · intro h
    have : ¬ ∀ x ∈ p, ∀ s ∈ x.stops, s.ord ≠ o := fun e => by rw [findP_none.2 e] at h; cases h
    simp only [Classical.not_forall] at this
    obtain ⟨x, hx, s, hs, he⟩ := this
    simp only [allS, List.mem_map, List.mem_flatMap]
    exact ⟨s, ⟨x, hx, hs⟩, Classical.not_not.1 he⟩
  · intro h
    cases hf : findP p o with
    | some _ => rfl
    | none =>
      simp only [allS, List.mem_map, List.mem_flatMap] at h
      obtain ⟨s, ⟨x, hx, hs⟩, he⟩ := h
      exact absurd he (findP_none.1 hf x hx s hs)
end
end Go.Proofs.YtkpnmpjnpcjohaaGreat.PlannerMath

namespace Go.Proofs.YtkpnmpjnpcjohaaGreat.PlannerMath
open GeoMath FleetMath PlanMath CertMath AuditMath InsertMath RepairMath
set_option linter.unusedVariables false
section
variable {m : Option Mp} {b : Bk} {i : Int} {ds : List Drv} {os : List FleetMath.Ord} {p q : List Rte}
theorem listed_mem {o x : FleetMath.Ord} : x ∈ listedM os o ↔ x = o ∨ x ∈ os := by
  unfold listedM
  rw [List.mem_append, List.mem_cons]
  conv => rhs; rw [← List.take_append_drop (atO os o.id) os, List.mem_append]
  constructor
  · rintro (h | h | h)
    · exact .inr (.inl h)
    · exact .inl h
    · exact .inr (.inr h)
  · rintro (h | h | h)
    · exact .inr (.inl h)
    · exact .inl h
    · exact .inr (.inr h)
end
end Go.Proofs.YtkpnmpjnpcjohaaGreat.PlannerMath

namespace Go.Proofs.YtkpnmpjnpcjohaaGreat.PlannerMath
open GeoMath FleetMath PlanMath CertMath AuditMath InsertMath RepairMath
set_option linter.unusedVariables false
theorem asc_tail {x y : Int} {l m : List Int} (hm : (y :: m).Pairwise (· < ·)) (hl : (x :: l).Pairwise (· < ·)) (h : ∀ z ∈ x :: l, z ∈ y :: m) : ∀ z ∈ l, z ∈ m := by
  intro z hz
  have h1 := (List.pairwise_cons.1 hl).1 z hz
  rcases List.mem_cons.1 (h z (List.mem_cons_of_mem _ hz)) with rfl | h2
  · rcases List.mem_cons.1 (h x (List.mem_cons_self ..)) with h3 | h3
    · omega
    · have := (List.pairwise_cons.1 hm).1 x h3
      omega
  · exact h2
theorem asc_same : ∀ {m l : List Int}, m.Pairwise (· < ·) → l.Pairwise (· < ·) → (∀ x ∈ l, x ∈ m) → m.length ≤ l.length → l = m := by
  intro m
  induction m with
  | nil =>
    intro l _ hl h _
    cases l with
    | nil => rfl
    | cons x r => cases h x (List.mem_cons_self ..)
  | cons y m ih =>
    intro l hm hl h hn
    cases l with
    | nil => simp at hn
    | cons x l =>
      have e := ih (List.pairwise_cons.1 hm).2 (List.pairwise_cons.1 hl).2 (asc_tail hm hl h) (by simpa using hn)
      subst e
      rcases List.mem_cons.1 (h x (List.mem_cons_self ..)) with rfl | h3
      · rfl
      · have := (List.pairwise_cons.1 hl).1 x h3
        omega
section
variable {m : Option Mp} {b : Bk} {i : Int} {ds : List Drv} {os : List FleetMath.Ord} {p : List Rte}
theorem ascD_map : AscD ds ↔ (ds.map (·.id)).Pairwise (· < ·) := by unfold AscD; rw [List.pairwise_map]
theorem drvOf_some {d : Drv} (h : drvOf ds i = some d) : d ∈ ds ∧ d.id = i := ⟨List.mem_of_find?_eq_some h, by simpa using List.find?_some h⟩
theorem right_map (h : rightB m b = true) : b.pl.map (·.drv) = b.ds.map (·.id) := by
  obtain ⟨hw, hr, _, hlen, hD, _⟩ := right_parts' h
  obtain ⟨_, _, _, w4, _, _⟩ := well_split.1 hw
  refine asc_same (ascD_map.1 hD) ?_ (fun x hx => ?_) (by simp only [List.length_map]; omega)
  · rw [List.pairwise_map]; exact (right_parts w4).1
  · obtain ⟨r, hr', rfl⟩ := List.mem_map.1 hx
    obtain ⟨d, hd, _⟩ := hr r hr'
    obtain ⟨h1, h2⟩ := drvOf_some hd
    exact List.mem_map.2 ⟨d, h1, h2⟩
def pairB (b : Bk) : Bool := decide (b.pl.map (·.drv) = b.ds.map (·.id))
def sortB (os : List FleetMath.Ord) : Bool := decide (os.Pairwise fun x y => x.id ≤ y.id)
theorem right_land (m : Option Mp) (b : Bk) : rightB m b = (decide (auditM m b.ds b.os b.pl = []) && pairB b && sortB b.os) := by
  rw [Bool.eq_iff_iff]
  simp only [Bool.and_eq_true, decide_eq_true_eq, pairB, sortB]
  constructor
  · intro h
    exact ⟨⟨(rightB_iff.1 h).1, right_map h⟩, (rightB_iff.1 h).2.2.2.imp fun h => by omega⟩
  · rintro ⟨⟨h1, h2⟩, h3⟩
    obtain ⟨h4, _⟩ := audit_none.1 h1
    obtain ⟨hw, _⟩ := make_zero.1 h4
    obtain ⟨_, _, w3, w4, _, _⟩ := well_split.1 hw
    refine rightB_iff.2 ⟨h1, by have := congrArg List.length h2; simpa using this, ?_, ?_⟩
    · rw [ascD_map, ← h2, List.pairwise_map]; exact (right_parts w4).1
    · unfold AscO
      have := (known_iff.1 w3).2.2
      refine (h3.and this).imp ?_
      rintro x y ⟨h5, h6⟩
      omega
theorem atF_eq {α : Type} {f : α → Int} {l : List α} {k : Nat} (hk : k ≤ l.length) (h1 : ∀ t x, t < k → l[t]? = some x → f x < i) (h2 : ∀ x, l[k]? = some x → ¬ f x < i) : (l.takeWhile fun x => decide (f x < i)).length = k := by
  induction l generalizing k with
  | nil => simp at hk; simp [hk]
  | cons x r ih =>
    cases k with
    | zero =>
      have := h2 x rfl
      rw [List.takeWhile_cons, if_neg (by simpa using this)]; rfl
    | succ k =>
      have := h1 0 x (Nat.succ_pos _) rfl
      rw [List.takeWhile_cons, if_pos (by simpa using this), List.length_cons, ih (k := k) (by simpa using hk) (fun t y ht hy => h1 (t + 1) y (by omega) (by simpa using hy)) (fun y hy => h2 y (by simpa using hy))]
theorem drv_at (h : AscD ds) : drvOf ds i = (ds[atD ds i]?).filter fun x => decide (x.id = i) := by
  induction ds with
  | nil => rfl
  | cons x r ih =>
    have hp := List.pairwise_cons.1 h
    unfold drvOf atD at *
    rw [List.takeWhile_cons, List.find?_cons]
    by_cases h1 : x.id < i
    · have e1 : (fun d : Drv => decide (d.id = i)) x = false := by simp; omega
      rw [if_pos (by simpa using h1)]
      simp only [e1, List.length_cons, List.getElem?_cons_succ]
      exact ih hp.2
    · rw [if_neg (by simpa using h1)]
      simp only [List.length_nil, List.getElem?_cons_zero]
      by_cases h2 : x.id = i
      · simp [h2, Option.filter]
      · have : r.find? (fun d => decide (d.id = i)) = none := by
          rw [List.find?_eq_none]
          intro y hy
          have := hp.1 y hy
          simp; omega
        simp [h2, this, Option.filter]
theorem find_at (h : AscO os) : find os i = (os[atO os i]?).filter fun x => decide (x.id = i) := by
  induction os with
  | nil => rfl
  | cons x r ih =>
    have hp := List.pairwise_cons.1 h
    unfold find atO at *
    rw [List.takeWhile_cons, List.find?_cons]
    by_cases h1 : x.id < i
    · have e1 : (fun d : FleetMath.Ord => decide (d.id = i)) x = false := by simp; omega
      rw [if_pos (by simpa using h1)]
      simp only [e1, List.length_cons, List.getElem?_cons_succ]
      exact ih hp.2
    · rw [if_neg (by simpa using h1)]
      simp only [List.length_nil, List.getElem?_cons_zero]
      by_cases h2 : x.id = i
      · simp [h2, Option.filter]
      · have : r.find? (fun d => decide (d.id = i)) = none := by
          rw [List.find?_eq_none]
          intro y hy
          have := hp.1 y hy
          simp; omega
        simp [h2, this, Option.filter]
theorem drv_found {d : Drv} (h : AscD ds) (hd : drvOf ds i = some d) : ds[atD ds i]? = some d ∧ d.id = i ∧ atD ds i < ds.length := by
  rw [drv_at h, Option.filter_eq_some_iff] at hd
  exact ⟨hd.1, by simpa using hd.2, (List.getElem?_eq_some_iff.1 hd.1).1⟩
theorem route_at {d : Drv} (h : rightB m b = true) (hd : drvOf b.ds i = some d) : ∃ r, b.pl[atD b.ds i]? = some r ∧ r.drv = i ∧ rteOf b.pl i = some r ∧ numFrom b.pl i 0 = ((atD b.ds i : Nat) : Int) := by
  obtain ⟨hw, _, _, hlen, hD, _⟩ := right_parts' h
  obtain ⟨_, _, _, w4, _, _⟩ := well_split.1 hw
  obtain ⟨h1, h2, h3⟩ := drv_found hD hd
  have hk : atD b.ds i < b.pl.length := by omega
  have hr := List.getElem?_eq_getElem hk
  have e := congrArg (·[atD b.ds i]?) (right_map h)
  simp only [List.getElem?_map, h1, hr, Option.map_some, Option.some.injEq] at e
  refine ⟨_, hr, e.trans h2, ?_, ?_⟩
  · have := rteOf_mem w4 (List.getElem_mem hk)
    rw [e, h2] at this; exact this
  · have := num_at (right_parts w4).1 hr 0
    rw [e, h2, Nat.zero_add] at this; exact this
theorem route_no (h : rightB m b = true) (hd : drvOf b.ds i = none) : rteOf b.pl i = none ∧ numFrom b.pl i 0 = -1 := by
  have hn : ∀ r ∈ b.pl, r.drv ≠ i := fun r hr e => by
    have : r.drv ∈ b.ds.map (·.id) := by rw [← right_map h]; exact List.mem_map.2 ⟨r, hr, rfl⟩
    obtain ⟨d, hd', he⟩ := List.mem_map.1 this
    have := List.find?_eq_none.1 hd d hd'
    simp at this; omega
  rcases Go.Proofs.YtkpnmpjnpcjohaaGreat.Audit.num_cases b.pl i 0 with ⟨h1, h2⟩ | ⟨k, r, h1, h2, h3⟩
  · exact ⟨h1, h2⟩
  · obtain ⟨h4, h5⟩ := rteOf_some h2
    exact absurd h5 (hn r h4)
theorem serve_at {c : Int} (h : rightB m b = true) : serveM m b i c = match drvOf b.ds i with
    | none => (bk0, 8)
    | some _ => match b.pl[atD b.ds i]? with
      | none => (bk0, 8)
      | some r => if c < 1 ∨ (r.stops.length : Int) - r.served < c then (bk0, 1) else (⟨b.ds, b.os, b.pl.set (atD b.ds i) ⟨r.drv, r.served + c, r.stops⟩⟩, 0) := by
  unfold serveM
  rw [if_neg (by rw [h]; decide)]
  cases hd : drvOf b.ds i with
  | none =>
    obtain ⟨_, h2⟩ := route_no h hd
    simp only [h2]
    split
    · rfl
    · rw [if_pos (by decide)]
  | some d =>
    obtain ⟨r, h1, h2, h3, h4⟩ := route_at h hd
    simp only [h4, Int.toNat_natCast, h1]
    rw [if_neg (by omega)]
def inM (b : Bk) (l : List Int) : List FleetMath.Ord := b.os.filter fun o => !(decide (o.id ∈ l) && !begunP b.pl o.id)
def outM (b : Bk) (l : List Int) : List FleetMath.Ord := b.os.filter fun o => decide (o.id ∈ l) && !begunP b.pl o.id
theorem stay_iff {l : List Int} {o : FleetMath.Ord} (h : rightB m b = true) (ho : o ∈ b.os) : (findP (withoutP b.pl l) o.id).isSome = !(decide (o.id ∈ l) && !begunP b.pl o.id) := by
  obtain ⟨_, _, hall, _⟩ := right_parts' h
  have h1 := found_iff.1 (hall o ho)
  rw [Bool.eq_iff_iff, found_iff]
  simp only [allS, withoutP, List.mem_map, List.mem_flatMap] at h1 ⊢
  constructor
  · rintro ⟨s, ⟨x, ⟨r, hr, rfl⟩, hs⟩, he⟩
    have := (List.mem_filter.1 hs).2
    rw [he] at this
    revert this
    cases begunP b.pl o.id <;> simp
  · intro hc
    obtain ⟨s, ⟨r, hr, hs⟩, he⟩ := h1
    refine ⟨s, ⟨_, ⟨r, hr, rfl⟩, List.mem_filter.2 ⟨hs, ?_⟩⟩, he⟩
    rw [he]
    revert hc
    cases begunP b.pl o.id <;> simp
theorem drop_at' (h : rightB m b = true) : dropM m b i = if (find b.os i).isSome = false then (bk0, 8) else if outM b [i] = [] then (bk0, 22) else gateM m b ⟨b.ds, inM b [i], withoutP b.pl [i]⟩ := by
  unfold dropM
  rw [if_neg (by rw [h]; decide)]
  by_cases hf : (find b.os i).isSome = false
  · rw [if_pos hf, if_pos hf]
  rw [if_neg hf, if_neg hf]
  obtain ⟨o, ho⟩ : ∃ o, find b.os i = some o := by
    cases hx : find b.os i with
    | none => rw [hx] at hf; exact absurd rfl hf
    | some o => exact ⟨o, rfl⟩
  obtain ⟨h1, h2⟩ := find_some ho
  cases hb : begunP b.pl i with
  | true =>
    rw [if_pos rfl, if_pos]
    unfold outM
    rw [List.filter_eq_nil_iff]
    intro x hx
    by_cases e : x.id = i
    · simp [e, hb]
    · simp [e]
  | false =>
    rw [if_neg (by decide), if_neg]
    · congr 2
      unfold othersM inM
      refine List.filter_congr fun x hx => ?_
      by_cases e : x.id = i
      · simp [e, hb]
      · simp [e]
    · intro e
      have : o ∈ outM b [i] := List.mem_filter.2 ⟨h1, by simp [h2, hb]⟩
      rw [e] at this
      cases this
theorem moving_without {r : Rte} : withoutP b.pl (ordersM [r]) = withoutP b.pl (movingM b.pl r) := by
  unfold withoutP
  refine List.map_congr_left fun x _ => ?_
  congr 1
  refine List.filter_congr fun s _ => ?_
  unfold movingM
  cases hb : begunP b.pl s.ord with
  | true => simp
  | false => simp [List.mem_filter, hb]
theorem moving_in {r : Rte} : inM b (ordersM [r]) = b.os.filter fun o => !decide (o.id ∈ movingM b.pl r) := by
  unfold inM movingM
  refine List.filter_congr fun o _ => ?_
  cases hb : begunP b.pl o.id with
  | true => simp [List.mem_filter, hb]
  | false => simp [List.mem_filter, hb]
theorem moving_out {r : Rte} (h : rightB m b = true) (hr : r ∈ b.pl) : movingM b.pl r = (outM b (ordersM [r])).map (·.id) := by
  obtain ⟨_, hrr, _, _, _, hO⟩ := right_parts' h
  refine asc_unique ((ordersM_all [r]).1.filter _) ?_ fun x => ?_
  · rw [List.pairwise_map]; exact List.Pairwise.filter _ hO
  · unfold movingM outM
    simp only [List.mem_filter, List.mem_map, Bool.and_eq_true, decide_eq_true_eq, Bool.not_eq_true']
    constructor
    · rintro ⟨h1, h2⟩
      have h3 := ((ordersM_all [r]).2 x).1 h1
      simp only [allS, List.flatMap_cons, List.flatMap_nil, List.append_nil, List.mem_map] at h3
      obtain ⟨s, hs, rfl⟩ := h3
      obtain ⟨d, _, he⟩ := hrr r hr
      obtain ⟨k, hk⟩ := List.mem_iff_getElem?.1 hs
      obtain ⟨o, ho⟩ := drive_finds he hk
      obtain ⟨h4, h5⟩ := find_some ho
      exact ⟨o, ⟨h4, by rw [h5]; exact h1, by rw [h5]; exact h2⟩, h5⟩
    · rintro ⟨o, ⟨_, h1, h2⟩, rfl⟩
      exact ⟨h1, h2⟩
def againO (m : Option Mp) (ds : List Drv) : List FleetMath.Ord → List FleetMath.Ord → List Rte → Int → Except Int (List FleetMath.Ord × List Rte)
  | [], os, p, _ => .ok (os, p)
  | o :: r, os, p, left =>
    match cheapM m ds os p o left with
    | (s, n, e) => if e ≠ 0 then .error e else againO m ds r (listedM os o) ((withP p o.id ⟨s.drv, s.pick, s.drop⟩).getD []) (left - n)
theorem again_same {all outs : List FleetMath.Ord} (h : ∀ o ∈ outs, find all o.id = some o) (left : Int) : againM m ds all (outs.map (·.id)) os p left = againO m ds outs os p left := by
  induction outs generalizing os p left with
  | nil => rfl
  | cons o r ih =>
    rw [List.map_cons, againM, againO, h o (List.mem_cons_self ..)]
    obtain ⟨⟨s, n, e⟩, hc⟩ : ∃ z, cheapM m ds os p o left = z := ⟨_, rfl⟩
    simp only [hc]
    by_cases he : e ≠ 0
    · rw [if_pos he, if_pos he]
    · rw [if_neg he, if_neg he]
      exact ih (fun x hx => h x (List.mem_cons_of_mem _ hx)) _
theorem retire_at {n : Int} (h : rightB m b = true) (h0 : 0 ≤ n) (h1 : n ≤ 100000) : retireM m b i n = match drvOf b.ds i with
    | none => (bk0, 8)
    | some d => if d.retired = true then (bk0, 23) else match b.pl[atD b.ds i]? with
      | none => (bk0, 8)
      | some r => if (makeC m (retiredM b.ds i) (inM b (ordersM [r])) (withoutP b.pl (ordersM [r]))).2.2 ≠ 0 then (bk0, 21)
        else match againO m (retiredM b.ds i) (outM b (ordersM [r])) (inM b (ordersM [r])) (withoutP b.pl (ordersM [r])) n with
          | .error e => (bk0, e)
          | .ok (os, p) => gateM m b ⟨retiredM b.ds i, os, p⟩ := by
  obtain ⟨hw, _, _, _, _, _⟩ := right_parts' h
  obtain ⟨_, _, w3, w4, _, _⟩ := well_split.1 hw
  unfold retireM
  rw [if_neg (by rw [h]; rintro (e | e | e) <;> first | cases e | omega)]
  cases hd : drvOf b.ds i with
  | none => rfl
  | some d =>
    obtain ⟨r, hr, _, h3, _⟩ := route_at h hd
    have hm : r ∈ b.pl := List.mem_of_getElem? hr
    simp only [h3, hr]
    have e : againM m (retiredM b.ds i) b.os (movingM b.pl r) (inM b (ordersM [r])) (withoutP b.pl (ordersM [r])) n = againO m (retiredM b.ds i) (outM b (ordersM [r])) (inM b (ordersM [r])) (withoutP b.pl (ordersM [r])) n := by
      rw [moving_out h hm]
      exact again_same (fun o ho => find_mem (known_dist w3) (List.mem_filter.1 ho).1) n
    rw [← moving_in, ← moving_without, e]
    all_goals rfl
theorem retired_set {d : Drv} (h : AscD ds) (hd : drvOf ds i = some d) : retiredM ds i = ds.set (atD ds i) ⟨d.id, d.room, d.home, d.win, true⟩ := by
  obtain ⟨h1, h2, h3⟩ := drv_found h hd
  refine List.ext_getElem? fun k => ?_
  unfold retiredM
  rw [List.getElem?_map, List.getElem?_set]
  split
  · rename_i e
    subst e
    rw [h1, Option.map_some, if_pos h2]
  · rename_i hne
    cases hk : ds[k]? with
    | none => rfl
    | some y =>
      rw [Option.map_some, if_neg]
      intro e
      have hl := (List.getElem?_eq_some_iff.1 hk).1
      have hk' := (List.getElem?_eq_some_iff.1 hk).2
      have h1' := (List.getElem?_eq_some_iff.1 h1).2
      rcases Nat.lt_or_gt_of_ne hne with hlt | hgt
      · have := List.pairwise_iff_getElem.1 h _ _ h3 hl hlt
        rw [hk', h1'] at this; omega
      · have := List.pairwise_iff_getElem.1 h _ _ hl h3 hgt
        rw [hk', h1'] at this; omega
end
end Go.Proofs.YtkpnmpjnpcjohaaGreat.PlannerMath

namespace Go.Proofs.YtkpnmpjnpcjohaaGreat.PlannerMath
open GeoMath FleetMath PlanMath CertMath AuditMath InsertMath RepairMath
set_option linter.unusedVariables false
abbrev kM : Option Mp := some ⟨2, [0, 5, 7, 0]⟩
abbrev kO : FleetMath.Ord := ⟨1, 3, ⟨0, ⟨2, 9⟩, 1⟩, ⟨1, ⟨0, 20⟩, 2⟩⟩
abbrev kD : Drv := ⟨4, 3, 1, ⟨1, 30⟩, false⟩
abbrev kB : Bk := ⟨[kD], [], [⟨4, 0, []⟩]⟩
abbrev kX : Bk := ⟨[kD], [kO], [⟨4, 0, [⟨1, false⟩, ⟨1, true⟩]⟩]⟩
abbrev kS : Bk := ⟨[kD], [kO], [⟨4, 1, [⟨1, false⟩, ⟨1, true⟩]⟩]⟩
abbrev kR : Bk := ⟨[⟨4, 3, 1, ⟨1, 30⟩, true⟩], [], [⟨4, 0, []⟩]⟩
theorem k_r0 : rightB kM bk0 = true := by kernel_rfl
theorem k_r1 : rightB kM kB = true := by kernel_rfl
theorem k_p1 : placeM kM kB kO 9 = (kX, 0) := by kernel_rfl
theorem k_p2 : placeM kM kB kO 0 = (bk0, 20) := by kernel_rfl
theorem k_p3 : placeM kM kX kO 9 = (bk0, 9) := by kernel_rfl
theorem k_p4 : dropM kM kB 1 = (bk0, 8) := by kernel_rfl
theorem k_p6 : hireM kM kB kD = (bk0, 9) := by kernel_rfl
theorem k_p7 : serveM kM kX 4 1 = (kS, 0) := by kernel_rfl
theorem k_p8 : dropM kM kS 1 = (bk0, 22) := by kernel_rfl
theorem k_p9 : serveM kM kX 4 3 = (bk0, 1) := by kernel_rfl
theorem k_p11 : placeM kM kR kO 9 = (bk0, 20) := by kernel_rfl
theorem k_mv : ordersM [⟨4, 0, [⟨1, false⟩, ⟨1, true⟩]⟩] = [1] := by simp [ordersM, allS, List.mergeSort, List.MergeSort.Internal.splitInTwo, Lib.compact]; rfl
theorem k_p5 : retireM kM kX 4 9 = (bk0, 20) := by
  have hd : drvOf kX.ds 4 = some kD := by kernel_rfl
  have hr : rteOf kX.pl 4 = some ⟨4, 0, [⟨1, false⟩, ⟨1, true⟩]⟩ := by kernel_rfl
  have hm : movingM kX.pl ⟨4, 0, [⟨1, false⟩, ⟨1, true⟩]⟩ = [1] := by unfold movingM; rw [k_mv]; kernel_rfl
  unfold retireM
  rw [if_neg (by have : rightB kM kX = true := by kernel_rfl
                 rw [this]; decide)]
  rw [hd]
  show (if kD.retired = true then _ else _) = _
  rw [if_neg (by decide), hr]
  show (if (makeC kM (retiredM kX.ds 4) (kX.os.filter fun o => !decide (o.id ∈ movingM kX.pl ⟨4, 0, [⟨1, false⟩, ⟨1, true⟩]⟩)) (withoutP kX.pl (movingM kX.pl ⟨4, 0, [⟨1, false⟩, ⟨1, true⟩]⟩))).2.2 ≠ 0 then _ else match againM kM (retiredM kX.ds 4) kX.os (movingM kX.pl ⟨4, 0, [⟨1, false⟩, ⟨1, true⟩]⟩) (kX.os.filter fun o => !decide (o.id ∈ movingM kX.pl ⟨4, 0, [⟨1, false⟩, ⟨1, true⟩]⟩)) (withoutP kX.pl (movingM kX.pl ⟨4, 0, [⟨1, false⟩, ⟨1, true⟩]⟩)) 9 with | .error e => (bk0, e) | .ok (os, p) => gateM kM kX ⟨retiredM kX.ds 4, os, p⟩) = _
  rw [hm]
  kernel_rfl
theorem k_p10 : retireM kM kB 4 9 = (kR, 0) := by kernel_rfl
end Go.Proofs.YtkpnmpjnpcjohaaGreat.PlannerMath
