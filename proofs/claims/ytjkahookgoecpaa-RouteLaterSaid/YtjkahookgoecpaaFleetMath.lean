/-
  The plain mathematics of chapters 5 to 7: windows, orders, drivers, the drive through a list of stops, on Lean's own integers and lists. No program is named here.
-/
import Derived.Test.YtjkahookgoecpaaGeoMath
namespace Go.Proofs.Ytjkahookgoecpaa.FleetMath
open Go.Proofs.Ytjkahookgoecpaa.GeoMath

structure Win where
  fr : Int
  to : Int
structure Site where
  place : Int
  win : Win
  serv : Int
structure Ord where
  id : Int
  size : Int
  pick : Site
  drop : Site
structure Drv where
  id : Int
  room : Int
  home : Int
  win : Win
  retired : Bool
structure Stp where
  ord : Int
  drop : Bool
structure Vis where
  stop : Stp
  arrive : Int
  start : Int
  leave : Int
  load : Int
/-- a map: places, times row by row -/
structure Mp where
  n : Nat
  ts : List Int
theorem Stp.ext_iff' {a b : Stp} : a = b ↔ a.ord = b.ord ∧ a.drop = b.drop := by cases a; cases b; simp
instance : DecidableEq Stp := fun a b => decidable_of_iff (a.ord = b.ord ∧ a.drop = b.drop) Stp.ext_iff'.symm

/-- chapter 5 -/
def right (w : Win) : Bool := decide (0 ≤ w.fr ∧ w.fr ≤ w.to ∧ w.to ≤ 1000000)
def has (w : Win) (t : Int) : Bool := right w && decide (w.fr ≤ t ∧ t ≤ w.to)
def beginT (w : Win) (a : Int) : Option Int := if right w = false ∨ w.to < a then none else some (if a < w.fr then w.fr else a)
def lastT (w : Win) (s u : Int) : Option Int :=
  if right w = false ∨ s < 0 ∨ u < s then none
  else if (if w.to < u - s then w.to else u - s) < w.fr then none else some (if w.to < u - s then w.to else u - s)
theorem right_iff {w : Win} : right w = true ↔ 0 ≤ w.fr ∧ w.fr ≤ w.to ∧ w.to ≤ 1000000 := by simp [right]
theorem has_iff {w : Win} {t : Int} : has w t = true ↔ right w = true ∧ w.fr ≤ t ∧ t ≤ w.to := by simp [has]
theorem beginT_some {w : Win} {a b : Int} : beginT w a = some b ↔ right w = true ∧ a ≤ w.to ∧ b = (if a < w.fr then w.fr else a) := by
  unfold beginT
  split
  · rename_i h
    constructor
    · intro h'; cases h'
    · rintro ⟨h1, h2, _⟩
      rcases h with h | h
      · rw [h1] at h; cases h
      · omega
  · rename_i h
    have h1 : right w = true := by
      cases hr : right w
      · exact absurd (Or.inl hr) h
      · rfl
    have h2 : a ≤ w.to := by
      have : ¬ w.to < a := fun h' => h (Or.inr h')
      omega
    constructor
    · intro h'; injection h' with h'; exact ⟨h1, h2, h'.symm⟩
    · rintro ⟨_, _, rfl⟩; rfl
theorem beginT_in {w : Win} {a b : Int} (h : beginT w a = some b) : has w b = true ∧ a ≤ b ∧ w.fr ≤ b ∧ b ≤ w.to ∧ (b = a ∨ b = w.fr) := by
  obtain ⟨h1, h2, rfl⟩ := beginT_some.1 h
  have h3 := right_iff.1 h1
  rw [has_iff]
  split <;> refine ⟨⟨h1, ?_, ?_⟩, ?_, ?_, ?_, ?_⟩ <;> omega
/-- an earlier arrival begins no later -/
theorem beginT_mono {w : Win} {a a' b' : Int} (h : beginT w a' = some b') (hle : a ≤ a') : ∃ b, beginT w a = some b ∧ b ≤ b' := by
  obtain ⟨h1, h2, rfl⟩ := beginT_some.1 h
  refine ⟨_, beginT_some.2 ⟨h1, by omega, rfl⟩, ?_⟩
  split <;> split <;> omega

/-- what is common to windows -/
def meetGo : Win → List Win → Option Win
  | m, [] => if m.to < m.fr then none else some m
  | m, w :: r => if right w = false then none else meetGo ⟨if m.fr < w.fr then w.fr else m.fr, if w.to < m.to then w.to else m.to⟩ r
def meet (l : List Win) : Option Win := meetGo ⟨0, 1000000⟩ l
theorem meetGo_nil (m : Win) : meetGo m [] = if m.to < m.fr then none else some m := rfl
theorem meetGo_cons (m w : Win) (r : List Win) : meetGo m (w :: r) = if right w = false then none else meetGo ⟨if m.fr < w.fr then w.fr else m.fr, if w.to < m.to then w.to else m.to⟩ r := rfl
/-- a time is in what is met just if it is in all of them -/
theorem meetGo_some {m : Win} {l : List Win} {v : Win} (h : meetGo m l = some v) : (∀ w ∈ l, right w = true) ∧ v.fr ≤ v.to ∧ m.fr ≤ v.fr ∧ v.to ≤ m.to ∧ ∀ t, (v.fr ≤ t ∧ t ≤ v.to) ↔ ((m.fr ≤ t ∧ t ≤ m.to) ∧ ∀ w ∈ l, w.fr ≤ t ∧ t ≤ w.to) := by
  induction l generalizing m with
  | nil =>
    rw [meetGo_nil] at h
    split at h
    · cases h
    · injection h with h
      subst h
      exact ⟨by simp, by omega, by omega, by omega, by simp⟩
  | cons w r ih =>
    rw [meetGo_cons] at h
    split at h
    · cases h
    · rename_i hr
      obtain ⟨h1, h2, h3, h4, h5⟩ := ih h
      simp only at h3 h4 h5
      refine ⟨?_, h2, ?_, ?_, fun t => ?_⟩
      · intro x hx
        rcases List.mem_cons.1 hx with rfl | hx
        · cases hrx : right x
          · exact absurd hrx hr
          · rfl
        · exact h1 x hx
      · split at h3 <;> omega
      · split at h4 <;> omega
      · rw [h5 t]
        simp only [List.mem_cons, forall_eq_or_imp]
        constructor
        · rintro ⟨⟨a, b⟩, c⟩
          refine ⟨⟨?_, ?_⟩, ⟨?_, ?_⟩, c⟩
          · split at a <;> omega
          · split at b <;> omega
          · split at a <;> omega
          · split at b <;> omega
        · rintro ⟨⟨a, b⟩, ⟨a', b'⟩, c⟩
          refine ⟨⟨?_, ?_⟩, c⟩
          · split <;> omega
          · split <;> omega
theorem meetGo_none {m : Win} {l : List Win} (h : meetGo m l = none) (hr : ∀ w ∈ l, right w = true) (t : Int) : ¬ ((m.fr ≤ t ∧ t ≤ m.to) ∧ ∀ w ∈ l, w.fr ≤ t ∧ t ≤ w.to) := by
  induction l generalizing m with
  | nil =>
    rw [meetGo_nil] at h
    split at h
    · rintro ⟨_, _⟩; omega
    · cases h
  | cons w r ih =>
    rw [meetGo_cons, if_neg (by rw [hr w (by simp)]; simp)] at h
    have := ih h fun x hx => hr x (by simp [hx])
    simp only at this
    rintro ⟨⟨a, b⟩, c⟩
    refine this ⟨⟨?_, ?_⟩, fun x hx => c x (by simp [hx])⟩
    · have := c w (by simp); split <;> omega
    · have := c w (by simp); split <;> omega

/-- chapter 6 -/
def isPlace (m : Mp) (p : Int) : Bool := decide (0 ≤ p ∧ p < m.n)
def time (m : Mp) (a b : Int) : Int := if isPlace m a = true ∧ isPlace m b = true then T m.n m.ts a.toNat b.toNat else 0
def ordE : Option Mp → Ord → Int
  | none, _ => 1
  | some m, o =>
    if o.id < 1 ∨ 1000000 < o.id then 1
    else if o.size < 1 ∨ 1000 < o.size then 14
    else if isPlace m o.pick.place = false ∨ isPlace m o.drop.place = false then 12
    else if right o.pick.win = false ∨ right o.drop.win = false then 13
    else if o.pick.serv < 0 ∨ 1000000 < o.pick.serv ∨ o.drop.serv < 0 ∨ 1000000 < o.drop.serv then 7 else 0
def drvE : Option Mp → Drv → Int
  | none, _ => 1
  | some m, d =>
    if d.id < 1 ∨ 1000000 < d.id then 1
    else if d.room < 1 ∨ 1000 < d.room then 14
    else if isPlace m d.home = false then 12
    else if right d.win = false then 13 else 0
/-- right orders with different numbers -/
def Dist (os : List Ord) : Prop := os.Pairwise fun a b => a.id ≠ b.id
instance (os : List Ord) : Decidable (Dist os) := by unfold Dist; infer_instance
def known (m : Option Mp) (os : List Ord) : Bool := decide (os.length ≤ 40 ∧ (∀ o ∈ os, ordE m o = 0) ∧ Dist os)
structure OrdOk (m : Mp) (o : Ord) : Prop where
  id : 1 ≤ o.id ∧ o.id ≤ 1000000
  size : 1 ≤ o.size ∧ o.size ≤ 1000
  pickP : isPlace m o.pick.place = true
  dropP : isPlace m o.drop.place = true
  pickW : right o.pick.win = true
  dropW : right o.drop.win = true
  pickS : 0 ≤ o.pick.serv ∧ o.pick.serv ≤ 1000000
  dropS : 0 ≤ o.drop.serv ∧ o.drop.serv ≤ 1000000
structure DrvOk (m : Mp) (d : Drv) : Prop where
  id : 1 ≤ d.id ∧ d.id ≤ 1000000
  room : 1 ≤ d.room ∧ d.room ≤ 1000
  home : isPlace m d.home = true
  win : right d.win = true
theorem ordE_some (m : Mp) (o : Ord) : ordE (some m) o =
    if o.id < 1 ∨ 1000000 < o.id then 1
    else if o.size < 1 ∨ 1000 < o.size then 14
    else if isPlace m o.pick.place = false ∨ isPlace m o.drop.place = false then 12
    else if right o.pick.win = false ∨ right o.drop.win = false then 13
    else if o.pick.serv < 0 ∨ 1000000 < o.pick.serv ∨ o.drop.serv < 0 ∨ 1000000 < o.drop.serv then 7 else 0 := rfl
theorem drvE_some (m : Mp) (d : Drv) : drvE (some m) d =
    if d.id < 1 ∨ 1000000 < d.id then 1
    else if d.room < 1 ∨ 1000 < d.room then 14
    else if isPlace m d.home = false then 12
    else if right d.win = false then 13 else 0 := rfl
theorem not_false {b : Bool} : ¬ b = false ↔ b = true := by cases b <;> simp
theorem ordE_ok {m : Option Mp} {o : Ord} : ordE m o = 0 ↔ ∃ m', m = some m' ∧ OrdOk m' o := by
  cases m with
  | none => simp [ordE]
  | some m =>
    rw [ordE_some]
    constructor
    · intro h
      refine ⟨m, rfl, ?_⟩
      split at h
      · omega
      split at h
      · omega
      split at h
      · omega
      split at h
      · omega
      split at h
      · omega
      rename_i h1 h2 h3 h4 h5
      simp only [not_or, not_false] at h3 h4
      exact ⟨by omega, by omega, h3.1, h3.2, h4.1, h4.2, by omega, by omega⟩
    · rintro ⟨m', e, h⟩
      injection e with e
      subst e
      rw [if_neg (by have := h.id; omega), if_neg (by have := h.size; omega), if_neg (by simp [h.pickP, h.dropP]), if_neg (by simp [h.pickW, h.dropW]), if_neg (by have := h.pickS; have := h.dropS; omega)]
theorem drvE_ok {m : Option Mp} {d : Drv} : drvE m d = 0 ↔ ∃ m', m = some m' ∧ DrvOk m' d := by
  cases m with
  | none => simp [drvE]
  | some m =>
    rw [drvE_some]
    constructor
    · intro h
      refine ⟨m, rfl, ?_⟩
      split at h
      · omega
      split at h
      · omega
      split at h
      · omega
      split at h
      · omega
      rename_i h1 h2 h3 h4
      simp only [not_false] at h3 h4
      exact ⟨by omega, by omega, h3, h4⟩
    · rintro ⟨m', e, h⟩
      injection e with e
      subst e
      rw [if_neg (by have := h.id; omega), if_neg (by have := h.room; omega), if_neg (by simp [h.home]), if_neg (by simp [h.win])]

/-- a site that is driven to: when it is begun and left -/
def served (m : Mp) (frm left : Int) (s : Site) (til : Int) : Option (Int × Int) :=
  match beginT s.win (left + time m frm s.place) with
  | none => none
  | some b => if til < b + s.serv then none else some (b, b + s.serv)
theorem served_some {m : Mp} {f l til b v : Int} {s : Site} : served m f l s til = some (b, v) ↔ beginT s.win (l + time m f s.place) = some b ∧ v = b + s.serv ∧ v ≤ til := by
  unfold served
  split
  · rename_i h; simp [h]
  · rename_i x h
    rw [h]
    split
    · rename_i h2
      constructor
      · intro h'; cases h'
      · rintro ⟨e, rfl, h3⟩; injection e with e; omega
    · rename_i h2
      constructor
      · intro h'; injection h' with h'; injection h' with h3 h4; subst h3; subst h4; exact ⟨rfl, rfl, by omega⟩
      · rintro ⟨e, rfl, _⟩; injection e with e; subst e; rfl
/-- leaving earlier is leaving no later -/
theorem served_mono {m : Mp} {f l l' til b' v' : Int} {s : Site} (h : served m f l' s til = some (b', v')) (hle : l ≤ l') :
    ∃ b v, served m f l s til = some (b, v) ∧ b ≤ b' ∧ v ≤ v' := by
  obtain ⟨h1, rfl, h3⟩ := served_some.1 h
  obtain ⟨b, hb, hle'⟩ := beginT_mono (a := l + time m f s.place) h1 (by omega)
  exact ⟨b, b + s.serv, served_some.2 ⟨hb, rfl, by omega⟩, hle', by omega⟩
theorem served_til {m : Mp} {f l til til' b v : Int} {s : Site} (h : served m f l s til = some (b, v)) (hle : til ≤ til') : served m f l s til' = some (b, v) := by
  obtain ⟨h1, h2, h3⟩ := served_some.1 h
  exact served_some.2 ⟨h1, h2, by omega⟩
def alone (m : Option Mp) (d : Drv) (o : Ord) : Option Int :=
  match m with
  | none => none
  | some m' =>
    if ordE m o ≠ 0 ∨ drvE m d ≠ 0 ∨ d.room < o.size then none
    else match served m' d.home d.win.fr o.pick d.win.to with
      | none => none
      | some (_, l) => match served m' o.pick.place l o.drop d.win.to with
        | none => none
        | some (_, v) => some v

/-- chapter 7: the order of a number -/
def find (os : List Ord) (id : Int) : Option Ord := os.find? fun o => decide (o.id = id)
def siteOf (o : Ord) (s : Stp) : Site := if s.drop then o.drop else o.pick
def loadOf (o : Ord) (s : Stp) (l : Int) : Int := if s.drop then l - o.size else l + o.size
theorem find_some {os : List Ord} {id : Int} {o : Ord} (h : find os id = some o) : o ∈ os ∧ o.id = id := by
  refine ⟨List.mem_of_find?_eq_some h, ?_⟩
  have := List.find?_some h
  simpa using this
theorem find_mem {os : List Ord} {o : Ord} (hd : Dist os) (h : o ∈ os) : find os o.id = some o := by
  induction os with
  | nil => cases h
  | cons x xs ih =>
    obtain ⟨h1, h2⟩ := List.pairwise_cons.1 hd
    rcases List.mem_cons.1 h with rfl | h
    · simp [find]
    · have hne : x.id ≠ o.id := h1 o h
      have := ih h2 h
      simpa [find, hne] using this
theorem find_none {os : List Ord} {id : Int} : find os id = none ↔ ∀ o ∈ os, o.id ≠ id := by simp [find]
/-- orders with the same members answer alike -/
theorem find_congr {os ps : List Ord} {id : Int} (hp : Dist ps) (h : ∀ o, o.id = id → (o ∈ os ↔ o ∈ ps)) : find os id = find ps id := by
  cases hf : find os id with
  | none =>
    have h1 := find_none.1 hf
    refine (find_none.2 fun o ho e => ?_).symm
    exact h1 o ((h o e).2 ho) e
  | some o =>
    obtain ⟨h1, h2⟩ := find_some hf
    rw [← h2]
    exact (find_mem hp ((h o h2).1 h1)).symm

structure St where
  at_ : Int
  left : Int
  load : Int
/-- one stop more, behind these -/
def step (m : Mp) (d : Drv) (os : List Ord) (seen : List Stp) (st : St) (s : Stp) : Except Int (St × Vis) :=
  match find os s.ord with
  | none => .error 8
  | some o =>
    if s ∈ seen then .error 16
    else if s.drop = true ∧ Stp.mk s.ord false ∉ seen then .error 17
    else if d.room < loadOf o s st.load then .error 14
    else match served m st.at_ st.left (siteOf o s) d.win.to with
      | none => .error 15
      | some (b, v) => .ok (⟨(siteOf o s).place, v, loadOf o s st.load⟩, ⟨s, st.left + time m st.at_ (siteOf o s).place, b, v, loadOf o s st.load⟩)
def run (m : Mp) (d : Drv) (os : List Ord) : List Stp → St → List Stp → Except (Nat × Int) (St × List Vis)
  | _, st, [] => .ok (st, [])
  | seen, st, s :: r =>
    match step m d os seen st s with
    | .error e => .error (seen.length, e)
    | .ok (st', v) =>
      match run m d os (seen ++ [s]) st' r with
      | .error x => .error x
      | .ok (st'', vs) => .ok (st'', v :: vs)
def st0 (d : Drv) : St := ⟨d.home, d.win.fr, 0⟩
/-- the visits, the fault's place, the fault's number -/
def driveM (m : Mp) (d : Drv) (os : List Ord) (stops : List Stp) : List Vis × Nat × Int :=
  match run m d os [] (st0 d) stops with
  | .error (k, e) => ([], k, e)
  | .ok (st, vs) => if 0 < st.load then ([], stops.length, 18) else (vs, 0, 0)
def drive (m : Option Mp) (d : Drv) (os : List Ord) (stops : List Stp) : List Vis × Nat × Int :=
  match m with
  | none => ([], 0, 1)
  | some m' => if drvE m d ≠ 0 ∨ known m os = false ∨ 80 < stops.length then ([], 0, 1) else driveM m' d os stops

section
variable {m : Mp} {d : Drv} {os : List Ord}
theorem run_nil (seen : List Stp) (st : St) : run m d os seen st [] = .ok (st, []) := rfl
theorem run_cons (seen : List Stp) (st : St) (s : Stp) (r : List Stp) : run m d os seen st (s :: r) =
    match step m d os seen st s with
    | .error e => .error (seen.length, e)
    | .ok (st', v) =>
      match run m d os (seen ++ [s]) st' r with
      | .error x => .error x
      | .ok (st'', vs) => .ok (st'', v :: vs) := rfl
theorem run_append (seen : List Stp) (st : St) (xs ys : List Stp) :
    run m d os seen st (xs ++ ys) = match run m d os seen st xs with
      | .error x => .error x
      | .ok (st', vs) => match run m d os (seen ++ xs) st' ys with
        | .error x => .error x
        | .ok (st'', us) => .ok (st'', vs ++ us) := by
  induction xs generalizing seen st with
  | nil =>
    simp only [List.nil_append, List.append_nil, run]
    split <;> simp_all
  | cons s r ih =>
    rw [List.cons_append, run_cons, run_cons]
    cases hs : step m d os seen st s with
    | error e => rfl
    | ok p =>
      obtain ⟨st', v⟩ := p
      simp only [ih, List.append_assoc, List.singleton_append]
      cases hr : run m d os (seen ++ [s]) st' r with
      | error x => rfl
      | ok q =>
        obtain ⟨st2, vs⟩ := q
        simp only
        cases run m d os (seen ++ s :: r) st2 ys with
        | error x => rfl
        | ok q => rfl
theorem run_len {seen : List Stp} {st st' : St} {xs : List Stp} {vs : List Vis} (h : run m d os seen st xs = .ok (st', vs)) : vs.length = xs.length := by
  induction xs generalizing seen st st' vs with
  | nil => rw [run_nil] at h; injection h with h; injection h with _ h; rw [← h]; rfl
  | cons s r ih =>
    rw [run_cons] at h
    split at h
    · cases h
    · split at h
      · cases h
      · rename_i hr
        injection h with h; injection h with _ h
        rw [← h]
        simp [ih hr]
/-- what stands behind is not asked ahead -/
theorem run_prefix {seen : List Stp} {st st' : St} {xs ys : List Stp} {vs : List Vis} (h : run m d os seen st (xs ++ ys) = .ok (st', vs)) :
    ∃ st1, run m d os seen st xs = .ok (st1, vs.take xs.length) ∧ run m d os (seen ++ xs) st1 ys = .ok (st', vs.drop xs.length) := by
  rw [run_append] at h
  cases h1 : run m d os seen st xs with
  | error x => rw [h1] at h; cases h
  | ok p =>
    obtain ⟨st1, us⟩ := p
    rw [h1] at h
    simp only at h
    cases h2 : run m d os (seen ++ xs) st1 ys with
    | error x => rw [h2] at h; cases h
    | ok q =>
      obtain ⟨st2, ws⟩ := q
      rw [h2] at h
      simp only at h
      injection h with h; injection h with e1 e2
      subst e1; subst e2
      have := run_len h1
      exact ⟨st1, by rw [← this, List.take_left], by rw [← this, List.drop_left]; exact h2⟩
/-- the k-th visit is the step behind the first k stops -/
theorem run_at {seen : List Stp} {st st' : St} {xs : List Stp} {vs : List Vis} (h : run m d os seen st xs = .ok (st', vs)) {k : Nat} {s : Stp} (hk : xs[k]? = some s) :
    ∃ st1 st2 v, run m d os seen st (xs.take k) = .ok (st1, vs.take k) ∧ vs[k]? = some v ∧ step m d os (seen ++ xs.take k) st1 s = .ok (st2, v) ∧
      run m d os seen st (xs.take (k + 1)) = .ok (st2, vs.take (k + 1)) := by
  have hlt : k < xs.length := (List.getElem?_eq_some_iff.1 hk).1
  have hs : xs[k] = s := (List.getElem?_eq_some_iff.1 hk).2
  have hx : xs.take k ++ (s :: xs.drop (k + 1)) = xs := by
    rw [← hs, List.getElem_cons_drop, List.take_append_drop]
  have hlen : (xs.take k).length = k := by rw [List.length_take]; omega
  rw [← hx] at h
  obtain ⟨st1, h1, h2⟩ := run_prefix h
  rw [hlen] at h1 h2
  rw [run_cons] at h2
  split at h2
  · cases h2
  · rename_i st2 v hst
    split at h2
    · cases h2
    · rename_i st3 us hr
      injection h2 with h2; injection h2 with e1 e2
      have hvk : vs[k]? = some v := by
        have : (vs.drop k)[0]? = some v := by rw [← e2]; rfl
        simpa using this
      refine ⟨st1, st2, v, h1, hvk, hst, ?_⟩
      rw [List.take_add_one, hk, run_append, h1]
      simp only [Option.toList, run, hst]
      rw [List.take_add_one, hvk]
      rfl
/-- a fault: ahead of it nothing is wrong; it is there whatever stands behind -/
theorem run_fault {seen : List Stp} {st : St} {xs : List Stp} {k : Nat} {e : Int} (h : run m d os seen st xs = .error (k, e)) :
    ∃ s, seen.length ≤ k ∧ xs[k - seen.length]? = some s ∧ ∃ st1 vs, run m d os seen st (xs.take (k - seen.length)) = .ok (st1, vs) ∧
      step m d os (seen ++ xs.take (k - seen.length)) st1 s = .error e := by
  induction xs generalizing seen st with
  | nil => rw [run_nil] at h; cases h
  | cons s r ih =>
    rw [run_cons] at h
    split at h
    · rename_i e' hs
      injection h with h; injection h with h1 h2
      subst h1; subst h2
      refine ⟨s, Nat.le_refl _, by simp, st, [], by simp [run], by simpa using hs⟩
    · rename_i st1 v hs
      split at h
      · rename_i x hr
        injection h with h
        subst h
        obtain ⟨s', h1, h2, st2, us, h3, h4⟩ := ih hr
        rw [List.length_append, List.length_singleton] at h1 h2 h3 h4
        obtain ⟨c, hc⟩ : ∃ c, k - seen.length = c + 1 := ⟨k - seen.length - 1, by omega⟩
        have hc' : k - (seen.length + 1) = c := by omega
        rw [hc'] at h2 h3 h4
        rw [hc]
        refine ⟨s', by omega, by simpa using h2, st2, v :: us, ?_, ?_⟩
        · rw [List.take_succ_cons, run_cons, hs]; simp only [h3]
        · rw [List.take_succ_cons]; simpa using h4
      · cases h
theorem run_fault_at {seen : List Stp} {st st1 : St} {xs : List Stp} {vs : List Vis} {s : Stp} {e : Int} (h1 : run m d os seen st xs = .ok (st1, vs)) (h2 : step m d os (seen ++ xs) st1 s = .error e) (ys : List Stp) :
    run m d os seen st (xs ++ s :: ys) = .error (seen.length + xs.length, e) := by
  rw [run_append, h1]
  simp only
  rw [run_cons, h2]
  simp

/-- what a step that is made says -/
structure Made (m : Mp) (d : Drv) (os : List Ord) (seen : List Stp) (st : St) (s : Stp) (o : Ord) (st' : St) (v : Vis) : Prop where
  find : find os s.ord = some o
  new : s ∉ seen
  first : s.drop = true → Stp.mk s.ord false ∈ seen
  load : loadOf o s st.load ≤ d.room
  serve : served m st.at_ st.left (siteOf o s) d.win.to = some (v.start, v.leave)
  st' : st' = ⟨(siteOf o s).place, v.leave, loadOf o s st.load⟩
  stop : v.stop = s
  arrive : v.arrive = st.left + time m st.at_ (siteOf o s).place
  vload : v.load = loadOf o s st.load
theorem step_ok {seen : List Stp} {st st' : St} {s : Stp} {v : Vis} : step m d os seen st s = .ok (st', v) ↔ ∃ o, Made m d os seen st s o st' v := by
  unfold step
  constructor
  · intro h
    split at h
    · cases h
    rename_i o ho
    split at h
    · cases h
    split at h
    · cases h
    split at h
    · cases h
    split at h
    · cases h
    rename_i h1 h2 h3 _ b t hs
    injection h with h; injection h with e1 e2
    subst e1; subst e2
    exact ⟨o, ho, h1, fun hd => Decidable.not_not.1 fun hn => h2 ⟨hd, hn⟩, by omega, hs, rfl, rfl, rfl, rfl⟩
  · rintro ⟨o, h⟩
    rw [h.find]
    simp only
    rw [if_neg h.new, if_neg (fun hd => hd.2 (h.first hd.1)), if_neg (by have := h.load; omega), h.serve]
    simp only
    obtain ⟨a, b, c, e, f⟩ := v
    have h1 := h.st'; have h2 := h.stop; have h3 := h.arrive; have h4 := h.vload
    simp only at h1 h2 h3 h4
    rw [h1, h2, h3, h4]

/-- loads are what is picked up and not delivered: never negative -/
def sizeOf (os : List Ord) (id : Int) : Int := match find os id with | none => 0 | some o => o.size
structure Open (os : List Ord) (seen : List Stp) (l : Int) (opn : List Int) : Prop where
  mem : ∀ id, id ∈ opn ↔ Stp.mk id false ∈ seen ∧ Stp.mk id true ∉ seen
  drops : ∀ id, Stp.mk id true ∈ seen → Stp.mk id false ∈ seen
  nodup : opn.Nodup
  sum : l = (opn.map (sizeOf os)).sum
theorem sum_erase (f : Int → Int) {l : List Int} {x : Int} (h : x ∈ l) : (l.map f).sum = f x + ((l.erase x).map f).sum := by
  induction l with
  | nil => cases h
  | cons y ys ih =>
    by_cases hxy : y = x
    · subst hxy; simp
    · have hb : (y == x) = false := by simpa using hxy
      rw [List.erase_cons, hb]
      have := ih (by rcases List.mem_cons.1 h with h | h; exact absurd h.symm hxy; exact h)
      simp only [List.map_cons, List.sum_cons, this, Bool.false_eq_true, if_false]
      omega
theorem sum_pos (os : List Ord) (hs : ∀ o ∈ os, 1 ≤ o.size) (l : List Int) : 0 ≤ (l.map (sizeOf os)).sum := by
  induction l with
  | nil => simp
  | cons x xs ih =>
    have : 0 ≤ sizeOf os x := by
      unfold sizeOf
      split
      · omega
      · rename_i o ho; have := hs o (find_some ho).1; omega
    simp only [List.map_cons, List.sum_cons]
    omega
theorem Open.start (os : List Ord) : Open os [] 0 [] := ⟨by simp, by simp, List.nodup_nil, rfl⟩
theorem Open.step {seen : List Stp} {st st' : St} {s : Stp} {v : Vis} {o : Ord} {opn : List Int} (h : Open os seen st.load opn) (hm : Made m d os seen st s o st' v) :
    ∃ opn', Open os (seen ++ [s]) st'.load opn' := by
  have hsz : sizeOf os s.ord = o.size := by unfold sizeOf; rw [hm.find]
  obtain ⟨id, dr⟩ := s
  rw [hm.st']
  cases dr with
  | false =>
    refine ⟨id :: opn, fun x => ?_, fun x hx => ?_, ?_, ?_⟩
    · rw [List.mem_cons, List.mem_append, List.mem_append, h.mem]
      by_cases hx : x = id
      · subst hx
        have hn : Stp.mk x true ∉ seen := fun ht => hm.new (h.drops x ht)
        simp [hn]
      · simp [hx]
    · rcases List.mem_append.1 hx with hx | hx
      · exact List.mem_append.2 (Or.inl (h.drops x hx))
      · simp at hx
    · refine List.nodup_cons.2 ⟨fun hin => ?_, h.nodup⟩
      exact hm.new ((h.mem id).1 hin).1
    · simp only [loadOf, List.map_cons, List.sum_cons, ← h.sum, hsz, Bool.false_eq_true, if_false]
      omega
  | true =>
    have hin : id ∈ opn := (h.mem id).2 ⟨hm.first rfl, hm.new⟩
    refine ⟨opn.erase id, fun x => ?_, fun x hx => ?_, h.nodup.erase _, ?_⟩
    · rw [h.nodup.mem_erase_iff, List.mem_append, List.mem_append, h.mem]
      by_cases hx : x = id
      · subst hx; simp
      · simp [hx]
    · rcases List.mem_append.1 hx with hx | hx
      · exact List.mem_append.2 (Or.inl (h.drops x hx))
      · simp only [List.mem_singleton, Stp.mk.injEq, and_true] at hx
        rw [hx]
        exact List.mem_append.2 (Or.inl (hm.first rfl))
    · have := sum_erase (sizeOf os) hin
      simp only [loadOf, if_true]
      rw [h.sum, this, hsz]
      omega
end
#print axioms run_fault
end Go.Proofs.Ytjkahookgoecpaa.FleetMath
