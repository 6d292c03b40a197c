/-
  P8.4 as the statement asks it: one order of a list turned, a drive through the same stops. No program is named here.
-/
import Derived.Test.YtobcmlcmbnldlaaSlackMath
namespace Go.Proofs.Ytobcmlcmbnldlaa.FleetMath
open Go.Proofs.Ytobcmlcmbnldlaa.GeoMath

/-- the order with the site of stop s begun at t -/
def turnO (o : Ord) (s : Stp) (t : Int) : Ord :=
  if s.drop then ⟨o.id, o.size, o.pick, ⟨o.drop.place, ⟨t, o.drop.win.to⟩, o.drop.serv⟩⟩ else ⟨o.id, o.size, ⟨o.pick.place, ⟨t, o.pick.win.to⟩, o.pick.serv⟩, o.drop⟩
theorem turnO_id (o : Ord) (s : Stp) (t : Int) : (turnO o s t).id = o.id ∧ (turnO o s t).size = o.size := by unfold turnO; split <;> exact ⟨rfl, rfl⟩
theorem turnO_this (o : Ord) (s : Stp) (t : Int) : siteOf (turnO o s t) s = ⟨(siteOf o s).place, ⟨t, (siteOf o s).win.to⟩, (siteOf o s).serv⟩ := by
  unfold turnO siteOf
  split <;> simp
theorem turnO_other (o : Ord) {s x : Stp} (t : Int) (h : x.drop ≠ s.drop) : siteOf (turnO o s t) x = siteOf o x := by
  unfold turnO siteOf
  cases hs : s.drop <;> cases hx : x.drop <;> simp_all
theorem find_set {os : List Ord} {i : Nat} {o p : Ord} (hd : Dist os) (ho : os[i]? = some o) (hp : p.id = o.id) (x : Int) : find (os.set i p) x = if x = o.id then some p else find os x := by
  induction os generalizing i with
  | nil => cases ho
  | cons y r ih =>
    obtain ⟨hy, hr⟩ := List.pairwise_cons.1 hd
    cases i with
    | zero =>
      simp only [List.getElem?_cons_zero, Option.some.injEq] at ho
      subst ho
      simp only [List.set_cons_zero, find, List.find?_cons, hp]
      by_cases h : x = y.id
      · simp [h]
      · simp [h, Ne.symm h]
    | succ i =>
      simp only [List.getElem?_cons_succ] at ho
      have hne := hy o (List.mem_of_getElem? ho)
      have := ih hr ho
      unfold find at this ⊢
      simp only [List.set_cons_succ, List.find?_cons]
      by_cases h : y.id = x
      · have h2 : ¬ x = o.id := fun e => hne (h.trans e)
        simp [h, h2]
      · simp only [h, decide_false]
        exact this
theorem dist_map {os : List Ord} : Dist os ↔ (os.map (·.id)).Pairwise (· ≠ ·) := by
  unfold Dist
  rw [List.pairwise_map]
theorem dist_set {os : List Ord} {i : Nat} {o p : Ord} (hd : Dist os) (ho : os[i]? = some o) (hp : p.id = o.id) : Dist (os.set i p) := by
  rw [dist_map] at hd ⊢
  have hlt := (List.getElem?_eq_some_iff.1 ho).1
  have : (os.set i p).map (·.id) = os.map (·.id) := by
    rw [List.map_set, hp]
    refine List.ext_getElem? fun j => ?_
    rw [List.getElem?_set]
    split
    · rename_i e
      subst e
      rw [if_pos (by simpa using hlt), List.getElem?_map, ho]
      rfl
    · rfl
  rw [this]
  exact hd
theorem turned_set {os : List Ord} {i : Nat} {o : Ord} {s : Stp} {t : Int} (hd : Dist os) (ho : os[i]? = some o) (he : o.id = s.ord) : Turned os (os.set i (turnO o s t)) s t := by
  have hf := fun x => find_set (p := turnO o s t) hd ho (turnO_id o s t).1 x
  have hfo : find os o.id = some o := find_mem hd (List.mem_of_getElem? ho)
  refine ⟨fun x o' h => ?_, fun x o' h hx => ?_, ?_⟩
  · rw [hf]
    by_cases e : x = o.id
    · subst e
      rw [hfo] at h
      injection h with h
      subst h
      exact ⟨_, if_pos rfl, (turnO_id o s t).2⟩
    · exact ⟨o', by rw [if_neg e]; exact h, rfl⟩
  · by_cases e : x.ord = o.id
    · have h1 : find os x.ord = some o := by rw [e]; exact hfo
      have h2 : find (os.set i (turnO o s t)) x.ord = some (turnO o s t) := by rw [hf, if_pos e]
      rw [siteAt_of h1, siteAt_of h2]
      refine turnO_other o t fun e2 => hx ?_
      obtain ⟨a, b⟩ := x
      obtain ⟨a', b'⟩ := s
      simp only at e e2 he ⊢
      rw [e, e2, he]
    · unfold siteAt
      rw [hf, if_neg e]
  · have h1 : find os s.ord = some o := by rw [← he]; exact hfo
    have h2 : find (os.set i (turnO o s t)) s.ord = some (turnO o s t) := by rw [hf, if_pos he.symm]
    rw [siteAt_of h1, siteAt_of h2]
    exact turnO_this o s t
theorem known_set {m : Mp} {os : List Ord} {i : Nat} {o : Ord} {s : Stp} {t : Int} (hk : known (some m) os = true) (ho : os[i]? = some o) (h0 : 0 ≤ t) (h1 : t ≤ (siteOf o s).win.to) : known (some m) (os.set i (turnO o s t)) = true := by
  obtain ⟨h40, hall, hd⟩ := known_iff.1 hk
  refine known_iff.2 ⟨by rw [List.length_set]; exact h40, fun x hx => ?_, dist_set hd ho (turnO_id o s t).1⟩
  rcases List.mem_or_eq_of_mem_set hx with hx | rfl
  · exact hall x hx
  · have hok := known_ok hk o (List.mem_of_getElem? ho)
    refine ordE_ok.2 ⟨m, rfl, ?_⟩
    unfold siteOf at h1
    unfold turnO
    split
    · rename_i hs
      rw [if_pos hs] at h1
      have := right_iff.1 hok.dropW
      exact ⟨hok.id, hok.size, hok.pickP, hok.dropP, hok.pickW, right_iff.2 ⟨h0, h1, this.2.2⟩, hok.pickS, hok.dropS⟩
    · rename_i hs
      rw [if_neg hs] at h1
      have := right_iff.1 hok.pickW
      exact ⟨hok.id, hok.size, hok.pickP, hok.dropP, right_iff.2 ⟨h0, h1, this.2.2⟩, hok.dropW, hok.pickS, hok.dropS⟩
section
variable {m : Mp} {d : Drv} {os : List Ord}
theorem start_in {f : St} {xs : List Stp} {vs : List Vis} {k : Nat} {s : Stp} {v : Vis} (h : run m d os [] (st0 d) xs = .ok (f, vs)) (hk : xs[k]? = some s) (hv : vs[k]? = some v) : (siteAt os s).win.fr ≤ v.start ∧ v.start ≤ (siteAt os s).win.to ∧ 0 ≤ v.start := by
  have hlt : k < xs.length := (List.getElem?_eq_some_iff.1 hk).1
  have hs : xs[k] = s := (List.getElem?_eq_some_iff.1 hk).2
  have hx : xs.take k ++ (s :: xs.drop (k + 1)) = xs := by rw [← hs, List.getElem_cons_drop, List.take_append_drop]
  have hlen : (xs.take k).length = k := by rw [List.length_take]; omega
  rw [← hx] at h
  obtain ⟨st1, hr1, hr2⟩ := run_prefix h
  rw [hlen] at hr1 hr2
  have hvs : vs.drop k = v :: vs.drop (k + 1) := by
    have hlt' := (List.getElem?_eq_some_iff.1 hv).1
    rw [List.drop_eq_getElem_cons hlt', (List.getElem?_eq_some_iff.1 hv).2]
  rw [hvs] at hr2
  obtain ⟨o, st2, hm⟩ := run_head hr2
  have hb := beginT_in (served_some.1 hm.serve).1
  rw [← siteAt_of hm.find] at hb
  have hr := right_iff.1 (has_iff.1 hb.1).1
  exact ⟨hb.2.2.1, hb.2.2.2.1, by omega⟩
end
/-- the latest time of a stop, and what it says -/
theorem limit_drive {mo : Option Mp} {d : Drv} {os : List Ord} {stops : List Stp} {k i : Nat} {s : Stp} {v : Vis} {o : Ord} (hf : (drive mo d os stops).2.2 = 0) (hk : stops[k]? = some s) (hv : (drive mo d os stops).1[k]? = some v) (hi : os[i]? = some o) (he : o.id = s.ord) :
    ∃ m l, mo = some m ∧ (latestOf m d os stops)[k]? = some l ∧ v.start ≤ l ∧ has (siteOf o s).win l = true ∧ 0 ≤ v.start ∧ v.start ≤ (siteOf o s).win.to ∧ (siteOf o s).win.to ≤ 1000000 ∧
      ∀ t, v.start ≤ t → t ≤ (siteOf o s).win.to → ((drive mo d (os.set i (turnO o s t)) stops).2.2 = 0 ↔ t ≤ l) := by
  obtain ⟨m, st, rfl, hr, h80, hkn, hdr⟩ := drive_fine hf
  have hd := (known_iff.1 hkn).2.2
  have hok := known_ok hkn
  have hfo : find os s.ord = some o := by rw [← he]; exact find_mem hd (List.mem_of_getElem? hi)
  have hsa : siteAt os s = siteOf o s := siteAt_of hfo
  obtain ⟨h1, h2, h3⟩ := start_in hr hk hv
  rw [hsa] at h1 h2
  have hld : st.load ≤ 0 := by
    have h := hf
    rw [drive_arg hdr hkn h80] at h
    unfold driveM at h
    rw [hr] at h
    simp only at h
    split at h
    · simp at h
    · omega
  obtain ⟨l, hl, e1, e2, e3, e4, _, _⟩ := limit hok hr hk hv (turned_set (t := v.start) hd hi he) (Int.le_refl _) (by rw [hsa]; exact h2)
  rw [hsa] at e2 e3 e4
  refine ⟨m, l, rfl, hl, e1, has_iff.2 ⟨e4, e2, e3⟩, h3, h2, (right_iff.1 e4).2.2, fun t ht1 ht2 => ?_⟩
  obtain ⟨l', hl', _, _, _, _, g1, g2⟩ := limit hok hr hk hv (turned_set (t := t) hd hi he) ht1 (by rw [hsa]; exact ht2)
  rw [hl] at hl'
  injection hl' with hl'
  subst hl'
  have hkn2 := known_set (t := t) hkn hi (by omega) ht2
  constructor
  · intro h
    refine Decidable.byContradiction fun hn => ?_
    obtain ⟨m2, st2, hm2, hr2, _⟩ := drive_fine h
    injection hm2 with hm2
    subst hm2
    exact g2 hn _ hr2
  · intro h
    obtain ⟨f', us, hr2, hl2⟩ := g1 h
    rw [drive_arg hdr hkn2 h80]
    unfold driveM
    rw [hr2]
    simp only
    rw [if_neg (by omega)]
theorem idx_unique {os : List Ord} {i j : Nat} {o p : Ord} (hd : Dist os) (ho : os[i]? = some o) (hp : os[j]? = some p) (he : p.id = o.id) : j = i := by
  obtain ⟨h1, e1⟩ := List.getElem?_eq_some_iff.1 ho
  obtain ⟨h2, e2⟩ := List.getElem?_eq_some_iff.1 hp
  have h := List.pairwise_iff_getElem.1 hd
  rcases Nat.lt_trichotomy i j with h3 | h3 | h3
  · exact absurd (by rw [e1, e2]; exact he.symm) (h i j h1 h2 h3)
  · exact h3.symm
  · exact absurd (by rw [e1, e2]; exact he) (h j i h2 h1 h3)
/-- how many latest times there are -/
theorem lat_bad {m : Option Mp} {d : Drv} {os : List Ord} {stops : List Stp} (h : (drive m d os stops).2.2 ≠ 0) : (latestR m d os stops).getD [] = [] ∧ (latestR m d os stops).isSome = false := by
  rw [latestR_none h]; exact ⟨rfl, rfl⟩
theorem lat_fine {m : Option Mp} {d : Drv} {os : List Ord} {stops : List Stp} (h : (drive m d os stops).2.2 = 0) : (latestR m d os stops).isSome = true ∧ ((latestR m d os stops).getD []).length = stops.length ∧ (drive m d os stops).1.length = stops.length ∧ stops.length ≤ 80 ∧ ∀ m', m = some m' → (latestR m d os stops).getD [] = latestOf m' d os stops := by
  obtain ⟨m', st, rfl, hr, h80, _, _⟩ := drive_fine h
  rw [latestR_some h]
  refine ⟨rfl, ?_, run_len hr, h80, fun m2 e => by injection e with e; rw [e]; rfl⟩
  simp only [Option.getD_some, latestOf, latest_len, List.length_map]

#print axioms limit_drive
end Go.Proofs.Ytobcmlcmbnldlaa.FleetMath
