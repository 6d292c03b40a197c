/-
  What follows of latest times, as the walks of chapter 8 ask it. No program is named here.
-/
import Derived.Test.YtobcmlcmbnldlaaMaths
namespace Go.Proofs.Ytobcmlcmbnldlaa.FleetMath
open Go.Proofs.Ytobcmlcmbnldlaa.GeoMath

theorem latest_bound {m : Mp} {til : Int} {l : List Site} (h : ∀ s ∈ l, SiteOk s) : ∀ x ∈ latest m til l, 0 ≤ x ∧ x ≤ 1000000 := by
  induction l with
  | nil => intro x hx; simp [latest] at hx
  | cons s r ih =>
    intro x hx
    simp only [latest, List.mem_cons] at hx
    rcases hx with rfl | hx
    · obtain ⟨h1, h2, h3⟩ := right_iff.1 (h s (by simp)).win
      cases ht : lastT s.win s.serv (untilOf m til s r (latest m til r)) with
      | none => simp
      | some t =>
        obtain ⟨_, _, h4, _, h5⟩ := lastT_some.1 ht
        simp only [Option.getD_some]
        split at h5 <;> omega
    · exact ih (fun s hs => h s (by simp [hs])) x hx
theorem latest_next {m : Mp} {til : Int} {l : List Site} {k : Nat} {s : Site} (h : l[k]? = some s) : latest m til (l.drop k) = (lastT s.win s.serv (untilOf m til s (l.drop (k + 1)) (latest m til (l.drop (k + 1))))).getD 0 :: latest m til (l.drop (k + 1)) := by
  obtain ⟨hlt, he⟩ := List.getElem?_eq_some_iff.1 h
  rw [List.drop_eq_getElem_cons hlt, he]
  rfl
theorem until_last {m : Mp} {til : Int} {s : Site} {l : List Site} {k : Nat} (h : l.length ≤ k) : untilOf m til s (l.drop k) (latest m til (l.drop k)) = til := by
  rw [List.drop_of_length_le h]
  rfl
theorem until_next {m : Mp} {til : Int} {s s' : Site} {l : List Site} {k : Nat} {t : Int} (h : l[k]? = some s') (ht : (latest m til (l.drop k))[0]? = some t) :
    untilOf m til s (l.drop k) (latest m til (l.drop k)) = if t - time m s.place s'.place < til then t - time m s.place s'.place else til := by
  obtain ⟨hlt, he⟩ := List.getElem?_eq_some_iff.1 h
  rw [List.drop_eq_getElem_cons hlt, he] at ht ⊢
  cases hl : latest m til (s' :: l.drop (k + 1)) with
  | nil => rw [hl] at ht; cases ht
  | cons a r =>
    rw [hl] at ht
    simp at ht
    subst ht
    rfl
/-- what Latest answers -/
def latestR (m : Option Mp) (d : Drv) (os : List Ord) (stops : List Stp) : Option (List Int) :=
  match m with
  | none => none
  | some m' => if (drive m d os stops).2.2 = 0 then some (latestOf m' d os stops) else none
theorem latestR_none {m : Option Mp} {d : Drv} {os : List Ord} {stops : List Stp} (h : (drive m d os stops).2.2 ≠ 0) : latestR m d os stops = none := by
  cases m with
  | none => rfl
  | some m' => exact if_neg h
theorem latestR_some {m : Mp} {d : Drv} {os : List Ord} {stops : List Stp} (h : (drive (some m) d os stops).2.2 = 0) : latestR (some m) d os stops = some (latestOf m d os stops) := if_pos h
/-- how far the latest times are known, from behind -/
def LatTo (m : Mp) (d : Drv) (os : List Ord) (stops : List Stp) (j : Nat) (xs : List Int) : Prop :=
  xs.length = stops.length ∧ xs.drop j = latest m d.win.to ((stops.map (siteAt os)).drop j)
theorem LatTo.start (m : Mp) (d : Drv) (os : List Ord) (stops : List Stp) {xs : List Int} (h : xs.length = stops.length) : LatTo m d os stops stops.length xs := by
  refine ⟨h, ?_⟩
  rw [List.drop_of_length_le (by omega), List.drop_of_length_le (by simp)]
  rfl
theorem LatTo.end_ {m : Mp} {d : Drv} {os : List Ord} {stops : List Stp} {xs : List Int} (h : LatTo m d os stops 0 xs) : xs = latestOf m d os stops := h.2
theorem LatTo.set {m : Mp} {d : Drv} {os : List Ord} {stops : List Stp} {k : Nat} {xs : List Int} {s : Stp} {til v : Int} (h : LatTo m d os stops (k + 1) xs) (hs : stops[k]? = some s)
    (hu : untilOf m d.win.to (siteAt os s) ((stops.map (siteAt os)).drop (k + 1)) (latest m d.win.to ((stops.map (siteAt os)).drop (k + 1))) = til)
    (hv : (lastT (siteAt os s).win (siteAt os s).serv til).getD 0 = v) : LatTo m d os stops k (xs.set k v) := by
  have hk : k < xs.length := by have := (List.getElem?_eq_some_iff.1 hs).1; have := h.1; omega
  refine ⟨by rw [List.length_set]; exact h.1, ?_⟩
  rw [latest_next (s := siteAt os s) (by rw [List.getElem?_map, hs]; rfl), hu, hv, ← h.2]
  rw [List.drop_eq_getElem_cons (by rw [List.length_set]; exact hk)]
  congr 1
  · simp
  · rw [List.drop_set_of_lt (by omega)]
theorem LatTo.at_ {m : Mp} {d : Drv} {os : List Ord} {stops : List Stp} {k : Nat} {xs : List Int} {u : Int} (h : LatTo m d os stops k xs) (hu : xs[k]? = some u) : (latest m d.win.to ((stops.map (siteAt os)).drop k))[0]? = some u := by
  rw [← h.2, List.getElem?_drop, Nat.add_zero]
  exact hu

#print axioms LatTo.set
end Go.Proofs.Ytobcmlcmbnldlaa.FleetMath
