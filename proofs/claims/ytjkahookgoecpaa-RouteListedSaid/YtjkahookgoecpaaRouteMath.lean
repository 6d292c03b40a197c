/-
  The plain mathematics of a drive, stop by stop, as a loop meets it. No program is named here.
-/
import Derived.Test.YtjkahookgoecpaaMaths
namespace Go.Proofs.Ytjkahookgoecpaa.FleetMath
open Go.Proofs.Ytjkahookgoecpaa.GeoMath
section
variable {m : Mp} {d : Drv} {os : List Ord} {seen : List Stp} {st : St} {s : Stp} {o : Ord}
theorem step_none (h : find os s.ord = none) : step m d os seen st s = .error 8 := by unfold step; rw [h]
theorem step_twice (h : find os s.ord = some o) (h1 : s ∈ seen) : step m d os seen st s = .error 16 := by unfold step; rw [h]; simp only; rw [if_pos h1]
theorem step_first (h : find os s.ord = some o) (h1 : s ∉ seen) (h2 : s.drop = true) (h3 : Stp.mk s.ord false ∉ seen) : step m d os seen st s = .error 17 := by unfold step; rw [h]; simp only; rw [if_neg h1, if_pos ⟨h2, h3⟩]
theorem step_load (h : find os s.ord = some o) (h1 : s ∉ seen) (h2 : s.drop = true → Stp.mk s.ord false ∈ seen) (h3 : d.room < loadOf o s st.load) : step m d os seen st s = .error 14 := by
  unfold step; rw [h]; simp only; rw [if_neg h1, if_neg (fun hd => hd.2 (h2 hd.1)), if_pos h3]
theorem step_tardy (h : find os s.ord = some o) (h1 : s ∉ seen) (h2 : s.drop = true → Stp.mk s.ord false ∈ seen) (h3 : loadOf o s st.load ≤ d.room) (h4 : served m st.at_ st.left (siteOf o s) d.win.to = none) : step m d os seen st s = .error 15 := by
  unfold step; rw [h]; simp only; rw [if_neg h1, if_neg (fun hd => hd.2 (h2 hd.1)), if_neg (by omega), h4]
theorem step_made {b v : Int} (h : find os s.ord = some o) (h1 : s ∉ seen) (h2 : s.drop = true → Stp.mk s.ord false ∈ seen) (h3 : loadOf o s st.load ≤ d.room) (h4 : served m st.at_ st.left (siteOf o s) d.win.to = some (b, v)) :
    step m d os seen st s = .ok (⟨(siteOf o s).place, v, loadOf o s st.load⟩, ⟨s, st.left + time m st.at_ (siteOf o s).place, b, v, loadOf o s st.load⟩) := by
  unfold step; rw [h]; simp only; rw [if_neg h1, if_neg (fun hd => hd.2 (h2 hd.1)), if_neg (by omega), h4]
end
theorem split_at {l : List Stp} {k : Nat} {s : Stp} (h : l[k]? = some s) : l = l.take k ++ s :: l.drop (k + 1) := by
  obtain ⟨hlt, e⟩ := List.getElem?_eq_some_iff.1 h
  rw [← e, ← List.drop_eq_getElem_cons hlt, List.take_append_drop]
/-- behind k stops nothing is wrong: where the driver is, and what it has visited -/
structure Upto (m : Mp) (d : Drv) (os : List Ord) (stops : List Stp) (k : Nat) (st : St) (vs : List Vis) : Prop where
  run : run m d os [] (st0 d) (stops.take k) = .ok (st, vs)
  left : 0 ≤ st.left ∧ st.left ≤ 2000000
  load : -(1000 * (k : Int)) ≤ st.load ∧ st.load ≤ 1000 * (k : Int)
  len : vs.length = k
section
variable {m : Mp} {d : Drv} {os : List Ord} {stops : List Stp} {k : Nat} {st : St} {vs : List Vis} {s : Stp}
theorem Upto.start (hd : DrvOk m d) : Upto m d os stops 0 (st0 d) [] := by
  have hw := right_iff.1 hd.win
  exact ⟨by simp [FleetMath.run], ⟨hw.1, by show d.win.fr ≤ 2000000; omega⟩, ⟨by simp [st0], by simp [st0]⟩, rfl⟩
theorem Upto.fault {e : Int} (h : Upto m d os stops k st vs) (hs : stops[k]? = some s) (he : step m d os (stops.take k) st s = .error e) (hd : drvE (some m) d = 0) (hk : known (some m) os = true) (hn : stops.length ≤ 80) :
    drive (some m) d os stops = ([], k, e) := by
  have hlt := (List.getElem?_eq_some_iff.1 hs).1
  rw [drive_arg hd hk hn]
  unfold driveM
  rw [split_at hs, run_fault_at h.run (by simpa using he)]
  simp only [List.length_nil, Nat.zero_add, List.length_take]
  rw [Nat.min_eq_left (by omega)]
theorem Upto.next {o : Ord} {b v : Int} (h : Upto m d os stops k st vs) (hs : stops[k]? = some s) (ho : OrdOk m o) (h0 : find os s.ord = some o) (h1 : s ∉ stops.take k) (h2 : s.drop = true → Stp.mk s.ord false ∈ stops.take k) (h3 : loadOf o s st.load ≤ d.room) (h4 : served m st.at_ st.left (siteOf o s) d.win.to = some (b, v)) :
    Upto m d os stops (k + 1) ⟨(siteOf o s).place, v, loadOf o s st.load⟩ (vs ++ [⟨s, st.left + time m st.at_ (siteOf o s).place, b, v, loadOf o s st.load⟩]) := by
  have hst := step_made h0 h1 h2 h3 h4
  obtain ⟨q1, q2, _⟩ := served_some.1 h4
  have hw := right_iff.1 (has_iff.1 (beginT_in q1).1).1
  have hb := beginT_in q1
  have hsz := ho.size
  have hsv : 0 ≤ (siteOf o s).serv ∧ (siteOf o s).serv ≤ 1000000 := by
    unfold siteOf
    split
    · exact ho.dropS
    · exact ho.pickS
  refine ⟨?_, ⟨by simp only; omega, by simp only; omega⟩, ?_, by simp [h.len]⟩
  · rw [List.take_add_one, hs, run_append, h.run]
    simp only [Option.toList, List.nil_append]
    rw [run_cons, hst]
    simp [FleetMath.run]
  · have := h.load
    simp only [loadOf]
    split <;> constructor <;> omega
theorem Upto.done (h : Upto m d os stops stops.length st vs) (hd : drvE (some m) d = 0) (hk : known (some m) os = true) (hn : stops.length ≤ 80) :
    drive (some m) d os stops = if 0 < st.load then ([], stops.length, 18) else (vs, 0, 0) := by
  rw [drive_arg hd hk hn]
  unfold driveM
  have := h.run
  rw [List.take_length] at this
  rw [this]
end

#print axioms Upto.next
end Go.Proofs.Ytjkahookgoecpaa.FleetMath
