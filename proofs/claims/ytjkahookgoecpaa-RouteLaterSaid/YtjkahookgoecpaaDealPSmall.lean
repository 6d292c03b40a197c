/-
  The program's deal, walked: numbered, sized, timed, placed.
-/
import Derived.Test.YtjkahookgoecpaaDealRDriver
import Derived.Test.YtjkahookgoecpaaGeoPSmall
import Derived.Test.YtjkahookgoecpaaSpanPBegin
namespace Go.Proofs.Ytjkahookgoecpaa.Deal
open Go.ChangeShapes Go.WideShapes Go.ChangeAt Go.RowKit Go.Proofs.Ytjkahookgoecpaa.Mem Go.Proofs.Ytjkahookgoecpaa.GeoMath Go.Proofs.Ytjkahookgoecpaa.FleetMath Go.Proofs.Ytjkahookgoecpaa.Rec Go.Proofs.Ytjkahookgoecpaa.Geo Go.Proofs.Ytjkahookgoecpaa.Span

/-- is a number from lo to hi? -/
def inR (lo hi a : Int) : Bool := decide (lo ≤ a ∧ a ≤ hi)
theorem inR_false {lo hi a : Int} : inR lo hi a = false ↔ a < lo ∨ hi < a := by
  unfold inR; rw [decide_eq_false_iff_not]; omega
theorem ordE_by (m : Mp) (o : FleetMath.Ord) : ordE (some m) o =
    if inR 1 1000000 o.id = false then 1
    else if inR 1 1000 o.size = false then 14
    else if isPlace m o.pick.place = false ∨ isPlace m o.drop.place = false then 12
    else if right o.pick.win = false ∨ right o.drop.win = false then 13
    else if inR 0 1000000 o.pick.serv = false ∨ inR 0 1000000 o.drop.serv = false then 7 else 0 := by
  rw [ordE_some]
  simp only [inR_false, or_assoc]
theorem drvE_by (m : Mp) (d : Drv) : drvE (some m) d =
    if inR 1 1000000 d.id = false then 1
    else if inR 1 1000 d.room = false then 14
    else if isPlace m d.home = false then 12
    else if right d.win = false then 13 else 0 := by
  rw [drvE_some]
  simp only [inR_false]

theorem pnumbered_val (a : Int) (r : Bool) (w : World) (h : inR 1 1000000 a = r) : Calls Try.prog 41 #[.int .i64 a] w fun e w' => e = .returned (.bool r) ∧ w = w' := by
  subst h
  go_enter Try.func41, Try.ntmps41
  go_wp2
  all_goals
    go_ret
    refine ⟨ret_bool ?_, rfl⟩
    first
      | (simp_all [inR]; done)
      | (simp_all [inR]; omega)
theorem psized_val (a : Int) (r : Bool) (w : World) (h : inR 1 1000 a = r) : Calls Try.prog 42 #[.int .i64 a] w fun e w' => e = .returned (.bool r) ∧ w = w' := by
  subst h
  go_enter Try.func42, Try.ntmps42
  go_wp2
  all_goals
    go_ret
    refine ⟨ret_bool ?_, rfl⟩
    first
      | (simp_all [inR]; done)
      | (simp_all [inR]; omega)
theorem ptimed_val (a : Int) (r : Bool) (w : World) (h : inR 0 1000000 a = r) : Calls Try.prog 55 #[.int .i64 a] w fun e w' => e = .returned (.bool r) ∧ w = w' := by
  subst h
  go_enter Try.func55, Try.ntmps55
  go_wp2
  all_goals
    go_ret
    refine ⟨ret_bool ?_, rfl⟩
    first
      | (simp_all [inR]; done)
      | (simp_all [inR]; omega)

theorem pplaced_val (base b n : Nat) (l : List Int) (p : Int) (r : Bool) (w : World) (h : MapAt w 74 base b n l) (hr : isPlace ⟨n, l⟩ p = r) :
    Calls Try.prog 43 #[.pointer (some ⟨b, 0, none⟩), .int .i64 p] w fun e w' => e = .returned (.bool r) ∧ w = w' := by
  obtain ⟨g, c, hb, _, _⟩ := h.open_
  have z0 := hb.cell (i := 0) rfl
  clear hb h
  by_cases h1 : p < 0
  · have h2 : decide (0 ≤ p) = false := by simpa using h1
    have HN : Hid (false = r) := Lib.hid (by rw [← hr]; unfold isPlace; refine (decide_eq_false_iff_not.2 ?_).symm; omega)
    clear hr
    go_enter Try.func43, Try.ntmps43
    go_wp2
    go_ret
    exact ⟨ret_bool HN.out, rfl⟩
  · have h3 : decide (0 ≤ p) = true := by simpa using h1
    have HN : Hid (decide (p < (n : Int)) = r) := by
      rw [← hr]; unfold isPlace
      rw [decide_eq_decide]
      show _ ↔ 0 ≤ p ∧ p < (n : Int)
      omega
    clear hr
    go_enter Try.func43, Try.ntmps43
    go_wp2_with (go_at_call 54; refine (gplaces_c _ n _ z0).mono ?_; rintro e w' ⟨rfl, rfl⟩)
    all_goals
      go_ret
      exact ⟨ret_bool HN.out, rfl⟩

#print axioms pnumbered_val
#print axioms pplaced_val
end Go.Proofs.Ytjkahookgoecpaa.Deal
