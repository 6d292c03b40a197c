/-
  draybook.Within: its contract.
-/
import Derived.Test.YtpigklkidagolaaLibRows
namespace Go.Proofs.Ytpigklkidagolaa.Mem
open Go.ChangeShapes Go.WideShapes Go.ChangeAt Go.RowKit

/-- it answers a number from lo to hi -/
def Picks (lo hi : Int) (w : World) (e : Ending) (w' : World) : Prop := ∃ k : Nat, (lo ≤ k ∧ (k : Int) ≤ hi) ∧ e = .returned (.int .i64 (k : Int)) ∧ w = w'
theorem picks_mk {r lo hi : Int} {w : World} (h0 : 0 ≤ lo) (h : lo ≤ r) (h' : r ≤ hi) : Picks lo hi w (.returned (.int .i64 r)) w :=
  ⟨r.toNat, by omega, by rw [Int.toNat_of_nonneg (by omega)], rfl⟩
theorem tmod_lo (a b : Int) (h : 0 < b) : -b < a.tmod b ∧ a.tmod b < b := by
  have h1 := Int.tmod_lt_of_pos a h
  have h2 := Int.lt_tmod_of_pos a h
  omega
theorem within_any (a lo hi : Int) (w : World) (h0 : 0 ≤ lo) (h : lo ≤ hi) (h' : hi ≤ 1125899906842624) : Calls Try.prog 34 #[.int .i64 a, .int .i64 lo, .int .i64 hi] w (Picks lo hi w) := by
  have ht := tmod_lo a (hi - lo + 1) (by omega)
  go_enter Try.func34, Try.ntmps34
  go_wp2
  all_goals
    go_ret
    exact picks_mk h0 (by omega) (by omega)

#print axioms within_any
end Go.Proofs.Ytpigklkidagolaa.Mem
