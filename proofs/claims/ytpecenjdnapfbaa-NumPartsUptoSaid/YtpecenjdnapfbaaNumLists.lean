/-
  The walks of the statements of chapter 1 over lists: NumSums.
-/
import Derived.Test.YtpecenjdnapfbaaNumRuns
import Derived.Test.YtpecenjdnapfbaaNumRefs
import Derived.Test.YtpecenjdnapfbaaNumMem
namespace Go.Proofs.Ytpecenjdnapfbaa.NumWalks
open Go.ChangeShapes Go.WideShapes Go.ChangeAt Go.RowKit Go.Proofs.Ytpecenjdnapfbaa.NumMath
set_option linter.unusedVariables false

theorem below_drewN {B : Nat} {a w : World} (h : Below B a w) (n : Nat) : Below B a (w.drewN n) := ⟨h.os, h.tape, h.output, h.size, h.block⟩

theorem own_ints {w : World} {g n : Nat} {xs : List Int} (h : xs.length = n) (hm : n * 8 ≤ 140737488351232) (hw : ∀ x ∈ xs, (Lit.int .i64 x).wf = true) (hr : Row w g (intsV (xs ++ List.replicate 80 (-77)))) :
    Ints w w.heap.size (some ⟨g, 0, none⟩) n xs := by
  have e := hr.ints (n := n) (by simp [h]) (by unfold maxLen; omega) (by
    intro x hx
    rcases List.mem_append.1 hx with hx | hx
    · exact hw x hx
    · rw [(List.mem_replicate.1 hx).2]; decide)
  rw [List.take_append_of_le_length (by omega), List.take_of_length_le (by omega)] at e
  exact e

set_option maxHeartbeats 400000 in
theorem numSums_walk (A : Option Addr) (n c : Nat) (xs : List Int) (w : World) (hl : n ≤ c) (hr : c * 8 ≤ 140737488351232) (h : Ints w w.heap.size A n xs) :
    Calls Try.prog 5 #[.slice A n c] w fun e w' => e = .returned (.bool true) ∧ Below w.heap.size w w' := by
  have hn : n * 8 ≤ 140737488351232 := by omega
  have H := Lib.hid h
  clear h hl hr
  go_enter Try.func5, Try.ntmps5
  go_wp2_with fail
  refine (roomy_any A n c xs w (-77) H.out hn).mono ?_
  rintro e w1 ⟨rfl, hb, hrow⟩
  have HI : Hid (Ints w1 w.heap.size A n xs) := H.out.keep hb
  have HO : Hid (Ints w1 w1.heap.size (some ⟨w.heap.size, 0, none⟩) n xs) := own_ints H.out.1 hn H.out.2.2.1 hrow
  have HR := Lib.hid hrow
  clear hrow
  go_wp2_with fail
  refine (sum_any _ _ _ xs _ _ HO.out).mono ?_
  rintro e w' ⟨rfl, rfl⟩
  go_wp2_with fail
  refine (rsum_any _ _ _ xs _ _ HI.out).mono ?_
  rintro e w' ⟨rfl, rfl⟩
  go_wp2_with fail
  refine (sat_any _ _ _ xs _ _ HO.out).mono ?_
  rintro e w' ⟨rfl, rfl⟩
  go_wp2_with fail
  refine (rsat_any _ _ _ xs _ _ HI.out).mono ?_
  rintro e w' ⟨rfl, rfl⟩
  go_wp2_with fail
  refine (intact_yes _ _ _ _ xs _ (-77) _ HI.out hn (by decide) HR.out).mono ?_
  rintro e w' ⟨rfl, d, rfl⟩
  go_wp2_with fail
  refine (runs_any _).mono ?_
  rintro e w' ⟨rfl, hb2⟩
  go_wp2_with fail
  go_ret
  exact ⟨rfl, (below_drewN hb d).trans (hb2.mono (by simpa using hb.size))⟩

#print axioms numSums_walk
end Go.Proofs.Ytpecenjdnapfbaa.NumWalks
