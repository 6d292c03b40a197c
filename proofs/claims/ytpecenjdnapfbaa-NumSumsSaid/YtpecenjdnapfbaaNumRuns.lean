/-
  Chapter 1's example runs come out as the chapter says (NumRuns returns true), whatever the memory; only new memory is written.
-/
import Derived.Test.YtpecenjdnapfbaaNumWalks
namespace Go.Proofs.Ytpecenjdnapfbaa.NumWalks
open Go.ChangeShapes Go.WideShapes Go.ChangeAt Go.RowKit Go.Proofs.Ytpecenjdnapfbaa.NumMath

theorem ints_lit {W : World} {g : Nat} {xs : List Int} (hn : xs.length ≤ 8) (hw : ∀ x ∈ xs, (Lit.int .i64 x).wf = true) (hc : ∀ j u, xs[j]? = some u → W.cell? ⟨g, 0 + j, none⟩ = some (.int .i64 u)) :
    Ints W (g + 1) (some ⟨g, 0, none⟩) xs.length xs :=
  ⟨rfl, by unfold maxLen; omega, hw, fun _ => ⟨g, 0, rfl, by omega, hc⟩⟩

theorem three {W : World} {g : Nat} {x y z : Int} (h0 : W.cell? ⟨g, 0, none⟩ = some (.int .i64 x)) (h1 : W.cell? ⟨g, 1, none⟩ = some (.int .i64 y)) (h2 : W.cell? ⟨g, 2, none⟩ = some (.int .i64 z)) :
    ∀ j u, [x, y, z][j]? = some u → W.cell? ⟨g, 0 + j, none⟩ = some (.int .i64 u)
  | 0, u, h => by simp at h; subst h; exact h0
  | 1, u, h => by simp at h; subst h; exact h1
  | 2, u, h => by simp at h; subst h; exact h2
  | j + 3, u, h => by simp at h
theorem two {W : World} {g : Nat} {x y : Int} (h0 : W.cell? ⟨g, 0, none⟩ = some (.int .i64 x)) (h1 : W.cell? ⟨g, 1, none⟩ = some (.int .i64 y)) :
    ∀ j u, [x, y][j]? = some u → W.cell? ⟨g, 0 + j, none⟩ = some (.int .i64 u)
  | 0, u, h => by simp at h; subst h; exact h0
  | 1, u, h => by simp at h; subst h; exact h1
  | j + 2, u, h => by simp at h

theorem sum0 (W : World) : Calls Try.prog 11 #[.slice none 0 0] W fun e w' => e = .returned (.tuple #[.int .i64 0, .bool true]) ∧ W = w' :=
  sum_any none 0 0 [] 0 W ⟨rfl, Nat.zero_le _, by simp, fun h => absurd h (by omega)⟩
theorem sum3 (W : World) (g : Nat) (x y z v : Int) (b : Bool) (h0 : W.cell? ⟨g, 0, none⟩ = some (.int .i64 x)) (h1 : W.cell? ⟨g, 1, none⟩ = some (.int .i64 y)) (h2 : W.cell? ⟨g, 2, none⟩ = some (.int .i64 z))
    (hw : ∀ n ∈ [x, y, z], (Lit.int .i64 n).wf = true) (hv : sumV [x, y, z] = v) (hb : sumB [x, y, z] = b) :
    Calls Try.prog 11 #[.slice (some ⟨g, 0, none⟩) 3 3] W fun e w' => e = .returned (.tuple #[.int .i64 v, .bool b]) ∧ W = w' := by
  rw [← hv, ← hb]
  exact sum_any _ 3 3 [x, y, z] (g + 1) W (ints_lit (by simp) hw (three h0 h1 h2))
theorem sat3 (W : World) (g : Nat) (x y z v : Int) (h0 : W.cell? ⟨g, 0, none⟩ = some (.int .i64 x)) (h1 : W.cell? ⟨g, 1, none⟩ = some (.int .i64 y)) (h2 : W.cell? ⟨g, 2, none⟩ = some (.int .i64 z))
    (hw : ∀ n ∈ [x, y, z], (Lit.int .i64 n).wf = true) (hv : satV [x, y, z] = v) :
    Calls Try.prog 13 #[.slice (some ⟨g, 0, none⟩) 3 3] W fun e w' => e = .returned (.int .i64 v) ∧ W = w' := by
  rw [← hv]
  exact sat_any _ 3 3 [x, y, z] (g + 1) W (ints_lit (by simp) hw (three h0 h1 h2))
theorem sat2 (W : World) (g : Nat) (x y v : Int) (h0 : W.cell? ⟨g, 0, none⟩ = some (.int .i64 x)) (h1 : W.cell? ⟨g, 1, none⟩ = some (.int .i64 y))
    (hw : ∀ n ∈ [x, y], (Lit.int .i64 n).wf = true) (hv : satV [x, y] = v) :
    Calls Try.prog 13 #[.slice (some ⟨g, 0, none⟩) 2 2] W fun e w' => e = .returned (.int .i64 v) ∧ W = w' := by
  rw [← hv]
  exact sat_any _ 2 2 [x, y] (g + 1) W (ints_lit (by simp) hw (two h0 h1))
theorem mul_lit (W : World) (a b v : Int) (c : Bool) (hv : mulV a b = v) (hc : mulB a b = c) :
    Calls Try.prog 12 #[.int .i64 a, .int .i64 b] W fun e w' => e = .returned (.tuple #[.int .i64 v, .bool c]) ∧ W = w' := by
  rw [← hv, ← hc]
  exact mul_any a b W
theorem clip_lit (W : World) (n lo hi v : Int) (hv : clip n lo hi = v) :
    Calls Try.prog 14 #[.int .i64 n, .int .i64 lo, .int .i64 hi] W fun e w' => e = .returned (.int .i64 v) ∧ W = w' := by
  rw [← hv]
  exact clip_any n lo hi W

set_option maxHeartbeats 1000000 in
set_option maxRecDepth 100000 in
theorem runs_any (w : World) : Calls Try.prog 3 #[] w fun e w' => e = .returned (.bool true) ∧ Below w.heap.size w w' := by
  go_enter Try.func3, Try.ntmps3
  go_wp2_with fail
  refine (sum0 _).mono ?_
  rintro e w' ⟨rfl, rfl⟩
  go_wp2_with fail
  refine (sum3 _ _ 1 2 (-5) (-2) true (by go_simp) (by go_simp) (by go_simp) (by decide) (by decide) (by decide)).mono ?_
  rintro e w' ⟨rfl, rfl⟩
  go_wp2_with fail
  refine (sum3 _ _ 1125899906842624 1 (-1) 0 false (by go_simp) (by go_simp) (by go_simp) (by decide) (by decide) (by decide)).mono ?_
  rintro e w' ⟨rfl, rfl⟩
  go_wp2_with fail
  refine (sum3 _ _ 1125899906842624 (-1) 1 1125899906842624 true (by go_simp) (by go_simp) (by go_simp) (by decide) (by decide) (by decide)).mono ?_
  rintro e w' ⟨rfl, rfl⟩
  go_wp2_with fail
  refine (mul_lit _ (-3) 4 (-12) true (by decide) (by decide)).mono ?_
  rintro e w' ⟨rfl, rfl⟩
  go_wp2_with fail
  refine (mul_lit _ 33554432 33554432 1125899906842624 true (by decide) (by decide)).mono ?_
  rintro e w' ⟨rfl, rfl⟩
  go_wp2_with fail
  refine (mul_lit _ 67108864 33554432 0 false (by decide) (by decide)).mono ?_
  rintro e w' ⟨rfl, rfl⟩
  go_wp2_with fail
  refine (sat3 _ _ 1125899906842624 1 (-1) 1125899906842623 (by go_simp) (by go_simp) (by go_simp) (by decide) (by decide)).mono ?_
  rintro e w' ⟨rfl, rfl⟩
  go_wp2_with fail
  refine (sat2 _ _ 1125899906842629 (-7) 1125899906842617 (by go_simp) (by go_simp) (by decide) (by decide)).mono ?_
  rintro e w' ⟨rfl, rfl⟩
  go_wp2_with fail
  refine (clip_lit _ 5 7 3 7 (by decide)).mono ?_
  rintro e w' ⟨rfl, rfl⟩
  go_wp2_with fail
  refine (clip_lit _ 8 7 3 3 (by decide)).mono ?_
  rintro e w' ⟨rfl, rfl⟩
  go_wp2_with fail
  refine (clip_lit _ 4 3 7 4 (by decide)).mono ?_
  rintro e w' ⟨rfl, rfl⟩
  go_wp2_with fail
  go_ret
  exact ⟨rfl, ((((Below.refl _ _).alloc (Nat.le_refl _) _).alloc (by simp) _).alloc (by simp; omega) _).alloc (by simp; omega) _ |>.alloc (by simp; omega) _⟩

#print axioms runs_any
end Go.Proofs.Ytpecenjdnapfbaa.NumWalks
