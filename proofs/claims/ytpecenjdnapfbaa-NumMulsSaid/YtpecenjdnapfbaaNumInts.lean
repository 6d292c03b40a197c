/-
  The walks of the statements of chapter 1 over plain numbers: NumIn, NumMuls, NumTurned.
-/
import Derived.Test.YtpecenjdnapfbaaNumRuns
import Derived.Test.YtpecenjdnapfbaaNumRefs
namespace Go.Proofs.Ytpecenjdnapfbaa.NumWalks
open Go.ChangeShapes Go.WideShapes Go.ChangeAt Go.RowKit Go.Proofs.Ytpecenjdnapfbaa.NumMath
set_option linter.unusedVariables false

theorem numIn_walk (n lo hi : Int) (w : World) (_ : (Lit.int .i64 n).wf = true) (_ : (Lit.int .i64 lo).wf = true) (_ : (Lit.int .i64 hi).wf = true) :
    Calls Try.prog 4 #[.int .i64 n, .int .i64 lo, .int .i64 hi] w fun e w' => e = .returned (.bool true) ∧ Below w.heap.size w w' := by
  go_enter Try.func4, Try.ntmps4
  go_wp2_with fail
  refine (in_any _ _).mono ?_
  rintro e w' ⟨rfl, rfl⟩
  go_wp2_with fail
  refine (rin_any _ _).mono ?_
  rintro e w' ⟨rfl, rfl⟩
  go_wp2_with fail
  refine (clip_any _ _ _ _).mono ?_
  rintro e w' ⟨rfl, rfl⟩
  go_wp2_with fail
  refine (rclip_any _ _ _ _).mono ?_
  rintro e w' ⟨rfl, rfl⟩
  go_wp2_with fail
  refine (runs_any _).mono ?_
  rintro e w' ⟨rfl, hb⟩
  go_wp2_with fail
  go_ret
  exact ⟨rfl, hb⟩

theorem numMuls_walk (a b : Int) (w : World) (_ : (Lit.int .i64 a).wf = true) (_ : (Lit.int .i64 b).wf = true) :
    Calls Try.prog 6 #[.int .i64 a, .int .i64 b] w fun e w' => e = .returned (.bool true) ∧ Below w.heap.size w w' := by
  go_enter Try.func6, Try.ntmps6
  go_wp2_with fail
  refine (mul_any _ _ _).mono ?_
  rintro e w' ⟨rfl, rfl⟩
  go_wp2_with fail
  refine (rmul_any _ _ _).mono ?_
  rintro e w' ⟨rfl, rfl⟩
  go_wp2_with fail
  refine (runs_any _).mono ?_
  rintro e w' ⟨rfl, hb⟩
  go_wp2_with fail
  go_ret
  exact ⟨rfl, hb⟩

theorem sum2 (W : World) (g : Nat) (x y v : Int) (b : Bool) (h0 : W.cell? ⟨g, 0, none⟩ = some (.int .i64 x)) (h1 : W.cell? ⟨g, 1, none⟩ = some (.int .i64 y))
    (hw : (Lit.int .i64 x).wf = true ∧ (Lit.int .i64 y).wf = true) (hv : sumV [x, y] = v) (hb : sumB [x, y] = b) :
    Calls Try.prog 11 #[.slice (some ⟨g, 0, none⟩) 2 2] W fun e w' => e = .returned (.tuple #[.int .i64 v, .bool b]) ∧ W = w' := by
  rw [← hv, ← hb]
  exact sum_any _ 2 2 [x, y] (g + 1) W (ints_lit (by simp) (by simp [hw.1, hw.2]) (two h0 h1))
theorem in_lit (W : World) (n : Int) (b : Bool) (h : inB n = b) : Calls Try.prog 15 #[.int .i64 n] W fun e w' => e = .returned (.bool b) ∧ W = w' := by
  rw [← h]; exact in_any n W

theorem mul_one_out {a : Int} (h : inB a = false) : mulV a 1 = 0 ∧ mulB a 1 = false := by simp [mulV, mulB, h]
theorem inB_one : inB 1 = true := rfl
theorem inB_zero : inB 0 = true := rfl
theorem mul_one_in {a : Int} (h : inB a = true) : mulV a 1 = a ∧ mulB a 1 = true := by simp [mulV, mulB, h, inB_one]
theorem mul_zero_out {a : Int} (h : inB a = false) : mulV 0 a = 0 ∧ mulB 0 a = false := by simp [mulV, mulB, h]
theorem mul_zero_in {a : Int} (h : inB a = true) : mulV 0 a = 0 ∧ mulB 0 a = true := by simp [mulV, mulB, h, inB_zero]

/-- what is spread over a sum, where all of it is in -/
theorem spread {a b c : Int} (h1 : mulB a b = true) (h2 : sumB [b, c] = true) (h3 : mulB a c = true) :
    mulV a (sumV [b, c]) = sumV [mulV a b, mulV a c] ∧ mulB a (sumV [b, c]) = sumB [mulV a b, mulV a c] := by
  have e1 : mulV a b = a * b := by simp [mulV, h1]
  have e3 : mulV a c = a * c := by simp [mulV, h3]
  rw [e1, e3]
  simp only [mulB, Bool.and_eq_true] at h1 h3
  have e2 : sumV [b, c] = b + c ∧ inB (b + c) = true := by
    simp only [sumB, sumGo, Int.zero_add] at h2
    simp only [sumV, sumGo, Int.zero_add]
    simp only [h1.1.2, h3.1.2, Bool.and_self, Bool.true_and, if_true] at h2 ⊢
    cases h : inB (b + c)
    · simp [h] at h2
    · simp
  rw [e2.1]
  simp only [mulV, mulB, sumV, sumB, sumGo, Int.zero_add, h1.1.1, h1.2, h3.2, e2.2, Bool.and_self, Bool.true_and, if_true, Int.mul_add]
  cases h : inB (a * b + a * c) <;> simp

theorem wf_of_in {n : Int} (h : -1125899906842624 ≤ n ∧ n ≤ 1125899906842624) : (Lit.int .i64 n).wf = true := wf_mk (by omega)
theorem mulV_wf (a b : Int) : (Lit.int .i64 (mulV a b)).wf = true := by
  apply wf_of_in
  unfold mulV
  split
  · rename_i h
    simp only [mulB, Bool.and_eq_true] at h
    exact inB_true h.2
  · omega

/-- a is out of range -/
theorem turned_out (a b c : Int) (w : World) (wb : (Lit.int .i64 b).wf = true) (wc : (Lit.int .i64 c).wf = true) (x s z : Int) (r t : Bool) (H1 : Hid (mulV a b = x ∧ mulB a b = false)) (H2 : Hid (sumV [b, c] = s ∧ sumB [b, c] = r))
    (H3 : Hid (mulV a c = z ∧ mulB a c = t)) (H4 : Hid (inB a = false)) :
    Calls Try.prog 10 #[.int .i64 a, .int .i64 b, .int .i64 c] w fun e w' => e = .returned (.bool true) ∧ Below w.heap.size w w' := by
  have HW := Lib.hid (And.intro wb wc)
  clear wb wc
  go_enter Try.func10, Try.ntmps10
  go_wp2_with fail
  refine (mul_lit _ a b x false H1.out.1 H1.out.2).mono ?_
  rintro e w' ⟨rfl, rfl⟩
  go_wp2_with fail
  refine (mul_lit _ b a x false (by rw [mulV_comm]; exact H1.out.1) (by rw [mulB_comm]; exact H1.out.2)).mono ?_
  rintro e w' ⟨rfl, rfl⟩
  go_wp2_with fail
  refine (mul_lit _ a 1 0 false (mul_one_out H4.out).1 (mul_one_out H4.out).2).mono ?_
  rintro e w' ⟨rfl, rfl⟩
  go_wp2_with fail
  refine (mul_lit _ 0 a 0 false (mul_zero_out H4.out).1 (mul_zero_out H4.out).2).mono ?_
  rintro e w' ⟨rfl, rfl⟩
  go_wp2_with fail
  refine (in_lit _ a false H4.out).mono ?_
  rintro e w' ⟨rfl, rfl⟩
  go_wp2_with fail
  refine (sum2 _ _ b c s r (by go_simp) (by go_simp) HW.out H2.out.1 H2.out.2).mono ?_
  rintro e w' ⟨rfl, rfl⟩
  go_wp2_with fail
  refine (mul_lit _ a c z t H3.out.1 H3.out.2).mono ?_
  rintro e w' ⟨rfl, rfl⟩
  go_wp2_with fail
  refine (runs_any _).mono ?_
  rintro e w' ⟨rfl, hb⟩
  go_wp2_with fail
  go_ret
  exact ⟨rfl, ((Below.refl _ _).alloc (Nat.le_refl _) _).trans (hb.mono (by simp))⟩

/-- a is in range, and not all of the rest is -/
theorem turned_p (a b c : Int) (w : World) (wb : (Lit.int .i64 b).wf = true) (wc : (Lit.int .i64 c).wf = true) (x s z : Int) (r t : Bool) (H1 : Hid (mulV a b = x ∧ mulB a b = false)) (H2 : Hid (sumV [b, c] = s ∧ sumB [b, c] = r))
    (H3 : Hid (mulV a c = z ∧ mulB a c = t)) (H4 : Hid (inB a = true)) :
    Calls Try.prog 10 #[.int .i64 a, .int .i64 b, .int .i64 c] w fun e w' => e = .returned (.bool true) ∧ Below w.heap.size w w' := by
  have HW := Lib.hid (And.intro wb wc)
  clear wb wc
  go_enter Try.func10, Try.ntmps10
  go_wp2_with fail
  refine (mul_lit _ a b x false H1.out.1 H1.out.2).mono ?_
  rintro e w' ⟨rfl, rfl⟩
  go_wp2_with fail
  refine (mul_lit _ b a x false (by rw [mulV_comm]; exact H1.out.1) (by rw [mulB_comm]; exact H1.out.2)).mono ?_
  rintro e w' ⟨rfl, rfl⟩
  go_wp2_with fail
  refine (mul_lit _ a 1 a true (mul_one_in H4.out).1 (mul_one_in H4.out).2).mono ?_
  rintro e w' ⟨rfl, rfl⟩
  go_wp2_with fail
  refine (mul_lit _ 0 a 0 true (mul_zero_in H4.out).1 (mul_zero_in H4.out).2).mono ?_
  rintro e w' ⟨rfl, rfl⟩
  go_wp2_with fail
  refine (in_lit _ a true H4.out).mono ?_
  rintro e w' ⟨rfl, rfl⟩
  go_wp2_with fail
  refine (sum2 _ _ b c s r (by go_simp) (by go_simp) HW.out H2.out.1 H2.out.2).mono ?_
  rintro e w' ⟨rfl, rfl⟩
  go_wp2_with fail
  refine (mul_lit _ a c z t H3.out.1 H3.out.2).mono ?_
  rintro e w' ⟨rfl, rfl⟩
  go_wp2_with fail
  refine (runs_any _).mono ?_
  rintro e w' ⟨rfl, hb⟩
  go_wp2_with fail
  go_ret
  exact ⟨rfl, ((Below.refl _ _).alloc (Nat.le_refl _) _).trans (hb.mono (by simp))⟩

theorem turned_r (a b c : Int) (w : World) (wb : (Lit.int .i64 b).wf = true) (wc : (Lit.int .i64 c).wf = true) (x s z : Int) (t : Bool) (H1 : Hid (mulV a b = x ∧ mulB a b = true)) (H2 : Hid (sumV [b, c] = s ∧ sumB [b, c] = false))
    (H3 : Hid (mulV a c = z ∧ mulB a c = t)) (H4 : Hid (inB a = true)) :
    Calls Try.prog 10 #[.int .i64 a, .int .i64 b, .int .i64 c] w fun e w' => e = .returned (.bool true) ∧ Below w.heap.size w w' := by
  have HW := Lib.hid (And.intro wb wc)
  clear wb wc
  go_enter Try.func10, Try.ntmps10
  go_wp2_with fail
  refine (mul_lit _ a b x true H1.out.1 H1.out.2).mono ?_
  rintro e w' ⟨rfl, rfl⟩
  go_wp2_with fail
  refine (mul_lit _ b a x true (by rw [mulV_comm]; exact H1.out.1) (by rw [mulB_comm]; exact H1.out.2)).mono ?_
  rintro e w' ⟨rfl, rfl⟩
  go_wp2_with fail
  refine (mul_lit _ a 1 a true (mul_one_in H4.out).1 (mul_one_in H4.out).2).mono ?_
  rintro e w' ⟨rfl, rfl⟩
  go_wp2_with fail
  refine (mul_lit _ 0 a 0 true (mul_zero_in H4.out).1 (mul_zero_in H4.out).2).mono ?_
  rintro e w' ⟨rfl, rfl⟩
  go_wp2_with fail
  refine (in_lit _ a true H4.out).mono ?_
  rintro e w' ⟨rfl, rfl⟩
  go_wp2_with fail
  refine (sum2 _ _ b c s false (by go_simp) (by go_simp) HW.out H2.out.1 H2.out.2).mono ?_
  rintro e w' ⟨rfl, rfl⟩
  go_wp2_with fail
  refine (mul_lit _ a c z t H3.out.1 H3.out.2).mono ?_
  rintro e w' ⟨rfl, rfl⟩
  go_wp2_with fail
  refine (runs_any _).mono ?_
  rintro e w' ⟨rfl, hb⟩
  go_wp2_with fail
  go_ret
  exact ⟨rfl, ((Below.refl _ _).alloc (Nat.le_refl _) _).trans (hb.mono (by simp))⟩

theorem turned_t (a b c : Int) (w : World) (wb : (Lit.int .i64 b).wf = true) (wc : (Lit.int .i64 c).wf = true) (x s z : Int) (H1 : Hid (mulV a b = x ∧ mulB a b = true)) (H2 : Hid (sumV [b, c] = s ∧ sumB [b, c] = true))
    (H3 : Hid (mulV a c = z ∧ mulB a c = false)) (H4 : Hid (inB a = true)) :
    Calls Try.prog 10 #[.int .i64 a, .int .i64 b, .int .i64 c] w fun e w' => e = .returned (.bool true) ∧ Below w.heap.size w w' := by
  have HW := Lib.hid (And.intro wb wc)
  clear wb wc
  go_enter Try.func10, Try.ntmps10
  go_wp2_with fail
  refine (mul_lit _ a b x true H1.out.1 H1.out.2).mono ?_
  rintro e w' ⟨rfl, rfl⟩
  go_wp2_with fail
  refine (mul_lit _ b a x true (by rw [mulV_comm]; exact H1.out.1) (by rw [mulB_comm]; exact H1.out.2)).mono ?_
  rintro e w' ⟨rfl, rfl⟩
  go_wp2_with fail
  refine (mul_lit _ a 1 a true (mul_one_in H4.out).1 (mul_one_in H4.out).2).mono ?_
  rintro e w' ⟨rfl, rfl⟩
  go_wp2_with fail
  refine (mul_lit _ 0 a 0 true (mul_zero_in H4.out).1 (mul_zero_in H4.out).2).mono ?_
  rintro e w' ⟨rfl, rfl⟩
  go_wp2_with fail
  refine (in_lit _ a true H4.out).mono ?_
  rintro e w' ⟨rfl, rfl⟩
  go_wp2_with fail
  refine (sum2 _ _ b c s true (by go_simp) (by go_simp) HW.out H2.out.1 H2.out.2).mono ?_
  rintro e w' ⟨rfl, rfl⟩
  go_wp2_with fail
  refine (mul_lit _ a c z false H3.out.1 H3.out.2).mono ?_
  rintro e w' ⟨rfl, rfl⟩
  go_wp2_with fail
  refine (runs_any _).mono ?_
  rintro e w' ⟨rfl, hb⟩
  go_wp2_with fail
  go_ret
  exact ⟨rfl, ((Below.refl _ _).alloc (Nat.le_refl _) _).trans (hb.mono (by simp))⟩

/-- all of it is in range -/
theorem turned_all (a b c : Int) (w : World) (wb : (Lit.int .i64 b).wf = true) (wc : (Lit.int .i64 c).wf = true) (x s z u : Int) (v : Bool) (H1 : Hid (mulV a b = x ∧ mulB a b = true)) (H2 : Hid (sumV [b, c] = s ∧ sumB [b, c] = true))
    (H3 : Hid (mulV a c = z ∧ mulB a c = true)) (H4 : Hid (inB a = true)) (H5 : Hid (mulV a s = u ∧ mulB a s = v)) (H6 : Hid (sumV [x, z] = u ∧ sumB [x, z] = v)) :
    Calls Try.prog 10 #[.int .i64 a, .int .i64 b, .int .i64 c] w fun e w' => e = .returned (.bool true) ∧ Below w.heap.size w w' := by
  have HW := Lib.hid (And.intro wb wc)
  have HX := Lib.hid (And.intro (by rw [← H1.out.1]; exact mulV_wf a b : (Lit.int .i64 x).wf = true) (by rw [← H3.out.1]; exact mulV_wf a c : (Lit.int .i64 z).wf = true))
  clear wb wc
  go_enter Try.func10, Try.ntmps10
  go_wp2_with fail
  refine (mul_lit _ a b x true H1.out.1 H1.out.2).mono ?_
  rintro e w' ⟨rfl, rfl⟩
  go_wp2_with fail
  refine (mul_lit _ b a x true (by rw [mulV_comm]; exact H1.out.1) (by rw [mulB_comm]; exact H1.out.2)).mono ?_
  rintro e w' ⟨rfl, rfl⟩
  go_wp2_with fail
  refine (mul_lit _ a 1 a true (mul_one_in H4.out).1 (mul_one_in H4.out).2).mono ?_
  rintro e w' ⟨rfl, rfl⟩
  go_wp2_with fail
  refine (mul_lit _ 0 a 0 true (mul_zero_in H4.out).1 (mul_zero_in H4.out).2).mono ?_
  rintro e w' ⟨rfl, rfl⟩
  go_wp2_with fail
  refine (in_lit _ a true H4.out).mono ?_
  rintro e w' ⟨rfl, rfl⟩
  go_wp2_with fail
  refine (sum2 _ _ b c s true (by go_simp) (by go_simp) HW.out H2.out.1 H2.out.2).mono ?_
  rintro e w' ⟨rfl, rfl⟩
  go_wp2_with fail
  refine (mul_lit _ a c z true H3.out.1 H3.out.2).mono ?_
  rintro e w' ⟨rfl, rfl⟩
  go_wp2_with fail
  refine (mul_lit _ a s u v H5.out.1 H5.out.2).mono ?_
  rintro e w' ⟨rfl, rfl⟩
  go_wp2_with fail
  refine (sum2 _ _ x z u v (by go_simp) (by go_simp) HX.out H6.out.1 H6.out.2).mono ?_
  rintro e w' ⟨rfl, rfl⟩
  go_wp2_with fail
  refine (runs_any _).mono ?_
  rintro e w' ⟨rfl, hb⟩
  go_wp2_with fail
  go_ret
  exact ⟨rfl, (((Below.refl _ _).alloc (Nat.le_refl _) _).alloc (by simp) _).trans (hb.mono (by simp; omega))⟩

theorem numTurned_walk (a b c : Int) (w : World) (_ : (Lit.int .i64 a).wf = true) (wb : (Lit.int .i64 b).wf = true) (wc : (Lit.int .i64 c).wf = true) :
    Calls Try.prog 10 #[.int .i64 a, .int .i64 b, .int .i64 c] w fun e w' => e = .returned (.bool true) ∧ Below w.heap.size w w' := by
  cases h4 : inB a
  · exact turned_out a b c w wb wc _ _ _ _ _ ⟨rfl, by simp [mulB, h4]⟩ ⟨rfl, rfl⟩ ⟨rfl, rfl⟩ h4
  · cases h1 : mulB a b
    · exact turned_p a b c w wb wc _ _ _ _ _ ⟨rfl, h1⟩ ⟨rfl, rfl⟩ ⟨rfl, rfl⟩ h4
    · cases h2 : sumB [b, c]
      · exact turned_r a b c w wb wc _ _ _ _ ⟨rfl, h1⟩ ⟨rfl, h2⟩ ⟨rfl, rfl⟩ h4
      · cases h3 : mulB a c
        · exact turned_t a b c w wb wc _ _ _ ⟨rfl, h1⟩ ⟨rfl, h2⟩ ⟨rfl, h3⟩ h4
        · have hs := spread h1 h2 h3
          exact turned_all a b c w wb wc _ _ _ _ _ ⟨rfl, h1⟩ ⟨rfl, h2⟩ ⟨rfl, h3⟩ h4 ⟨rfl, rfl⟩ ⟨hs.1.symm, hs.2.symm⟩

end Go.Proofs.Ytpecenjdnapfbaa.NumWalks
