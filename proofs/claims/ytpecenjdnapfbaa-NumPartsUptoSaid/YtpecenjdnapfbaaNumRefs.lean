/-
  What one call of each of the document's own answers to chapter 1 does (drayref1), and of the helpers of the statements that chapter 1 uses: the contracts.
-/
import Derived.Test.YtpecenjdnapfbaaNumWalks
import Derived.RegionTactic
import Derived.Deep.QuietTactic
import Derived.BigQuiet
namespace Go.Proofs.Ytpecenjdnapfbaa.NumWalks
open Go.ChangeShapes Go.WideShapes Go.ChangeAt Go.RowKit Go.Proofs.Ytpecenjdnapfbaa.NumMath

theorem rin_any (n : Int) (w : World) : Calls Try.prog 16 #[.int .i64 n] w fun e w' => e = .returned (.bool (inB n)) ∧ w = w' := by
  by_cases h1 : -1125899906842624 ≤ n
  · by_cases h2 : n ≤ 1125899906842624
    · have h : inB n = true := inB_mk h1 h2
      rw [h]; clear h
      go_enter Try.func16, Try.ntmps16
      go_wp2
      go_ret
      exact ⟨rfl, rfl⟩
    · have h : inB n = false := inB_not (by omega)
      rw [h]; clear h
      go_enter Try.func16, Try.ntmps16
      go_wp2
      go_ret
      exact ⟨rfl, rfl⟩
  · have h : inB n = false := inB_not (by omega)
    rw [h]; clear h
    go_enter Try.func16, Try.ntmps16
    go_wp2
    go_ret
    exact ⟨rfl, rfl⟩

theorem rclip_any (n lo hi : Int) (w : World) : Calls Try.prog 17 #[.int .i64 n, .int .i64 lo, .int .i64 hi] w fun e w' => e = .returned (.int .i64 (clip n lo hi)) ∧ w = w' := by
  unfold clip
  by_cases h1 : n < lo
  · rw [if_pos h1]
    go_enter Try.func17, Try.ntmps17
    go_wp2
    go_ret
    exact ⟨rfl, rfl⟩
  · rw [if_neg h1]
    by_cases h2 : hi < n
    · rw [if_pos h2]
      go_enter Try.func17, Try.ntmps17
      go_wp2
      go_ret
      exact ⟨rfl, rfl⟩
    · rw [if_neg h2]
      go_enter Try.func17, Try.ntmps17
      go_wp2
      go_ret
      exact ⟨rfl, rfl⟩
theorem rbnd_any (n : Int) (w : World) : Calls Try.prog 17 #[.int .i64 n, .int .i64 (-1125899906842624), .int .i64 1125899906842624] w fun e w' => e = .returned (.int .i64 (bnd n)) ∧ w = w' := rclip_any n _ _ w

set_option maxHeartbeats 400000 in
theorem rsum_any (A : Option Addr) (n c : Nat) (xs : List Int) (B : Nat) (w : World) (h : Ints w B A n xs) :
    Calls Try.prog 19 #[.slice A n c] w fun e w' => e = .returned (.tuple #[.int .i64 (sumV xs), .bool (sumB xs)]) ∧ w = w' := by
  have hm : n ≤ 9223372036854775807 := by have := h.2.1; unfold maxLen at this; omega
  have H := Lib.hid h
  clear h
  go_enter Try.func19, Try.ntmps19
  go_wp2
  go_loop [4, 5] (fun t i => ∃ (k : Nat) (s : Int), k ≤ n ∧ i = .int .i64 k ∧ t = .int .i64 s ∧ Hid (inB s = true) ∧ Hid (sumGo s (xs.drop k) = sumGo 0 xs)) (fun _ i => n - (intOf i).toNat)
  case atStart => exact ⟨0, 0, Nat.zero_le _, rfl, rfl, rfl, rfl⟩
  case round =>
    obtain ⟨k, s, hk, rfl, rfl, HS, HG⟩ := hrel
    have hs := inB_true HS.out
    by_cases hlt : k < n
    · obtain ⟨b, off, u, rfl, _, hc, hw, hd⟩ := H.out.at_ hlt
      have HG' : Hid (sumGo s (u :: xs.drop (k + 1)) = sumGo 0 xs) := by rw [← hd]; exact HG
      have hub := wf_le hw
      clear hd hw HG
      cases h1 : inB u
      · have HN : Hid (sumGo 0 xs = none) := by rw [← HG'.out]; exact sum_no (.inl h1)
        go_wp2_with (go_at_call 16; refine (rin_any _ _).mono ?_; rintro e w' ⟨rfl, rfl⟩)
        go_ret2
        exact ⟨ret_pair (sum_none HN.out).1 (sum_none HN.out).2, rfl⟩
      · have hu := inB_true h1
        cases h2 : inB (s + u)
        · have HN : Hid (sumGo 0 xs = none) := by rw [← HG'.out]; exact sum_no (.inr h2)
          go_wp2_with (go_at_call 16; refine (rin_any _ _).mono ?_; rintro e w' ⟨rfl, rfl⟩)
          go_ret2
          exact ⟨ret_pair (sum_none HN.out).1 (sum_none HN.out).2, rfl⟩
        · have HY : Hid (sumGo (s + u) (xs.drop (k + 1)) = sumGo 0 xs) := by rw [← HG'.out]; exact (sum_yes h1 h2).symm
          have H2 : Hid (inB (s + u) = true) := h2
          go_wp2_with (go_at_call 16; refine (rin_any _ _).mono ?_; rintro e w' ⟨rfl, rfl⟩)
          go_round
          case rel => exact ⟨k + 1, s + u, by omega, by go_num, rfl, H2, HY⟩
          case measure => simp [intOf]; omega
    · have HN : Hid (sumGo 0 xs = some s) := by
        rw [← HG.out, List.drop_of_length_le (by have := H.out.1; omega)]; rfl
      go_wp2
      go_ret2
      exact ⟨ret_pair (sum_some HN.out).1 (sum_some HN.out).2, rfl⟩

set_option maxHeartbeats 400000 in
theorem rsat_any (A : Option Addr) (n c : Nat) (xs : List Int) (B : Nat) (w : World) (h : Ints w B A n xs) :
    Calls Try.prog 20 #[.slice A n c] w fun e w' => e = .returned (.int .i64 (satV xs)) ∧ w = w' := by
  have hm : n ≤ 9223372036854775807 := by have := h.2.1; unfold maxLen at this; omega
  have H := Lib.hid h
  clear h
  go_enter Try.func20, Try.ntmps20
  go_wp2
  go_loop [3, 4] (fun t i => ∃ (k : Nat) (s : Int), k ≤ n ∧ i = .int .i64 k ∧ t = .int .i64 s ∧ Hid (inB s = true) ∧ Hid (satGo s (xs.drop k) = satGo 0 xs)) (fun _ i => n - (intOf i).toNat)
  case atStart => exact ⟨0, 0, Nat.zero_le _, rfl, rfl, rfl, rfl⟩
  case round =>
    obtain ⟨k, s, hk, rfl, rfl, HS, HG⟩ := hrel
    have hs := inB_true HS.out
    by_cases hlt : k < n
    · obtain ⟨b, off, u, rfl, _, hc, hw, hd⟩ := H.out.at_ hlt
      have HG' : Hid (satGo (bnd (s + bnd u)) (xs.drop (k + 1)) = satGo 0 xs) := by have := HG.out; rw [hd] at this; exact this
      have hb := bnd_le u
      clear hd hw HG
      go_wp2_with (go_at_call 17; refine (rbnd_any _ _).mono ?_; rintro e w' ⟨rfl, rfl⟩)
      go_round
      case rel => exact ⟨k + 1, _, by omega, by go_num, rfl, inB_mk (bnd_le _).1 (bnd_le _).2, HG'⟩
      case measure => simp [intOf]; omega
    · have HN : Hid (s = satV xs) := by
        have := HG.out
        rw [List.drop_of_length_le (by have := H.out.1; omega)] at this; exact this
      go_wp2
      go_ret
      exact ⟨ret_int HN.out, rfl⟩

/-- the way through the two signs and the quotient's test -/
theorem rmul_signs (a b : Int) (w : World) (h1 : inB a = true) (h2 : inB b = true) (ha : -1125899906842624 ≤ a ∧ a ≤ 1125899906842624) (hb : -1125899906842624 ≤ b ∧ b ≤ 1125899906842624)
    (hn : (a == 0) = false) (hn' : (b == 0) = false) (ea : absI a = a ∧ 0 < a ∨ absI a = -a ∧ a < 0) (eb : absI b = b ∧ 0 < b ∨ absI b = -b ∧ b < 0) (v : Int) (c : Bool)
    (hy : ¬ 1125899906842624 / absI a < absI b → v = a * b ∧ c = true ∧ -1125899906842624 ≤ a * b ∧ a * b ≤ 1125899906842624) (hno : 1125899906842624 / absI a < absI b → v = 0 ∧ c = false) :
    Calls Try.prog 22 #[.int .i64 a, .int .i64 b] w fun e w' => e = .returned (.tuple #[.int .i64 v, .bool c]) ∧ w = w' := by
  rcases ea with ⟨ea, sa⟩ | ⟨ea, sa⟩ <;> rcases eb with ⟨eb, sb⟩ | ⟨eb, sb⟩ <;> rw [ea, eb] at hy hno
  all_goals clear ea eb
  · by_cases hq : 1125899906842624 / a < b
    · obtain ⟨rfl, rfl⟩ := hno hq
      clear hy hno
      go_enter Try.func22, Try.ntmps22
      go_wp2_with (go_at_call 16; refine (rin_any _ _).mono ?_; rintro e w' ⟨rfl, rfl⟩)
      go_ret2
      exact ⟨rfl, rfl⟩
    · obtain ⟨rfl, rfl, hr⟩ := hy hq
      clear hy hno
      go_enter Try.func22, Try.ntmps22
      go_wp2_with (go_at_call 16; refine (rin_any _ _).mono ?_; rintro e w' ⟨rfl, rfl⟩)
      go_ret2
      exact ⟨rfl, rfl⟩
  · by_cases hq : 1125899906842624 / a < -b
    · obtain ⟨rfl, rfl⟩ := hno hq
      clear hy hno
      go_enter Try.func22, Try.ntmps22
      go_wp2_with (go_at_call 16; refine (rin_any _ _).mono ?_; rintro e w' ⟨rfl, rfl⟩)
      go_ret2
      exact ⟨rfl, rfl⟩
    · obtain ⟨rfl, rfl, hr⟩ := hy hq
      clear hy hno
      go_enter Try.func22, Try.ntmps22
      go_wp2_with (go_at_call 16; refine (rin_any _ _).mono ?_; rintro e w' ⟨rfl, rfl⟩)
      go_ret2
      exact ⟨rfl, rfl⟩
  · obtain ⟨x, rfl⟩ : ∃ x, a = -x := ⟨-a, by omega⟩
    rw [Int.neg_neg] at hy hno
    have hx : 1 ≤ x := by omega
    by_cases hq : 1125899906842624 / x < b
    · obtain ⟨rfl, rfl⟩ := hno hq
      clear hy hno
      go_enter Try.func22, Try.ntmps22
      go_wp2_with (go_at_call 16; refine (rin_any _ _).mono ?_; rintro e w' ⟨rfl, rfl⟩)
      go_ret2
      exact ⟨rfl, rfl⟩
    · obtain ⟨rfl, rfl, hr⟩ := hy hq
      clear hy hno
      go_enter Try.func22, Try.ntmps22
      go_wp2_with (go_at_call 16; refine (rin_any _ _).mono ?_; rintro e w' ⟨rfl, rfl⟩)
      go_ret2
      exact ⟨rfl, rfl⟩
  · obtain ⟨x, rfl⟩ : ∃ x, a = -x := ⟨-a, by omega⟩
    rw [Int.neg_neg] at hy hno
    have hx : 1 ≤ x := by omega
    by_cases hq : 1125899906842624 / x < -b
    · obtain ⟨rfl, rfl⟩ := hno hq
      clear hy hno
      go_enter Try.func22, Try.ntmps22
      go_wp2_with (go_at_call 16; refine (rin_any _ _).mono ?_; rintro e w' ⟨rfl, rfl⟩)
      go_ret2
      exact ⟨rfl, rfl⟩
    · obtain ⟨rfl, rfl, hr⟩ := hy hq
      clear hy hno
      go_enter Try.func22, Try.ntmps22
      go_wp2_with (go_at_call 16; refine (rin_any _ _).mono ?_; rintro e w' ⟨rfl, rfl⟩)
      go_ret2
      exact ⟨rfl, rfl⟩

set_option maxHeartbeats 800000 in
theorem rmul_any (a b : Int) (w : World) :
    Calls Try.prog 22 #[.int .i64 a, .int .i64 b] w fun e w' => e = .returned (.tuple #[.int .i64 (mulV a b), .bool (mulB a b)]) ∧ w = w' := by
  cases h1 : inB a
  · have HN := Lib.hid (mul_no (a := a) (b := b) (.inl h1))
    go_enter Try.func22, Try.ntmps22
    go_wp2_with (go_at_call 16; refine (rin_any _ _).mono ?_; rintro e w' ⟨rfl, rfl⟩)
    go_ret2
    exact ⟨ret_pair HN.out.1 HN.out.2, rfl⟩
  · cases h2 : inB b
    · have HN := Lib.hid (mul_no (a := a) (b := b) (.inr (.inl h2)))
      go_enter Try.func22, Try.ntmps22
      go_wp2_with (go_at_call 16; refine (rin_any _ _).mono ?_; rintro e w' ⟨rfl, rfl⟩)
      go_ret2
      exact ⟨ret_pair HN.out.1 HN.out.2, rfl⟩
    · by_cases h0 : a = 0
      · subst h0
        have HN := Lib.hid (mul_yes h1 h2 (by rw [Int.zero_mul]; rfl))
        have hb := inB_true h2
        go_enter Try.func22, Try.ntmps22
        go_wp2_with (go_at_call 16; refine (rin_any _ _).mono ?_; rintro e w' ⟨rfl, rfl⟩)
        go_ret2
        exact ⟨ret_pair (by rw [← HN.out.1]; simp) HN.out.2, rfl⟩
      · have hn : (a == 0) = false := by simpa using h0
        by_cases h0' : b = 0
        · subst h0'
          have HN := Lib.hid (mul_yes h1 h2 (by rw [Int.mul_zero]; rfl))
          clear h0
          go_enter Try.func22, Try.ntmps22
          go_wp2_with (go_at_call 16; refine (rin_any _ _).mono ?_; rintro e w' ⟨rfl, rfl⟩)
          go_ret2
          exact ⟨ret_pair (by rw [← HN.out.1]; simp) HN.out.2, rfl⟩
        · have hn' : (b == 0) = false := by simpa using h0'
          have ha := inB_true h1
          have hb := inB_true h2
          have ea : absI a = a ∧ 0 < a ∨ absI a = -a ∧ a < 0 := by unfold absI; split <;> omega
          have eb : absI b = b ∧ 0 < b ∨ absI b = -b ∧ b < 0 := by unfold absI; split <;> omega
          by_cases hq : 1125899906842624 / absI a < absI b
          · have HN := Lib.hid (mul_no (a := a) (b := b) (.inr (.inr (mul_out h0 hq))))
            exact rmul_signs a b w h1 h2 ha hb hn hn' ea eb 0 false (fun h => absurd hq h) (fun _ => ⟨rfl, rfl⟩) |>.mono fun e w' ⟨he, hw⟩ => ⟨he.trans (ret_pair HN.out.1 HN.out.2), hw⟩
          · have h3 := mul_within h0 hq
            have HN := Lib.hid (mul_yes h1 h2 h3)
            exact rmul_signs a b w h1 h2 ha hb hn hn' ea eb (a * b) true (fun _ => ⟨rfl, rfl, inB_true h3⟩) (fun h => absurd h hq) |>.mono fun e w' ⟨he, hw⟩ => ⟨he.trans (ret_pair HN.out.1 HN.out.2), hw⟩

end Go.Proofs.Ytpecenjdnapfbaa.NumWalks
