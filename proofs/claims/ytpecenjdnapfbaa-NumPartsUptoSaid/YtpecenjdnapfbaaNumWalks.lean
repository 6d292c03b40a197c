/-
  What one call of each function of package num does, and of the document's own answers to chapter 1: the contracts.
-/
import Derived.Test.YtpecenjdnapfbaaRows
import Derived.Test.YtpecenjdnapfbaaNumMath
import Derived.WalkKit
import Derived.ProofKit
import Derived.Below
import Derived.IntWalk
import Derived.Lib.Hide
import Derived.OpenShut
namespace Go.Proofs.Ytpecenjdnapfbaa.NumWalks
open Go.ChangeShapes Go.WideShapes Go.ChangeAt Go.RowKit Go.Proofs.Ytpecenjdnapfbaa.NumMath

/-- a slice of ints that reads as the list xs: nil, empty or not; it lies below block B -/
def Ints (w : World) (B : Nat) (A : Option Addr) (n : Nat) (xs : List Int) : Prop :=
  xs.length = n ∧ n ≤ maxLen ∧ (∀ x ∈ xs, (Lit.int .i64 x).wf = true) ∧
    (0 < n → ∃ b off, A = some ⟨b, off, none⟩ ∧ b < B ∧ ∀ j u, xs[j]? = some u → w.cell? ⟨b, off + j, none⟩ = some (.int .i64 u))

theorem wf_le {x : Int} (h : (Lit.int .i64 x).wf = true) : -9223372036854775808 ≤ x ∧ x ≤ 9223372036854775807 := by
  have := bounds_i64 h
  omega

theorem wf_mk {n : Int} (h : -9223372036854775808 ≤ n ∧ n ≤ 9223372036854775807) : (Lit.int .i64 n).wf = true := by
  have e := wf_wrap .i64 n
  rw [IntWalk.i64_in n h] at e
  exact e

theorem Ints.at_ {w : World} {B : Nat} {A : Option Addr} {n k : Nat} {xs : List Int} (h : Ints w B A n xs) (hk : k < n) :
    ∃ b off u, A = some ⟨b, off, none⟩ ∧ xs[k]? = some u ∧ w.cell? ⟨b, off + k, none⟩ = some (.int .i64 u) ∧ (Lit.int .i64 u).wf = true ∧ xs.drop k = u :: xs.drop (k + 1) := by
  obtain ⟨hl, _, hw, hc⟩ := h
  obtain ⟨b, off, e, _, hc⟩ := hc (by omega)
  have hlt : k < xs.length := by omega
  have hu := List.getElem?_eq_getElem hlt
  exact ⟨b, off, xs[k], e, hu, hc k _ hu, hw _ (List.getElem_mem hlt), List.drop_eq_getElem_cons hlt⟩

theorem in_any (n : Int) (w : World) : Calls Try.prog 15 #[.int .i64 n] w fun e w' => e = .returned (.bool (inB n)) ∧ w = w' := by
  by_cases h1 : -1125899906842624 ≤ n
  · by_cases h2 : n ≤ 1125899906842624
    · have h : inB n = true := inB_mk h1 h2
      rw [h]; clear h
      go_enter Try.func15, Try.ntmps15
      go_wp2
      go_ret
      exact ⟨rfl, rfl⟩
    · have h : inB n = false := inB_not (by omega)
      rw [h]; clear h
      go_enter Try.func15, Try.ntmps15
      go_wp2
      go_ret
      exact ⟨rfl, rfl⟩
  · have h : inB n = false := inB_not (by omega)
    rw [h]; clear h
    go_enter Try.func15, Try.ntmps15
    go_wp2
    go_ret
    exact ⟨rfl, rfl⟩

theorem clip_any (n lo hi : Int) (w : World) : Calls Try.prog 14 #[.int .i64 n, .int .i64 lo, .int .i64 hi] w fun e w' => e = .returned (.int .i64 (clip n lo hi)) ∧ w = w' := by
  unfold clip
  by_cases h1 : n < lo
  · rw [if_pos h1]
    go_enter Try.func14, Try.ntmps14
    go_wp2
    go_ret
    exact ⟨rfl, rfl⟩
  · rw [if_neg h1]
    by_cases h2 : hi < n
    · rw [if_pos h2]
      go_enter Try.func14, Try.ntmps14
      go_wp2
      go_ret
      exact ⟨rfl, rfl⟩
    · rw [if_neg h2]
      go_enter Try.func14, Try.ntmps14
      go_wp2
      go_ret
      exact ⟨rfl, rfl⟩

theorem bnd_any (n : Int) (w : World) : Calls Try.prog 25 #[.int .i64 n] w fun e w' => e = .returned (.int .i64 (bnd n)) ∧ w = w' := by
  go_enter Try.func25, Try.ntmps25
  go_wp2_with (go_at_call 14; refine (clip_any _ _ _ _).mono ?_; rintro e w' ⟨rfl, rfl⟩)
  go_ret
  exact ⟨rfl, rfl⟩


theorem size_any (n : Int) (w : World) (h : inB n = true) : Calls Try.prog 24 #[.int .i64 n] w fun e w' => e = .returned (.int .i64 (absI n)) ∧ w = w' := by
  have hb := inB_true h
  clear h
  unfold absI
  by_cases h1 : n < 0
  · rw [if_pos h1]
    go_enter Try.func24, Try.ntmps24
    go_wp2
    go_ret
    exact ⟨rfl, rfl⟩
  · rw [if_neg h1]
    go_enter Try.func24, Try.ntmps24
    go_wp2
    go_ret
    exact ⟨rfl, rfl⟩

theorem sum_no {s u : Int} {r : List Int} (h : inB u = false ∨ inB (s + u) = false) : sumGo s (u :: r) = none := by
  rcases h with h | h <;> simp [sumGo, h]
theorem sum_yes {s u : Int} {r : List Int} (h : inB u = true) (h' : inB (s + u) = true) : sumGo s (u :: r) = sumGo (s + u) r := by simp [sumGo, h, h']
theorem ret_pair {a b : Int} {c d : Bool} (h : a = b) (h' : c = d) : Ending.returned (.tuple #[.int .i64 a, .bool c]) = .returned (.tuple #[.int .i64 b, .bool d]) := by rw [h, h']
theorem ret_int {a b : Int} (h : a = b) : Ending.returned (.int .i64 a) = .returned (.int .i64 b) := by rw [h]
theorem sum_none {xs : List Int} (h : sumGo 0 xs = none) : (0 : Int) = sumV xs ∧ false = sumB xs := by simp [sumV, sumB, h]
theorem sum_some {xs : List Int} {s : Int} (h : sumGo 0 xs = some s) : s = sumV xs ∧ true = sumB xs := by simp [sumV, sumB, h]

set_option maxHeartbeats 400000 in
theorem sum_any (A : Option Addr) (n c : Nat) (xs : List Int) (B : Nat) (w : World) (h : Ints w B A n xs) :
    Calls Try.prog 11 #[.slice A n c] w fun e w' => e = .returned (.tuple #[.int .i64 (sumV xs), .bool (sumB xs)]) ∧ w = w' := by
  have hm : n ≤ 9223372036854775807 := by have := h.2.1; unfold maxLen at this; omega
  have H := Lib.hid h
  clear h
  go_enter Try.func11, Try.ntmps11
  go_wp2
  go_loop [4, 9] (fun t i => ∃ (k : Nat) (s : Int), k ≤ n ∧ i = .int .i64 k ∧ t = .int .i64 s ∧ Hid (inB s = true) ∧ Hid (sumGo s (xs.drop k) = sumGo 0 xs)) (fun _ i => n - (intOf i).toNat)
  case atStart => exact ⟨0, 0, Nat.zero_le _, rfl, rfl, rfl, rfl⟩
  case round =>
    obtain ⟨k, s, hk, rfl, rfl, HS, HG⟩ := hrel
    have hs := inB_true HS.out
    by_cases hlt : k < n
    · obtain ⟨b, off, u, rfl, _, hc, hw, hd⟩ := H.out.at_ hlt
      have HG' : Hid (sumGo s (u :: xs.drop (k + 1)) = sumGo 0 xs) := by rw [← hd]; exact HG
      have hub := wf_le hw
      clear hd hw HG
      cases h1 : inB u
      · have HN : Hid (sumGo 0 xs = none) := by rw [← HG'.out]; exact sum_no (.inl h1)
        go_wp2_with (go_at_call 15; refine (in_any _ _).mono ?_; rintro e w' ⟨rfl, rfl⟩)
        go_ret2
        exact ⟨ret_pair (sum_none HN.out).1 (sum_none HN.out).2, rfl⟩
      · have hu := inB_true h1
        cases h2 : inB (s + u)
        · have HN : Hid (sumGo 0 xs = none) := by rw [← HG'.out]; exact sum_no (.inr h2)
          go_wp2_with (go_at_call 15; refine (in_any _ _).mono ?_; rintro e w' ⟨rfl, rfl⟩)
          go_ret2
          exact ⟨ret_pair (sum_none HN.out).1 (sum_none HN.out).2, rfl⟩
        · have HY : Hid (sumGo (s + u) (xs.drop (k + 1)) = sumGo 0 xs) := by rw [← HG'.out]; exact (sum_yes h1 h2).symm
          have H2 : Hid (inB (s + u) = true) := h2
          go_wp2_with (go_at_call 15; refine (in_any _ _).mono ?_; rintro e w' ⟨rfl, rfl⟩)
          go_round
          case rel => exact ⟨k + 1, s + u, by omega, by go_num, rfl, H2, HY⟩
          case measure => simp [intOf]; omega
    · have HN : Hid (sumGo 0 xs = some s) := by
        rw [← HG.out, List.drop_of_length_le (by have := H.out.1; omega)]; rfl
      go_wp2
      go_ret2
      exact ⟨ret_pair (sum_some HN.out).1 (sum_some HN.out).2, rfl⟩

set_option maxHeartbeats 400000 in
theorem sat_any (A : Option Addr) (n c : Nat) (xs : List Int) (B : Nat) (w : World) (h : Ints w B A n xs) :
    Calls Try.prog 13 #[.slice A n c] w fun e w' => e = .returned (.int .i64 (satV xs)) ∧ w = w' := by
  have hm : n ≤ 9223372036854775807 := by have := h.2.1; unfold maxLen at this; omega
  have H := Lib.hid h
  clear h
  go_enter Try.func13, Try.ntmps13
  go_wp2
  go_loop [3, 8] (fun t i => ∃ (k : Nat) (s : Int), k ≤ n ∧ i = .int .i64 k ∧ t = .int .i64 s ∧ Hid (inB s = true) ∧ Hid (satGo s (xs.drop k) = satGo 0 xs)) (fun _ i => n - (intOf i).toNat)
  case atStart => exact ⟨0, 0, Nat.zero_le _, rfl, rfl, rfl, rfl⟩
  case round =>
    obtain ⟨k, s, hk, rfl, rfl, HS, HG⟩ := hrel
    have hs := inB_true HS.out
    by_cases hlt : k < n
    · obtain ⟨b, off, u, rfl, _, hc, hw, hd⟩ := H.out.at_ hlt
      have HG' : Hid (satGo (bnd (s + bnd u)) (xs.drop (k + 1)) = satGo 0 xs) := by have := HG.out; rw [hd] at this; exact this
      have hb := bnd_le u
      clear hd hw HG
      go_wp2_with (go_at_call 25; refine (bnd_any _ _).mono ?_; rintro e w' ⟨rfl, rfl⟩)
      go_round
      case rel => exact ⟨k + 1, _, by omega, by go_num, rfl, inB_mk (bnd_le _).1 (bnd_le _).2, HG'⟩
      case measure => simp [intOf]; omega
    · have HN : Hid (s = satV xs) := by
        have := HG.out
        rw [List.drop_of_length_le (by have := H.out.1; omega)] at this; exact this
      go_wp2
      go_ret
      exact ⟨ret_int HN.out, rfl⟩

set_option maxHeartbeats 400000 in
theorem mul_any (a b : Int) (w : World) :
    Calls Try.prog 12 #[.int .i64 a, .int .i64 b] w fun e w' => e = .returned (.tuple #[.int .i64 (mulV a b), .bool (mulB a b)]) ∧ w = w' := by
  cases h1 : inB a
  · have HN := Lib.hid (mul_no (a := a) (b := b) (.inl h1))
    go_enter Try.func12, Try.ntmps12
    go_wp2_with (go_at_call 15; refine (in_any _ _).mono ?_; rintro e w' ⟨rfl, rfl⟩)
    go_ret2
    exact ⟨ret_pair HN.out.1 HN.out.2, rfl⟩
  · cases h2 : inB b
    · have HN := Lib.hid (mul_no (a := a) (b := b) (.inr (.inl h2)))
      go_enter Try.func12, Try.ntmps12
      go_wp2_with (go_at_call 15; refine (in_any _ _).mono ?_; rintro e w' ⟨rfl, rfl⟩)
      go_ret2
      exact ⟨ret_pair HN.out.1 HN.out.2, rfl⟩
    · by_cases h0 : a = 0
      · subst h0
        have HN := Lib.hid (mul_yes h1 h2 (by rw [Int.zero_mul]; rfl))
        have hb := inB_true h2
        go_enter Try.func12, Try.ntmps12
        go_wp2_with (go_at_call 15; refine (in_any _ _).mono ?_; rintro e w' ⟨rfl, rfl⟩)
        go_ret2
        exact ⟨ret_pair (by rw [← HN.out.1]; simp) HN.out.2, rfl⟩
      · have hn : (a == 0) = false := by simpa using h0
        have hn' : (a != 0) = true := by simpa using h0
        have ha := absI_le h1
        have hb := absI_le h2
        have hp := absI_pos h0
        have HA := Lib.hid h1
        have HB := Lib.hid h2
        by_cases hq : 1125899906842624 / absI a < absI b
        · have HN := Lib.hid (mul_no (a := a) (b := b) (.inr (.inr (mul_out h0 hq))))
          clear h0
          go_enter Try.func12, Try.ntmps12
          go_wp2_with (first | (go_at_call 15; refine (in_any _ _).mono ?_; rintro e w' ⟨rfl, rfl⟩) | (go_at_call 24; refine (size_any _ _ (by assumption)).mono ?_; rintro e w' ⟨rfl, rfl⟩))
          go_ret2
          exact ⟨ret_pair HN.out.1 HN.out.2, rfl⟩
        · have h3 := mul_within h0 hq
          have hr := inB_true h3
          have HN := Lib.hid (mul_yes h1 h2 h3)
          clear h0 h3
          go_enter Try.func12, Try.ntmps12
          go_wp2_with (first | (go_at_call 15; refine (in_any _ _).mono ?_; rintro e w' ⟨rfl, rfl⟩) | (go_at_call 24; refine (size_any _ _ (by assumption)).mono ?_; rintro e w' ⟨rfl, rfl⟩))
          go_ret2
          exact ⟨ret_pair HN.out.1 HN.out.2, rfl⟩

end Go.Proofs.Ytpecenjdnapfbaa.NumWalks
