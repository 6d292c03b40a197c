/-
  The walk of the statement NumBounds of chapter 1, where the lists hold at most 1048576 places each.
-/
import Derived.Test.YtpecenjdnapfbaaNumTwo
namespace Go.Proofs.Ytpecenjdnapfbaa.NumWalks
open Go.ChangeShapes Go.WideShapes Go.ChangeAt Go.RowKit Go.Proofs.Ytpecenjdnapfbaa.NumMath
set_option linter.unusedVariables false

theorem in_lit' (W : World) (n : Int) (h : inB n = true) : Calls Try.prog 15 #[.int .i64 n] W fun e w' => e = .returned (.bool true) ∧ W = w' := by
  rw [← h]; exact in_any n W

set_option maxHeartbeats 400000 in
theorem bounds_any (A A' : Option Addr) (n c n' c' : Nat) (xs ys : List Int) (w : World) (hn : n ≤ 1048576) (hn' : n' ≤ 1048576) (h : Ints w w.heap.size A n xs) (h' : Ints w w.heap.size A' n' ys) (s t a : Int) (ok : Bool)
    (hs : satV xs = s ∧ inB s = true) (ht : satV (xs ++ ys) = t ∧ inB t = true) (ha : sumV xs = a ∧ sumB xs = ok) (hq : ok = false ∨ ok = true ∧ s = a) (hu : satV (s :: ys) = t) :
    Calls Try.prog 8 #[.slice A n c, .slice A' n' c'] w fun e w' => e = .returned (.bool true) ∧ Below w.heap.size w w' := by
  have HS := Lib.hid hs
  have HT := Lib.hid ht
  have HA := Lib.hid ha
  have HU := Lib.hid hu
  have HW : Hid ((Lit.int .i64 s).wf = true) := wf_mk (by have := inB_true hs.2; omega)
  have H := Lib.hid h
  have H' := Lib.hid h'
  clear h h' hs ht ha hu
  have HI0 : Hid (Ints (w.alloc (.cells #[] 3)) w.heap.size A n xs) := H.out.alloc (Nat.le_refl _) _
  rcases hq with rfl | ⟨rfl, rfl⟩
  · go_enter Try.func8, Try.ntmps8
    go_wp2_with fail
    refine (sat_val _ _ _ _ _ _ s H.out HS.out.1).mono ?_
    rintro e w' ⟨rfl, rfl⟩
    go_wp2_with (at_builtin; first | (refine wpList_append_ints (o := ⟨some 13, _, _, _, _, _⟩) rfl (.tmp 11) (.tmp 12) rfl rfl (OwnInts.empty w w.heap.size (Nat.le_refl _)) rfl HI0.out (by omega) (by simp) ?_; intro v1 w1 HV HG; obtain ⟨HV1, HB1, HI1⟩ := after_first HV.out HG.out H'.out) | (refine wpList_append_ints (o := ⟨some 15, _, _, _, _, _⟩) rfl (.tmp 13) (.tmp 14) rfl rfl HV1.out rfl HI1.out (by omega) HB1.out.size ?_; intro v2 w2 HV2 HG2; obtain ⟨A2, c2, rfl, HI2, HB2, HIl, HIm⟩ := after_second HV1.out HB1.out HV2.out HG2.out H.out H'.out))
    refine (sat_val _ _ _ _ _ _ t HI2.out HT.out.1).mono ?_
    rintro e w' ⟨rfl, rfl⟩
    go_wp2_with fail
    refine (sum_val _ _ _ _ _ _ a false HIl.out HA.out).mono ?_
    rintro e w' ⟨rfl, rfl⟩
    go_wp2_with fail
    refine (in_lit' _ s HS.out.2).mono ?_
    rintro e w' ⟨rfl, rfl⟩
    go_wp2_with fail
    refine (in_lit' _ t HT.out.2).mono ?_
    rintro e w' ⟨rfl, rfl⟩
    have HI3 := third_src s HB2.out HIm.out
    go_wp2_with (at_builtin; refine wpList_append_ints_g (o := ⟨some 42, _, _, _, _, _⟩) rfl (.tmp 40) (.tmp 41) rfl rfl (OwnInts.single w2 w2.heap.size s (Nat.le_refl _) HW.out) rfl HI3.out (by omega) (by simp) ?_; intro v3 w3 HV3 HG3; obtain ⟨A3, c3, rfl, HI4, HB3⟩ := after_third HB2.out HW.out HV3.out HG3.out)
    refine (sat_val _ _ _ _ _ _ t HI4.out HU.out).mono ?_
    rintro e w' ⟨rfl, rfl⟩
    go_wp2_with fail
    refine (runs_any _).mono ?_
    rintro e w' ⟨rfl, hb2⟩
    go_wp2_with fail
    go_ret
    exact ⟨rfl, HB3.out.trans (hb2.mono HB3.out.size)⟩
  · go_enter Try.func8, Try.ntmps8
    go_wp2_with fail
    refine (sat_val _ _ _ _ _ _ s H.out HS.out.1).mono ?_
    rintro e w' ⟨rfl, rfl⟩
    go_wp2_with (at_builtin; first | (refine wpList_append_ints (o := ⟨some 13, _, _, _, _, _⟩) rfl (.tmp 11) (.tmp 12) rfl rfl (OwnInts.empty w w.heap.size (Nat.le_refl _)) rfl HI0.out (by omega) (by simp) ?_; intro v1 w1 HV HG; obtain ⟨HV1, HB1, HI1⟩ := after_first HV.out HG.out H'.out) | (refine wpList_append_ints (o := ⟨some 15, _, _, _, _, _⟩) rfl (.tmp 13) (.tmp 14) rfl rfl HV1.out rfl HI1.out (by omega) HB1.out.size ?_; intro v2 w2 HV2 HG2; obtain ⟨A2, c2, rfl, HI2, HB2, HIl, HIm⟩ := after_second HV1.out HB1.out HV2.out HG2.out H.out H'.out))
    refine (sat_val _ _ _ _ _ _ t HI2.out HT.out.1).mono ?_
    rintro e w' ⟨rfl, rfl⟩
    go_wp2_with fail
    refine (sum_val _ _ _ _ _ _ s true HIl.out HA.out).mono ?_
    rintro e w' ⟨rfl, rfl⟩
    go_wp2_with fail
    refine (in_lit' _ s HS.out.2).mono ?_
    rintro e w' ⟨rfl, rfl⟩
    go_wp2_with fail
    refine (in_lit' _ t HT.out.2).mono ?_
    rintro e w' ⟨rfl, rfl⟩
    have HI3 := third_src s HB2.out HIm.out
    go_wp2_with (at_builtin; refine wpList_append_ints_g (o := ⟨some 42, _, _, _, _, _⟩) rfl (.tmp 40) (.tmp 41) rfl rfl (OwnInts.single w2 w2.heap.size s (Nat.le_refl _) HW.out) rfl HI3.out (by omega) (by simp) ?_; intro v3 w3 HV3 HG3; obtain ⟨A3, c3, rfl, HI4, HB3⟩ := after_third HB2.out HW.out HV3.out HG3.out)
    refine (sat_val _ _ _ _ _ _ t HI4.out HU.out).mono ?_
    rintro e w' ⟨rfl, rfl⟩
    go_wp2_with fail
    refine (runs_any _).mono ?_
    rintro e w' ⟨rfl, hb2⟩
    go_wp2_with fail
    go_ret
    exact ⟨rfl, HB3.out.trans (hb2.mono HB3.out.size)⟩

theorem numBounds_walk (A : Option Addr) (n c : Nat) (xs : List Int) (A' : Option Addr) (n' c' : Nat) (ys : List Int) (w : World) (hl : n ≤ c) (hr : c ≤ 1048576) (h : Ints w w.heap.size A n xs) (hl' : n' ≤ c') (hr' : c' ≤ 1048576) (h' : Ints w w.heap.size A' n' ys) :
    Calls Try.prog 8 #[.slice A n c, .slice A' n' c'] w fun e w' => e = .returned (.bool true) ∧ Below w.heap.size w w' := by
  have hs : inB (satV xs) = true := satGo_in rfl xs
  refine bounds_any A A' n c n' c' xs ys w (by omega) (by omega) h h' _ _ _ _ ⟨rfl, hs⟩ ⟨rfl, satGo_in rfl _⟩ ⟨rfl, rfl⟩ ?_ ?_
  · cases e : sumGo 0 xs with
    | none => left; simp [sumB, e]
    | some b => right; exact ⟨by simp [sumB, e], by simp only [sumV, e, Option.getD_some]; exact satGo_sum e⟩
  · rw [satV, satGo_cons hs, satV, satV, satGo_append]

#print axioms bounds_any
end Go.Proofs.Ytpecenjdnapfbaa.NumWalks
