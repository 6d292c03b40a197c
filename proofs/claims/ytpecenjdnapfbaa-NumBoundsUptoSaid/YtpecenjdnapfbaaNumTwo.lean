/-
  The walks of the statements of chapter 1 over two lists: NumParts, NumBounds, where the lists hold at most 1048576 places each.
-/
import Derived.Test.YtpecenjdnapfbaaNumParts
namespace Go.Proofs.Ytpecenjdnapfbaa.NumWalks
open Go.ChangeShapes Go.WideShapes Go.ChangeAt Go.RowKit Go.Proofs.Ytpecenjdnapfbaa.NumMath
set_option linter.unusedVariables false

/-- behind 'append([]int{}, l...)': what was there before -/
theorem after_first {w w1 : World} {A' : Option Addr} {v1 : Value} {n n' : Nat} {xs ys : List Int} (HV : OwnInts w1 w.heap.size v1 (0 + n) ([] ++ xs))
    (HG : (w.alloc (.cells #[] 3)).grownBy w1 (Value.slice (some ⟨w.heap.size, 0, none⟩) 0 0).ownBlock) (h' : Ints w w.heap.size A' n' ys) :
    Hid (OwnInts w1 w.heap.size v1 n xs) ∧ Hid (Below w.heap.size w w1) ∧ Hid (Ints w1 w.heap.size A' n' ys) := by
  rw [Nat.zero_add, List.nil_append] at HV
  have hb : Below w.heap.size w w1 := OwnInts.below ((Below.refl _ _).alloc (Nat.le_refl _) _) (OwnInts.empty w w.heap.size (Nat.le_refl _)) HG (by simp) (Nat.le_refl _)
  exact ⟨HV, hb, h'.keep hb⟩

/-- behind the second append -/
theorem after_second {w w1 w2 : World} {A A' : Option Addr} {v1 v2 : Value} {n n' : Nat} {xs ys : List Int} (HV1 : OwnInts w1 w.heap.size v1 n xs) (HB1 : Below w.heap.size w w1) (HV : OwnInts w2 w.heap.size v2 (n + n') (xs ++ ys)) (HG : w1.grownBy w2 v1.ownBlock)
    (h : Ints w w.heap.size A n xs) (h' : Ints w w.heap.size A' n' ys) :
    ∃ A2 c2, v2 = .slice A2 (n + n') c2 ∧ Hid (Ints w2 w2.heap.size A2 (n + n') (xs ++ ys)) ∧ Hid (Below w.heap.size w w2) ∧ Hid (Ints w2 w.heap.size A n xs) ∧ Hid (Ints w2 w.heap.size A' n' ys) := by
  obtain ⟨A2, c2, rfl, hr⟩ := HV.read
  have hb : Below w.heap.size w w2 := OwnInts.below HB1 HV1 HG HB1.size (Nat.le_refl _)
  exact ⟨A2, c2, rfl, hr, hb, h.keep hb, h'.keep hb⟩

/-- behind 'append([]int{b}, m...)' -/
theorem after_third {w w2 w3 : World} {v3 : Value} {n' : Nat} {b : Int} {ys : List Int} (HB : Below w.heap.size w w2) (hw : (Lit.int .i64 b).wf = true) (HV : OwnInts w3 w2.heap.size v3 (1 + n') ([b] ++ ys))
    (HG : (w2.alloc (.cells #[.int .i64 b] 3)).grownBy w3 (Value.slice (some ⟨w2.heap.size, 0, none⟩) 1 1).ownBlock) :
    ∃ A3 c3, v3 = .slice A3 (1 + n') c3 ∧ Hid (Ints w3 w3.heap.size A3 (1 + n') (b :: ys)) ∧ Hid (Below w.heap.size w w3) := by
  obtain ⟨A3, c3, rfl, hr⟩ := HV.read
  have hb : Below w2.heap.size w2 w3 := OwnInts.below ((Below.refl _ _).alloc (Nat.le_refl _) _) (OwnInts.single w2 w2.heap.size b (Nat.le_refl _) hw) HG (by simp) (Nat.le_refl _)
  exact ⟨A3, c3, rfl, hr, HB.trans (hb.mono HB.size)⟩

theorem third_src {w w2 : World} {A' : Option Addr} {n' : Nat} {ys : List Int} (b : Int) (HB : Below w.heap.size w w2) (h' : Ints w2 w.heap.size A' n' ys) : Hid (Ints (w2.alloc (.cells #[.int .i64 b] 3)) w.heap.size A' n' ys) :=
  h'.alloc HB.size _

set_option maxHeartbeats 400000 in
theorem parts_no (A A' : Option Addr) (n c n' c' : Nat) (xs ys : List Int) (w : World) (hn : n ≤ 1048576) (hn' : n' ≤ 1048576) (h : Ints w w.heap.size A n xs) (h' : Ints w w.heap.size A' n' ys) (hs : sumGo 0 xs = none) :
    Calls Try.prog 7 #[.slice A n c, .slice A' n' c'] w fun e w' => e = .returned (.bool true) ∧ Below w.heap.size w w' := by
  have HA : Hid (sumV xs = 0 ∧ sumB xs = false) := by simp [Hid, sumV, sumB, hs]
  have HB : Hid (sumV (xs ++ ys) = 0 ∧ sumB (xs ++ ys) = false) := by simp [Hid, sumV, sumB, sumGo_append, hs]
  have H := Lib.hid h
  have H' := Lib.hid h'
  clear h h' hs
  have HI0 : Hid (Ints (w.alloc (.cells #[] 3)) w.heap.size A n xs) := H.out.alloc (Nat.le_refl _) _
  go_enter Try.func7, Try.ntmps7
  go_wp2_with (at_builtin; first | (refine wpList_append_ints (o := ⟨some 14, _, _, _, _, _⟩) rfl (.tmp 12) (.tmp 13) rfl rfl (OwnInts.empty w w.heap.size (Nat.le_refl _)) rfl HI0.out (by omega) (by simp) ?_; intro v1 w1 HV HG; obtain ⟨HV1, HB1, HI1⟩ := after_first HV.out HG.out H'.out) | (refine wpList_append_ints (o := ⟨some 16, _, _, _, _, _⟩) rfl (.tmp 14) (.tmp 15) rfl rfl HV1.out rfl HI1.out (by omega) HB1.out.size ?_; intro v2 w2 HV2 HG2; obtain ⟨A2, c2, rfl, HI2, HB2, HIl, HIm⟩ := after_second HV1.out HB1.out HV2.out HG2.out H.out H'.out))
  refine (sum_val _ _ _ _ _ _ 0 false HI2.out HB.out).mono ?_
  rintro e w' ⟨rfl, rfl⟩
  go_wp2_with fail
  refine (sum_val _ _ _ _ _ _ 0 false HIl.out HA.out).mono ?_
  rintro e w' ⟨rfl, rfl⟩
  go_wp2_with fail
  refine (runs_any _).mono ?_
  rintro e w' ⟨rfl, hb2⟩
  go_wp2_with fail
  go_ret
  exact ⟨rfl, HB2.out.trans (hb2.mono HB2.out.size)⟩

set_option maxHeartbeats 400000 in
theorem parts_yes (A A' : Option Addr) (n c n' c' : Nat) (xs ys : List Int) (w : World) (hn : n ≤ 1048576) (hn' : n' ≤ 1048576) (h : Ints w w.heap.size A n xs) (h' : Ints w w.heap.size A' n' ys) (b v : Int) (r : Bool)
    (hs : sumV xs = b ∧ sumB xs = true) (hb : inB b = true) (hv : sumV (xs ++ ys) = v ∧ sumB (xs ++ ys) = r) (hc : sumV (b :: ys) = v ∧ sumB (b :: ys) = r) :
    Calls Try.prog 7 #[.slice A n c, .slice A' n' c'] w fun e w' => e = .returned (.bool true) ∧ Below w.heap.size w w' := by
  have HA := Lib.hid hs
  have HB := Lib.hid hv
  have HC := Lib.hid hc
  have HW : Hid ((Lit.int .i64 b).wf = true) := wf_mk (by have := inB_true hb; omega)
  have H := Lib.hid h
  have H' := Lib.hid h'
  clear h h' hs hv hc hb
  have HI0 : Hid (Ints (w.alloc (.cells #[] 3)) w.heap.size A n xs) := H.out.alloc (Nat.le_refl _) _
  go_enter Try.func7, Try.ntmps7
  go_wp2_with (at_builtin; first | (refine wpList_append_ints (o := ⟨some 14, _, _, _, _, _⟩) rfl (.tmp 12) (.tmp 13) rfl rfl (OwnInts.empty w w.heap.size (Nat.le_refl _)) rfl HI0.out (by omega) (by simp) ?_; intro v1 w1 HV HG; obtain ⟨HV1, HB1, HI1⟩ := after_first HV.out HG.out H'.out) | (refine wpList_append_ints (o := ⟨some 16, _, _, _, _, _⟩) rfl (.tmp 14) (.tmp 15) rfl rfl HV1.out rfl HI1.out (by omega) HB1.out.size ?_; intro v2 w2 HV2 HG2; obtain ⟨A2, c2, rfl, HI2, HB2, HIl, HIm⟩ := after_second HV1.out HB1.out HV2.out HG2.out H.out H'.out))
  refine (sum_val _ _ _ _ _ _ v r HI2.out HB.out).mono ?_
  rintro e w' ⟨rfl, rfl⟩
  go_wp2_with fail
  refine (sum_val _ _ _ _ _ _ b true HIl.out HA.out).mono ?_
  rintro e w' ⟨rfl, rfl⟩
  have HI3 := third_src b HB2.out HIm.out
  go_wp2_with (at_builtin; refine wpList_append_ints (o := ⟨some 46, _, _, _, _, _⟩) rfl (.tmp 44) (.tmp 45) rfl rfl (OwnInts.single w2 w2.heap.size b (Nat.le_refl _) HW.out) rfl HI3.out (by omega) (by simp) ?_; intro v3 w3 HV3 HG3; obtain ⟨A3, c3, rfl, HI4, HB3⟩ := after_third HB2.out HW.out HV3.out HG3.out)
  refine (sum_val _ _ _ _ _ _ v r HI4.out HC.out).mono ?_
  rintro e w' ⟨rfl, rfl⟩
  go_wp2_with fail
  refine (runs_any _).mono ?_
  rintro e w' ⟨rfl, hb2⟩
  go_wp2_with fail
  go_ret
  exact ⟨rfl, HB3.out.trans (hb2.mono HB3.out.size)⟩

theorem numParts_walk (A : Option Addr) (n c : Nat) (xs : List Int) (A' : Option Addr) (n' c' : Nat) (ys : List Int) (w : World) (hl : n ≤ c) (hr : c ≤ 1048576) (h : Ints w w.heap.size A n xs) (hl' : n' ≤ c') (hr' : c' ≤ 1048576) (h' : Ints w w.heap.size A' n' ys) :
    Calls Try.prog 7 #[.slice A n c, .slice A' n' c'] w fun e w' => e = .returned (.bool true) ∧ Below w.heap.size w w' := by
  cases hs : sumGo 0 xs with
  | none => exact parts_no A A' n c n' c' xs ys w (by omega) (by omega) h h' hs
  | some b =>
    have hb : inB b = true := sumGo_in rfl hs
    exact parts_yes A A' n c n' c' xs ys w (by omega) (by omega) h h' b _ _ (by simp [sumV, sumB, hs]) hb ⟨rfl, rfl⟩ (by simp [sumV, sumB, sumGo_append, hs, sumGo_cons hb])

#print axioms numParts_walk
end Go.Proofs.Ytpecenjdnapfbaa.NumWalks
