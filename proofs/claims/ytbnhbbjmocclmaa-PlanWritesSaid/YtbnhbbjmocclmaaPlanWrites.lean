/-
  Any plan as bytes: PlanWrites, walked.
-/
import Derived.Test.YtbnhbbjmocclmaaPlanUse
import Derived.Test.YtbnhbbjmocclmaaPlanREncode
namespace Go.Proofs.Ytbnhbbjmocclmaa.Plan
open Go.ChangeShapes Go.WideShapes Go.ChangeAt Go.RowKit Go.Proofs.Ytbnhbbjmocclmaa.Mem Go.Proofs.Ytbnhbbjmocclmaa.MemI Go.Proofs.Ytbnhbbjmocclmaa.FleetMath Go.Proofs.Ytbnhbbjmocclmaa.PlanMath Go.Proofs.Ytbnhbbjmocclmaa.Rec Go.Proofs.Ytbnhbbjmocclmaa.Frames
set_option linter.unusedVariables false
set_option linter.unusedSimpArgs false

set_option maxRecDepth 100000 in
set_option maxHeartbeats 4000000 in
theorem planWrites_w (A : Option Addr) (n c : Nat) (l : List RM) (W : World) (fp : PlnOk W A n c l) :
    Calls Try.prog 7 #[.slice A n c] W (fun e w' => e = .returned (.bool true) ∧ Below W.heap.size W w') := by
  have HP := Lib.hid fp.plns
  have hn40 : n * 40 ≤ 140737488351232 := by have := fp.le; have := fp.few; omega
  clear fp
  obtain ⟨bs, hbs⟩ : ∃ bs, encodeP (l.map (·.rt)) = bs := ⟨_, rfl⟩
  obtain ⟨nb, hnb⟩ : ∃ k, bs.length = k := ⟨_, rfl⟩
  have HBS := Lib.hid hbs
  have HNB := Lib.hid hnb
  clear hbs hnb
  go_enter Try.func7, Try.ntmps7
  go_wp2_with fail
  refine (use_copy W _ A n c l (by exact HP.out) hn40 (by exact Below.refl _ _)).mono ?_
  rintro e w1 ⟨B1, k1, l1, rfl, hb1, hw1, hp1, hl1⟩
  have H1 := Lib.hid hw1
  have C1 := Lib.hid hp1
  have E1 := Lib.hid hl1
  clear hb1 hw1 hp1 hl1
  go_wp2_with fail
  refine (use_encode W _ A n c l bs (by exact (HP.out.keep H1.out).more H1.out.size) (by exact H1.out) HBS.out).mono ?_
  rintro e w2 ⟨B2, k2, rfl, hb2, hw2, hx2⟩
  rw [HNB.out] at hx2 ⊢
  have H2 := Lib.hid hw2
  have C2 := Lib.hid (C1.out.next hb2)
  have X2 := Lib.hid hx2
  clear hb2 hw2 hx2 H1 C1
  go_wp2_with fail
  refine (rencode_any B1 n k1 l1 _ (by exact C2.out)).mono ?_
  rintro e w3 ⟨v3, rfl, he3⟩
  rw [E1.out, HBS.out] at he3
  obtain ⟨B3, k3, rfl, hr3⟩ := he3.read
  rw [HNB.out] at hr3 ⊢
  have H3 := Lib.hid (Below.then H2.out he3.old)
  have C3 := Lib.hid (C2.out.next he3.old)
  have X3 := Lib.hid (Reads.keep X2.out he3.old)
  have Y3 := hr3
  clear he3 hr3 H2 C2 X2
  go_wp2_with fail
  refine (use_bytes W _ B2 B3 nb k2 k3 bs _ _ (by exact X3.out) (by exact Y3.out) (by exact H3.out)).mono ?_
  rintro e w4 ⟨rfl, hb4, hw4⟩
  have H4 := Lib.hid hw4
  have C4 := Lib.hid (C3.out.next hb4)
  clear hb4 hw4 H3 C3 X3 Y3
  go_wp2_with fail
  refine (use_routes W _ A B1 n c k1 l l1 _ _ (by exact HP.out.keep H4.out) (by exact C4.out) E1.out.symm (by exact H4.out)).mono ?_
  rintro e w5 ⟨rfl, hb5, hw5⟩
  have H5 := Lib.hid hw5
  clear hb5 hw5 H4 C4
  go_wp2_with fail
  refine (use_runs W _ (by exact H5.out)).mono ?_
  rintro e w8 ⟨rfl, hw8⟩
  have H8 := Lib.hid hw8
  clear hw8 H5
  go_wp2
  go_ret
  exact ⟨rfl, H8.out⟩
#print axioms planWrites_w
end Go.Proofs.Ytbnhbbjmocclmaa.Plan
