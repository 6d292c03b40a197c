/-
  Any bytes as a plan, or refused: PlanReads, walked.
-/
import Derived.Test.YtbnhbbjmocclmaaPlanUse
import Derived.Test.YtbnhbbjmocclmaaPlanRDecode
import Derived.Test.YtbnhbbjmocclmaaBooks
namespace Go.Proofs.Ytbnhbbjmocclmaa.Plan
open Go.ChangeShapes Go.WideShapes Go.ChangeAt Go.RowKit Go.Proofs.Ytbnhbbjmocclmaa.Mem Go.Proofs.Ytbnhbbjmocclmaa.MemI Go.Proofs.Ytbnhbbjmocclmaa.FleetMath Go.Proofs.Ytbnhbbjmocclmaa.PlanMath Go.Proofs.Ytbnhbbjmocclmaa.Rec Go.Proofs.Ytbnhbbjmocclmaa.Frames
set_option linter.unusedVariables false
set_option linter.unusedSimpArgs false

set_option maxRecDepth 100000 in
set_option maxHeartbeats 4000000 in
theorem planReads_w (A : Option Addr) (m c : Nat) (xs : List UInt8) (W : World) (hle : m ≤ c) (hr : c ≤ 140737488351232) (hb : Bytes W W.heap.size A m xs) :
    Calls Try.prog 8 #[.slice A m c] W (fun e w' => e = .returned (.bool true) ∧ Below W.heap.size W w') := by
  have HX := Lib.hid hb
  have hm : m ≤ 140737488351232 := by omega
  have hm2 : m ≤ 140737488355328 := by omega
  clear hb hle hr
  obtain ⟨⟨p, z⟩, hd⟩ : ∃ q, decodeP xs = q := ⟨_, rfl⟩
  have HD := Lib.hid hd
  obtain ⟨np, hnp⟩ : ∃ k, p.length = k := ⟨_, rfl⟩
  have HNP := Lib.hid hnp
  clear hd hnp
  go_enter Try.func8, Try.ntmps8
  go_wp2_with fail
  refine (Mem.roomy_any A m c xs _ 93 93 rfl (by exact HX.out) hm).mono ?_
  rintro e w1 ⟨rfl, hb1, hq1⟩
  have H1 := Lib.hid hb1
  have Q1 := Lib.hid hq1
  have F1 := Lib.hid (Mem.room_front hq1 HX.out.length hm)
  clear hb1 hq1
  go_wp2_with fail
  refine (use_decode W _ _ m (m + 80) xs p z (by exact F1.out) hm2 (by exact H1.out) HD.out).mono ?_
  rintro e w2 ⟨B2, k2, l2, rfl, hb2, hw2, hp2, hl2⟩
  rw [HNP.out] at hp2 ⊢
  have H2 := Lib.hid hw2
  have Q2 := Lib.hid (Q1.out.below hb2 Q1.out.lt)
  have P2 := Lib.hid hp2
  have E2 := Lib.hid hl2
  clear hb2 hw2 hp2 hl2 H1 Q1 F1
  go_wp2_with fail
  refine (rdecode_any A m c xs _ (by exact (Reads.keep HX.out H2.out).more H2.out.size) hm2).mono ?_
  rintro e w3 ⟨v3, rfl, hv3⟩
  rw [HD.out] at hv3 ⊢
  obtain ⟨B3, k3, l3, rfl, hb3, hp3, hl3, _, _⟩ := made_any hv3
  simp only at hp3 hl3 ⊢
  rw [HNP.out] at hp3 ⊢
  have H3 := Lib.hid (Below.then H2.out hb3)
  have Q3 := Lib.hid (Q2.out.below hb3 Q2.out.lt)
  have P23 := Lib.hid (P2.out.next hb3)
  have P3 := Lib.hid hp3
  have E3 := Lib.hid hl3
  clear hb3 hv3 hp3 hl3 H2 Q2 P2
  go_wp2_with fail
  refine (use_routes W _ B2 B3 np k2 k3 l2 l3 _ _ (by exact P23.out) (by exact P3.out) (by rw [E2.out, E3.out]) (by exact H3.out)).mono ?_
  rintro e w4 ⟨rfl, hb4, hw4⟩
  have H4 := Lib.hid hw4
  have Q4 := Lib.hid (Q3.out.below hb4 Q3.out.lt)
  clear hb4 hw4 H3 Q3 P23 P3
  go_wp2_with fail
  refine (Mem.intact_yes A _ m c xs _ 93 93 _ rfl (by exact Reads.keep HX.out H4.out) hm (by exact Q4.out)).mono ?_
  rintro e w5 ⟨rfl, d5, hw5⟩
  have H5 : Hid (Below W.heap.size W w5) := by rw [hw5]; exact Below.then H4.out (below_drewN _ _)
  clear hw5 H4 Q4
  go_wp2_with fail
  refine (use_runs W _ (by exact H5.out)).mono ?_
  rintro e w8 ⟨rfl, hw8⟩
  have H8 := Lib.hid hw8
  clear hw8 H5
  go_wp2
  go_ret
  exact ⟨rfl, H8.out⟩
#print axioms planReads_w
end Go.Proofs.Ytbnhbbjmocclmaa.Plan
