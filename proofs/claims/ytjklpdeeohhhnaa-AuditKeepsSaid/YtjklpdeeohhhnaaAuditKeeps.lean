/-
  Any two plans: AuditKeeps, walked.
-/
import Derived.Test.YtjklpdeeohhhnaaAuditProgs
import Derived.Test.YtjklpdeeohhhnaaAuditRuns
import Derived.Test.YtjklpdeeohhhnaaAuditRKept
import Derived.Test.YtjklpdeeohhhnaaFramePlans
namespace Go.Proofs.Ytjklpdeeohhhnaa.Audit
open Go.ChangeShapes Go.WideShapes Go.ChangeAt Go.RowKit Go.Proofs.Ytjklpdeeohhhnaa.Mem Go.Proofs.Ytjklpdeeohhhnaa.GeoMath Go.Proofs.Ytjklpdeeohhhnaa.FleetMath Go.Proofs.Ytjklpdeeohhhnaa.PlanMath Go.Proofs.Ytjklpdeeohhhnaa.CertMath Go.Proofs.Ytjklpdeeohhhnaa.AuditMath Go.Proofs.Ytjklpdeeohhhnaa.Rec Go.Proofs.Ytjklpdeeohhhnaa.Geo Go.Proofs.Ytjklpdeeohhhnaa.Span Go.Proofs.Ytjklpdeeohhhnaa.Deal Go.Proofs.Ytjklpdeeohhhnaa.Route Go.Proofs.Ytjklpdeeohhhnaa.Plan Go.Proofs.Ytjklpdeeohhhnaa.Cert
set_option linter.unusedVariables false
set_option linter.unusedSimpArgs false

set_option maxRecDepth 100000 in
set_option maxHeartbeats 4000000 in
theorem auditKeeps_w (A : Option Addr) (n c : Nat) (la : List RM) (A2 : Option Addr) (n2 c2 : Nat) (lb : List RM) (W : World) (fa : Frames.PlnOk W A n c la) (fb : Frames.PlnOk W A2 n2 c2 lb) :
    Calls Try.prog 5 #[.slice A n c, .slice A2 n2 c2] W (fun e w' => e = .returned (.bool true) ∧ Below W.heap.size W w') := by
  have HA := Lib.hid fa.plns
  have HB := Lib.hid fb.plns
  have hnc : n ≤ c := fa.le
  have hnc2 : n2 ≤ c2 := fb.le
  obtain ⟨r1, hr1⟩ : ∃ r, keptP (la.map (·.rt)) (lb.map (·.rt)) = r := ⟨_, rfl⟩
  obtain ⟨r2, hr2⟩ : ∃ r, rightP (la.map (·.rt)) = r := ⟨_, rfl⟩
  have R1 := Lib.hid hr1
  have R2 := Lib.hid hr2
  have R3 : Hid (keptP (la.map (·.rt)) (la.map (·.rt)) = r2) := (keptP_self _).trans hr2
  clear fa fb hr1 hr2
  go_enter Try.func5, Try.ntmps5
  go_wp2_with fail
  refine (pkept_any A n c la A2 n2 c2 lb r1 _ hnc hnc2 (by exact HA.out) (by exact HB.out) R1.out).mono ?_
  rintro e w1 ⟨rfl, hb1⟩
  have B1 := Lib.hid hb1
  clear hb1
  go_wp2_with fail
  refine (rkept_any A n c la A2 n2 c2 lb r1 _ (by exact (HA.out.keep B1.out).more B1.out.size) (by exact (HB.out.keep B1.out).more B1.out.size) R1.out).mono ?_
  rintro e w2 ⟨rfl, hb2⟩
  have B2 : Hid (Below W.heap.size W w2) := B1.out.trans (hb2.mono B1.out.size)
  clear hb2
  have e1 : (r1 == r1) = true := by simp
  have e2 : (r2 == r2) = true := by simp
  go_wp2_with fail
  refine (pkept_any A n c la A n c la r2 _ hnc hnc (by exact (HA.out.keep B2.out).more B2.out.size) (by exact (HA.out.keep B2.out).more B2.out.size) R3.out).mono ?_
  rintro e w3 ⟨rfl, hb3⟩
  have B3 : Hid (Below W.heap.size W w3) := B2.out.trans (hb3.mono B2.out.size)
  clear hb3
  go_wp2_with fail
  refine (rright_val A n c la r2 _ (by exact (HA.out.keep B3.out).more B3.out.size) R2.out).mono ?_
  rintro e w4 ⟨rfl, hb4⟩
  have B4 : Hid (Below W.heap.size W w4) := B3.out.trans (hb4.mono B3.out.size)
  clear hb4
  go_wp2_with fail
  refine (runs_any _).mono ?_
  rintro e w5 ⟨rfl, hb5⟩
  have B5 : Hid (Below W.heap.size W w5) := B4.out.trans (hb5.mono B4.out.size)
  clear hb5
  go_wp2_with fail
  go_ret
  exact ⟨rfl, B5.out⟩
#print axioms auditKeeps_w
end Go.Proofs.Ytjklpdeeohhhnaa.Audit
