/-
  Any plan: is it right, where an order stands, and which do: PlanTells, walked.
-/
import Derived.Test.YtbnhbbjmocclmaaPlanUse
import Derived.Test.YtbnhbbjmocclmaaPlanRFind
import Derived.Test.YtbnhbbjmocclmaaPlanRRight
import Derived.Test.YtbnhbbjmocclmaaPlanROrders
namespace Go.Proofs.Ytbnhbbjmocclmaa.Plan
open Go.ChangeShapes Go.WideShapes Go.ChangeAt Go.RowKit Go.Proofs.Ytbnhbbjmocclmaa.Mem Go.Proofs.Ytbnhbbjmocclmaa.MemI Go.Proofs.Ytbnhbbjmocclmaa.FleetMath Go.Proofs.Ytbnhbbjmocclmaa.PlanMath Go.Proofs.Ytbnhbbjmocclmaa.Rec Go.Proofs.Ytbnhbbjmocclmaa.Frames
set_option linter.unusedVariables false
set_option linter.unusedSimpArgs false

theorem spot_form (r : Option Spt) : ∃ (d p q : Int) (b : Bool), spotV r = .tuple #[.agg #[.int .i64 d, .int .i64 p, .int .i64 q, .int .i64 0], .bool b] := by
  cases r with
  | none => exact ⟨0, 0, 0, false, rfl⟩
  | some s => exact ⟨s.drv, s.pick, s.drop, true, rfl⟩

set_option maxRecDepth 100000 in
set_option maxHeartbeats 4000000 in
theorem planTells_w (A : Option Addr) (n c : Nat) (l : List RM) (o : Int) (W : World) (fp : PlnOk W A n c l) (fc : (allS (l.map (·.rt))).length ≤ 1048576) (wo : wfI o) :
    Calls Try.prog 4 #[.slice A n c, .int .i64 o] W (fun e w' => e = .returned (.bool true) ∧ Below W.heap.size W w') := by
  have HP := Lib.hid fp.plns
  have hfit : (allS (l.map (·.rt))).length * 8 ≤ 140737488351232 := by omega
  clear fp fc wo
  obtain ⟨d, pk, dr, bb, hv⟩ := spot_form (findP (l.map (·.rt)) o)
  have HV := Lib.hid hv
  obtain ⟨rp, hrp⟩ : ∃ b, rightP (l.map (·.rt)) = b := ⟨_, rfl⟩
  have HRP := Lib.hid hrp
  obtain ⟨f, hf⟩ : ∃ f, ordersM (l.map (·.rt)) = f := ⟨_, rfl⟩
  obtain ⟨nf, hnf⟩ : ∃ k, f.length = k := ⟨_, rfl⟩
  have HF := Lib.hid hf
  have HNF := Lib.hid hnf
  clear hv hrp hf hnf
  go_enter Try.func4, Try.ntmps4
  go_wp2_with fail
  refine (use_find W _ A n c l o (.tuple #[.agg #[.int .i64 d, .int .i64 pk, .int .i64 dr, .int .i64 0], .bool bb]) (by exact HP.out) (by exact Below.refl _ _) HV.out).mono ?_
  rintro e w1 ⟨rfl, hb1, hw1⟩
  have hb1' := hb1.trans (((Below.refl w1.heap.size w1).alloc (Nat.le_refl _) (.cells #[.int .i64 d, .int .i64 pk, .int .i64 dr, .int .i64 0] 30)).mono hb1.size)
  have H1 := Lib.hid hb1'
  have S1 := Lib.hid (Blk.new w1 30 [.int .i64 d, .int .i64 pk, .int .i64 dr, .int .i64 0])
  clear hb1 hw1 hb1'
  go_wp2_with fail
  refine (rfindp_any A n c l o _ (by exact (HP.out.keep H1.out).more H1.out.size)).mono ?_
  rintro e w2 ⟨rfl, hb2⟩
  rw [HV.out]
  have hb2' := hb2.trans (((Below.refl w2.heap.size w2).alloc (Nat.le_refl _) (.cells #[.int .i64 d, .int .i64 pk, .int .i64 dr, .int .i64 0] 30)).mono hb2.size)
  have H2 := Lib.hid (Below.then H1.out hb2')
  have S2 := Lib.hid (S1.out.below hb2' S1.out.lt)
  have T2 := Lib.hid (Blk.new w2 30 [.int .i64 d, .int .i64 pk, .int .i64 dr, .int .i64 0])
  clear hb2 hb2' H1 S1
  go_wp2_with fail
  refine (use_right W _ A n c l rp (by exact (HP.out.keep H2.out).more H2.out.size) (by exact H2.out) HRP.out).mono ?_
  rintro e w3 ⟨rfl, hb3, hw3⟩
  have H3 := Lib.hid hw3
  have S3 := Lib.hid (S2.out.below hb3 S2.out.lt)
  have T3 := Lib.hid (T2.out.below hb3 T2.out.lt)
  clear hb3 hw3 H2 S2 T2
  go_wp2_with fail
  refine (rright_any A n c l _ (by exact (HP.out.keep H3.out).more H3.out.size)).mono ?_
  rintro e w4 ⟨rfl, hb4⟩
  rw [HRP.out]
  have H4 := Lib.hid (Below.then H3.out hb4)
  have S4 := Lib.hid (S3.out.below hb4 S3.out.lt)
  have T4 := Lib.hid (T3.out.below hb4 T3.out.lt)
  clear hb4 H3 S3 T3
  have q0 := S4.out.cell (i := 0) rfl
  have q1 := S4.out.cell (i := 1) rfl
  have q2 := S4.out.cell (i := 2) rfl
  have q3 := S4.out.cell (i := 3) rfl
  have r0 := T4.out.cell (i := 0) rfl
  have r1 := T4.out.cell (i := 1) rfl
  have r2 := T4.out.cell (i := 2) rfl
  have r3 := T4.out.cell (i := 3) rfl
  go_wp2_with fail
  refine (use_orders W _ A n c l f nf (by exact (HP.out.keep H4.out).more H4.out.size) hfit (by exact H4.out) HF.out HNF.out).mono ?_
  rintro e w5 ⟨B5, k5, rfl, hb5, hw5, hi5⟩
  have H5 := Lib.hid hw5
  have I5 := Lib.hid hi5
  clear hb5 hw5 hi5 H4 S4 T4 q0 q1 q2 q3 r0 r1 r2 r3
  go_wp2_with fail
  refine (rorders_any A n c l _ (by exact (HP.out.keep H5.out).more H5.out.size) hfit).mono ?_
  rintro e w6 ⟨v6, rfl, hb6, ho6⟩
  rw [HF.out] at ho6
  obtain ⟨B6, k6, rfl, _, hr6⟩ := ho6.read
  rw [HNF.out] at hr6 ⊢
  have H6 := Lib.hid (Below.then H5.out hb6)
  have I6 := Lib.hid (Reads.keep I5.out hb6)
  have J6 := Lib.hid (reads1 hr6)
  clear hb6 ho6 hr6 H5 I5
  go_wp2_with fail
  refine (MemI.same_yes B5 B6 nf k5 nf k6 f _ _ _ (by exact I6.out) (by exact J6.out)).mono ?_
  rintro e w7 ⟨rfl, d7, hw7⟩
  have H7 : Hid (Below W.heap.size W w7) := by rw [hw7]; exact Below.then H6.out (below_drewN _ _)
  clear hw7 H6 I6 J6
  go_wp2_with fail
  refine (use_runs W _ (by exact H7.out)).mono ?_
  rintro e w8 ⟨rfl, hw8⟩
  have H8 := Lib.hid hw8
  clear hw8 H7
  go_wp2
  go_ret
  exact ⟨rfl, H8.out⟩
#print axioms planTells_w
end Go.Proofs.Ytbnhbbjmocclmaa.Plan
