/-
  Any order put anywhere into any plan, which stays: PlanPuts, walked.
-/
import Derived.Test.YtbnhbbjmocclmaaPlanUse
import Derived.Test.YtbnhbbjmocclmaaPlanKSpoil
import Derived.Test.YtbnhbbjmocclmaaPlanRWith
namespace Go.Proofs.Ytbnhbbjmocclmaa.Plan
open Go.ChangeShapes Go.WideShapes Go.ChangeAt Go.RowKit Go.Proofs.Ytbnhbbjmocclmaa.Mem Go.Proofs.Ytbnhbbjmocclmaa.MemI Go.Proofs.Ytbnhbbjmocclmaa.FleetMath Go.Proofs.Ytbnhbbjmocclmaa.PlanMath Go.Proofs.Ytbnhbbjmocclmaa.Rec Go.Proofs.Ytbnhbbjmocclmaa.Frames
set_option linter.unusedVariables false
set_option linter.unusedSimpArgs false

theorem plns_nil (u : World) (B : Nat) : Plns u B none 0 [] := ⟨Recs.none_, fun r h => by cases h⟩

set_option maxRecDepth 100000 in
set_option maxHeartbeats 4000000 in
theorem planPuts_w (A : Option Addr) (n c : Nat) (l : List RM) (o : Int) (x : Spt × Int) (W : World) (fp : PlnOk W A n c l) (wo : wfI o) (fx : wfI x.1.drv ∧ wfI x.1.pick ∧ wfI x.1.drop ∧ wfI x.2) :
    Calls Try.prog 6 #[.slice A n c, .int .i64 o, .agg #[.int .i64 x.1.drv, .int .i64 x.1.pick, .int .i64 x.1.drop, .int .i64 x.2]] W (fun e w' => e = .returned (.bool true) ∧ Below W.heap.size W w') := by
  obtain ⟨s, y⟩ := x
  simp only
  clear fx wo
  have HP := Lib.hid fp.plns
  have hn40 : n * 40 ≤ 140737488351232 := by have := fp.le; have := fp.few; omega
  clear fp
  have H0 : Hid (Below W.heap.size W (W.alloc (.cells #[.int .i64 s.drv, .int .i64 s.pick, .int .i64 s.drop, .int .i64 y] 30))) := (Below.refl _ _).alloc (Nat.le_refl _) _
  have S0 := Lib.hid (Blk.new W 30 [.int .i64 s.drv, .int .i64 s.pick, .int .i64 s.drop, .int .i64 y])
  obtain ⟨r, hr⟩ : ∃ r, withP (l.map (·.rt)) o s = r := ⟨_, rfl⟩
  have HR := Lib.hid hr
  clear hr
  go_enter Try.func6, Try.ntmps6
  go_wp2_with fail
  refine (use_copy W _ A n c l (by exact (HP.out.keep H0.out).more H0.out.size) hn40 (by exact H0.out)).mono ?_
  rintro e w1 ⟨B1, k1, l1, rfl, hb1, hw1, hp1, hl1⟩
  have H1 := Lib.hid hw1
  have C1 := Lib.hid hp1
  have S1 := Lib.hid (S0.out.below hb1 S0.out.lt)
  have E1 := Lib.hid hl1
  clear hb1 hw1 hp1 hl1 H0 S0
  have q0 := S1.out.cell (i := 0) rfl
  have q1 := S1.out.cell (i := 1) rfl
  have q2 := S1.out.cell (i := 2) rfl
  have q3 := S1.out.cell (i := 3) rfl
  cases r with
  | none =>
    go_wp2_with fail
    refine (use_with_no W _ A n c l o s y (by exact (HP.out.keep H1.out).more H1.out.size) (by exact H1.out) HR.out).mono ?_
    rintro e w2 ⟨rfl, hb2, hw2⟩
    have H2 := Lib.hid hw2
    have C2 := Lib.hid (C1.out.next hb2)
    have S2 := Lib.hid (S1.out.below hb2 S1.out.lt)
    clear hb2 hw2 H1 C1 S1 q0 q1 q2 q3
    have q0 := S2.out.cell (i := 0) rfl
    have q1 := S2.out.cell (i := 1) rfl
    have q2 := S2.out.cell (i := 2) rfl
    have q3 := S2.out.cell (i := 3) rfl
    go_wp2_with fail
    refine (rwith_any B1 n k1 l1 o s y _ (by exact C2.out)).mono ?_
    rintro e w3 ⟨hb3, hv3⟩
    rw [E1.out, HR.out] at hv3
    subst hv3
    have H3 := Lib.hid (Below.then H2.out hb3)
    have C3 := Lib.hid (C2.out.next hb3)
    clear hb3 H2 C2 S2 q0 q1 q2 q3
    go_wp2_with fail
    refine (use_routes W _ none none 0 0 0 [] [] _ _ (by exact plns_nil _ 0) (by exact plns_nil _ 0) rfl (by exact H3.out)).mono ?_
    rintro e w4 ⟨rfl, hb4, hw4⟩
    have H4 := Lib.hid hw4
    have C4 := Lib.hid (C3.out.next hb4)
    clear hb4 hw4 H3 C3
    go_wp2_with fail
    refine (spoil_any w4 w4 _ none 0 0 [] rfl (by exact NewP.nil w4) (by exact Below.refl _ _)).mono ?_
    rintro e w5 ⟨rfl, hb5, _, _⟩
    have H5 := Lib.hid (Below.then H4.out hb5)
    have C5 := Lib.hid (C4.out.next hb5)
    clear hb5 H4 C4
    go_wp2_with fail
    refine (use_routes W _ A B1 n c k1 l l1 _ _ (by exact HP.out.keep H5.out) (by exact C5.out) E1.out.symm (by exact H5.out)).mono ?_
    rintro e w6 ⟨rfl, hb6, hw6⟩
    have H6 := Lib.hid hw6
    clear hb6 hw6 H5 C5
    go_wp2_with fail
    refine (use_runs W _ (by exact H6.out)).mono ?_
    rintro e w9 ⟨rfl, hw9⟩
    have H9 := Lib.hid hw9
    clear hw9 H6
    go_wp2
    go_ret
    exact ⟨rfl, H9.out⟩
  | some p =>
    obtain ⟨np, hnp⟩ : ∃ k, p.length = k := ⟨_, rfl⟩
    have HNP := Lib.hid hnp
    clear hnp
    go_wp2_with fail
    refine (use_with W _ A n c l o s y p (by exact (HP.out.keep H1.out).more H1.out.size) (by exact H1.out) HR.out).mono ?_
    rintro e w2 ⟨B2, k2, l2, rfl, hb2, hw2, hp2, hl2, hk2, hn2⟩
    rw [HNP.out] at hp2 hk2 hn2 ⊢
    have H2 := Lib.hid hw2
    have H1k := H1
    have C1k := C1
    have C2 := Lib.hid (C1.out.next hb2)
    have S2 := Lib.hid (S1.out.below hb2 S1.out.lt)
    have P2 := Lib.hid hp2
    have E2 := Lib.hid hl2
    have K2 := Lib.hid hk2
    have N2 := Lib.hid hn2
    clear hb2 hw2 hp2 hl2 hk2 hn2 H1 C1 S1 q0 q1 q2 q3
    have q0 := S2.out.cell (i := 0) rfl
    have q1 := S2.out.cell (i := 1) rfl
    have q2 := S2.out.cell (i := 2) rfl
    have q3 := S2.out.cell (i := 3) rfl
    go_wp2_with fail
    refine (rwith_any B1 n k1 l1 o s y _ (by exact C2.out)).mono ?_
    rintro e w3 ⟨hb3, hv3⟩
    rw [E1.out, HR.out] at hv3
    obtain ⟨v3, rfl, hv3⟩ := hv3
    obtain ⟨B3, k3, l3, rfl, _, hp3, hl3, _, _⟩ := made_any hv3
    rw [HNP.out] at hp3 ⊢
    have H3 := Lib.hid (Below.then H2.out hb3)
    have P23 := Lib.hid (P2.out.next hb3)
    have P3 := Lib.hid hp3
    have E3 := Lib.hid hl3
    have L23 := Lib.hid hb3
    clear hb3 hv3 hp3 hl3 H2 C2 S2 P2 q0 q1 q2 q3
    go_wp2_with fail
    refine (use_routes W _ B2 B3 np k2 k3 l2 l3 _ _ (by exact P23.out) (by exact P3.out) (by rw [E2.out, E3.out]) (by exact H3.out)).mono ?_
    rintro e w4 ⟨rfl, hb4, hw4⟩
    have L24 := Lib.hid (Below.then L23.out hb4)
    clear hb4 hw4 H3 P23 P3 L23
    go_wp2_with fail
    refine (spoil_any w1 w2 _ B2 np k2 l2 K2.out (by exact N2.out) (by exact L24.out)).mono ?_
    rintro e w5 ⟨rfl, hb5, _, _⟩
    have H5 := Lib.hid (Below.then H1k.out hb5)
    have C5 := Lib.hid (C1k.out.next hb5)
    clear hb5 L24
    go_wp2_with fail
    refine (use_routes W _ A B1 n c k1 l l1 _ _ (by exact HP.out.keep H5.out) (by exact C5.out) E1.out.symm (by exact H5.out)).mono ?_
    rintro e w6 ⟨rfl, hb6, hw6⟩
    have H6 := Lib.hid hw6
    clear hb6 hw6 H5 C5
    go_wp2_with fail
    refine (use_runs W _ (by exact H6.out)).mono ?_
    rintro e w9 ⟨rfl, hw9⟩
    have H9 := Lib.hid hw9
    clear hw9 H6
    go_wp2
    go_ret
    exact ⟨rfl, H9.out⟩
#print axioms planPuts_w
end Go.Proofs.Ytbnhbbjmocclmaa.Plan
