/-
  Kept goes on from plan to plan; orders put in and taken out of a plan keep it: AuditOnward, walked.
-/
import Derived.Test.YtjklpdeeohhhnaaAuditProgs
import Derived.Test.YtjklpdeeohhhnaaAuditRuns
import Derived.Test.YtjklpdeeohhhnaaPlanUseP
import Derived.Test.YtjklpdeeohhhnaaIntsBlk
import Derived.Test.YtjklpdeeohhhnaaFramePlans
namespace Go.Proofs.Ytjklpdeeohhhnaa.Audit
open Go.ChangeShapes Go.WideShapes Go.ChangeAt Go.RowKit Go.Proofs.Ytjklpdeeohhhnaa.Mem Go.Proofs.Ytjklpdeeohhhnaa.GeoMath Go.Proofs.Ytjklpdeeohhhnaa.FleetMath Go.Proofs.Ytjklpdeeohhhnaa.PlanMath Go.Proofs.Ytjklpdeeohhhnaa.CertMath Go.Proofs.Ytjklpdeeohhhnaa.AuditMath Go.Proofs.Ytjklpdeeohhhnaa.Rec Go.Proofs.Ytjklpdeeohhhnaa.Geo Go.Proofs.Ytjklpdeeohhhnaa.Span Go.Proofs.Ytjklpdeeohhhnaa.Deal Go.Proofs.Ytjklpdeeohhhnaa.Plan
set_option linter.unusedVariables false
set_option linter.unusedSimpArgs false
open Go.Proofs.Ytjklpdeeohhhnaa.Frames
theorem use_kept {W u : World} (hu : Below W.heap.size W u) {A : Option Addr} {n c : Nat} {la : List RM} {A2 : Option Addr} {n2 c2 : Nat} {lb : List RM} {r : Bool} (hnc : n ≤ c) (hnc2 : n2 ≤ c2) (ha : Plns u u.heap.size A n la) (hb : Plns u u.heap.size A2 n2 lb) (hr : keptP (la.map (·.rt)) (lb.map (·.rt)) = r) :
    Calls Try.prog 12 #[.slice A n c, .slice A2 n2 c2] u fun e u' => e = .returned (.bool r) ∧ Below u.heap.size u u' := by
  refine (pkept_any A n c la A2 n2 c2 lb r u hnc hnc2 ha hb hr).mono ?_
  rintro e u' ⟨rfl, h⟩
  exact ⟨rfl, h⟩
/-- the spot's box, and all that was there -/
structure QS (W : World) (s : Spt) (y : Int) (u : World) : Prop where
  old : Below W.heap.size W u
  spot : Blk u W.heap.size 67 [.int .i64 s.drv, .int .i64 s.pick, .int .i64 s.drop, .int .i64 y]
theorem QS.next {W u u' : World} {s : Spt} {y : Int} (h : QS W s y u) (hb : Below u.heap.size u u') : QS W s y u' := ⟨h.old.trans (hb.mono h.old.size), h.spot.below hb h.spot.lt⟩
theorem QS.pl {W u : World} {s : Spt} {y : Int} {A : Option Addr} {n : Nat} {l : List RM} (h : QS W s y u) (hp : Plns W W.heap.size A n l) : Plns u u.heap.size A n l := (hp.keep h.old).more h.old.size
set_option maxRecDepth 100000 in
set_option maxHeartbeats 4000000 in
theorem auditOnward_w (A : Option Addr) (n c : Nat) (la : List RM) (A2 : Option Addr) (n2 c2 : Nat) (lb : List RM) (A3 : Option Addr) (n3 c3 : Nat) (lc : List RM) (o : Int) (x : Spt × Int) (W : World) (fa : PlnOk W A n c la) (fb : PlnOk W A2 n2 c2 lb) (fc : PlnOk W A3 n3 c3 lc) (wo : wfI o) (fx : wfI x.1.drv ∧ wfI x.1.pick ∧ wfI x.1.drop ∧ wfI x.2) :
    Calls Try.prog 8 #[.slice A n c, .slice A2 n2 c2, .slice A3 n3 c3, .int .i64 o, .agg #[.int .i64 x.1.drv, .int .i64 x.1.pick, .int .i64 x.1.drop, .int .i64 x.2]] W (fun e w' => e = .returned (.bool true) ∧ Below W.heap.size W w') := by
  obtain ⟨s, y⟩ := x
  simp only
  clear fx
  have HA := Lib.hid fa.plns
  have HB := Lib.hid fb.plns
  have HC := Lib.hid fc.plns
  have hn40 : n * 40 ≤ 140737488351232 := by have := fa.le; have := fa.few; omega
  have hnc : n ≤ c := fa.le
  have hnc2 : n2 ≤ c2 := fb.le
  have hnc3 : n3 ≤ c3 := fc.le
  clear fa fb fc
  obtain ⟨kab, hkab⟩ : ∃ r, keptP (la.map (·.rt)) (lb.map (·.rt)) = r := ⟨_, rfl⟩
  obtain ⟨kba, hkba⟩ : ∃ r, keptP (lb.map (·.rt)) (la.map (·.rt)) = r := ⟨_, rfl⟩
  obtain ⟨kbc, hkbc⟩ : ∃ r, keptP (lb.map (·.rt)) (lc.map (·.rt)) = r := ⟨_, rfl⟩
  obtain ⟨ra, hra⟩ : ∃ r, rightP (la.map (·.rt)) = r := ⟨_, rfl⟩
  have KAB := Lib.hid hkab
  have KBA := Lib.hid hkba
  have KBC := Lib.hid hkbc
  have RA := Lib.hid hra
  have Q0 : Hid (QS W s y (W.alloc (.cells #[.int .i64 s.drv, .int .i64 s.pick, .int .i64 s.drop, .int .i64 y] 67))) := ⟨(Below.refl _ _).alloc (Nat.le_refl _) _, Blk.new W _ _⟩
  obtain ⟨r, hr⟩ : ∃ r, withP (la.map (·.rt)) o s = r := ⟨_, rfl⟩
  have HR := Lib.hid hr
  clear hkab hkba hkbc hra hr
  go_enter Try.func8, Try.ntmps8
  go_upto_region 1 with fail
  go_cut [26] (fun bv wx => bv = .bool false ∧ Hid (QS W s y wx))
  case first =>
    go_wp2_with fail
    refine (use_kept (by exact Q0.out.old) hnc hnc2 (by exact Q0.out.pl HA.out) (by exact Q0.out.pl HB.out) KAB.out).mono ?_
    rintro e w1 ⟨rfl, hb1⟩
    have Q1 := Lib.hid (Q0.out.next hb1)
    clear hb1 Q0
    cases kab with
    | false =>
      go_wp2_with fail
      go_meet
      exact ⟨rfl, Q1⟩
    | true =>
      go_wp2_with fail
      refine (use_kept (by exact Q1.out.old) hnc2 hnc3 (by exact Q1.out.pl HB.out) (by exact Q1.out.pl HC.out) KBC.out).mono ?_
      rintro e w2 ⟨rfl, hb2⟩
      have Q2 := Lib.hid (Q1.out.next hb2)
      clear hb2 Q1
      cases kbc with
      | false =>
        go_wp2_with fail
        go_meet
        exact ⟨rfl, Q2⟩
      | true =>
        have KAC := Lib.hid (keptP_trans KAB.out KBC.out)
        go_wp2_with fail
        refine (use_kept (by exact Q2.out.old) hnc hnc3 (by exact Q2.out.pl HA.out) (by exact Q2.out.pl HC.out) KAC.out).mono ?_
        rintro e w3 ⟨rfl, hb3⟩
        have Q3 := Lib.hid (Q2.out.next hb3)
        clear hb3 Q2
        go_wp2_with fail
        go_meet
        exact ⟨rfl, Q3⟩
  case rest =>
  obtain ⟨rfl, Q4⟩ := hcut
  obtain ⟨w4, rfl⟩ : ∃ u, u = wc := ⟨_, rfl⟩
  clear Q0 KBC HC
  go_wp2_with fail
  refine (use_right W _ A n c la ra (by exact Q4.out.pl HA.out) (by exact Q4.out.old) RA.out).mono ?_
  rintro e w5 ⟨rfl, hb5, _⟩
  have Q5 := Lib.hid (Q4.out.next hb5)
  clear hb5 Q4
  cases ra with
  | false =>
    have e1 : kab = false := by rw [← KAB.out]; exact (keptP_no RA.out).1
    have e2 : kba = false := by rw [← KBA.out]; exact (keptP_no RA.out).2
    subst e1
    subst e2
    go_wp2_with fail
    refine (use_kept (by exact Q5.out.old) hnc hnc2 (by exact Q5.out.pl HA.out) (by exact Q5.out.pl HB.out) KAB.out).mono ?_
    rintro e w6 ⟨rfl, hb6⟩
    have Q6 := Lib.hid (Q5.out.next hb6)
    clear hb6 Q5
    go_wp2_with fail
    refine (use_kept (by exact Q6.out.old) hnc2 hnc (by exact Q6.out.pl HB.out) (by exact Q6.out.pl HA.out) KBA.out).mono ?_
    rintro e w7 ⟨rfl, hb7⟩
    have Q7 := Lib.hid (Q6.out.next hb7)
    clear hb7 Q6
    go_wp2_with fail
    refine (runs_any _).mono ?_
    rintro e w8 ⟨rfl, hb8⟩
    have Q8 := Lib.hid (Q7.out.next hb8)
    clear hb8 Q7
    go_wp2_with fail
    go_ret
    exact ⟨rfl, Q8.out.old⟩
  | true =>
  have q0 := Q5.out.spot.cell (i := 0) rfl
  have q1 := Q5.out.spot.cell (i := 1) rfl
  have q2 := Q5.out.spot.cell (i := 2) rfl
  have q3 := Q5.out.spot.cell (i := 3) rfl
  obtain ⟨pw, hpw⟩ : ∃ p, withoutP (la.map (·.rt)) [o] = p := ⟨_, rfl⟩
  have HPW := Lib.hid hpw
  have KW : Hid (keptP (la.map (·.rt)) pw = true) := by show _ = _; rw [← hpw]; exact keptP_without RA.out
  clear hpw
  go_upto_region 5 with fail
  go_cut [11, 12] (fun pv bv wx => Hid (QS W s y wx) ∧ ((bv = .bool false ∧ pv = .slice none 0 0) ∨ ∃ B k l' p, bv = .bool true ∧ pv = .slice B p.length k ∧ Hid (p.length ≤ k) ∧ Hid (Plns wx wx.heap.size B p.length l') ∧ Hid (l'.map (·.rt) = p) ∧ Hid (keptP (la.map (·.rt)) p = true ∧ keptP p (la.map (·.rt)) = true)))
  case first =>
    cases r with
    | none =>
      go_wp2_with fail
      refine (use_with_no W _ A n c la o s y (by exact Q5.out.pl HA.out) (by exact Q5.out.old) HR.out).mono ?_
      rintro e w6 ⟨rfl, hb6, _⟩
      have Q6 := Lib.hid (Q5.out.next hb6)
      clear hb6 Q5 q0 q1 q2 q3
      go_wp2_with fail
      go_meet
      exact ⟨Q6, .inl ⟨rfl, rfl⟩⟩
    | some p =>
      go_wp2_with fail
      refine (use_with W _ A n c la o s y p (by exact Q5.out.pl HA.out) (by exact Q5.out.old) HR.out).mono ?_
      rintro e w6 ⟨B6, k6, l6, rfl, hb6, _, hp6, hl6, hln6, hn6⟩
      have Q6 := Lib.hid (Q5.out.next hb6)
      have hk6 : p.length ≤ k6 := by
        obtain ⟨A', c', e', hc', _⟩ := hn6.own.read
        injection e' with _ e2 e3
        omega
      clear hb6 Q5 q0 q1 q2 q3
      go_wp2_with fail
      go_meet
      exact ⟨Q6, .inr ⟨_, _, l6, p, rfl, rfl, hk6, hp6, hl6, keptP_with HR.out⟩⟩
  case rest =>
  obtain ⟨Q6, hcase⟩ := hcut
  obtain ⟨w6, rfl⟩ : ∃ u, u = wc := ⟨_, rfl⟩
  clear Q5 q0 q1 q2 q3 HR
  go_upto_region 6 with fail
  go_cut [62] (fun bv wx => bv = .bool false ∧ Hid (QS W s y wx))
  case first =>
    rcases hcase with ⟨rfl, rfl⟩ | ⟨B6, k6, l6, p, rfl, rfl, hk6, P6, E6, K6⟩
    · go_wp2_with fail
      go_meet
      exact ⟨rfl, Q6⟩
    · have hk := hk6.out
      go_wp2_with fail
      refine (use_kept (r := true) (by exact Q6.out.old) hnc hk (by exact Q6.out.pl HA.out) (by exact P6.out) (by rw [E6.out]; exact K6.out.1)).mono ?_
      rintro e w7 ⟨rfl, hb7⟩
      have Q7 := Lib.hid (Q6.out.next hb7)
      have P7 := Lib.hid ((P6.out.keep hb7).more hb7.size)
      clear hb7 Q6 P6
      go_wp2_with fail
      refine (use_kept (r := true) (by exact Q7.out.old) hk hnc (by exact P7.out) (by exact Q7.out.pl HA.out) (by rw [E6.out]; exact K6.out.2)).mono ?_
      rintro e w8 ⟨rfl, hb8⟩
      have Q8 := Lib.hid (Q7.out.next hb8)
      clear hb8 Q7 P7
      go_wp2_with fail
      go_meet
      exact ⟨rfl, Q8⟩
  case rest =>
  obtain ⟨rfl, Q9⟩ := hcut
  obtain ⟨w9, rfl⟩ : ∃ u, u = wc := ⟨_, rfl⟩
  clear Q6 hcase
  have QA : Hid (QS W s y (w9.alloc (.cells #[.int .i64 o] 3))) := Q9.out.next ((Below.refl _ _).alloc (Nat.le_refl _) _)
  have IA := Lib.hid (ints_blk (l := [o]) (n := 1) (Blk.new w9 3 [.int .i64 o]) rfl (by decide))
  clear Q9
  go_wp2_with fail
  refine (use_without W _ A n c la _ 1 1 [o] pw (by exact QA.out.pl HA.out) hn40 (by exact Reads.more IA.out (by simp)) (fun r hr s hs => wf_small (wf_ord RA.out _ (List.mem_map.2 ⟨r, hr, rfl⟩) s hs)) (by simpa using wo) (by exact QA.out.old) HPW.out).mono ?_
  rintro e wb ⟨Bb, kb, lb', rfl, hbb, _, hpb, hlb, _, hnb⟩
  have QB := Lib.hid (QA.out.next hbb)
  have PB := Lib.hid hpb
  have EB := Lib.hid hlb
  have hkb : pw.length ≤ kb := by
    obtain ⟨A', c', e', hc', _⟩ := hnb.own.read
    injection e' with _ e2 e3
    omega
  clear hbb hpb hlb hnb QA IA
  go_wp2_with fail
  refine (use_kept (r := true) (by exact QB.out.old) hnc hkb (by exact QB.out.pl HA.out) (by exact PB.out) (by rw [EB.out]; exact KW.out)).mono ?_
  rintro e wd ⟨rfl, hbd⟩
  have QD := Lib.hid (QB.out.next hbd)
  clear hbd QB PB
  go_wp2_with fail
  refine (runs_any _).mono ?_
  rintro e we ⟨rfl, hbe⟩
  have QE := Lib.hid (QD.out.next hbe)
  clear hbe QD
  go_wp2_with fail
  go_ret
  exact ⟨rfl, QE.out.old⟩
#print axioms auditOnward_w
end Go.Proofs.Ytjklpdeeohhhnaa.Audit
