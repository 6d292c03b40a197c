/-
  Any plan; what is handed in stays, what is told is new memory: AuditTells, walked.
-/
import Derived.Test.YtjklpdeeohhhnaaAuditUses
import Derived.Test.YtjklpdeeohhhnaaFrameWorldP
namespace Go.Proofs.Ytjklpdeeohhhnaa.Audit
open Go.ChangeShapes Go.WideShapes Go.ChangeAt Go.RowKit Go.Proofs.Ytjklpdeeohhhnaa.Mem Go.Proofs.Ytjklpdeeohhhnaa.GeoMath Go.Proofs.Ytjklpdeeohhhnaa.FleetMath Go.Proofs.Ytjklpdeeohhhnaa.PlanMath Go.Proofs.Ytjklpdeeohhhnaa.CertMath Go.Proofs.Ytjklpdeeohhhnaa.AuditMath Go.Proofs.Ytjklpdeeohhhnaa.Rec Go.Proofs.Ytjklpdeeohhhnaa.Geo Go.Proofs.Ytjklpdeeohhhnaa.Span Go.Proofs.Ytjklpdeeohhhnaa.Deal Go.Proofs.Ytjklpdeeohhhnaa.Keep Go.Proofs.Ytjklpdeeohhhnaa.Route Go.Proofs.Ytjklpdeeohhhnaa.Plan Go.Proofs.Ytjklpdeeohhhnaa.Cert
set_option linter.unusedVariables false
set_option linter.unusedSimpArgs false
set_option maxRecDepth 100000 in
set_option maxHeartbeats 8000000 in
theorem auditTells_walk (x : Wd) (ts : List Int) (ds : List Drv) (os : List FleetMath.Ord) (ps : List RM) (W : World) (hts : Ints W W.heap.size x.ts.a x.ts.n ts) (hds : Drvs W W.heap.size x.ds.a x.ds.n ds) (hos : Ords W W.heap.size x.os.a x.os.n os) (hps : Plns W W.heap.size x.pl.a x.pl.n ps) (hn40 : x.pl.n * 40 ≤ 140737488351232) :
    Calls Try.prog 4 #[wdV x] W fun e w' => e = .returned (.bool true) ∧ Below W.heap.size W w' := by
  have HTS := Lib.hid hts
  have HDS := Lib.hid hds
  have HOS := Lib.hid hos
  have HPS := Lib.hid hps
  clear hts hds hos hps
  obtain ⟨m, hm⟩ : ∃ m, mapOf x.n ts = m := ⟨_, rfl⟩
  have HM := Lib.hid hm
  clear hm
  obtain ⟨t, hau⟩ : ∃ z, auditM m ds os (ps.map (·.rt)) = z := ⟨_, rfl⟩
  have HAU := Lib.hid hau
  clear hau
  have HB0 : Hid (Below W.heap.size W (W.alloc (.cells #[.int .i64 x.n, x.ts.v, x.ds.v, x.os.v, x.pl.v] 52))) := (Below.refl _ _).alloc (Nat.le_refl _) _
  have HW0 := Lib.hid (WBox.new W x)
  go_enter Try.func4, Try.ntmps4
  go_wp2_with fail
  refine (kmaps_any x ts _ (by exact Reads.more (Reads.keep HTS.out HB0.out) HB0.out.size)).mono ?_
  intro e w1 hmo
  obtain ⟨q, r, rfl, hcr⟩ := CR.start (n0 := 0) HB0.out HW0.out HDS.out HOS.out HPS.out HM.out hmo
  have C1 := Lib.hid hcr
  clear hmo hcr HB0 HW0
  obtain ⟨x0, x1, x2, x3, x4⟩ := C1.out.wd.cells
  go_wp2_with fail
  refine (use_copy _ _ _ ps _ (by exact C1.out.plns) hn40).mono ?_
  rintro e w2 ⟨Bw, kw, lw, rfl, hb2, hp2, he2⟩
  have C2 := Lib.hid (C1.out.below hb2)
  have P2 := Lib.hid hp2
  have EW := Lib.hid he2
  clear hb2 hp2 he2 C1 x0 x1 x2 x3 x4
  obtain ⟨x0, x1, x2, x3, x4⟩ := C2.out.wd.cells
  go_wp2_with fail
  refine (use_audit C2.out HAU.out).mono ?_
  rintro e w3 ⟨Ba, ca, rfl, ha3⟩
  have A3 := Lib.hid ha3
  have C3 := Lib.hid (C2.out.below ha3.below)
  clear ha3 x0 x1 x2 x3 x4
  obtain ⟨x0, x1, x2, x3, x4⟩ := C3.out.wd.cells
  go_wp2_with fail
  refine (use_audit C3.out HAU.out).mono ?_
  rintro e w4 ⟨Bb, cb, rfl, hb4⟩
  have B4 := Lib.hid hb4
  have C4 := Lib.hid (C3.out.below hb4.below)
  have P4 : Hid (Plns w4 w4.heap.size Bw x.pl.n lw) := ((P2.out.keep A3.out.below).more A3.out.below.size).keep hb4.below |>.more hb4.below.size
  clear hb4 C3 x0 x1 x2 x3 x4
  obtain ⟨x0, x1, x2, x3, x4⟩ := C4.out.wd.cells
  go_wp2_with fail
  refine (use_raudit C4.out P4.out EW.out HAU.out).mono ?_
  rintro e w5 ⟨Bc, cc, rfl, hc5⟩
  have D5 := Lib.hid hc5
  have OA5 : Hid (OwnK w5 w2.heap.size 47 3 (.slice Ba t.length ca) t.length (trbsV t)) := (A3.out.own.keep B4.out.below (Nat.le_refl _)).keep hc5.below (Nat.le_refl _)
  have OB5 : Hid (OwnK w5 w3.heap.size 47 3 (.slice Bb t.length cb) t.length (trbsV t)) := B4.out.own.keep hc5.below (Nat.le_refl _)
  clear hc5 x0 x1 x2 x3 x4 C4 P4
  go_wp2_with fail
  refine (sameTrb Ba Bc t.length ca cc t _ _ w5 (own_trbs OA5.out) (own_trbs D5.out.own)).mono ?_
  rintro e w6 ⟨rfl, d6, hw6⟩
  have HW6 := Lib.hid hw6
  clear hw6
  go_wp2_with fail
  refine (sameTrb Bb Bc t.length cb cc t w5.heap.size w5.heap.size w6 (by rw [HW6.out]; exact Recs.drewN (own_trbs OB5.out) _) (by rw [HW6.out]; exact Recs.drewN (own_trbs D5.out.own) _)).mono ?_
  rintro e w7 ⟨rfl, d7, hw7⟩
  have E57 : Hid (Below w5.heap.size w5 w7) := by
    show Below _ _ _
    rw [hw7, HW6.out]
    exact below_drewN (below_drewN (Below.refl _ _) _) _
  have E27 : Hid (Below w2.heap.size w2 w7) := A3.out.below.trans ((B4.out.below.trans ((D5.out.below.trans (E57.out.mono D5.out.below.size)).mono B4.out.below.size)).mono A3.out.below.size)
  have E37 : Hid (Below w3.heap.size w3 w7) := B4.out.below.trans ((D5.out.below.trans (E57.out.mono D5.out.below.size)).mono B4.out.below.size)
  have OB7 := Lib.hid (OB5.out.keep E57.out (Nat.le_refl _))
  have OD7 := Lib.hid (D5.out.own.keep E57.out (Nat.le_refl _))
  have hsz : w3.heap.size ≤ w4.heap.size := B4.out.below.size
  have T0 : Hid (Turns w7 w2.heap.size w3.heap.size Ba t.length 3 47 w7) := Turns.start A3.out.own E37.out
  have htm : t.length ≤ maxLen := A3.out.own.2
  unfold maxLen at htm
  clear hw7 HW6 OA5 OB5 D5 E57 E37
  go_wp2_with fail
  go_loopw [10] (fun iv wr => ∃ k : Nat, k ≤ t.length ∧ iv = .int .i64 k ∧ Hid (Turns w7 w2.heap.size w3.heap.size Ba t.length 3 47 wr)) (fun iv _ => t.length - (intOf iv).toNat)
  case atStart => exact ⟨0, Nat.zero_le _, rfl, T0⟩
  case round =>
    clear T0
    obtain ⟨k, hk, rfl, HT⟩ := hrel
    by_cases hlt : k < t.length
    · obtain ⟨g, rfl, hg1, hg2, hall⟩ := HT.out.at_ hlt
      obtain ⟨⟨y0, x0⟩, z0⟩ := hall 0 (by omega)
      obtain ⟨⟨y1, x1⟩, z1⟩ := hall 1 (by omega)
      obtain ⟨⟨y2, x2⟩, z2⟩ := hall 2 (by omega)
      simp only [Nat.add_zero] at x0 z0
      have HG := Lib.hid (And.intro hg1 hg2)
      have hneg : IntKind.i64.wrap (-(k : Int)) = -(k : Int) := IntWalk.i64_in _ (by omega)
      clear hall hg1 hg2
      go_wp2_with fail
      go_roundw
      case rel => exact ⟨k + 1, by omega, by go_num, ((HT.out.set HG.out.1 HG.out.2 _ _).set HG.out.1 HG.out.2 _ _).set HG.out.1 HG.out.2 _ _⟩
      case measure => simp [intOf]; omega
    · have E2 : Hid (Below w2.heap.size w2 wr) := E27.out.trans HT.out.below
      have CZ := Lib.hid (C2.out.below E2.out)
      have PZ : Hid (Plns wr wr.heap.size Bw x.pl.n lw) := (P2.out.keep E2.out).more E2.out.size
      have VB := Lib.hid (own_trbs (HT.out.own OB7.out (Nat.le_refl _)))
      have VC := Lib.hid (own_trbs (HT.out.own OD7.out hsz))
      clear HT OB7 OD7 E27 C2 P2
      go_wp2_with fail
      refine (sameTrb Bb Bc t.length cb cc t _ _ wr VB.out VC.out).mono ?_
      rintro e wa ⟨rfl, da, hwa⟩
      have Ea : Hid (Below wr.heap.size wr wa) := drewN_below hwa
      have CA := Lib.hid (CZ.out.below Ea.out)
      have PA : Hid (Plns wa wa.heap.size Bw x.pl.n lw) := (PZ.out.keep Ea.out).more Ea.out.size
      clear hwa CZ PZ Ea
      obtain ⟨x0, x1, x2, x3, x4⟩ := CA.out.wd.cells
      go_wp2_with fail
      refine (use_routes (c := x.pl.c) (c' := kw) CA.out.plns PA.out EW.out.symm).mono ?_
      rintro e wb ⟨rfl, hbb⟩
      have CB := Lib.hid (CA.out.below hbb)
      clear hbb CA PA x0 x1 x2 x3 x4
      go_wp2_with fail
      refine (runs_any _).mono ?_
      rintro e wd ⟨rfl, hbd⟩
      have CD := Lib.hid (CB.out.below hbd)
      clear hbd CB
      go_wp2_with fail
      go_ret
      exact ⟨rfl, CD.out.old⟩
theorem auditTells_w (x : Wd) (W : World) (h : ∃ ts ds os ps, Frames.WdOk W x ts ds os ∧ Frames.PlnOk W x.pl.a x.pl.n x.pl.c ps) : Calls Try.prog 4 #[wdV x] W fun e w' => e = .returned (.bool true) ∧ Below W.heap.size W w' := by
  obtain ⟨ts, ds, os, ps, h1, h2⟩ := h
  exact auditTells_walk x ts ds os ps W h1.ts h1.ds h1.os h2.plns (by have := h2.le; have := h2.few; omega)
#print axioms auditTells_w
end Go.Proofs.Ytjklpdeeohhhnaa.Audit
