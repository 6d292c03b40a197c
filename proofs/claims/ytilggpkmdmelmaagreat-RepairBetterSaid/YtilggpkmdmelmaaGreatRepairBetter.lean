import Derived.Test.YtilggpkmdmelmaaGreatRepairDs
import Derived.Test.YtilggpkmdmelmaaGreatRepairAs
import Derived.Test.YtilggpkmdmelmaaGreatKeepSmall
import Derived.Test.YtilggpkmdmelmaaGreatFrameWorldP
import Derived.Test.YtilggpkmdmelmaaGreatRegions
import Derived.Test.YtilggpkmdmelmaaGreatAuditKs
import Derived.Test.YtilggpkmdmelmaaGreatPlanOrds
import Derived.Test.YtilggpkmdmelmaaGreatPlanKs
import Derived.Test.YtilggpkmdmelmaaGreatBooks
namespace Go.Proofs.YtilggpkmdmelmaaGreat.RepairW
open Go.ChangeShapes Go.WideShapes Go.ChangeAt Go.RowKit Go.Proofs.YtilggpkmdmelmaaGreat.Mem Go.Proofs.YtilggpkmdmelmaaGreat.MemI Go.Proofs.YtilggpkmdmelmaaGreat.GeoMath Go.Proofs.YtilggpkmdmelmaaGreat.FleetMath Go.Proofs.YtilggpkmdmelmaaGreat.PlanMath Go.Proofs.YtilggpkmdmelmaaGreat.CertMath Go.Proofs.YtilggpkmdmelmaaGreat.AuditMath Go.Proofs.YtilggpkmdmelmaaGreat.InsertMath Go.Proofs.YtilggpkmdmelmaaGreat.RepairMath Go.Proofs.YtilggpkmdmelmaaGreat.Rec Go.Proofs.YtilggpkmdmelmaaGreat.Geo Go.Proofs.YtilggpkmdmelmaaGreat.Span Go.Proofs.YtilggpkmdmelmaaGreat.Deal Go.Proofs.YtilggpkmdmelmaaGreat.Keep Go.Proofs.YtilggpkmdmelmaaGreat.Route Go.Proofs.YtilggpkmdmelmaaGreat.Plan Go.Proofs.YtilggpkmdmelmaaGreat.Cert Go.Proofs.YtilggpkmdmelmaaGreat.Audit
set_option linter.unusedVariables false
set_option linter.unusedSimpArgs false
theorem all_few2 {l : List Rte} (h : ∀ r ∈ l, r.stops.length ≤ 80) : (allS l).length ≤ l.length * 80 := by
  induction l with
  | nil => simp [allS]
  | cons x r ih =>
    have e : allS (x :: r) = x.stops ++ allS r := by simp [allS]
    have h1 := h x (by simp)
    have h2 := ih fun q hq => h q (by simp [hq])
    rw [e, List.length_append, List.length_cons]
    omega
theorem right_all2 {l : List Rte} (h : rightP l = true) : (allS l).length * 8 ≤ 140737488351232 := by
  have h1 := all_few2 (l := l) fun r hr => boundR_len (rightP_bound h hr)
  have h2 := rightP_few h
  omega
theorem rb_drew {w u' : World} (hb : Below w.drew.heap.size w.drew u') : Below w.heap.size w u' := (Below.refl w.heap.size w).drew.trans hb
theorem rb_drewN {w w' : World} {d : Nat} (h : w' = w.drewN d) : Below w.heap.size w w' := by rw [h]; exact below_drewN (Below.refl _ _) _
theorem rb_ints {w : World} {A : Option Addr} {n : Nat} {xs : List Int} (h : Recs w w.heap.size A n 1 (intsV xs)) : Ints w w.heap.size A n xs := ⟨by have := h.1; omega, h.2.1, fun hn => h.2.2 (by omega)⟩
theorem rb_flt {u : World} {g k : Nat} (h : Blk u g 63 [.int .i64 (k : Int), .int .i64 0]) : (Instr.loadAt 63 (.pointer (some ⟨g, 0, none⟩))).run Tryz.prog u = .ok (.agg #[.int .i64 (k : Int), .int .i64 0]) u := by
  have h0 := Blk.cell (i := 0) h rfl
  have h1 := Blk.cell (i := 1) h rfl
  simp [go_sem, h0, h1]
section
variable {o : Oper} {a : Act} {u : World} {x y : Operand}
theorem ex_not {b r : Bool} (h : o.op = .unOp .not 4 x) (hp : a.eval x = .bool b) (hr : (!b) = r) : (execOp a.eval o).run Tryz.prog u = .ok (.value (.bool r)) u := by
  obtain ⟨ρ, hρ⟩ : ∃ ρ, a.eval = ρ := ⟨_, rfl⟩
  rw [hρ] at hp ⊢
  unfold execOp
  rw [h, ← hr]
  simp [go_sem, hp]
theorem ex_or {b c r : Bool} (h : o.op = .pick x (.const (.bool true)) y) (hp : a.eval x = .bool b) (hy : a.eval y = .bool c) (hr : (b || c) = r) : (execOp a.eval o).run Tryz.prog u = .ok (.value (.bool r)) u := by
  have hc : a.eval (.const (.bool true)) = .bool true := rfl
  obtain ⟨ρ, hρ⟩ : ∃ ρ, a.eval = ρ := ⟨_, rfl⟩
  rw [hρ] at hp hy hc ⊢
  unfold execOp
  rw [h, ← hr]
  cases b <;> simp [go_sem, hp, hy, hc]
theorem ex_lss {p q : Int} {T : TypeId} {r : Bool} (h : o.op = .binOp .lss 3 x y T) (hp : a.eval x = .int .i64 p) (hq : a.eval y = .int .i64 q) (hr : decide (p < q) = r) : (execOp a.eval o).run Tryz.prog u = .ok (.value (.bool r)) u := by
  obtain ⟨ρ, hρ⟩ : ∃ ρ, a.eval = ρ := ⟨_, rfl⟩
  rw [hρ] at hp hq ⊢
  unfold execOp
  rw [h, ← hr]
  simp [go_sem, hp, hq]
theorem ex_gtr {p q : Int} {T : TypeId} {r : Bool} (h : o.op = .binOp .gtr 3 x y T) (hp : a.eval x = .int .i64 p) (hq : a.eval y = .int .i64 q) (hr : decide (q < p) = r) : (execOp a.eval o).run Tryz.prog u = .ok (.value (.bool r)) u := by
  obtain ⟨ρ, hρ⟩ : ∃ ρ, a.eval = ρ := ⟨_, rfl⟩
  rw [hρ] at hp hq ⊢
  unfold execOp
  rw [h, ← hr]
  simp [go_sem, hp, hq]
end
theorem pass_told {w w' : World} {R : Option (List Rte × Nat)} {e : Ending} (h : PassOk w R e w') : ∃ B n c k z, e = .returned (.tuple #[.slice B n c, .int .i64 k, .int .i64 z]) ∧ Below w.heap.size w w' := by
  cases R with
  | none => exact ⟨_, _, _, _, _, h.1, h.2⟩
  | some R => obtain ⟨B, c, l, h1, h2, _⟩ := h; exact ⟨_, _, _, _, _, h1, h2⟩
theorem pass_no {m : Option Mp} {ds : List Drv} {os : List FleetMath.Ord} {p : List Rte} {b : Int} (h : passM m ds os p b = none) : totalM m ds os p = none ∨ ∃ t, totalM m ds os p = some t ∧ (b < 0 ∨ 0 ≤ b ∧ 100000 < b) := by
  unfold passM at h
  split at h
  · exact .inl ‹_›
  · rename_i t ht
    split at h
    · exact .inr ⟨t, ht, by omega⟩
    · cases h
theorem repair_no {m : Option Mp} {ds : List Drv} {os : List FleetMath.Ord} {p : List Rte} {b : Int} (h : repairM m ds os p b = none) : totalM m ds os p = none ∨ ∃ t, totalM m ds os p = some t ∧ (b < 0 ∨ 0 ≤ b ∧ 100000 < b) := by
  unfold repairM at h
  split at h
  · exact .inl ‹_›
  · rename_i t ht
    split at h
    · exact .inr ⟨t, ht, by omega⟩
    · cases h
section
variable {W u u' : World} {q r : Option Addr} {m : Option Mp} {x : Wd} {ds : List Drv} {os : List FleetMath.Ord} {ps : List RM}
theorem rb_none (h : CR W q r m x ds os ps u) (hT : totalM m ds os (ps.map (·.rt)) = none) :
    Calls Tryz.prog 9 #[.pointer q, x.ds.v, x.os.v, x.pl.v] u fun en u' => en = .returned (.tuple #[.int .i64 0, .bool false]) ∧ Below u.heap.size u u' :=
  use_total h hT
theorem rb_some {B : Option Addr} {n c : Nat} {l : List RM} {p : List Rte} {t : Int} (h : CR W q r m x ds os ps u) (hl : Plns u u.heap.size B n l) (he : l.map (·.rt) = p) (hT : totalM m ds os p = some t) :
    Calls Tryz.prog 9 #[.pointer q, x.ds.v, x.os.v, .slice B n c] u fun en u' => en = .returned (.tuple #[.int .i64 t, .bool true]) ∧ Below u.heap.size u u' := by
  have := ptotal_any W.heap.size (.pointer q) m x.ds.a x.ds.n x.ds.c ds x.os.a x.os.n x.os.c os B n c l u x.ds.h x.os.h h.map h.drvs h.ords hl
  rw [he, hT] at this
  exact this
theorem rb_make {B : Option Addr} {n c : Nat} {l : List RM} {p : List Rte} (h : CR W q r m x ds os ps u) (hl : Plns u u.heap.size B n l) (he : l.map (·.rt) = p) {cs : List (List Vis)} {k : Nat} {e : Int} (hr : makeC m ds os p = (cs, k, e)) :
    Calls Tryz.prog 17 #[.pointer q, x.ds.v, x.os.v, .slice B n c] u fun en u' => ∃ B n c, en = .returned (.tuple #[.slice B n c, faultV k e]) ∧ Below u.heap.size u u' := by
  refine (pmake_any W.heap.size _ m _ _ _ ds _ _ _ os _ _ _ l u x.ds.h x.os.h h.map h.drvs h.ords hl).mono ?_
  rintro en u' ⟨v, l', rfl, hm⟩
  rw [he, hr] at hm
  rw [he, hr]
  obtain ⟨B, c, rfl⟩ := hm.new.own.slice
  exact ⟨B, _, c, rfl, hm.new.old⟩
end
set_option maxRecDepth 100000 in
set_option maxHeartbeats 16000000 in
theorem repairBetterF_walk (x : Wd) (b : Int) (ts : List Int) (ds : List Drv) (os : List FleetMath.Ord) (ps : List RM) (W : World) (hts : Ints W W.heap.size x.ts.a x.ts.n ts) (hds : Drvs W W.heap.size x.ds.a x.ds.n ds) (hos : Ords W W.heap.size x.os.a x.os.n os) (hps : Plns W W.heap.size x.pl.a x.pl.n ps) (hpc : x.pl.n ≤ x.pl.c) (hn80 : x.os.n * 80 ≤ 140737488351232) :
    Calls Tryz.prog 5 #[wdV x, .int .i64 b, .bool false] W fun e w' => e = .returned (.bool true) ∧ Below W.heap.size W w' := by
  have HTS := Lib.hid hts
  have HDS := Lib.hid hds
  have HOS := Lib.hid hos
  have HPS := Lib.hid hps
  clear hts hds hos hps
  obtain ⟨m, hm⟩ : ∃ m, mapOf x.n ts = m := ⟨_, rfl⟩
  have HM := Lib.hid hm
  clear hm
  have HB0 : Hid (Below W.heap.size W (W.alloc (.cells #[.int .i64 x.n, x.ts.v, x.ds.v, x.os.v, x.pl.v] 54))) := (Below.refl _ _).alloc (Nat.le_refl _) _
  have HW0 := Lib.hid (WBox.new W x)
  go_enter Tryz.func5, Tryz.ntmps5
  go_wp2_with fail
  refine (kmaps_any x ts _ (by exact Reads.more (Reads.keep HTS.out HB0.out) HB0.out.size)).mono ?_
  intro e w1 hmo
  obtain ⟨qq, r, rfl, hcr⟩ := CR.start (n0 := 0) HB0.out HW0.out HDS.out HOS.out HPS.out HM.out hmo
  have C1 := Lib.hid hcr
  clear hmo hcr HB0 HW0
  obtain ⟨x0, x1, x2, x3, x4⟩ := C1.out.wd.cells
  go_wp2_with fail
  refine (ksmall_any x ps _ (by exact C1.out.plns)).mono ?_
  rintro e w2 ⟨he, hb2⟩
  have C2 := Lib.hid (C1.out.below hb2)
  clear hb2 C1 x0 x1 x2 x3 x4
  rcases he with rfl | rfl
  case inl =>
    go_wp2_with fail
    refine (truns_any _).mono ?_
    rintro e wd ⟨rfl, hbd⟩
    have CD := Lib.hid (C2.out.below hbd)
    clear hbd
    go_wp2_with fail
    go_ret
    exact ⟨by first | rfl | (simp; done), CD.out.old⟩
  obtain ⟨x0, x1, x2, x3, x4⟩ := C2.out.wd.cells
  obtain ⟨R, hR⟩ : ∃ z, passM m ds os (ps.map (·.rt)) b = z := ⟨_, rfl⟩
  have HR := Lib.hid hR
  clear hR
  go_wp2_with fail
  refine (use_pass C2.out C2.out.plns rfl hn80 hpc HR.out).mono ?_
  intro e w3 hro
  cases R with
  | none =>
    obtain ⟨rfl, hb3⟩ := hro
    have C3 := Lib.hid (C2.out.below hb3)
    clear hb3 C2 x0 x1 x2 x3 x4
    obtain ⟨x0, x1, x2, x3, x4⟩ := C3.out.wd.cells
    rcases pass_no HR.out with hT | ⟨t, hT, hbb⟩
    · have HT := Lib.hid hT
      clear hT
      go_wp2_with fail
      refine (rb_none C3.out HT.out).mono ?_
      rintro e w4 ⟨rfl, hb4⟩
      have C4 := Lib.hid (C3.out.below hb4)
      clear hb4 C3 x0 x1 x2 x3 x4
      go_wp2_with fail
      refine (truns_any _).mono ?_
      rintro e wd ⟨rfl, hbd⟩
      have CD := Lib.hid (C4.out.below hbd)
      clear hbd
      go_wp2_with fail
      go_ret
      exact ⟨by first | rfl | (simp; done), CD.out.old⟩
    · have HT := Lib.hid hT
      clear hT
      go_wp2_with fail
      refine (rb_some C3.out C3.out.plns rfl HT.out).mono ?_
      rintro e w4 ⟨rfl, hb4⟩
      have C4 := Lib.hid (C3.out.below hb4)
      clear hb4 C3 x0 x1 x2 x3 x4
      rcases hbb with hbb | ⟨hbb, hbc⟩
      · go_wp2_with fail
        refine (truns_any _).mono ?_
        rintro e wd ⟨rfl, hbd⟩
        have CD := Lib.hid (C4.out.below hbd)
        clear hbd
        go_wp2_with fail
        go_ret
        exact ⟨by first | rfl | (simp; done), CD.out.old⟩
      · have hbb' : ¬ b < 0 := by omega
        go_wp2_with fail
        refine (truns_any _).mono ?_
        rintro e wd ⟨rfl, hbd⟩
        have CD := Lib.hid (C4.out.below hbd)
        clear hbd
        go_wp2_with fail
        go_ret
        exact ⟨by first | rfl | (simp; done), CD.out.old⟩
  | some R =>
  obtain ⟨q, n⟩ := R
  obtain ⟨B, c, l, rfl, hb3, hpl, hle, hcc⟩ := hro
  obtain ⟨hb0, hbm, hnb, t, u', hT, hU, hut, hiff, hkp, hord⟩ := pass_law HR.out
  have C3 := Lib.hid (C2.out.below hb3)
  have P3 := Lib.hid hpl
  have HLE := Lib.hid hle
  have HT := Lib.hid hT
  have HU := Lib.hid hU
  have HIFF := Lib.hid hiff
  have HKP : Hid (keptP (ps.map (·.rt)) (l.map (·.rt)) = true) := by show _ = _; rw [hle]; exact hkp
  obtain ⟨fo, hfo⟩ : ∃ f, ordersM (ps.map (·.rt)) = f := ⟨_, rfl⟩
  have HFO := Lib.hid hfo
  have HORD : Hid (ordersM q = fo) := hord.trans hfo
  have HRQ := Lib.hid (total_right hU)
  have HRP := Lib.hid (total_right hT)
  have HN0 : Hid (decide ((n : Int) < 0) = false) := by show _ = _; rw [decide_eq_false_iff_not]; omega
  have HNB : Hid (decide (b < (n : Int)) = false) := by show _ = _; rw [decide_eq_false_iff_not]; omega
  obtain ⟨⟨cs, fk, fe⟩, hmk⟩ : ∃ z, makeC m ds os q = z := ⟨_, rfl⟩
  have hfe : fe = 0 := by have := (totalM_some hU).1; rw [hmk] at this; exact this
  subst hfe
  have HMK := Lib.hid hmk
  clear hpl hle hT hU hiff hkp hord hfo hnb hb0 hbm hmk hb3 C2 x0 x1 x2 x3 x4
  obtain ⟨x0, x1, x2, x3, x4⟩ := C3.out.wd.cells
  go_wp2_with fail
  refine (rb_some C3.out C3.out.plns rfl HT.out).mono ?_
  rintro e w4 ⟨rfl, hb4⟩
  have C4 := Lib.hid (C3.out.below hb4)
  have P4 : Hid (Plns w4 w4.heap.size B q.length l) := (P3.out.keep hb4).more hb4.size
  clear hb4 C3 P3 x0 x1 x2 x3 x4
  obtain ⟨x0, x1, x2, x3, x4⟩ := C4.out.wd.cells
  go_wp2_with fail
  refine (rb_some C4.out P4.out HLE.out HU.out).mono ?_
  rintro e w5 ⟨rfl, hb5⟩
  have C5 := Lib.hid (C4.out.below hb5)
  have P5 : Hid (Plns w5 w5.heap.size B q.length l) := (P4.out.keep hb5).more hb5.size
  clear hb5 C4 P4 x0 x1 x2 x3 x4
  obtain ⟨x0, x1, x2, x3, x4⟩ := C5.out.wd.cells
  go_wp2_with fail
  refine (rb_make C5.out P5.out HLE.out HMK.out).mono ?_
  rintro e w6 ⟨Ba, na, ca', rfl, hb6⟩
  have hb6' : Below w5.heap.size w5 (w6.alloc (.cells #[.int .i64 (fk : Int), .int .i64 0] 63)) := hb6.trans (((Below.refl w6.heap.size w6).alloc (Nat.le_refl _) _).mono hb6.size)
  have C7 := Lib.hid (C5.out.below hb6')
  have P7 := Lib.hid ((P5.out.keep hb6').more hb6'.size)
  have F7 : Hid (Blk (w6.alloc (.cells #[.int .i64 (fk : Int), .int .i64 0] 63)) w6.heap.size 63 [.int .i64 (fk : Int), .int .i64 0]) := Blk.new w6 _ _
  clear hb6 hb6' C5 P5 x0 x1 x2 x3 x4
  go_upto_region 12 with fail
  obtain ⟨g7, hg7⟩ : ∃ g, w6.heap.size = g := ⟨_, rfl⟩
  obtain ⟨w7, hw7⟩ : ∃ u, (w6.alloc (.cells #[.int .i64 (fk : Int), .int .i64 0] 63)) = u := ⟨_, rfl⟩
  rw [hg7, hw7] at F7
  rw [hw7] at C7 P7
  (try rw [hg7, hw7])
  clear hg7 hw7
  have HC : Hid (∀ u, Below w7.heap.size w7 u → CR W qq r m x ds os ps u) := fun u hu => C7.out.below hu
  have HP : Hid (∀ u, Below w7.heap.size w7 u → Plns u u.heap.size B q.length l) := fun u hu => (P7.out.keep hu).more hu.size
  refine wp_region_steps (mixRF 0 [123, 124, 125, 126, 127, 128, 129, 130, 131, 132, 133, 134, 135, 136, 137, 138, 139, 140, 141, 142, 143, 144, 145, 146, 147, 148, 149, 150, 151, 152, 153, 154, 155, 156, 157, 158] [.bool true, .bool false, .bool false, .bool true, .bool false, .bool false, .bool false, .agg #[.int .i64 (fk : Int), .int .i64 0], .bool true, .bool false, .bool false, .bool false, .pointer (some ⟨W.heap.size, 4, none⟩), .slice x.pl.a x.pl.n x.pl.c, .slice B q.length c, .bool true, .bool false, .bool false, .bool false, .slice B q.length c, undef, .pointer (some ⟨W.heap.size, 4, none⟩), .slice x.pl.a x.pl.n x.pl.c, undef, .bool true, .bool false, .bool false, .bool false, .int .i64 (n : Int), .bool false, .bool false, .bool false, .int .i64 (n : Int), .int .i64 b, .bool false, .bool false] [⟨20, 1, 3, fo.length, intsV fo⟩, ⟨23, 1, 3, fo.length, intsV fo⟩] []) (by kernel_rfl) (by kernel_rfl) (by kernel_rfl) (fun _ _ => rfl) (by kernel_rfl) mixRF.mon ?_ ?_
  · refine ⟨?_, ?_, ?_, ?_, ?_, ?_, ?_, ?_, ?_, ?_, ?_, ?_, ?_, ?_, ?_, ?_, ?_, ?_, ?_, ?_, ?_, ?_, ?_, ?_, ?_, ?_, ?_, ?_, ?_, ?_, ?_, ?_, ?_, ?_, ?_, ?_, trivial⟩
    · exact mixRF.pureStep rfl 123 rfl rfl (by simp) (by kernel_rfl) _ rfl fun listed a u D hI hr hn => exec_move (.inl rfl) (hI.out 14 (by kernel_rfl))
    · exact mixRF.pureStep rfl 124 rfl rfl (by simp) (by kernel_rfl) _ rfl fun listed a u D hI hr hn => ex_not rfl (mixRF.val hI hr hn 0 (by kernel_rfl) (by kernel_rfl) rfl rfl) rfl
    · exact mixRF.pureStep rfl 125 rfl rfl (by simp) (by kernel_rfl) _ rfl fun listed a u D hI hr hn => exec_move (.inl rfl) (mixRF.val hI hr hn 1 (by kernel_rfl) (by kernel_rfl) rfl rfl)
    · exact mixRF.pureG 126 rfl rfl (by simp) (by kernel_rfl) _ rfl fun listed a u D hI hr hn => ⟨guard_yes (t := 125) rfl (by kernel_rfl) (mixRF.val hI hr hn 2 (by kernel_rfl) (by kernel_rfl) rfl rfl), exec_move (.inl rfl) (hI.out 16 (by kernel_rfl))⟩
    · exact mixRF.pureG 127 rfl rfl (by simp) (by kernel_rfl) _ rfl fun listed a u D hI hr hn => ⟨guard_yes (t := 125) rfl (by kernel_rfl) (mixRF.val hI hr hn 2 (by kernel_rfl) (by kernel_rfl) rfl rfl), ex_not rfl (mixRF.val hI hr hn 3 (by kernel_rfl) (by kernel_rfl) rfl rfl) rfl⟩
    · exact mixRF.pureStep rfl 128 rfl rfl (by simp) (by kernel_rfl) _ rfl fun listed a u D hI hr hn => ex_or rfl (mixRF.val hI hr hn 2 (by kernel_rfl) (by kernel_rfl) rfl rfl) (mixRF.val hI hr hn 4 (by kernel_rfl) (by kernel_rfl) rfl rfl) rfl
    · exact mixRF.pureStep rfl 129 rfl rfl (by simp) (by kernel_rfl) _ rfl fun listed a u D hI hr hn => exec_move (.inl rfl) (mixRF.val hI hr hn 5 (by kernel_rfl) (by kernel_rfl) rfl rfl)
    · exact mixRF.pureG 130 rfl rfl (by simp) (by kernel_rfl) _ rfl fun listed a u D hI hr hn => ⟨guard_yes (t := 129) rfl (by kernel_rfl) (mixRF.val hI hr hn 6 (by kernel_rfl) (by kernel_rfl) rfl rfl), exec_load rfl (hI.out 18 (by kernel_rfl)) (rb_flt (Blk.below F7.out (rb_drew hI.old) (Blk.lt F7.out)))⟩
    · exact mixRF.callVG 131 rfl rfl (by simp) (by kernel_rfl) _ rfl fun listed a u D hI hr hn => ⟨guard_yes (t := 129) rfl (by kernel_rfl) (mixRF.val hI hr hn 6 (by kernel_rfl) (by kernel_rfl) rfl rfl), _, _, op_call1 rfl (mixRF.val hI hr hn 7 (by kernel_rfl) (by kernel_rfl) rfl rfl) (by simp [go_sem]), pgood_v fk 0 true u rfl⟩
    · exact mixRF.pureG 132 rfl rfl (by simp) (by kernel_rfl) _ rfl fun listed a u D hI hr hn => ⟨guard_yes (t := 129) rfl (by kernel_rfl) (mixRF.val hI hr hn 6 (by kernel_rfl) (by kernel_rfl) rfl rfl), ex_not rfl (mixRF.val hI hr hn 8 (by kernel_rfl) (by kernel_rfl) rfl rfl) rfl⟩
    · exact mixRF.pureStep rfl 133 rfl rfl (by simp) (by kernel_rfl) _ rfl fun listed a u D hI hr hn => ex_or rfl (mixRF.val hI hr hn 6 (by kernel_rfl) (by kernel_rfl) rfl rfl) (mixRF.val hI hr hn 9 (by kernel_rfl) (by kernel_rfl) rfl rfl) rfl
    · exact mixRF.pureStep rfl 134 rfl rfl (by simp) (by kernel_rfl) _ rfl fun listed a u D hI hr hn => exec_move (.inl rfl) (mixRF.val hI hr hn 10 (by kernel_rfl) (by kernel_rfl) rfl rfl)
    · exact mixRF.pureG 135 rfl rfl (by simp) (by kernel_rfl) _ rfl fun listed a u D hI hr hn => ⟨guard_yes (t := 134) rfl (by kernel_rfl) (mixRF.val hI hr hn 11 (by kernel_rfl) (by kernel_rfl) rfl rfl), op_field rfl (hI.out 3 (by kernel_rfl)) (by simp [go_sem])⟩
    · exact mixRF.pureG 136 rfl rfl (by simp) (by kernel_rfl) _ rfl fun listed a u D hI hr hn => ⟨guard_yes (t := 134) rfl (by kernel_rfl) (mixRF.val hI hr hn 11 (by kernel_rfl) (by kernel_rfl) rfl rfl), exec_load rfl (mixRF.val hI hr hn 12 (by kernel_rfl) (by kernel_rfl) rfl rfl) (run_load_sl _ (.inr (.inr rfl)) (HC.out _ (rb_drew hI.old)).wd.cells.2.2.2.2)⟩
    · exact mixRF.pureG 137 rfl rfl (by simp) (by kernel_rfl) _ rfl fun listed a u D hI hr hn => ⟨guard_yes (t := 134) rfl (by kernel_rfl) (mixRF.val hI hr hn 11 (by kernel_rfl) (by kernel_rfl) rfl rfl), exec_move (.inl rfl) (hI.out 10 (by kernel_rfl))⟩
    · exact mixRF.callVG 138 rfl rfl (by simp) (by kernel_rfl) _ rfl fun listed a u D hI hr hn => ⟨guard_yes (t := 134) rfl (by kernel_rfl) (mixRF.val hI hr hn 11 (by kernel_rfl) (by kernel_rfl) rfl rfl), _, _, op_call2 rfl (mixRF.val hI hr hn 13 (by kernel_rfl) (by kernel_rfl) rfl rfl) (mixRF.val hI hr hn 14 (by kernel_rfl) (by kernel_rfl) rfl rfl) (by simp [go_sem]), pkept_any _ _ _ ps _ _ _ l true u hpc hcc (HC.out _ (rb_drew hI.old)).plns (HP.out _ (rb_drew hI.old)) HKP.out⟩
    · exact mixRF.pureG 139 rfl rfl (by simp) (by kernel_rfl) _ rfl fun listed a u D hI hr hn => ⟨guard_yes (t := 134) rfl (by kernel_rfl) (mixRF.val hI hr hn 11 (by kernel_rfl) (by kernel_rfl) rfl rfl), ex_not rfl (mixRF.val hI hr hn 15 (by kernel_rfl) (by kernel_rfl) rfl rfl) rfl⟩
    · exact mixRF.pureStep rfl 140 rfl rfl (by simp) (by kernel_rfl) _ rfl fun listed a u D hI hr hn => ex_or rfl (mixRF.val hI hr hn 11 (by kernel_rfl) (by kernel_rfl) rfl rfl) (mixRF.val hI hr hn 16 (by kernel_rfl) (by kernel_rfl) rfl rfl) rfl
    · exact mixRF.pureStep rfl 141 rfl rfl (by simp) (by kernel_rfl) _ rfl fun listed a u D hI hr hn => exec_move (.inl rfl) (mixRF.val hI hr hn 17 (by kernel_rfl) (by kernel_rfl) rfl rfl)
    · exact mixRF.pureG 142 rfl rfl (by simp) (by kernel_rfl) _ rfl fun listed a u D hI hr hn => ⟨guard_yes (t := 141) rfl (by kernel_rfl) (mixRF.val hI hr hn 18 (by kernel_rfl) (by kernel_rfl) rfl rfl), exec_move (.inl rfl) (hI.out 10 (by kernel_rfl))⟩
    · refine mixRF.callRowG (x := ⟨20, 1, 3, fo.length, intsV fo⟩) 143 rfl rfl (by simp) (by kernel_rfl) (by kernel_rfl) (by kernel_rfl) (Nat.zero_le _) fun listed a u D hI hr hn => ?_
      refine ⟨guard_yes (t := 141) rfl (by kernel_rfl) (mixRF.val hI hr hn 18 (by kernel_rfl) (by kernel_rfl) rfl rfl), _, _, op_call1 rfl (mixRF.val hI hr hn 19 (by kernel_rfl) (by kernel_rfl) rfl rfl) (by simp [go_sem]), ?_⟩
      refine (porders_any _ _ _ _ u (HP.out _ (rb_drew hI.old)) (by rw [HLE.out]; exact right_all2 HRQ.out)).mono ?_
      rintro en u' ⟨v, rfl, hns⟩
      refine ⟨v, rfl, hns.old, ?_⟩
      have ho := hns.own
      rw [HLE.out, HORD.out] at ho
      exact ho
    · exact mixRF.pureG 144 rfl rfl (by simp) (by kernel_rfl) _ rfl fun listed a u D hI hr hn => ⟨guard_yes (t := 141) rfl (by kernel_rfl) (mixRF.val hI hr hn 18 (by kernel_rfl) (by kernel_rfl) rfl rfl), op_field rfl (hI.out 3 (by kernel_rfl)) (by simp [go_sem])⟩
    · exact mixRF.pureG 145 rfl rfl (by simp) (by kernel_rfl) _ rfl fun listed a u D hI hr hn => ⟨guard_yes (t := 141) rfl (by kernel_rfl) (mixRF.val hI hr hn 18 (by kernel_rfl) (by kernel_rfl) rfl rfl), exec_load rfl (mixRF.val hI hr hn 21 (by kernel_rfl) (by kernel_rfl) rfl rfl) (run_load_sl _ (.inr (.inr rfl)) (HC.out _ (rb_drew hI.old)).wd.cells.2.2.2.2)⟩
    · refine mixRF.callRowG (x := ⟨23, 1, 3, fo.length, intsV fo⟩) 146 rfl rfl (by simp) (by kernel_rfl) (by kernel_rfl) (by kernel_rfl) (Nat.zero_le _) fun listed a u D hI hr hn => ?_
      refine ⟨guard_yes (t := 141) rfl (by kernel_rfl) (mixRF.val hI hr hn 18 (by kernel_rfl) (by kernel_rfl) rfl rfl), _, _, op_call1 rfl (mixRF.val hI hr hn 22 (by kernel_rfl) (by kernel_rfl) rfl rfl) (by simp [go_sem]), ?_⟩
      refine (porders_any _ _ _ _ u (HC.out _ (rb_drew hI.old)).plns (right_all2 HRP.out)).mono ?_
      rintro en u' ⟨v, rfl, hns⟩
      refine ⟨v, rfl, hns.old, ?_⟩
      have ho := hns.own
      rw [HFO.out] at ho
      exact ho
    · refine mixRF.callVG 147 rfl rfl (by simp) (by kernel_rfl) _ rfl fun listed a u D hI hr hn => ?_
      obtain ⟨A8, c8, e8, _, hr8⟩ := mixRF.row (x := ⟨20, 1, 3, fo.length, intsV fo⟩) hI hr hn 20 (by kernel_rfl) (by kernel_rfl) (by kernel_rfl) (by kernel_rfl) (s := 143) rfl
      obtain ⟨A9, c9, e9, _, hr9⟩ := mixRF.row (x := ⟨23, 1, 3, fo.length, intsV fo⟩) hI hr hn 23 (by kernel_rfl) (by kernel_rfl) (by kernel_rfl) (by kernel_rfl) (s := 146) rfl
      exact ⟨guard_yes (t := 141) rfl (by kernel_rfl) (mixRF.val hI hr hn 18 (by kernel_rfl) (by kernel_rfl) rfl rfl), _, _, op_call2 rfl e8 e9 (by simp [go_sem]), (same_yes A8 A9 fo.length c8 fo.length c9 fo _ _ u (rb_ints hr8) (rb_ints hr9)).mono fun en u' ⟨h1, d, h2⟩ => ⟨h1, rb_drewN h2⟩⟩
    · exact mixRF.pureG 148 rfl rfl (by simp) (by kernel_rfl) _ rfl fun listed a u D hI hr hn => ⟨guard_yes (t := 141) rfl (by kernel_rfl) (mixRF.val hI hr hn 18 (by kernel_rfl) (by kernel_rfl) rfl rfl), ex_not rfl (mixRF.val hI hr hn 24 (by kernel_rfl) (by kernel_rfl) rfl rfl) rfl⟩
    · exact mixRF.pureStep rfl 149 rfl rfl (by simp) (by kernel_rfl) _ rfl fun listed a u D hI hr hn => ex_or rfl (mixRF.val hI hr hn 18 (by kernel_rfl) (by kernel_rfl) rfl rfl) (mixRF.val hI hr hn 25 (by kernel_rfl) (by kernel_rfl) rfl rfl) rfl
    · exact mixRF.pureStep rfl 150 rfl rfl (by simp) (by kernel_rfl) _ rfl fun listed a u D hI hr hn => exec_move (.inl rfl) (mixRF.val hI hr hn 26 (by kernel_rfl) (by kernel_rfl) rfl rfl)
    · exact mixRF.pureG 151 rfl rfl (by simp) (by kernel_rfl) _ rfl fun listed a u D hI hr hn => ⟨guard_yes (t := 150) rfl (by kernel_rfl) (mixRF.val hI hr hn 27 (by kernel_rfl) (by kernel_rfl) rfl rfl), exec_move (.inl rfl) (hI.out 11 (by kernel_rfl))⟩
    · exact mixRF.pureG 152 rfl rfl (by simp) (by kernel_rfl) _ rfl fun listed a u D hI hr hn => ⟨guard_yes (t := 150) rfl (by kernel_rfl) (mixRF.val hI hr hn 27 (by kernel_rfl) (by kernel_rfl) rfl rfl), ex_lss rfl (mixRF.val hI hr hn 28 (by kernel_rfl) (by kernel_rfl) rfl rfl) rfl HN0.out⟩
    · exact mixRF.pureStep rfl 153 rfl rfl (by simp) (by kernel_rfl) _ rfl fun listed a u D hI hr hn => ex_or rfl (mixRF.val hI hr hn 27 (by kernel_rfl) (by kernel_rfl) rfl rfl) (mixRF.val hI hr hn 29 (by kernel_rfl) (by kernel_rfl) rfl rfl) rfl
    · exact mixRF.pureStep rfl 154 rfl rfl (by simp) (by kernel_rfl) _ rfl fun listed a u D hI hr hn => exec_move (.inl rfl) (mixRF.val hI hr hn 30 (by kernel_rfl) (by kernel_rfl) rfl rfl)
    · exact mixRF.pureG 155 rfl rfl (by simp) (by kernel_rfl) _ rfl fun listed a u D hI hr hn => ⟨guard_yes (t := 154) rfl (by kernel_rfl) (mixRF.val hI hr hn 31 (by kernel_rfl) (by kernel_rfl) rfl rfl), exec_move (.inl rfl) (hI.out 11 (by kernel_rfl))⟩
    · exact mixRF.pureG 156 rfl rfl (by simp) (by kernel_rfl) _ rfl fun listed a u D hI hr hn => ⟨guard_yes (t := 154) rfl (by kernel_rfl) (mixRF.val hI hr hn 31 (by kernel_rfl) (by kernel_rfl) rfl rfl), exec_move (.inl rfl) (hI.out 1 (by kernel_rfl))⟩
    · exact mixRF.pureG 157 rfl rfl (by simp) (by kernel_rfl) _ rfl fun listed a u D hI hr hn => ⟨guard_yes (t := 154) rfl (by kernel_rfl) (mixRF.val hI hr hn 31 (by kernel_rfl) (by kernel_rfl) rfl rfl), ex_gtr rfl (mixRF.val hI hr hn 32 (by kernel_rfl) (by kernel_rfl) rfl rfl) (mixRF.val hI hr hn 33 (by kernel_rfl) (by kernel_rfl) rfl rfl) HNB.out⟩
    · exact mixRF.pureStep rfl 158 rfl rfl (by simp) (by kernel_rfl) _ rfl fun listed a u D hI hr hn => ex_or rfl (mixRF.val hI hr hn 31 (by kernel_rfl) (by kernel_rfl) rfl rfl) (mixRF.val hI hr hn 34 (by kernel_rfl) (by kernel_rfl) rfl rfl) rfl
  · intro listed a v D hI hall
    have eR := mixRF.at_end hI hall 35 (by decide) (by kernel_rfl) (s := 158) (v := .bool false) rfl rfl
    have hold := rb_drew hI.old
    have hl := hI.fill [123, 124, 125, 126, 127, 128, 129, 130, 131, 132, 133, 134, 135, 136, 137, 138, 139, 140, 141, 142, 143, 144, 145, 146, 147, 148, 149, 150, 151, 152, 153, 154, 155, 156, 157, 158] (by kernel_rfl)
    clear hI hall
    obtain ⟨σ, hσ⟩ : ∃ σ : Nat → Value, ∀ t, a.tmps.getD t undef = σ t := ⟨_, fun _ => rfl⟩
    simp only [hσ] at hl eR
    clear hσ
    simp only [List.foldl_cons, List.foldl_nil, List.setIfInBounds_toArray, List.set_cons_zero, List.set_cons_succ, eR] at hl
    subst hl
    have C8 := Lib.hid (C7.out.below hold)
    have P8 := Lib.hid (HP.out _ hold)
    clear hold HC HP C7 P7 F7 eR
    obtain ⟨x0, x1, x2, x3, x4⟩ := C8.out.wd.cells
    by_cases hqp : q = ps.map (·.rt)
    · obtain rfl : u' = t := HIFF.out.2 hqp
      have HQP := Lib.hid hqp
      clear hqp
      go_wp2_with fail
      refine (routes_any _ _ _ _ _ _ l ps _ _ _ P8.out C8.out.plns true (by rw [HLE.out]; exact ⟨fun _ => HQP.out, fun _ => rfl⟩)).mono ?_
      rintro e w9 ⟨rfl, d, hd⟩
      have C9 := Lib.hid (C8.out.below (rb_drewN hd))
      clear hd C8 P8 x0 x1 x2 x3 x4
      go_wp2_with fail
      refine (truns_any _).mono ?_
      rintro e wd ⟨rfl, hbd⟩
      have CD := Lib.hid (C9.out.below hbd)
      clear hbd
      go_wp2_with fail
      go_ret
      exact ⟨by first | rfl | (simp; done), CD.out.old⟩
    · have hne : ¬ u' = t := fun e => hqp (HIFF.out.1 e)
      have HQP : Hid (¬ q = ps.map (·.rt)) := hqp
      have HNE := Lib.hid hne
      clear hqp
      go_wp2_with fail
      refine (routes_any _ _ _ _ _ _ l ps _ _ _ P8.out C8.out.plns false (by rw [HLE.out]; exact ⟨fun e => (Bool.noConfusion e), fun e => absurd e HQP.out⟩)).mono ?_
      rintro e w9 ⟨rfl, d, hd⟩
      have C9 := Lib.hid (C8.out.below (rb_drewN hd))
      clear hd C8 P8 x0 x1 x2 x3 x4
      go_wp2_with fail
      refine (truns_any _).mono ?_
      rintro e wd ⟨rfl, hbd⟩
      have CD := Lib.hid (C9.out.below hbd)
      clear hbd
      go_wp2_with fail
      go_ret
      exact ⟨by first | rfl | (simp; done) | simp [HNE.out], CD.out.old⟩
set_option maxRecDepth 100000 in
set_option maxHeartbeats 16000000 in
theorem repairBetterT_walk (x : Wd) (b : Int) (ts : List Int) (ds : List Drv) (os : List FleetMath.Ord) (ps : List RM) (W : World) (hts : Ints W W.heap.size x.ts.a x.ts.n ts) (hds : Drvs W W.heap.size x.ds.a x.ds.n ds) (hos : Ords W W.heap.size x.os.a x.os.n os) (hps : Plns W W.heap.size x.pl.a x.pl.n ps) (hpc : x.pl.n ≤ x.pl.c) (hn80 : x.os.n * 80 ≤ 140737488351232) :
    Calls Tryz.prog 5 #[wdV x, .int .i64 b, .bool true] W fun e w' => e = .returned (.bool true) ∧ Below W.heap.size W w' := by
  have HTS := Lib.hid hts
  have HDS := Lib.hid hds
  have HOS := Lib.hid hos
  have HPS := Lib.hid hps
  clear hts hds hos hps
  obtain ⟨m, hm⟩ : ∃ m, mapOf x.n ts = m := ⟨_, rfl⟩
  have HM := Lib.hid hm
  clear hm
  have HB0 : Hid (Below W.heap.size W (W.alloc (.cells #[.int .i64 x.n, x.ts.v, x.ds.v, x.os.v, x.pl.v] 54))) := (Below.refl _ _).alloc (Nat.le_refl _) _
  have HW0 := Lib.hid (WBox.new W x)
  go_enter Tryz.func5, Tryz.ntmps5
  go_wp2_with fail
  refine (kmaps_any x ts _ (by exact Reads.more (Reads.keep HTS.out HB0.out) HB0.out.size)).mono ?_
  intro e w1 hmo
  obtain ⟨qq, r, rfl, hcr⟩ := CR.start (n0 := 0) HB0.out HW0.out HDS.out HOS.out HPS.out HM.out hmo
  have C1 := Lib.hid hcr
  clear hmo hcr HB0 HW0
  obtain ⟨x0, x1, x2, x3, x4⟩ := C1.out.wd.cells
  go_wp2_with fail
  refine (ksmall_any x ps _ (by exact C1.out.plns)).mono ?_
  rintro e w2 ⟨he, hb2⟩
  have C2 := Lib.hid (C1.out.below hb2)
  clear hb2 C1 x0 x1 x2 x3 x4
  rcases he with rfl | rfl
  case inl =>
    go_wp2_with fail
    refine (truns_any _).mono ?_
    rintro e wd ⟨rfl, hbd⟩
    have CD := Lib.hid (C2.out.below hbd)
    clear hbd
    go_wp2_with fail
    go_ret
    exact ⟨by first | rfl | (simp; done), CD.out.old⟩
  obtain ⟨x0, x1, x2, x3, x4⟩ := C2.out.wd.cells
  go_wp2_with fail
  refine (use_pass C2.out C2.out.plns rfl hn80 hpc rfl).mono ?_
  intro e w2b hpo
  obtain ⟨Bx, nx, cx, kx, zx, rfl, hbx⟩ := pass_told hpo
  have C2b := Lib.hid (C2.out.below hbx)
  clear hbx hpo C2 x0 x1 x2 x3 x4
  obtain ⟨x0, x1, x2, x3, x4⟩ := C2b.out.wd.cells
  obtain ⟨R, hR⟩ : ∃ z, repairM m ds os (ps.map (·.rt)) b = z := ⟨_, rfl⟩
  have HR := Lib.hid hR
  clear hR
  go_wp2_with fail
  refine (use_repair C2b.out hn80 HR.out).mono ?_
  intro e w3 hro
  cases R with
  | none =>
    obtain ⟨rfl, hb3⟩ := hro
    have C3 := Lib.hid (C2b.out.below hb3)
    clear hb3 C2b x0 x1 x2 x3 x4
    obtain ⟨x0, x1, x2, x3, x4⟩ := C3.out.wd.cells
    rcases repair_no HR.out with hT | ⟨t, hT, hbb⟩
    · have HT := Lib.hid hT
      clear hT
      go_wp2_with fail
      refine (rb_none C3.out HT.out).mono ?_
      rintro e w4 ⟨rfl, hb4⟩
      have C4 := Lib.hid (C3.out.below hb4)
      clear hb4 C3 x0 x1 x2 x3 x4
      go_wp2_with fail
      refine (truns_any _).mono ?_
      rintro e wd ⟨rfl, hbd⟩
      have CD := Lib.hid (C4.out.below hbd)
      clear hbd
      go_wp2_with fail
      go_ret
      exact ⟨by first | rfl | (simp; done), CD.out.old⟩
    · have HT := Lib.hid hT
      clear hT
      go_wp2_with fail
      refine (rb_some C3.out C3.out.plns rfl HT.out).mono ?_
      rintro e w4 ⟨rfl, hb4⟩
      have C4 := Lib.hid (C3.out.below hb4)
      clear hb4 C3 x0 x1 x2 x3 x4
      rcases hbb with hbb | ⟨hbb, hbc⟩
      · go_wp2_with fail
        refine (truns_any _).mono ?_
        rintro e wd ⟨rfl, hbd⟩
        have CD := Lib.hid (C4.out.below hbd)
        clear hbd
        go_wp2_with fail
        go_ret
        exact ⟨by first | rfl | (simp; done), CD.out.old⟩
      · have hbb' : ¬ b < 0 := by omega
        go_wp2_with fail
        refine (truns_any _).mono ?_
        rintro e wd ⟨rfl, hbd⟩
        have CD := Lib.hid (C4.out.below hbd)
        clear hbd
        go_wp2_with fail
        go_ret
        exact ⟨by first | rfl | (simp; done), CD.out.old⟩
  | some R =>
  obtain ⟨B, c, l, rfl, hb3, hpl, hle, hcc⟩ := hro
  obtain ⟨q, n, k0⟩ := R
  obtain ⟨hb0, hbm, hnb, t, u', hT, hU, hut, hiff, hkp, hord⟩ := repair_law HR.out
  dsimp only at hpl hle hcc hnb hU hiff hkp hord ⊢
  have C3 := Lib.hid (C2b.out.below hb3)
  have P3 := Lib.hid hpl
  have HLE := Lib.hid hle
  have HT := Lib.hid hT
  have HU := Lib.hid hU
  have HIFF := Lib.hid hiff
  have HKP : Hid (keptP (ps.map (·.rt)) (l.map (·.rt)) = true) := by show _ = _; rw [hle]; exact hkp
  obtain ⟨fo, hfo⟩ : ∃ f, ordersM (ps.map (·.rt)) = f := ⟨_, rfl⟩
  have HFO := Lib.hid hfo
  have HORD : Hid (ordersM q = fo) := hord.trans hfo
  have HRQ := Lib.hid (total_right hU)
  have HRP := Lib.hid (total_right hT)
  have HN0 : Hid (decide ((n : Int) < 0) = false) := by show _ = _; rw [decide_eq_false_iff_not]; omega
  have HNB : Hid (decide (b < (n : Int)) = false) := by show _ = _; rw [decide_eq_false_iff_not]; omega
  obtain ⟨⟨cs, fk, fe⟩, hmk⟩ : ∃ z, makeC m ds os q = z := ⟨_, rfl⟩
  have hfe : fe = 0 := by have := (totalM_some hU).1; rw [hmk] at this; exact this
  subst hfe
  have HMK := Lib.hid hmk
  clear hpl hle hT hU hiff hkp hord hfo hnb hb0 hbm hmk hb3 C2b x0 x1 x2 x3 x4
  obtain ⟨x0, x1, x2, x3, x4⟩ := C3.out.wd.cells
  go_wp2_with fail
  refine (rb_some C3.out C3.out.plns rfl HT.out).mono ?_
  rintro e w4 ⟨rfl, hb4⟩
  have C4 := Lib.hid (C3.out.below hb4)
  have P4 : Hid (Plns w4 w4.heap.size B q.length l) := (P3.out.keep hb4).more hb4.size
  clear hb4 C3 P3 x0 x1 x2 x3 x4
  obtain ⟨x0, x1, x2, x3, x4⟩ := C4.out.wd.cells
  go_wp2_with fail
  refine (rb_some C4.out P4.out HLE.out HU.out).mono ?_
  rintro e w5 ⟨rfl, hb5⟩
  have C5 := Lib.hid (C4.out.below hb5)
  have P5 : Hid (Plns w5 w5.heap.size B q.length l) := (P4.out.keep hb5).more hb5.size
  clear hb5 C4 P4 x0 x1 x2 x3 x4
  obtain ⟨x0, x1, x2, x3, x4⟩ := C5.out.wd.cells
  go_wp2_with fail
  refine (rb_make C5.out P5.out HLE.out HMK.out).mono ?_
  rintro e w6 ⟨Ba, na, ca', rfl, hb6⟩
  have hb6' : Below w5.heap.size w5 (w6.alloc (.cells #[.int .i64 (fk : Int), .int .i64 0] 63)) := hb6.trans (((Below.refl w6.heap.size w6).alloc (Nat.le_refl _) _).mono hb6.size)
  have C7 := Lib.hid (C5.out.below hb6')
  have P7 := Lib.hid ((P5.out.keep hb6').more hb6'.size)
  have F7 : Hid (Blk (w6.alloc (.cells #[.int .i64 (fk : Int), .int .i64 0] 63)) w6.heap.size 63 [.int .i64 (fk : Int), .int .i64 0]) := Blk.new w6 _ _
  clear hb6 hb6' C5 P5 x0 x1 x2 x3 x4
  go_upto_region 12 with fail
  obtain ⟨g7, hg7⟩ : ∃ g, w6.heap.size = g := ⟨_, rfl⟩
  obtain ⟨w7, hw7⟩ : ∃ u, (w6.alloc (.cells #[.int .i64 (fk : Int), .int .i64 0] 63)) = u := ⟨_, rfl⟩
  rw [hg7, hw7] at F7
  rw [hw7] at C7 P7
  (try rw [hg7, hw7])
  clear hg7 hw7
  have HC : Hid (∀ u, Below w7.heap.size w7 u → CR W qq r m x ds os ps u) := fun u hu => C7.out.below hu
  have HP : Hid (∀ u, Below w7.heap.size w7 u → Plns u u.heap.size B q.length l) := fun u hu => (P7.out.keep hu).more hu.size
  refine wp_region_steps (mixRF 0 [123, 124, 125, 126, 127, 128, 129, 130, 131, 132, 133, 134, 135, 136, 137, 138, 139, 140, 141, 142, 143, 144, 145, 146, 147, 148, 149, 150, 151, 152, 153, 154, 155, 156, 157, 158] [.bool true, .bool false, .bool false, .bool true, .bool false, .bool false, .bool false, .agg #[.int .i64 (fk : Int), .int .i64 0], .bool true, .bool false, .bool false, .bool false, .pointer (some ⟨W.heap.size, 4, none⟩), .slice x.pl.a x.pl.n x.pl.c, .slice B q.length c, .bool true, .bool false, .bool false, .bool false, .slice B q.length c, undef, .pointer (some ⟨W.heap.size, 4, none⟩), .slice x.pl.a x.pl.n x.pl.c, undef, .bool true, .bool false, .bool false, .bool false, .int .i64 (n : Int), .bool false, .bool false, .bool false, .int .i64 (n : Int), .int .i64 b, .bool false, .bool false] [⟨20, 1, 3, fo.length, intsV fo⟩, ⟨23, 1, 3, fo.length, intsV fo⟩] []) (by kernel_rfl) (by kernel_rfl) (by kernel_rfl) (fun _ _ => rfl) (by kernel_rfl) mixRF.mon ?_ ?_
  · refine ⟨?_, ?_, ?_, ?_, ?_, ?_, ?_, ?_, ?_, ?_, ?_, ?_, ?_, ?_, ?_, ?_, ?_, ?_, ?_, ?_, ?_, ?_, ?_, ?_, ?_, ?_, ?_, ?_, ?_, ?_, ?_, ?_, ?_, ?_, ?_, ?_, trivial⟩
    · exact mixRF.pureStep rfl 123 rfl rfl (by simp) (by kernel_rfl) _ rfl fun listed a u D hI hr hn => exec_move (.inl rfl) (hI.out 14 (by kernel_rfl))
    · exact mixRF.pureStep rfl 124 rfl rfl (by simp) (by kernel_rfl) _ rfl fun listed a u D hI hr hn => ex_not rfl (mixRF.val hI hr hn 0 (by kernel_rfl) (by kernel_rfl) rfl rfl) rfl
    · exact mixRF.pureStep rfl 125 rfl rfl (by simp) (by kernel_rfl) _ rfl fun listed a u D hI hr hn => exec_move (.inl rfl) (mixRF.val hI hr hn 1 (by kernel_rfl) (by kernel_rfl) rfl rfl)
    · exact mixRF.pureG 126 rfl rfl (by simp) (by kernel_rfl) _ rfl fun listed a u D hI hr hn => ⟨guard_yes (t := 125) rfl (by kernel_rfl) (mixRF.val hI hr hn 2 (by kernel_rfl) (by kernel_rfl) rfl rfl), exec_move (.inl rfl) (hI.out 16 (by kernel_rfl))⟩
    · exact mixRF.pureG 127 rfl rfl (by simp) (by kernel_rfl) _ rfl fun listed a u D hI hr hn => ⟨guard_yes (t := 125) rfl (by kernel_rfl) (mixRF.val hI hr hn 2 (by kernel_rfl) (by kernel_rfl) rfl rfl), ex_not rfl (mixRF.val hI hr hn 3 (by kernel_rfl) (by kernel_rfl) rfl rfl) rfl⟩
    · exact mixRF.pureStep rfl 128 rfl rfl (by simp) (by kernel_rfl) _ rfl fun listed a u D hI hr hn => ex_or rfl (mixRF.val hI hr hn 2 (by kernel_rfl) (by kernel_rfl) rfl rfl) (mixRF.val hI hr hn 4 (by kernel_rfl) (by kernel_rfl) rfl rfl) rfl
    · exact mixRF.pureStep rfl 129 rfl rfl (by simp) (by kernel_rfl) _ rfl fun listed a u D hI hr hn => exec_move (.inl rfl) (mixRF.val hI hr hn 5 (by kernel_rfl) (by kernel_rfl) rfl rfl)
    · exact mixRF.pureG 130 rfl rfl (by simp) (by kernel_rfl) _ rfl fun listed a u D hI hr hn => ⟨guard_yes (t := 129) rfl (by kernel_rfl) (mixRF.val hI hr hn 6 (by kernel_rfl) (by kernel_rfl) rfl rfl), exec_load rfl (hI.out 18 (by kernel_rfl)) (rb_flt (Blk.below F7.out (rb_drew hI.old) (Blk.lt F7.out)))⟩
    · exact mixRF.callVG 131 rfl rfl (by simp) (by kernel_rfl) _ rfl fun listed a u D hI hr hn => ⟨guard_yes (t := 129) rfl (by kernel_rfl) (mixRF.val hI hr hn 6 (by kernel_rfl) (by kernel_rfl) rfl rfl), _, _, op_call1 rfl (mixRF.val hI hr hn 7 (by kernel_rfl) (by kernel_rfl) rfl rfl) (by simp [go_sem]), pgood_v fk 0 true u rfl⟩
    · exact mixRF.pureG 132 rfl rfl (by simp) (by kernel_rfl) _ rfl fun listed a u D hI hr hn => ⟨guard_yes (t := 129) rfl (by kernel_rfl) (mixRF.val hI hr hn 6 (by kernel_rfl) (by kernel_rfl) rfl rfl), ex_not rfl (mixRF.val hI hr hn 8 (by kernel_rfl) (by kernel_rfl) rfl rfl) rfl⟩
    · exact mixRF.pureStep rfl 133 rfl rfl (by simp) (by kernel_rfl) _ rfl fun listed a u D hI hr hn => ex_or rfl (mixRF.val hI hr hn 6 (by kernel_rfl) (by kernel_rfl) rfl rfl) (mixRF.val hI hr hn 9 (by kernel_rfl) (by kernel_rfl) rfl rfl) rfl
    · exact mixRF.pureStep rfl 134 rfl rfl (by simp) (by kernel_rfl) _ rfl fun listed a u D hI hr hn => exec_move (.inl rfl) (mixRF.val hI hr hn 10 (by kernel_rfl) (by kernel_rfl) rfl rfl)
    · exact mixRF.pureG 135 rfl rfl (by simp) (by kernel_rfl) _ rfl fun listed a u D hI hr hn => ⟨guard_yes (t := 134) rfl (by kernel_rfl) (mixRF.val hI hr hn 11 (by kernel_rfl) (by kernel_rfl) rfl rfl), op_field rfl (hI.out 3 (by kernel_rfl)) (by simp [go_sem])⟩
    · exact mixRF.pureG 136 rfl rfl (by simp) (by kernel_rfl) _ rfl fun listed a u D hI hr hn => ⟨guard_yes (t := 134) rfl (by kernel_rfl) (mixRF.val hI hr hn 11 (by kernel_rfl) (by kernel_rfl) rfl rfl), exec_load rfl (mixRF.val hI hr hn 12 (by kernel_rfl) (by kernel_rfl) rfl rfl) (run_load_sl _ (.inr (.inr rfl)) (HC.out _ (rb_drew hI.old)).wd.cells.2.2.2.2)⟩
    · exact mixRF.pureG 137 rfl rfl (by simp) (by kernel_rfl) _ rfl fun listed a u D hI hr hn => ⟨guard_yes (t := 134) rfl (by kernel_rfl) (mixRF.val hI hr hn 11 (by kernel_rfl) (by kernel_rfl) rfl rfl), exec_move (.inl rfl) (hI.out 10 (by kernel_rfl))⟩
    · exact mixRF.callVG 138 rfl rfl (by simp) (by kernel_rfl) _ rfl fun listed a u D hI hr hn => ⟨guard_yes (t := 134) rfl (by kernel_rfl) (mixRF.val hI hr hn 11 (by kernel_rfl) (by kernel_rfl) rfl rfl), _, _, op_call2 rfl (mixRF.val hI hr hn 13 (by kernel_rfl) (by kernel_rfl) rfl rfl) (mixRF.val hI hr hn 14 (by kernel_rfl) (by kernel_rfl) rfl rfl) (by simp [go_sem]), pkept_any _ _ _ ps _ _ _ l true u hpc hcc (HC.out _ (rb_drew hI.old)).plns (HP.out _ (rb_drew hI.old)) HKP.out⟩
    · exact mixRF.pureG 139 rfl rfl (by simp) (by kernel_rfl) _ rfl fun listed a u D hI hr hn => ⟨guard_yes (t := 134) rfl (by kernel_rfl) (mixRF.val hI hr hn 11 (by kernel_rfl) (by kernel_rfl) rfl rfl), ex_not rfl (mixRF.val hI hr hn 15 (by kernel_rfl) (by kernel_rfl) rfl rfl) rfl⟩
    · exact mixRF.pureStep rfl 140 rfl rfl (by simp) (by kernel_rfl) _ rfl fun listed a u D hI hr hn => ex_or rfl (mixRF.val hI hr hn 11 (by kernel_rfl) (by kernel_rfl) rfl rfl) (mixRF.val hI hr hn 16 (by kernel_rfl) (by kernel_rfl) rfl rfl) rfl
    · exact mixRF.pureStep rfl 141 rfl rfl (by simp) (by kernel_rfl) _ rfl fun listed a u D hI hr hn => exec_move (.inl rfl) (mixRF.val hI hr hn 17 (by kernel_rfl) (by kernel_rfl) rfl rfl)
    · exact mixRF.pureG 142 rfl rfl (by simp) (by kernel_rfl) _ rfl fun listed a u D hI hr hn => ⟨guard_yes (t := 141) rfl (by kernel_rfl) (mixRF.val hI hr hn 18 (by kernel_rfl) (by kernel_rfl) rfl rfl), exec_move (.inl rfl) (hI.out 10 (by kernel_rfl))⟩
    · refine mixRF.callRowG (x := ⟨20, 1, 3, fo.length, intsV fo⟩) 143 rfl rfl (by simp) (by kernel_rfl) (by kernel_rfl) (by kernel_rfl) (Nat.zero_le _) fun listed a u D hI hr hn => ?_
      refine ⟨guard_yes (t := 141) rfl (by kernel_rfl) (mixRF.val hI hr hn 18 (by kernel_rfl) (by kernel_rfl) rfl rfl), _, _, op_call1 rfl (mixRF.val hI hr hn 19 (by kernel_rfl) (by kernel_rfl) rfl rfl) (by simp [go_sem]), ?_⟩
      refine (porders_any _ _ _ _ u (HP.out _ (rb_drew hI.old)) (by rw [HLE.out]; exact right_all2 HRQ.out)).mono ?_
      rintro en u' ⟨v, rfl, hns⟩
      refine ⟨v, rfl, hns.old, ?_⟩
      have ho := hns.own
      rw [HLE.out, HORD.out] at ho
      exact ho
    · exact mixRF.pureG 144 rfl rfl (by simp) (by kernel_rfl) _ rfl fun listed a u D hI hr hn => ⟨guard_yes (t := 141) rfl (by kernel_rfl) (mixRF.val hI hr hn 18 (by kernel_rfl) (by kernel_rfl) rfl rfl), op_field rfl (hI.out 3 (by kernel_rfl)) (by simp [go_sem])⟩
    · exact mixRF.pureG 145 rfl rfl (by simp) (by kernel_rfl) _ rfl fun listed a u D hI hr hn => ⟨guard_yes (t := 141) rfl (by kernel_rfl) (mixRF.val hI hr hn 18 (by kernel_rfl) (by kernel_rfl) rfl rfl), exec_load rfl (mixRF.val hI hr hn 21 (by kernel_rfl) (by kernel_rfl) rfl rfl) (run_load_sl _ (.inr (.inr rfl)) (HC.out _ (rb_drew hI.old)).wd.cells.2.2.2.2)⟩
    · refine mixRF.callRowG (x := ⟨23, 1, 3, fo.length, intsV fo⟩) 146 rfl rfl (by simp) (by kernel_rfl) (by kernel_rfl) (by kernel_rfl) (Nat.zero_le _) fun listed a u D hI hr hn => ?_
      refine ⟨guard_yes (t := 141) rfl (by kernel_rfl) (mixRF.val hI hr hn 18 (by kernel_rfl) (by kernel_rfl) rfl rfl), _, _, op_call1 rfl (mixRF.val hI hr hn 22 (by kernel_rfl) (by kernel_rfl) rfl rfl) (by simp [go_sem]), ?_⟩
      refine (porders_any _ _ _ _ u (HC.out _ (rb_drew hI.old)).plns (right_all2 HRP.out)).mono ?_
      rintro en u' ⟨v, rfl, hns⟩
      refine ⟨v, rfl, hns.old, ?_⟩
      have ho := hns.own
      rw [HFO.out] at ho
      exact ho
    · refine mixRF.callVG 147 rfl rfl (by simp) (by kernel_rfl) _ rfl fun listed a u D hI hr hn => ?_
      obtain ⟨A8, c8, e8, _, hr8⟩ := mixRF.row (x := ⟨20, 1, 3, fo.length, intsV fo⟩) hI hr hn 20 (by kernel_rfl) (by kernel_rfl) (by kernel_rfl) (by kernel_rfl) (s := 143) rfl
      obtain ⟨A9, c9, e9, _, hr9⟩ := mixRF.row (x := ⟨23, 1, 3, fo.length, intsV fo⟩) hI hr hn 23 (by kernel_rfl) (by kernel_rfl) (by kernel_rfl) (by kernel_rfl) (s := 146) rfl
      exact ⟨guard_yes (t := 141) rfl (by kernel_rfl) (mixRF.val hI hr hn 18 (by kernel_rfl) (by kernel_rfl) rfl rfl), _, _, op_call2 rfl e8 e9 (by simp [go_sem]), (same_yes A8 A9 fo.length c8 fo.length c9 fo _ _ u (rb_ints hr8) (rb_ints hr9)).mono fun en u' ⟨h1, d, h2⟩ => ⟨h1, rb_drewN h2⟩⟩
    · exact mixRF.pureG 148 rfl rfl (by simp) (by kernel_rfl) _ rfl fun listed a u D hI hr hn => ⟨guard_yes (t := 141) rfl (by kernel_rfl) (mixRF.val hI hr hn 18 (by kernel_rfl) (by kernel_rfl) rfl rfl), ex_not rfl (mixRF.val hI hr hn 24 (by kernel_rfl) (by kernel_rfl) rfl rfl) rfl⟩
    · exact mixRF.pureStep rfl 149 rfl rfl (by simp) (by kernel_rfl) _ rfl fun listed a u D hI hr hn => ex_or rfl (mixRF.val hI hr hn 18 (by kernel_rfl) (by kernel_rfl) rfl rfl) (mixRF.val hI hr hn 25 (by kernel_rfl) (by kernel_rfl) rfl rfl) rfl
    · exact mixRF.pureStep rfl 150 rfl rfl (by simp) (by kernel_rfl) _ rfl fun listed a u D hI hr hn => exec_move (.inl rfl) (mixRF.val hI hr hn 26 (by kernel_rfl) (by kernel_rfl) rfl rfl)
    · exact mixRF.pureG 151 rfl rfl (by simp) (by kernel_rfl) _ rfl fun listed a u D hI hr hn => ⟨guard_yes (t := 150) rfl (by kernel_rfl) (mixRF.val hI hr hn 27 (by kernel_rfl) (by kernel_rfl) rfl rfl), exec_move (.inl rfl) (hI.out 11 (by kernel_rfl))⟩
    · exact mixRF.pureG 152 rfl rfl (by simp) (by kernel_rfl) _ rfl fun listed a u D hI hr hn => ⟨guard_yes (t := 150) rfl (by kernel_rfl) (mixRF.val hI hr hn 27 (by kernel_rfl) (by kernel_rfl) rfl rfl), ex_lss rfl (mixRF.val hI hr hn 28 (by kernel_rfl) (by kernel_rfl) rfl rfl) rfl HN0.out⟩
    · exact mixRF.pureStep rfl 153 rfl rfl (by simp) (by kernel_rfl) _ rfl fun listed a u D hI hr hn => ex_or rfl (mixRF.val hI hr hn 27 (by kernel_rfl) (by kernel_rfl) rfl rfl) (mixRF.val hI hr hn 29 (by kernel_rfl) (by kernel_rfl) rfl rfl) rfl
    · exact mixRF.pureStep rfl 154 rfl rfl (by simp) (by kernel_rfl) _ rfl fun listed a u D hI hr hn => exec_move (.inl rfl) (mixRF.val hI hr hn 30 (by kernel_rfl) (by kernel_rfl) rfl rfl)
    · exact mixRF.pureG 155 rfl rfl (by simp) (by kernel_rfl) _ rfl fun listed a u D hI hr hn => ⟨guard_yes (t := 154) rfl (by kernel_rfl) (mixRF.val hI hr hn 31 (by kernel_rfl) (by kernel_rfl) rfl rfl), exec_move (.inl rfl) (hI.out 11 (by kernel_rfl))⟩
    · exact mixRF.pureG 156 rfl rfl (by simp) (by kernel_rfl) _ rfl fun listed a u D hI hr hn => ⟨guard_yes (t := 154) rfl (by kernel_rfl) (mixRF.val hI hr hn 31 (by kernel_rfl) (by kernel_rfl) rfl rfl), exec_move (.inl rfl) (hI.out 1 (by kernel_rfl))⟩
    · exact mixRF.pureG 157 rfl rfl (by simp) (by kernel_rfl) _ rfl fun listed a u D hI hr hn => ⟨guard_yes (t := 154) rfl (by kernel_rfl) (mixRF.val hI hr hn 31 (by kernel_rfl) (by kernel_rfl) rfl rfl), ex_gtr rfl (mixRF.val hI hr hn 32 (by kernel_rfl) (by kernel_rfl) rfl rfl) (mixRF.val hI hr hn 33 (by kernel_rfl) (by kernel_rfl) rfl rfl) HNB.out⟩
    · exact mixRF.pureStep rfl 158 rfl rfl (by simp) (by kernel_rfl) _ rfl fun listed a u D hI hr hn => ex_or rfl (mixRF.val hI hr hn 31 (by kernel_rfl) (by kernel_rfl) rfl rfl) (mixRF.val hI hr hn 34 (by kernel_rfl) (by kernel_rfl) rfl rfl) rfl
  · intro listed a v D hI hall
    have eR := mixRF.at_end hI hall 35 (by decide) (by kernel_rfl) (s := 158) (v := .bool false) rfl rfl
    have hold := rb_drew hI.old
    have hl := hI.fill [123, 124, 125, 126, 127, 128, 129, 130, 131, 132, 133, 134, 135, 136, 137, 138, 139, 140, 141, 142, 143, 144, 145, 146, 147, 148, 149, 150, 151, 152, 153, 154, 155, 156, 157, 158] (by kernel_rfl)
    clear hI hall
    obtain ⟨σ, hσ⟩ : ∃ σ : Nat → Value, ∀ t, a.tmps.getD t undef = σ t := ⟨_, fun _ => rfl⟩
    simp only [hσ] at hl eR
    clear hσ
    simp only [List.foldl_cons, List.foldl_nil, List.setIfInBounds_toArray, List.set_cons_zero, List.set_cons_succ, eR] at hl
    subst hl
    have C8 := Lib.hid (C7.out.below hold)
    have P8 := Lib.hid (HP.out _ hold)
    clear hold HC HP C7 P7 F7 eR
    obtain ⟨x0, x1, x2, x3, x4⟩ := C8.out.wd.cells
    by_cases hqp : q = ps.map (·.rt)
    · obtain rfl : u' = t := HIFF.out.2 hqp
      have HQP := Lib.hid hqp
      clear hqp
      go_wp2_with fail
      refine (routes_any _ _ _ _ _ _ l ps _ _ _ P8.out C8.out.plns true (by rw [HLE.out]; exact ⟨fun _ => HQP.out, fun _ => rfl⟩)).mono ?_
      rintro e w9 ⟨rfl, d, hd⟩
      have C9 := Lib.hid (C8.out.below (rb_drewN hd))
      clear hd C8 P8 x0 x1 x2 x3 x4
      go_wp2_with fail
      refine (truns_any _).mono ?_
      rintro e wd ⟨rfl, hbd⟩
      have CD := Lib.hid (C9.out.below hbd)
      clear hbd
      go_wp2_with fail
      go_ret
      exact ⟨by first | rfl | (simp; done), CD.out.old⟩
    · have hne : ¬ u' = t := fun e => hqp (HIFF.out.1 e)
      have HQP : Hid (¬ q = ps.map (·.rt)) := hqp
      have HNE := Lib.hid hne
      clear hqp
      go_wp2_with fail
      refine (routes_any _ _ _ _ _ _ l ps _ _ _ P8.out C8.out.plns false (by rw [HLE.out]; exact ⟨fun e => (Bool.noConfusion e), fun e => absurd e HQP.out⟩)).mono ?_
      rintro e w9 ⟨rfl, d, hd⟩
      have C9 := Lib.hid (C8.out.below (rb_drewN hd))
      clear hd C8 P8 x0 x1 x2 x3 x4
      go_wp2_with fail
      refine (truns_any _).mono ?_
      rintro e wd ⟨rfl, hbd⟩
      have CD := Lib.hid (C9.out.below hbd)
      clear hbd
      go_wp2_with fail
      go_ret
      exact ⟨by first | rfl | (simp; done) | simp [HNE.out], CD.out.old⟩
theorem repairBetter_w (x : Wd) (b : Int) (al : Bool) (W : World) (h : ∃ ts ds os ps, Frames.WdOk W x ts ds os ∧ Frames.PlnOk W x.pl.a x.pl.n x.pl.c ps) : Calls Tryz.prog 5 #[wdV x, .int .i64 b, .bool al] W fun e w' => e = .returned (.bool true) ∧ Below W.heap.size W w' := by
  obtain ⟨ts, ds, os, ps, h1, h2⟩ := h
  cases al with
  | false => exact repairBetterF_walk x b ts ds os ps W h1.ts h1.ds h1.os h2.plns h2.le h1.osn
  | true => exact repairBetterT_walk x b ts ds os ps W h1.ts h1.ds h1.os h2.plns h2.le h1.osn
end Go.Proofs.YtilggpkmdmelmaaGreat.RepairW
