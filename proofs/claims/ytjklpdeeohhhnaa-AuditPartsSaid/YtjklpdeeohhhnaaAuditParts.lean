/-
  What is wrong with a plan is what is wrong on each of its routes alone, and the orders that stand nowhere: AuditParts, walked. Written by tools/gen_aparts.py.
-/
import Derived.Test.YtjklpdeeohhhnaaAuditUses
import Derived.Test.YtjklpdeeohhhnaaAuditRW
import Derived.Test.YtjklpdeeohhhnaaRegions
import Derived.Test.YtjklpdeeohhhnaaAuditMaths
import Derived.Test.YtjklpdeeohhhnaaFrameWorldP
import Derived.Deep.RegionHeld3
namespace Go.Proofs.Ytjklpdeeohhhnaa.Audit
open Go.ChangeShapes Go.WideShapes Go.ChangeAt Go.RowKit Go.Proofs.Ytjklpdeeohhhnaa.Mem Go.Proofs.Ytjklpdeeohhhnaa.GeoMath Go.Proofs.Ytjklpdeeohhhnaa.FleetMath Go.Proofs.Ytjklpdeeohhhnaa.PlanMath Go.Proofs.Ytjklpdeeohhhnaa.CertMath Go.Proofs.Ytjklpdeeohhhnaa.AuditMath Go.Proofs.Ytjklpdeeohhhnaa.Rec Go.Proofs.Ytjklpdeeohhhnaa.Geo Go.Proofs.Ytjklpdeeohhhnaa.Span Go.Proofs.Ytjklpdeeohhhnaa.Deal Go.Proofs.Ytjklpdeeohhhnaa.Keep Go.Proofs.Ytjklpdeeohhhnaa.Route Go.Proofs.Ytjklpdeeohhhnaa.Plan Go.Proofs.Ytjklpdeeohhhnaa.Cert
set_option linter.unusedVariables false
set_option linter.unusedSimpArgs false
def xparts (m : Option Mp) (ds : List Drv) (os : List FleetMath.Ord) (r : Rte) : List Trb := (auditM m ds os [r]).filter (fun t => decide (t.why ≠ 19))
theorem xp_next {m : Option Mp} {ds : List Drv} {os : List FleetMath.Ord} {x : Rte} {r : List Rte} {Y l z : List Trb} (h : Y = l ++ (x :: r).flatMap (xparts m ds os) ++ z) : Y = (l ++ xparts m ds os x) ++ r.flatMap (xparts m ds os) ++ z := by
  rw [h, List.flatMap_cons]; simp [List.append_assoc]
theorem audit_len {m : Mp} {ds : List Drv} {os : List FleetMath.Ord} {x : Rte} (h : x.stops.length ≤ 80) (ho : os.length ≤ 40) : (auditM (some m) ds os [x]).length ≤ 300 := by
  unfold auditM
  split
  · simp only [List.flatMap_cons, List.flatMap_nil, List.append_nil, List.length_append]
    have h1 : (routeT m ds os x).length ≤ 240 := by
      cases hd : drvOf ds x.drv with
      | none => rw [routeT_none hd]; simp
      | some d => rw [routeT_some hd]; have := @alongM_len m d os x.stops; omega
    have h2 : (missT [x] os).length ≤ os.length := List.length_filterMap_le _ _
    omega
  · simp
theorem plns_one {w : World} {B n i c : Nat} {A : Option Addr} {l : List RM} {x : RM} (h : Plns w B A n l) (hx : l[i]? = some x) (hc : n ≤ c) : Plns w B (if c = i then A else A.map (·.add (i * 3))) 1 [x] := by
  have hlt := (List.getElem?_eq_some_iff.1 hx).1
  have hl := h.length
  have h1 := Recs.part (l := i) (h := i + 1) h.rows (by omega) (by omega) hc
  rw [show i + 1 - i = 1 by omega] at h1
  refine ⟨?_, fun r hr => ?_⟩
  · have e : ((rmsV l).drop (i * 3)).take (1 * 3) = rmsV [x] := by
      have e1 : l.drop i = x :: l.drop (i + 1) := by
        rw [List.drop_eq_getElem_cons hlt]
        have := (List.getElem?_eq_some_iff.1 hx).2
        rw [this]
      have e2 : (rmsV l).drop (i * 3) = rmsV (l.drop i) := by
        have e3 : rmsV l = rmsV (l.take i) ++ rmsV (l.drop i) := by rw [← rmsV_append, List.take_append_drop]
        rw [e3, List.drop_append, List.drop_of_length_le (by rw [rmsV_len, List.length_take]; omega), rmsV_len, List.length_take, Nat.min_eq_left (by omega)]
        simp
      rw [e2, e1]
      rfl
    rw [e] at h1
    exact h1
  · obtain rfl : r = x := by simpa using hr
    exact h.each _ (List.mem_of_getElem? hx)

/-- the row of a route's own Troubles, that no append of v turns -/
def XR (A9 : Option Addr) (xt : List Trb) (v : Value) (u : World) : Prop := xt.length = 0 ∨ ∃ g cur, A9 = some ⟨g, 0, none⟩ ∧ KB v u g 47 cur ∧ cur.take (xt.length * 3) = trbsV xt
section
variable {A9 : Option Addr} {xt l : List Trb} {v v' : Value} {X u u' : World}
theorem XR.next (h : XR A9 xt v u) (hb : Below u.heap.size u u') : XR A9 xt v u' := by
  rcases h with h | ⟨g, cur, e, hk, ht⟩
  · exact .inl h
  · exact .inr ⟨g, cur, e, hk.next hb, ht⟩
theorem XR.push (h : XR A9 xt v u) (hk : ∀ b T vs, KB v u b T vs → KB v' u' b T vs) : XR A9 xt v' u' := by
  rcases h with h | ⟨g, cur, e, h1, ht⟩
  · exact .inl h
  · exact .inr ⟨g, cur, e, hk _ _ _ h1, ht⟩
theorem XR.at_ (h : XR A9 xt v u) {j : Nat} (hj : j < xt.length) : ∃ g y, A9 = some ⟨g, 0, none⟩ ∧ xt[j]? = some y ∧ u.cell? ⟨g, j * 3, none⟩ = some (.int .i64 y.drv) ∧ u.cell? ⟨g, j * 3 + 1, none⟩ = some (.int .i64 y.ord) ∧ u.cell? ⟨g, j * 3 + 2, none⟩ = some (.int .i64 y.why) := by
  rcases h with h | ⟨g, cur, e, h1, ht⟩
  · omega
  · have hy := List.getElem?_eq_getElem hj
    obtain ⟨q0, q1, q2⟩ := trbsV_at hy
    have hc : ∀ i z, (trbsV xt)[i]? = some z → u.cell? ⟨g, i, none⟩ = some z := fun i z hz => h1.1.cell (by
      rw [← ht, List.getElem?_take] at hz
      split at hz
      · exact hz
      · cases hz)
    exact ⟨g, _, e, hy, hc _ _ q0, hc _ _ q1, hc _ _ q2⟩
theorem XR.of {w : World} {c : Nat} (h : TL X v l w) (hb : Below w.heap.size w u) (ho : OwnK u w.heap.size 47 3 (.slice A9 xt.length c) xt.length (trbsV xt)) : XR A9 xt v u := by
  rcases ho.blk with ⟨_, h0⟩ | ⟨g, cap, cur, e, hg, hB, _, _, ht⟩
  · exact .inl h0
  · injection e with e _ _
    refine .inr ⟨g, cur, e, ⟨hB, fun e' => ?_⟩, ht⟩
    have := (ownK_lt h.own e').2
    omega
end
theorem exec_one_pln {o : Oper} {a : Act} {u : World} {x y z : Operand} {A : Option Addr} {n c k : Nat} (ho : o.op = .slice 42 x (some y) (some z) none) (hx : a.eval x = .slice A n c) (hy : a.eval y = .int .i64 (k : Int)) (hz : a.eval z = .int .i64 ((k + 1 : Nat) : Int)) (h2 : k < n) (h3 : n ≤ c) :
    (execOp a.eval o).run Try.prog u = .ok (.value (.slice (if c = k then A else A.map (·.add (k * 3))) 1 (c - k))) u := by
  have hsz : (sizeOf 40).run Try.prog u = .ok 3 u := by
    obtain ⟨i, hi, _, hz, _⟩ := info_parts infoRte
    simp [sizeOf, typeInfo, hi, hz]
  obtain ⟨m, hm⟩ : ∃ m, k + 1 = m := ⟨_, rfl⟩
  rw [hm] at hz
  have q1 : k ≤ m := by omega
  have q2 : m ≤ c := by omega
  have q3 : m - k = 1 := by omega
  have hr : (Instr.sliceAt 42 (.slice A n c) (some (.int .i64 (k : Int))) (some (.int .i64 (m : Int))) none).run Try.prog u = .ok (.slice (if c = k then A else A.map (·.add (k * 3))) (m - k) (c - k)) u := by
    simp [Instr.sliceAt, Instr.slice, Instr.sliceBounds, Instr.sliceBound, run_underlying Try.underlying42, asIntOf, hsz, q1, q2]
  rw [q3] at hr
  unfold execOp
  rw [ho]
  simp only [hx, hy, hz, Option.map_none, Option.map_some, Sem.run_bind, hr, Result.andThen_ok, Sem.run_pure]
theorem op_call4 {P : Program} {o : Oper} {a : Act} {u : World} {f : Nat} {ts : Array TypeId} {x1 x2 x3 x4 : Operand} {v1 v2 v3 v4 : Value} (h : o.op = .call { callee := .value (.func f), args := #[x1, x2, x3, x4], argTypes := ts }) (h1 : a.eval x1 = v1) (h2 : a.eval x2 = v2) (h3 : a.eval x3 = v3) (h4 : a.eval x4 = v4)
    (hf : (callFunc f #[v1, v2, v3, v4]).run P u = .ok (.enter f #[v1, v2, v3, v4]) u) : (execOp a.eval o).run P u = .ok (.enter f #[v1, v2, v3, v4]) u := by
  have hf' : a.eval (.func f) = .func (.func f) #[] #[] := rfl
  obtain ⟨ρ, hρ⟩ : ∃ ρ, a.eval = ρ := ⟨_, rfl⟩
  rw [hρ] at h1 h2 h3 h4 hf' ⊢
  unfold execOp
  rw [h]
  simp [go_sem, hf', h1, h2, h3, h4, hf]
theorem run_load_drl {u : World} {p : Addr} {A : Option Addr} {n c : Nat} (h : u.cell? p = some (.slice A n c)) : (Instr.loadAt 34 (.pointer (some p))).run Try.prog u = .ok (.slice A n c) u := by simp [go_sem, h]

set_option maxRecDepth 100000 in
set_option maxHeartbeats 8000000 in
theorem auditParts_walk (x : Wd) (ts : List Int) (ds : List Drv) (os : List FleetMath.Ord) (ps : List RM) (W : World) (hts : Ints W W.heap.size x.ts.a x.ts.n ts) (hds : Drvs W W.heap.size x.ds.a x.ds.n ds) (hos : Ords W W.heap.size x.os.a x.os.n os) (hps : Plns W W.heap.size x.pl.a x.pl.n ps) :
    Calls Try.prog 7 #[wdV x] W fun e w' => e = .returned (.bool true) ∧ Below W.heap.size W w' := by
  have hmo := Recs.le hos
  have hmp := Recs.le hps.rows
  have HL := Lib.hid hos.length
  have HLP := Lib.hid hps.length
  have HTS := Lib.hid hts
  have HDS := Lib.hid hds
  have HOS := Lib.hid hos
  have HPS := Lib.hid hps
  clear hts hds hos hps
  obtain ⟨m, hm⟩ : ∃ m, mapOf x.n ts = m := ⟨_, rfl⟩
  have HM := Lib.hid hm
  clear hm
  obtain ⟨t, hau⟩ : ∃ z, auditM m ds os (ps.map (·.rt)) = z := ⟨_, rfl⟩
  have HAU := Lib.hid hau
  clear hau
  have HB0 : Hid (Below W.heap.size W (W.alloc (.cells #[.int .i64 x.n, x.ts.v, x.ds.v, x.os.v, x.pl.v] 52))) := (Below.refl _ _).alloc (Nat.le_refl _) _
  have HW0 := Lib.hid (WBox.new W x)
  go_enter Try.func7, Try.ntmps7
  go_wp2_with fail
  refine (kmaps_any x ts _ (by exact Reads.more (Reads.keep HTS.out HB0.out) HB0.out.size)).mono ?_
  intro e w1 hmo'
  obtain ⟨q, r, rfl, hcr⟩ := CR.start (n0 := 0) HB0.out HW0.out HDS.out HOS.out HPS.out HM.out hmo'
  have C1 := Lib.hid hcr
  clear hmo' hcr HB0 HW0
  obtain ⟨x0, x1, x2, x3, x4⟩ := C1.out.wd.cells
  go_wp2_with fail
  refine (use_audit C1.out HAU.out).mono ?_
  rintro e w2 ⟨Ba, ca, rfl, ha2⟩
  have A2 := Lib.hid ha2
  have C2 := Lib.hid (C1.out.below ha2.below)
  have V2 := Lib.hid (own_trbs ha2.own)
  have htm : t.length ≤ maxLen := ha2.own.2
  unfold maxLen at htm
  clear ha2 C1 x0 x1 x2 x3 x4
  cases hw : wellC m ds os (ps.map (·.rt)) with
  | false =>
    have e : t = [⟨0, 0, 1⟩] := by rw [← HAU.out]; exact audit_wrong hw
    subst e
    obtain ⟨b, off, y, rfl, _, hy, _, y0, y1, y2⟩ := Trbs.at_ V2.out (show 0 < 1 by decide)
    simp at hy
    subst hy
    simp only [Nat.zero_mul, Nat.add_zero] at y0 y1 y2
    clear hw V2
    go_wp2_with fail
    refine (runs_any _).mono ?_
    rintro e w3 ⟨rfl, hb3⟩
    have C3 := Lib.hid (C2.out.below hb3)
    go_wp2_with fail
    go_ret
    exact ⟨rfl, C3.out.old⟩
  | true =>
    obtain ⟨mm, hmm, _, hkn, hrp, _, _⟩ := wellC_parts hw
    subst hmm
    have HRP := Lib.hid hrp
    have HNO : Hid (∀ y ∈ t, y.why ≠ 1) := fun y hy e => by
      have := (audit_arg (m := some mm) (ds := ds) (os := os) (p := ps.map (·.rt))).1 ⟨y, by rw [HAU.out]; exact hy, e⟩
      rw [hw] at this
      cases this
    have hn8 : x.pl.n ≤ 8 := by
      have := rightP_few hrp
      rw [List.length_map, HLP.out] at this
      exact this
    have ho40 : x.os.n ≤ 40 := by have := (known_iff.1 hkn).1; rw [HL.out] at this; exact this
    have HG0 : Hid (t = [] ++ ((ps.map (·.rt)).drop 0).flatMap (xparts (some mm) ds os) ++ missT (ps.map (·.rt)) os) := by
      show _ = _
      rw [← HAU.out, audit_parts hw, List.nil_append, List.drop_zero]
      rfl
    have HKN := Lib.hid hkn
    clear hw hkn hrp
    go_upto_region 5 with fail
    go_cut [39] (fun bv wx => bv = .bool false ∧ w2 = wx)
    case first =>
      by_cases h1 : t.length = 1
      · obtain ⟨b, off, y, rfl, _, hy, _, y0, y1, y2⟩ := Trbs.at_ V2.out (show 0 < t.length by omega)
        have hny := HNO.out y (List.mem_of_getElem? hy)
        have e1 : ((t.length : Int) == 1) = true := by simp only [beq_iff_eq]; omega
        have e2 : (y.why == 1) = false := by simpa using hny
        have h0 : (0 : Int) < (t.length : Int) := by omega
        simp only [Nat.zero_mul, Nat.add_zero] at y0 y1 y2
        clear hy hny
        go_wp2_with fail
        go_meet
        exact ⟨rfl, rfl⟩
      · have e1 : ((t.length : Int) == 1) = false := by simp only [beq_eq_false_iff_ne, ne_eq]; omega
        go_wp2_with fail
        go_meet
        exact ⟨rfl, rfl⟩
    case rest =>
    obtain ⟨rfl, rfl⟩ := hcut
    have T0 : Hid (TL w2 (.slice none 0 0) [] w2) := TL.start w2
    clear HNO V2
    go_wp2_with fail
    go_loopw [7, 8] (fun pv iv wr => ∃ (k : Nat) (l : List Trb), k ≤ x.pl.n ∧ iv = .int .i64 k ∧ Hid (TL w2 pv l wr) ∧ Hid (t = l ++ ((ps.map (·.rt)).drop k).flatMap (xparts (some mm) ds os) ++ missT (ps.map (·.rt)) os) ∧ Hid (l.length ≤ 300 * k)) (fun _ iv _ => x.pl.n - (intOf iv).toNat)
    case atStart => exact ⟨0, [], Nat.zero_le _, rfl, T0, HG0, Lib.hid (by simp)⟩
    case round =>
      clear T0 HG0
      obtain ⟨k, l, hk, rfl, HS, HG, HLN⟩ := hrel
      have CW := Lib.hid (C2.out.below HS.out.below)
      obtain ⟨x0, x1, x2, x3, x4⟩ := CW.out.wd.cells
      by_cases hlt : k < x.pl.n
      · obtain ⟨b, off, y, hA, hbb, hy, hdr, _, _, _, hst, _⟩ := CW.out.plns.at_ hlt
        have hp1 := plns_one CW.out.plns hy x.pl.h
        have hyl : y.rt.stops.length ≤ 80 := rightP_short HRP.out (List.mem_map.2 ⟨y, List.mem_of_getElem? hy, rfl⟩)
        obtain ⟨xt, hxt⟩ : ∃ z, auditM (some mm) ds os [y.rt] = z := ⟨_, rfl⟩
        have hxl : xt.length ≤ 300 := by rw [← hxt]; exact audit_len hyl (by rw [HL.out]; exact ho40)
        have HXP : Hid (xparts (some mm) ds os y.rt = xt.filter (fun t => decide (t.why ≠ 19))) := by show _ = _; unfold xparts; rw [hxt]
        have HG1 := HG.out
        rw [← List.map_drop, hdr, List.map_cons] at HG1
        have HN := Lib.hid (xp_next HG1)
        have HXT := Lib.hid hxt
        have HYY := Lib.hid hy
        have HC : Hid (∀ u, Below wr.heap.size wr u → u.cell? ⟨W.heap.size, 2, none⟩ = some (.slice x.ds.a x.ds.n x.ds.c) ∧ u.cell? ⟨W.heap.size, 3, none⟩ = some (.slice x.os.a x.os.n x.os.c) ∧ u.cell? ⟨W.heap.size, 4, none⟩ = some (.slice x.pl.a x.pl.n x.pl.c)) := fun u hu => by
          obtain ⟨_, _, z2, z3, z4⟩ := (CW.out.below hu).wd.cells
          exact ⟨z2, z3, z4⟩
        have HAU1 : Hid (∀ u, Below wr.heap.size wr u → Calls Try.prog 10 #[.pointer q, .slice x.ds.a x.ds.n x.ds.c, .slice x.os.a x.os.n x.os.c, .slice (if x.pl.c = k then x.pl.a else x.pl.a.map (·.add (k * 3))) 1 (x.pl.c - k)] u fun en u' => ∃ v, en = .returned v ∧ Below u.heap.size u u' ∧ OwnK u' u.heap.size 47 3 v xt.length (trbsV xt)) := fun u hu => by
          have hcu := CW.out.below hu
          have hp := plns_one hcu.plns HYY.out x.pl.h
          have h1 := paudit_any W.heap.size q (some mm) _ _ _ ds _ _ _ os _ 1 (x.pl.c - k) [y] u x.ds.h x.os.h (by have := x.pl.h; omega) hcu.map hcu.drvs hcu.ords hp
          rw [show [y].map (·.rt) = [y.rt] from rfl, HXT.out] at h1
          exact h1
        clear hy hdr hst hp1 hxt HG1 HG hA
        go_upto_region 11 with fail
        clear x0 x1 x2 x3 x4
        go_cut [9] (fun rv wx => ∃ A9 c9, rv = .slice A9 xt.length c9 ∧ Hid (Below wr.heap.size wr wx) ∧ Hid (OwnK wx wr.heap.size 47 3 (.slice A9 xt.length c9) xt.length (trbsV xt)))
        case first =>
          refine wp_region_steps (rowRF wr.heap.size 3 47 [55, 56, 57, 58, 59, 60, 61, 62, 63, 64, 65, 66, 9] [.pointer q, .pointer (some ⟨W.heap.size, 2, none⟩), .slice x.ds.a x.ds.n x.ds.c, .pointer (some ⟨W.heap.size, 3, none⟩), .slice x.os.a x.os.n x.os.c, .pointer (some ⟨W.heap.size, 4, none⟩), .slice x.pl.a x.pl.n x.pl.c, .int .i64 ((k : Nat) : Int), .int .i64 ((k : Nat) : Int), .int .i64 ((k + 1 : Nat) : Int), .slice (if x.pl.c = k then x.pl.a else x.pl.a.map (·.add (k * 3))) 1 (x.pl.c - k), undef, undef] [(11, xt.length, trbsV xt), (12, xt.length, trbsV xt)] 11 12) (by kernel_rfl) (by kernel_rfl) (by kernel_rfl) (fun j hj => if_neg (by simp at hj; omega)) (by kernel_rfl) rowRF.mon ?_ ?_
          · refine ⟨?_, ?_, ?_, ?_, ?_, ?_, ?_, ?_, ?_, ?_, ?_, ?_, ?_, trivial⟩
            · exact rowRF.pureStep rfl 55 rfl rfl (by simp) _ rfl (by kernel_rfl) fun listed a u D hI hr hn => exec_move (.inl rfl) (hI.out 3 (by kernel_rfl))
            · exact rowRF.pureStep rfl 56 rfl rfl (by simp) _ rfl (by kernel_rfl) fun listed a u D hI hr hn => op_field rfl (hI.out 1 (by kernel_rfl)) (by simp [go_sem])
            · exact rowRF.pureStep rfl 57 rfl rfl (by simp) _ rfl (by kernel_rfl) fun listed a u D hI hr hn => exec_load rfl (rowRF.val hI hr hn 1 (by kernel_rfl) (by decide) rfl (by kernel_rfl) rfl) (run_load_drl (HC.out _ (OneR.below_drew hI.old)).1)
            · exact rowRF.pureStep rfl 58 rfl rfl (by simp) _ rfl (by kernel_rfl) fun listed a u D hI hr hn => op_field rfl (hI.out 1 (by kernel_rfl)) (by simp [go_sem])
            · exact rowRF.pureStep rfl 59 rfl rfl (by simp) _ rfl (by kernel_rfl) fun listed a u D hI hr hn => exec_load rfl (rowRF.val hI hr hn 3 (by kernel_rfl) (by decide) rfl (by kernel_rfl) rfl) (run_load_ors (HC.out _ (OneR.below_drew hI.old)).2.1)
            · exact rowRF.pureStep rfl 60 rfl rfl (by simp) _ rfl (by kernel_rfl) fun listed a u D hI hr hn => op_field rfl (hI.out 1 (by kernel_rfl)) (by simp [go_sem])
            · exact rowRF.pureStep rfl 61 rfl rfl (by simp) _ rfl (by kernel_rfl) fun listed a u D hI hr hn => exec_load rfl (rowRF.val hI hr hn 5 (by kernel_rfl) (by decide) rfl (by kernel_rfl) rfl) (run_load_pln (HC.out _ (OneR.below_drew hI.old)).2.2)
            · exact rowRF.pureStep rfl 62 rfl rfl (by simp) _ rfl (by kernel_rfl) fun listed a u D hI hr hn => exec_move (.inl rfl) (hI.out 8 (by kernel_rfl))
            · exact rowRF.pureStep rfl 63 rfl rfl (by simp) _ rfl (by kernel_rfl) fun listed a u D hI hr hn => exec_move (.inl rfl) (hI.out 8 (by kernel_rfl))
            · exact rowRF.pureStep rfl 64 rfl rfl (by simp) _ rfl (by kernel_rfl) fun listed a u D hI hr hn => exec_more rfl (rowRF.val hI hr hn 8 (by kernel_rfl) (by decide) rfl (by kernel_rfl) rfl) (by omega)
            · exact rowRF.pureStep rfl 65 rfl rfl (by simp) _ rfl (by kernel_rfl) fun listed a u D hI hr hn => exec_one_pln rfl (rowRF.val hI hr hn 6 (by kernel_rfl) (by decide) rfl (by kernel_rfl) rfl) (rowRF.val hI hr hn 7 (by kernel_rfl) (by decide) rfl (by kernel_rfl) rfl) (rowRF.val hI hr hn 9 (by kernel_rfl) (by decide) rfl (by kernel_rfl) rfl) hlt x.pl.h
            · refine rowRF.callStep (n := xt.length) (vs := trbsV xt) rfl 66 rfl rfl (by simp) (by kernel_rfl) (Nat.le_refl _) fun listed a u D hI hr hn => ⟨_, _, op_call4 rfl (rowRF.val hI hr hn 0 (by kernel_rfl) (by decide) rfl (by kernel_rfl) rfl) (rowRF.val hI hr hn 2 (by kernel_rfl) (by decide) rfl (by kernel_rfl) rfl) (rowRF.val hI hr hn 4 (by kernel_rfl) (by decide) rfl (by kernel_rfl) rfl) (rowRF.val hI hr hn 10 (by kernel_rfl) (by decide) rfl (by kernel_rfl) rfl) (by simp [go_sem]), HAU1.out _ (OneR.below_drew hI.old)⟩
            · exact rowRF.takeStep (n := xt.length) (vs := trbsV xt) rfl 9 rfl rfl (by simp) (by kernel_rfl) rfl (by decide) (by kernel_rfl) rfl (by kernel_rfl) (.inr rfl)
          · intro listed a u D hI hall
            have hrow := rowRF.done (n := xt.length) (vs := trbsV xt) (s := 9) hI hall (by simp) (by decide) rfl (by kernel_rfl)
            have hold := OneR.below_drew hI.old
            have hl := hI.fill [55, 56, 57, 58, 59, 60, 61, 62, 63, 64, 65, 66, 9] (by kernel_rfl)
            clear hI hall
            obtain ⟨σ, hσ⟩ : ∃ σ : Nat → Value, ∀ t, a.tmps.getD t undef = σ t := ⟨_, fun _ => rfl⟩
            simp only [hσ] at hl hrow
            clear hσ
            simp only [List.foldl_cons, List.foldl_nil, List.setIfInBounds_toArray, List.set_cons_zero, List.set_cons_succ] at hl
            obtain ⟨v9, hv9⟩ : ∃ v, σ 9 = v := ⟨_, rfl⟩
            rw [hv9] at hl hrow
            clear hv9
            obtain ⟨A9, c9, e9, _, _⟩ := OwnK.read hrow
            subst e9
            have HROW := Lib.hid hrow
            clear hrow
            subst hl
            go_wp2_with fail
            go_meet
            exact ⟨A9, c9, rfl, hold, HROW⟩
        case rest =>
        obtain ⟨A9, c9, rfl, hb5, ho5⟩ := hcut
        obtain ⟨w5, rfl⟩ : ∃ u, u = wc := ⟨_, rfl⟩
        have hxm : xt.length ≤ 9223372036854775807 := by omega
        have HX5 : Hid (XR A9 xt u7 w5) := XR.of HS.out hb5.out ho5.out
        have HS5 := Lib.hid (HS.out.next hb5.out)
        have hl0 : l.length ≤ 300 * k := HLN.out
        clear HC HAU1 hb5 ho5 HS HLN CW
        go_wp2_with fail
        go_loopw [7, 10] (fun pv iv wz => ∃ (j : Nat) (l' : List Trb), j ≤ xt.length ∧ iv = .int .i64 j ∧ Hid (TL w2 pv l' wz) ∧ Hid (XR A9 xt pv wz) ∧ Hid (l' = l ++ (xt.take j).filter (fun t => decide (t.why ≠ 19))) ∧ Hid (l'.length ≤ 300 * k + j)) (fun _ iv _ => xt.length - (intOf iv).toNat)
        case atStart => exact ⟨0, l, Nat.zero_le _, rfl, HS5, HX5, Lib.hid (by simp), Lib.hid (by omega)⟩
        case round =>
          clear HS5 HX5
          obtain ⟨j, l', hj, rfl, HT, HX, HL1, HL2⟩ := hrel
          by_cases hjt : j < xt.length
          · obtain ⟨g9, y9, hA9, hy9, c0, c1, c2⟩ := HX.out.at_ hjt
            subst hA9
            have hll : l'.length ≤ 100000 := by have := HL2.out; omega
            by_cases hw9 : y9.why = 19
            · have HLN1 : Hid (l' = l ++ (xt.take (j + 1)).filter (fun t => decide (t.why ≠ 19))) := by
                show _ = _
                rw [HL1.out, List.take_add_one, hy9, List.filter_append]
                simp [hw9]
              have e1 : (y9.why != 19) = false := by simp [hw9]
              have HL3 : Hid (l'.length ≤ 300 * k + (j + 1)) := by show _ ≤ _; have := HL2.out; omega
              clear hy9 HL1 HL2 hw9
              go_wp2_with fail
              go_roundw
              case rel => exact ⟨j + 1, l', by omega, by go_num, HT, HX, HLN1, HL3⟩
              case measure => simp [intOf]; omega
            · have HLN1 : Hid (l' ++ [y9] = l ++ (xt.take (j + 1)).filter (fun t => decide (t.why ≠ 19))) := by
                show _ = _
                rw [HL1.out, List.take_add_one, hy9, List.filter_append]
                simp [hw9]
              have e1 : (y9.why != 19) = true := by simpa using hw9
              have HL3 : Hid ((l' ++ [y9]).length ≤ 300 * k + (j + 1)) := by show _ ≤ _; have := HL2.out; rw [List.length_append]; simp only [List.length_cons, List.length_nil]; omega
              have HA := Lib.hid (HT.out.alloc (.cells #[.int .i64 y9.drv, .int .i64 y9.ord, .int .i64 y9.why] 47))
              have HXA : Hid (XR (some ⟨g9, 0, none⟩) xt _ (wr.alloc (.cells #[.int .i64 y9.drv, .int .i64 y9.ord, .int .i64 y9.why] 47))) := HX.out.next ((Below.refl _ _).alloc (Nat.le_refl _) _)
              have HAB : Hid (Blk (wr.alloc (.cells #[.int .i64 y9.drv, .int .i64 y9.ord, .int .i64 y9.why] 47)) wr.heap.size 47 (tcells y9)) := Blk.new wr _ (tcells y9)
              have HAL : Hid (l'.length ≤ 100000) := hll
              clear hy9 HL1 HL2 hw9
              go_wp2_with (at_builtin; refine wpList_trb (o := ⟨some 85, _, _, _, _, _⟩) rfl (.tmp 79) (.tmp 84) rfl HA.out rfl y9 HAB.out rfl HAL.out ?_; intro vB wB HQ HQK)
              go_roundw
              case rel => exact ⟨j + 1, l' ++ [y9], by omega, by go_num, HQ, Lib.hid (HXA.out.push HQK.out), HLN1, HL3⟩
              case measure => simp [intOf]; omega
          · have HE : Hid (l' = l ++ xparts (some mm) ds os y.rt) := by
              show _ = _
              rw [HL1.out, HXP.out, List.take_of_length_le (by omega)]
            have HN2 : Hid (t = l' ++ ((ps.map (·.rt)).drop (k + 1)).flatMap (xparts (some mm) ds os) ++ missT (ps.map (·.rt)) os) := by
              show _ = _
              rw [HE.out]
              have h1 := HN.out
              rw [List.map_drop] at h1
              exact h1
            have HL3 : Hid (l'.length ≤ 300 * (k + 1)) := by show _ ≤ _; have := HL2.out; omega
            clear HL1 HL2 HE HN
            go_wp2_with fail
            go_roundw
            case rel => exact ⟨k + 1, l', by omega, by go_num, HT, HN2, HL3⟩
            case measure => simp [intOf]; omega
      · have HG1 : Hid (t = l ++ missT (ps.map (·.rt)) (os.drop 0)) := by
          show _ = _
          have h1 := HG.out
          rw [List.drop_of_length_le (by rw [List.length_map, HLP.out]; omega)] at h1
          rw [List.drop_zero]
          simpa using h1
        have HLN1 : Hid (l.length ≤ 2400) := by show _ ≤ _; have := HLN.out; omega
        clear HG HLN
        go_wp2_with fail
        clear x0 x1 x2 x3 x4 hlt hk CW
        go_loopw [7, 11] (fun pv iv wz => ∃ (k : Nat) (l : List Trb), k ≤ x.os.n ∧ iv = .int .i64 k ∧ Hid (TL w2 pv l wz) ∧ Hid (t = l ++ missT (ps.map (·.rt)) (os.drop k)) ∧ Hid (l.length ≤ 2400 + k)) (fun _ iv _ => x.os.n - (intOf iv).toNat)
        case atStart => exact ⟨0, l, Nat.zero_le _, rfl, HS, HG1, Lib.hid (by have := HLN1.out; omega)⟩
        case round =>
          clear HS HG1 HLN1
          obtain ⟨k, l, hk, rfl, HS, HG, HLN⟩ := hrel
          have C4 := Lib.hid (C2.out.below HS.out.below)
          obtain ⟨x0, x1, x2, x3, x4⟩ := C4.out.wd.cells
          by_cases hlt : k < x.os.n
          case neg =>
            have HE : Hid (t = l) := by
              show _ = _
              have h1 := HG.out
              rw [List.drop_of_length_le (by rw [HL.out]; omega)] at h1
              rw [h1]; simp [missT]
            have VA : Hid (Trbs wr wr.heap.size Ba t.length t) := Recs.more (Recs.keep (own_trbs A2.out.own) HS.out.below) HS.out.below.size
            obtain ⟨B9, c9, hv9⟩ := HS.out.own.slice
            subst hv9
            have VB : Hid (Trbs wr wr.heap.size B9 t.length t) := by
              have h1 := HS.out.own
              rw [← HE.out] at h1
              exact own_trbs h1
            have hlen : l.length = t.length := by rw [HE.out]
            clear HG HE HS
            rw [hlen]
            clear hlen
            go_wp2_with fail
            refine (sameTrb Ba B9 t.length ca c9 t _ _ wr VA.out VB.out).mono ?_
            rintro e w5 ⟨rfl, d5, hw5⟩
            have C5 := Lib.hid (C4.out.below (drewN_below hw5))
            clear hw5 VA VB C4 x0 x1 x2 x3 x4
            go_wp2_with fail
            refine (runs_any _).mono ?_
            rintro e w6 ⟨rfl, hb6⟩
            have C6 := Lib.hid (C5.out.below hb6)
            go_wp2_with fail
            go_ret
            exact ⟨rfl, C6.out.old⟩
          obtain ⟨b, off, o, hA, _, ho, hdr, _⟩ := Ords.at_ C4.out.ords hlt
          obtain ⟨sd, sp, sq, sb, hsv, hsb⟩ := spot_form (findP (ps.map (·.rt)) o.id)
          have HOO := Lib.hid ho
          have HG1 := HG.out
          rw [hdr] at HG1
          have HN := Lib.hid (ms_next HG1)
          rw [← hsb] at HN
          have HC : Hid (∀ u, Below wr.heap.size wr u → u.cell? ⟨W.heap.size, 4, none⟩ = some (.slice x.pl.a x.pl.n x.pl.c) ∧ u.cell? ⟨W.heap.size, 3, none⟩ = some (.slice (some ⟨b, off, none⟩) x.os.n x.os.c) ∧ u.cell? ⟨b, off + k * 10, none⟩ = some (.int .i64 o.id)) := fun u hu => by
            have hcu := C4.out.below hu
            obtain ⟨_, _, _, z3, z4⟩ := hcu.wd.cells
            obtain ⟨b', off', o', e', _, ho', _, c0, _⟩ := Ords.at_ hcu.ords hlt
            rw [hA] at e'
            injection e' with e'
            injection e' with e1 e2
            subst e1; subst e2
            rw [HOO.out] at ho'
            injection ho' with ho'
            subst ho'
            refine ⟨z4, ?_, c0⟩
            rw [z3]
            show some (Value.slice x.os.a x.os.n x.os.c) = _
            rw [hA]
          have HFD : Hid (∀ u, Below wr.heap.size wr u → Calls Try.prog 20 #[.slice x.pl.a x.pl.n x.pl.c, .int .i64 o.id] u (fun e w' => e = .returned (.tuple #[.agg #[.int .i64 sd, .int .i64 sp, .int .i64 sq, .int .i64 0], .bool sb]) ∧ Below u.heap.size u w')) := fun u hu => use_pfind (C4.out.below hu) hsv
          clear ho hsv hsb hA hdr HG1 HG
          go_upto_region 20 with fail
          clear x0 x1 x2 x3 x4
          go_cut [12, 13] (fun pv bv wx => ∃ gt, pv = .pointer (some ⟨gt, 0, none⟩) ∧ bv = .bool sb ∧ Hid (Below wr.heap.size wr wx))
          case first =>
            refine wp_region_steps (boxRF [94, 95, 96, 97, 98, 99, 100, 101, 102, 93, 103, 104, 12, 12, 13] [.pointer (some ⟨W.heap.size, 4, none⟩), .slice x.pl.a x.pl.n x.pl.c, .pointer (some ⟨W.heap.size, 3, none⟩), .slice (some ⟨b, off, none⟩) x.os.n x.os.c, .int .i64 ((k : Nat) : Int), .pointer (some ⟨b, off + k * 10, none⟩), .pointer (some ⟨b, off + k * 10, none⟩), .int .i64 o.id, .tuple #[.agg #[.int .i64 sd, .int .i64 sp, .int .i64 sq, .int .i64 0], .bool sb], .tuple #[.agg #[.int .i64 sd, .int .i64 sp, .int .i64 sq, .int .i64 0], .bool sb], .agg #[.int .i64 sd, .int .i64 sp, .int .i64 sq, .int .i64 0], .bool sb, undef, undef, .bool sb] 12 13 67 [.int .i64 0, .int .i64 0, .int .i64 0, .int .i64 0] [.int .i64 sd, .int .i64 sp, .int .i64 sq, .int .i64 0]) (by kernel_rfl) (by kernel_rfl) (by kernel_rfl) (fun q hq => ?_) (by kernel_rfl) boxRF.mon ?_ ?_
            · simp only [List.length_cons, List.length_nil] at hq
              simp only [boxRF]
              rw [if_neg (by omega)]
            · refine ⟨?_, ?_, ?_, ?_, ?_, ?_, ?_, ?_, ?_, ?_, ?_, ?_, ?_, ?_, ?_, trivial⟩
              · exact boxRF.pureStep rfl 94 rfl rfl (by simp) (by decide) (by decide) _ rfl fun listed a u D hI hr hn => op_field rfl (hI.out 1 (by kernel_rfl)) (by simp [go_sem])
              · exact boxRF.pureStep rfl 95 rfl rfl (by simp) (by decide) (by decide) _ rfl fun listed a u D hI hr hn => exec_load rfl (boxRF.val hI hr hn 0 (by kernel_rfl) (by decide) (by decide) rfl rfl) (run_load_pln (HC.out _ (OneR.below_drew hI.old)).1)
              · exact boxRF.pureStep rfl 96 rfl rfl (by simp) (by decide) (by decide) _ rfl fun listed a u D hI hr hn => op_field rfl (hI.out 1 (by kernel_rfl)) (by simp [go_sem])
              · exact boxRF.pureStep rfl 97 rfl rfl (by simp) (by decide) (by decide) _ rfl fun listed a u D hI hr hn => exec_load rfl (boxRF.val hI hr hn 2 (by kernel_rfl) (by decide) (by decide) rfl rfl) (run_load_ors (HC.out _ (OneR.below_drew hI.old)).2.1)
              · exact boxRF.pureStep rfl 98 rfl rfl (by simp) (by decide) (by decide) _ rfl fun listed a u D hI hr hn => exec_move (.inl rfl) (hI.out 11 (by kernel_rfl))
              · exact boxRF.pureStep rfl 99 rfl rfl (by simp) (by decide) (by decide) _ rfl fun listed a u D hI hr hn => OneR.exec_index_o rfl (boxRF.val hI hr hn 3 (by kernel_rfl) (by decide) (by decide) rfl rfl) (boxRF.val hI hr hn 4 (by kernel_rfl) (by decide) (by decide) rfl rfl) hlt hmo
              · exact boxRF.pureStep rfl 100 rfl rfl (by simp) (by decide) (by decide) _ rfl fun listed a u D hI hr hn => op_field rfl (boxRF.val hI hr hn 5 (by kernel_rfl) (by decide) (by decide) rfl rfl) (by simp [go_sem])
              · exact boxRF.pureStep rfl 101 rfl rfl (by simp) (by decide) (by decide) _ rfl fun listed a u D hI hr hn => exec_load rfl (boxRF.val hI hr hn 6 (by kernel_rfl) (by decide) (by decide) rfl rfl) (run_load_pi (HC.out _ (OneR.below_drew hI.old)).2.2)
              · exact boxRF.callStep rfl 102 rfl rfl (by simp) (by decide) (by decide) _ rfl fun listed a u D hI hr hn => ⟨_, _, op_call2 rfl (boxRF.val hI hr hn 1 (by kernel_rfl) (by decide) (by decide) rfl rfl) (boxRF.val hI hr hn 7 (by kernel_rfl) (by decide) (by decide) rfl rfl) (by simp [go_sem]), HFD.out _ (OneR.below_drew hI.old)⟩
              · exact boxRF.pureStep rfl 93 rfl rfl (by simp) (by decide) (by decide) _ rfl fun listed a u D hI hr hn => exec_move (.inl rfl) (boxRF.val hI hr hn 8 (by kernel_rfl) (by decide) (by decide) rfl rfl)
              · exact boxRF.pureStep rfl 103 rfl rfl (by simp) (by decide) (by decide) _ rfl fun listed a u D hI hr hn => op_extract rfl (boxRF.val hI hr hn 9 (by kernel_rfl) (by decide) (by decide) rfl rfl) rfl
              · exact boxRF.pureStep rfl 104 rfl rfl (by simp) (by decide) (by decide) _ rfl fun listed a u D hI hr hn => op_extract rfl (boxRF.val hI hr hn 9 (by kernel_rfl) (by decide) (by decide) rfl rfl) rfl
              · exact boxRF.allocStep rfl 12 rfl rfl (by simp) fun a u => exec_asp rfl
              · exact boxRF.storeStep rfl rfl rfl rfl (by decide) (by kernel_rfl) fun listed a u D hI hr hn g e1 hb => ⟨_, exec_store rfl e1 (boxRF.val hI hr hn 10 (by kernel_rfl) (by decide) (by decide) rfl rfl) (run_store_sp hb), ((((Only.refl _ _).set _ _).set _ _).set _ _).set _ _, putSp_box hb⟩
              · exact boxRF.pureStep rfl 13 rfl rfl (by simp) (by decide) (by decide) _ rfl fun listed a u D hI hr hn => exec_move (.inr rfl) (boxRF.val hI hr hn 11 (by kernel_rfl) (by decide) (by decide) rfl rfl)
            · intro listed a u D hI hall
              obtain ⟨gt, eB, hbx⟩ := boxRF.box hI hall (by decide) (by decide) (s := 12) rfl
              have eR0 : a.tmps.getD 13 undef = .bool sb := by
                have := hI.fact 14 ⟨hall 14 (by simp), fun k hk => by simp [boxRF] at hk⟩
                simp only [boxRF] at this
                rw [if_neg (by decide), if_neg (by decide)] at this
                exact this.1
              have hold := OneR.below_drew hI.old
              have hl := hI.fill [94, 95, 96, 97, 98, 99, 100, 101, 102, 93, 103, 104, 12, 13] (by kernel_rfl)
              clear hI hall
              obtain ⟨σ, hσ⟩ : ∃ σ : Nat → Value, ∀ t, a.tmps.getD t undef = σ t := ⟨_, fun _ => rfl⟩
              simp only [hσ] at hl eB eR0
              clear hσ
              simp only [List.foldl_cons, List.foldl_nil, List.setIfInBounds_toArray, List.set_cons_zero, List.set_cons_succ, eB, eR0] at hl
              subst hl
              go_wp2_with fail
              go_meet
              exact ⟨gt, rfl, rfl, hold⟩
          case rest =>
          obtain ⟨gt, rfl, rfl, hb5⟩ := hcut
          obtain ⟨w5, rfl⟩ : ∃ u, u = wc := ⟨_, rfl⟩
          have HS5 := Lib.hid (HS.out.next hb5.out)
          obtain ⟨_, z3, c0⟩ := HC.out w5 hb5.out
          clear hb5 C4 HC HFD HS
          cases sb with
          | true =>
            have HN1 := Lib.hid (HN.out.1 rfl)
            go_wp2_with fail
            go_roundw
            case rel => exact ⟨k + 1, l, by omega, by go_num, HS5, HN1, Lib.hid (by have := HLN.out; omega)⟩
            case measure => simp [intOf]; omega
          | false =>
            have HN1 := Lib.hid (HN.out.2 rfl)
            have HA := Lib.hid (HS5.out.alloc (.cells #[.int .i64 0, .int .i64 o.id, .int .i64 19] 47))
            have HAB : Hid (Blk (w5.alloc (.cells #[.int .i64 0, .int .i64 o.id, .int .i64 19] 47)) w5.heap.size 47 (tcells ⟨0, o.id, 19⟩)) := Blk.new w5 _ (tcells ⟨0, o.id, 19⟩)
            have HAL : Hid (l.length ≤ 100000) := by show _ ≤ _; have := HLN.out; omega
            go_wp2_with (at_builtin; refine wpList_trb (o := ⟨some 116, _, _, _, _, _⟩) rfl (.tmp 107) (.tmp 115) rfl HA.out rfl ⟨0, o.id, 19⟩ HAB.out rfl HAL.out ?_; intro vB wB HQ HQK)
            go_roundw
            case rel => exact ⟨k + 1, l ++ [⟨0, o.id, 19⟩], by omega, by go_num, HQ, HN1, Lib.hid (by have := HLN.out; simp only [List.length_append, List.length_cons, List.length_nil]; omega)⟩
            case measure => simp [intOf]; omega
theorem auditParts_w (x : Wd) (W : World) (h : ∃ ts ds os ps, Frames.WdOk W x ts ds os ∧ Frames.PlnOk W x.pl.a x.pl.n x.pl.c ps) : Calls Try.prog 7 #[wdV x] W fun e w' => e = .returned (.bool true) ∧ Below W.heap.size W w' := by
  obtain ⟨ts, ds, os, ps, h1, h2⟩ := h
  exact auditParts_walk x ts ds os ps W h1.ts h1.ds h1.os h2.plns
#print axioms auditParts_w
end Go.Proofs.Ytjklpdeeohhhnaa.Audit
