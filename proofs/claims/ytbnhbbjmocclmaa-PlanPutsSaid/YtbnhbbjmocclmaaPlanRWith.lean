/-
  The document's own answer to chapter 9, walked: With.
-/
import Derived.Test.YtbnhbbjmocclmaaPlanRFind
import Derived.Test.YtbnhbbjmocclmaaPlanRRight
import Derived.Test.YtbnhbbjmocclmaaPlanRCopy
import Derived.Test.YtbnhbbjmocclmaaPlanPWith
import Derived.Test.YtbnhbbjmocclmaaSlackRPut
import Derived.Test.YtbnhbbjmocclmaaPlanExec
import Derived.Test.YtbnhbbjmocclmaaRegions
import Derived.Deep.Cut
import Derived.Deep.CutRange
namespace Go.Proofs.Ytbnhbbjmocclmaa.Plan
open Go.ChangeShapes Go.WideShapes Go.ChangeAt Go.RowKit Go.Proofs.Ytbnhbbjmocclmaa.Mem Go.Proofs.Ytbnhbbjmocclmaa.FleetMath Go.Proofs.Ytbnhbbjmocclmaa.PlanMath Go.Proofs.Ytbnhbbjmocclmaa.Rec
set_option linter.unusedVariables false
set_option linter.unusedSimpArgs false

theorem spot_form' (r : Option Spt) : ∃ (d p q : Int), spotV r = .tuple #[.agg #[.int .i64 d, .int .i64 p, .int .i64 q, .int .i64 0], .bool r.isSome] := by
  cases r with
  | none => exact ⟨0, 0, 0, rfl⟩
  | some s => exact ⟨s.drv, s.pick, s.drop, rfl⟩
/-- a route of a plan that was made gets other stops, a row of the call's own that was made behind it -/
theorem NewP.later {w0 w6 w : World} {v : Value} {l : List RM} {i : Nat} {x : RM} {A : Option Addr} {s : List Stp} {c m : Nat} (h6 : NewP w0 w6 v l) (hb : Below w6.heap.size w6 w) (ho : OwnK w w6.heap.size 23 2 (.slice A m c) m (stpsV s)) (hx : l[i]? = some x) :
    ∃ g cap, v = .slice (some ⟨g, 0, none⟩) l.length cap ∧ (∃ u, w.cell? ⟨g, i * 3 + 2, none⟩ = some u) ∧ w.frozen? ⟨g, i * 3 + 2, none⟩ = false ∧ Hid (NewP w0 (w.setCell ⟨g, i * 3 + 2, none⟩ (.slice A m c)) v (l.set i ⟨⟨x.rt.drv, x.rt.served, s⟩, A, m, c⟩)) := by
  have hlt := (List.getElem?_eq_some_iff.1 hx).1
  have h := h6.keep hb
  rcases h6.own.blk with ⟨_, h0⟩ | ⟨g6, cap6, cur6, e6, hg6, hB6, _⟩
  · omega
  rcases h.own.blk with ⟨_, h0⟩ | ⟨g, cap, cur, rfl, hg, hB, hnc, hcl, htk⟩
  · omega
  have hg6' : g = g6 := by injection e6 with e6; injection e6 with e6; injection e6
  have hgl : g < w6.heap.size := by rw [hg6']; exact hB6.lt
  have hi : i * 3 + 2 < cur.length := by
    have : (i + 1) * 3 ≤ cap * 3 := Nat.mul_le_mul_right _ (by omega)
    omega
  refine ⟨g, cap, rfl, ⟨_, hB.cell (List.getElem?_eq_getElem hi)⟩, hB.free _, ?_⟩
  have hoth : ∀ q, q ≠ g → (w.setCell ⟨g, i * 3 + 2, none⟩ (.slice A m c)).heap[q]? = w.heap[q]? := fun q hq => Below.heap_setCell _ _ _ _ hq
  have hown : ∀ {base : Nat} {r : Value} {k : Nat} {vs : List Value}, OwnK w base 23 2 r k vs → Two r (.slice (some ⟨g, 0, none⟩) l.length cap) → OwnK (w.setCell ⟨g, i * 3 + 2, none⟩ (.slice A m c)) base 23 2 r k vs := by
    rintro base r k vs ⟨⟨h1, h2⟩, h3⟩ h4
    refine ⟨⟨h1, ?_⟩, h3⟩
    rcases h2 with h2 | ⟨q, cp, cr, e, hq, hh, hr⟩
    · exact .inl h2
    · exact .inr ⟨q, cp, cr, e, hq, (hoth q (fun e' => h4 q (by rw [e]; rfl) (by subst e'; rfl))).trans hh, hr⟩
  have ht : Two (.slice A m c) (.slice (some ⟨g, 0, none⟩) l.length cap) := by
    intro q hq e
    have := (own_blk ho hq).1
    have e' : g = q := by simpa [Value.ownBlock] using e
    omega
  refine Lib.hid ⟨h.old.setCell hg _, ?_, fun r hr => ?_⟩
  · have hbp := hB.put (i * 3 + 2) (.slice A m c)
    have e : (cur.set (i * 3 + 2) (.slice A m c)).take (l.length * 3) = rmsV (l.set i ⟨⟨x.rt.drv, x.rt.served, s⟩, A, m, c⟩) := by
      rw [List.take_set, htk]
      exact rmsV_set hx s A m c
    rw [List.length_set]
    refine ⟨⟨by rw [← e, List.length_take, List.length_set]; have : l.length * 3 ≤ cap * 3 := Nat.mul_le_mul_right _ hnc; omega, .inr ⟨g, cap, (cur.set (i * 3 + 2) (.slice A m c)).toArray, rfl, hg, hbp, hnc, ?_, by simp [hcl], e⟩⟩, h.own.2⟩
    rcases h.own.1.2 with ⟨h7, _⟩ | ⟨g2, cap2, cur2, h7, _, _, _, h8, _⟩
    · cases h7
    · injection h7 with _ _ h7
      rw [h7]; exact h8
  · rcases List.mem_or_eq_of_mem_set hr with hr | rfl
    · obtain ⟨h1, h2⟩ := h.each r hr
      exact ⟨hown h1 h2, h2⟩
    · exact ⟨hown (ho.lower h6.old.size) ht, ht⟩

/-- .. by a call within another -/
theorem NewP.lower {w0 w1 w : World} {v : Value} {l : List RM} (h : NewP w1 w v l) (hw : Below w0.heap.size w0 w1) : NewP w0 w v l :=
  ⟨hw.trans (h.old.mono hw.size), h.own.lower hw.size, fun r hr => ⟨(h.each r hr).1.lower hw.size, (h.each r hr).2⟩⟩
section
variable {o : Oper} {a : Act} {u : World} {x : Operand}
theorem exec_p1 {g : Nat} (h : o.op = .fieldAddr 30 x 1) (hp : a.eval x = .pointer (some ⟨g, 0, none⟩)) : (execOp a.eval o).run Try.prog u = .ok (.value (.pointer (some ⟨g, 1, none⟩))) u := by
  unfold execOp
  rw [h]
  simp only [hp]
  simp [go_sem]
theorem exec_p2 {g : Nat} (h : o.op = .fieldAddr 30 x 2) (hp : a.eval x = .pointer (some ⟨g, 0, none⟩)) : (execOp a.eval o).run Try.prog u = .ok (.value (.pointer (some ⟨g, 2, none⟩))) u := by
  unfold execOp
  rw [h]
  simp only [hp]
  simp [go_sem]
end
/-- the spot's box, and all that was there before -/
structure WB (w wr : World) (s : Spt) (y : Int) : Prop where
  old : Below w.heap.size w wr
  box : Blk wr w.heap.size 30 [.int .i64 s.drv, .int .i64 s.pick, .int .i64 s.drop, .int .i64 y]
theorem WB.keep {w wr w' : World} {s : Spt} {y : Int} (h : WB w wr s y) (hb : Below wr.heap.size wr w') : WB w w' s y := ⟨h.old.trans (hb.mono h.old.size), h.box.below hb h.box.lt⟩

set_option maxRecDepth 100000 in
set_option maxHeartbeats 8000000 in
theorem rwith_any (A : Option Addr) (n c : Nat) (l : List RM) (o : Int) (s : Spt) (y : Int) (w : World) (hl : Plns w w.heap.size A n l) :
    Calls Try.prog 30 #[.slice A n c, .int .i64 o, .agg #[.int .i64 s.drv, .int .i64 s.pick, .int .i64 s.drop, .int .i64 y]] w (WithS w (withP (l.map (·.rt)) o s)) := by
  have hm := Recs.le hl.rows
  have HI := Lib.hid hl
  have HL := Lib.hid hl.length
  have H0 : Hid (WB w (w.alloc (.cells #[.int .i64 s.drv, .int .i64 s.pick, .int .i64 s.drop, .int .i64 y] 30)) s y) := ⟨(Below.refl _ _).alloc (Nat.le_refl _) _, Blk.new _ _ _⟩
  clear hl
  obtain ⟨fd, fp, fq, hfv⟩ := spot_form' (findP (l.map (·.rt)) o)
  have HFV := Lib.hid hfv
  obtain ⟨rv, hrv⟩ : ∃ r, rightP (l.map (·.rt)) = r := ⟨_, rfl⟩
  have HRV := Lib.hid hrv
  obtain ⟨fs, hfs⟩ : ∃ r, (findP (l.map (·.rt)) o).isSome = r := ⟨_, rfl⟩
  have HFS := Lib.hid hfs
  rw [hfs] at HFV
  clear hfv hrv hfs
  go_enter Try.func30, Try.ntmps30
  go_wp2_with fail
  refine (rfindp_any A n c l o _ (by exact (HI.out.keep H0.out.old).more H0.out.old.size)).mono ?_
  rintro e w1 ⟨rfl, hb1⟩
  rw [HFV.out]
  have H1 := Lib.hid (H0.out.keep (hb1.trans (((Below.refl w1.heap.size w1).alloc (Nat.le_refl _) (.cells #[.int .i64 fd, .int .i64 fp, .int .i64 fq, .int .i64 0] 30)).mono hb1.size)))
  clear hb1 H0
  have s0 := H1.out.box.cell (i := 0) rfl
  have s1 := H1.out.box.cell (i := 1) rfl
  have s2 := H1.out.box.cell (i := 2) rfl
  go_wp2_with fail
  refine (rnumberp_any A n c l s.drv _ (by exact (HI.out.keep H1.out.old).more H1.out.old.size)).mono ?_
  rintro e w2 ⟨rfl, rfl⟩
  obtain ⟨w2, hw2⟩ : ∃ u, w1.alloc (.cells #[.int .i64 fd, .int .i64 fp, .int .i64 fq, .int .i64 0] 30) = u := ⟨_, rfl⟩
  rw [hw2] at H1 s0 s1 s2 ⊢
  clear hw2
  have HRC : Hid (∀ u, WB w u s y → Calls Try.prog 23 #[.slice A n c] u (fun e w' => e = .returned (.bool rv) ∧ Below u.heap.size u w')) := Lib.hid (fun u hu => by
    refine (rright_any A n c l u ((HI.out.keep hu.old).more hu.old.size)).mono ?_
    rintro e w' ⟨rfl, hb⟩
    exact ⟨by rw [HRV.out], hb⟩)
  have hnc := num_cases (l.map (·.rt)) s.drv 0
  obtain ⟨iv, hiv⟩ : ∃ z, numFrom (l.map (·.rt)) s.drv 0 = z := ⟨_, rfl⟩
  rw [hiv] at hnc ⊢
  -- where the driver's route stands, if it does
  have hix : ∃ (i b off xn : Nat) (xa : Option Addr) (xc : Nat) (rt : Rte), (¬ iv < 0 → (iv = (i : Int) ∧ A = some ⟨b, off, none⟩ ∧ i < n ∧ (∀ u, Below w.heap.size w u → u.cell? ⟨b, off + i * 3 + 1, none⟩ = some (.int .i64 rt.served)) ∧ ∀ u, Below w.heap.size w u → u.cell? ⟨b, off + i * 3 + 2, none⟩ = some (.slice xa xn xc)) ∧ l[i]? = some ⟨rt, xa, xn, xc⟩) := by
    rcases hnc with ⟨h1, _⟩ | ⟨i, x0, h1, h2, _⟩
    · exact ⟨0, 0, 0, 0, none, 0, ⟨0, 0, []⟩, fun h => absurd (show iv < 0 by omega) h⟩
    · rw [Nat.zero_add] at h1
      obtain ⟨x, hx, hxe⟩ : ∃ x, l[i]? = some x ∧ x.rt = x0 := by
        rw [List.getElem?_map] at h2
        cases h : l[i]? with
        | none => rw [h] at h2; cases h2
        | some x => rw [h] at h2; injection h2 with h2; exact ⟨x, rfl, h2⟩
      have hin : i < n := by have := (List.getElem?_eq_some_iff.1 hx).1; have := HL.out; omega
      obtain ⟨b, off, x', e, hbb, hx', _, c0, c1, c2, hst, hxc⟩ := HI.out.at_ hin
      obtain rfl : x' = x := by rw [hx] at hx'; injection hx' with h; exact h.symm
      exact ⟨i, b, off, x'.n, x'.a, x'.c, x'.rt, fun _ => ⟨⟨h1, e, hin, fun u hu => (hu.cell (p := ⟨b, off + i * 3 + 1, none⟩) hbb).trans c1, fun u hu => (hu.cell (p := ⟨b, off + i * 3 + 2, none⟩) hbb).trans c2⟩, hx⟩⟩
  obtain ⟨i, b, off, xn, xa, xc, rt, hix⟩ := hix
  obtain ⟨sv, hsv⟩ : ∃ z, rt.served = z := ⟨_, rfl⟩
  rw [hsv] at hix
  have HIX : Hid (¬ iv < 0 → iv = (i : Int) ∧ A = some ⟨b, off, none⟩ ∧ i < n ∧ (∀ u, Below w.heap.size w u → u.cell? ⟨b, off + i * 3 + 1, none⟩ = some (.int .i64 sv)) ∧ ∀ u, Below w.heap.size w u → u.cell? ⟨b, off + i * 3 + 2, none⟩ = some (.slice xa xn xc)) := Lib.hid (fun h => (hix h).1)
  have HXX : Hid (¬ iv < 0 → l[i]? = some ⟨rt, xa, xn, xc⟩) := Lib.hid (fun h => (hix h).2)
  have HSV := Lib.hid hsv
  have HNC := Lib.hid hnc
  have HIV := Lib.hid hiv
  clear hnc hix hsv hiv
  obtain ⟨a1, ha1⟩ : ∃ z, (!rv || decide (o < 1)) = z := ⟨_, rfl⟩
  obtain ⟨a2, ha2⟩ : ∃ z, (a1 || decide (1000000 < o)) = z := ⟨_, rfl⟩
  obtain ⟨a3, ha3⟩ : ∃ z, (a2 || fs) = z := ⟨_, rfl⟩
  obtain ⟨a4, ha4⟩ : ∃ z, (a3 || decide (iv < 0)) = z := ⟨_, rfl⟩
  obtain ⟨a5, ha5⟩ : ∃ z, (a4 || decide (78 < (xn : Int))) = z := ⟨_, rfl⟩
  obtain ⟨a6, ha6⟩ : ∃ z, (a5 || decide (s.pick < sv)) = z := ⟨_, rfl⟩
  obtain ⟨a7, ha7⟩ : ∃ z, (a6 || decide (s.drop < s.pick)) = z := ⟨_, rfl⟩
  obtain ⟨a8, ha8⟩ : ∃ z, (a7 || decide ((xn : Int) < s.drop)) = z := ⟨_, rfl⟩
  have imp4 : a4 = false → ¬ iv < 0 := fun h => by rw [h, Bool.or_eq_false_iff] at ha4; simpa using ha4.2
  have imp5 : a5 = false → ¬ iv < 0 := fun h => by rw [h, Bool.or_eq_false_iff] at ha5; exact imp4 ha5.1
  have imp6 : a6 = false → ¬ iv < 0 := fun h => by rw [h, Bool.or_eq_false_iff] at ha6; exact imp5 ha6.1
  have imp7 : a7 = false → ¬ iv < 0 := fun h => by rw [h, Bool.or_eq_false_iff] at ha7; exact imp6 ha7.1
  -- what the whole test says
  have hno : a8 = true → withP (l.map (·.rt)) o s = none := by
    intro h8
    by_cases hneg : iv < 0
    · refine withP_none _ _ _ ?_
      rw [HIV.out]
      rcases HNC.out with ⟨h1, _⟩ | ⟨j, _, h1, _⟩
      · exact h1
      · omega
    · obtain ⟨e1, _, hin, _, _⟩ := HIX.out hneg
      have hx := HXX.out hneg
      have hxr : (l.map (·.rt))[i]? = some rt := by rw [List.getElem?_map, hx]; rfl
      have hxl : rt.stops.length = xn := by
        have h := (HI.out.each _ (List.mem_of_getElem? hx)).1
        exact Stps.length h
      rw [PlanMath.withP, HIV.out, e1, if_neg (by omega), Int.toNat_natCast, hxr]
      simp only
      rw [if_neg]
      intro hok
      simp only [withOk, Bool.and_eq_true, decide_eq_true_eq, nmb, Option.isNone_iff_eq_none] at hok
      obtain ⟨⟨⟨k1, k2⟩, k3⟩, k4, k5, k6, k7⟩ := hok
      have k3' : fs = false := by rw [← HFS.out, k3]; rfl
      have k1' : rv = true := by rw [← HRV.out]; exact k1
      have q1 : a1 = false := by rw [← ha1, k1']; simp; omega
      have q2 : a2 = false := by rw [← ha2, q1]; simp; omega
      have q3 : a3 = false := by rw [← ha3, q2, k3']; rfl
      have q4 : a4 = false := by rw [← ha4, q3]; simp; omega
      have q5 : a5 = false := by rw [← ha5, q4]; simp; omega
      have q6 : a6 = false := by rw [← ha6, q5]; have := HSV.out; simp; omega
      have q7 : a7 = false := by rw [← ha7, q6]; simp; omega
      have q8 : a8 = false := by rw [← ha8, q7]; simp; omega
      rw [q8] at h8
      cases h8
  have hyes : a8 = false → ¬ iv < 0 ∧ rv = true ∧ 1 ≤ o ∧ o ≤ 1000000 ∧ fs = false ∧ xn ≤ 78 ∧ sv ≤ s.pick ∧ s.pick ≤ s.drop ∧ s.drop ≤ (xn : Int) := by
    intro h8
    rw [h8, Bool.or_eq_false_iff] at ha8
    rw [ha8.1, Bool.or_eq_false_iff] at ha7
    rw [ha7.1, Bool.or_eq_false_iff] at ha6
    rw [ha6.1, Bool.or_eq_false_iff] at ha5
    rw [ha5.1, Bool.or_eq_false_iff] at ha4
    rw [ha4.1, Bool.or_eq_false_iff] at ha3
    rw [ha3.1, Bool.or_eq_false_iff] at ha2
    rw [ha2.1, Bool.or_eq_false_iff] at ha1
    have r1 := ha1.2
    have r2 := ha2.2
    have r4 := ha4.2
    have r5 := ha5.2
    have r6 := ha6.2
    have r7 := ha7.2
    have r8 := ha8.2
    simp only [decide_eq_false_iff_not] at r1 r2 r4 r5 r6 r7 r8
    exact ⟨r4, by simpa using ha1.1, by omega, by omega, ha3.2, by omega, by omega, by omega, by omega⟩
  have HNO := Lib.hid hno
  have HYES := Lib.hid hyes
  clear hno hyes s0 s1 s2
  go_upto_region 3 with fail
  go_cut [76] from 22 to 76 (fun bv wx => Hid (WB w wx s y) ∧ bv = .bool a8)
  case first =>
    refine wp_region_steps (valRF [22, 23, 24, 25, 26, 27, 28, 29, 30, 31, 32, 33, 34, 35, 36, 37, 38, 39, 40, 41, 42, 43, 44, 45, 46, 47, 48, 49, 50, 51, 52, 53, 54, 55, 56, 57, 58, 59, 60, 61, 62, 63, 64, 65, 66, 67, 68, 69, 70, 71, 72, 73, 74, 75, 76] [.slice A n c, .bool rv, .bool (!rv), .bool (!rv), mb (!rv) (.int .i64 o), mb (!rv) (.bool (decide (o < 1))), .bool a1, .bool a1, mb a1 (.int .i64 o), mb a1 (.bool (decide (1000000 < o))), .bool a2, .bool a2, mb a2 (.bool fs), .bool a3, .bool a3, mb a3 (.int .i64 iv), mb a3 (.bool (decide (iv < 0))), .bool a4, .bool a4, mb a4 (.slice A n c), mb a4 (.int .i64 iv), mb a4 (.pointer (some ⟨b, off + i * 3, none⟩)), mb a4 (.pointer (some ⟨b, off + i * 3 + 2, none⟩)), mb a4 (.slice xa xn xc), mb a4 (.int .i64 (xn : Int)), mb a4 (.bool (decide (78 < (xn : Int)))), .bool a5, .bool a5, mb a5 (.pointer (some ⟨w.heap.size, 1, none⟩)), mb a5 (.int .i64 s.pick), mb a5 (.slice A n c), mb a5 (.int .i64 iv), mb a5 (.pointer (some ⟨b, off + i * 3, none⟩)), mb a5 (.pointer (some ⟨b, off + i * 3 + 1, none⟩)), mb a5 (.int .i64 sv), mb a5 (.bool (decide (s.pick < sv))), .bool a6, .bool a6, mb a6 (.pointer (some ⟨w.heap.size, 2, none⟩)), mb a6 (.int .i64 s.drop), mb a6 (.pointer (some ⟨w.heap.size, 1, none⟩)), mb a6 (.int .i64 s.pick), mb a6 (.bool (decide (s.drop < s.pick))), .bool a7, .bool a7, mb a7 (.pointer (some ⟨w.heap.size, 2, none⟩)), mb a7 (.int .i64 s.drop), mb a7 (.slice A n c), mb a7 (.int .i64 iv), mb a7 (.pointer (some ⟨b, off + i * 3, none⟩)), mb a7 (.pointer (some ⟨b, off + i * 3 + 2, none⟩)), mb a7 (.slice xa xn xc), mb a7 (.int .i64 (xn : Int)), mb a7 (.bool (decide ((xn : Int) < s.drop))), .bool a8]) (by kernel_rfl) (by kernel_rfl) (by kernel_rfl) (fun _ _ => rfl) (by kernel_rfl) valRF.mon ?_ ?_
    · refine ⟨?_, ?_, ?_, ?_, ?_, ?_, ?_, ?_, ?_, ?_, ?_, ?_, ?_, ?_, ?_, ?_, ?_, ?_, ?_, ?_, ?_, ?_, ?_, ?_, ?_, ?_, ?_, ?_, ?_, ?_, ?_, ?_, ?_, ?_, ?_, ?_, ?_, ?_, ?_, ?_, ?_, ?_, ?_, ?_, ?_, ?_, ?_, ?_, ?_, ?_, ?_, ?_, ?_, ?_, ?_, trivial⟩
      · exact valRF.pureStep rfl 22 rfl rfl (by simp) _ rfl fun listed a u D hI hr hn => exec_move (.inl rfl) (hI.out 0 (by kernel_rfl))
      · exact valRF.callStep rfl 23 rfl rfl (by simp) _ rfl fun listed a u D hI hr hn => ⟨_, _, op_call1 rfl (valRF.val hI hr hn 0 (by kernel_rfl) rfl rfl) rfl, (HRC.out u (H1.out.keep ((Below.refl _ _).drew.trans hI.old))).mono fun e w' h => h⟩
      · exact valRF.pureStep rfl 24 rfl rfl (by simp) _ rfl fun listed a u D hI hr hn => exec_notb rfl rfl (valRF.val hI hr hn 1 (by kernel_rfl) rfl rfl)
      · exact valRF.pureStep rfl 25 rfl rfl (by simp) _ rfl fun listed a u D hI hr hn => exec_move (.inl rfl) (valRF.val hI hr hn 2 (by kernel_rfl) rfl rfl)
      · exact valRF.may 26 rfl rfl (by simp) (!rv) _ rfl 3 25 rfl rfl fun listed a u D hI hr hn => ⟨(valRF.val hI hr hn 3 (by kernel_rfl) rfl rfl), fun hb => exec_move (.inl rfl) (hI.out 1 (by kernel_rfl))⟩
      · exact valRF.may 27 rfl rfl (by simp) (!rv) _ rfl 3 25 rfl rfl fun listed a u D hI hr hn => ⟨(valRF.val hI hr hn 3 (by kernel_rfl) rfl rfl), fun hb => exec_lssi rfl (valRF.got hI hr hn 4 (by kernel_rfl) rfl rfl hb) rfl⟩
      · exact valRF.pureStep rfl 28 rfl rfl (by simp) _ rfl fun listed a u D hI hr hn => exec_or rfl (valRF.val hI hr hn 3 (by kernel_rfl) rfl rfl) (valRF.val hI hr hn 5 (by kernel_rfl) rfl rfl) ha1
      · exact valRF.pureStep rfl 29 rfl rfl (by simp) _ rfl fun listed a u D hI hr hn => exec_move (.inl rfl) (valRF.val hI hr hn 6 (by kernel_rfl) rfl rfl)
      · exact valRF.may 30 rfl rfl (by simp) a1 _ rfl 7 29 rfl rfl fun listed a u D hI hr hn => ⟨(valRF.val hI hr hn 7 (by kernel_rfl) rfl rfl), fun hb => exec_move (.inl rfl) (hI.out 1 (by kernel_rfl))⟩
      · exact valRF.may 31 rfl rfl (by simp) a1 _ rfl 7 29 rfl rfl fun listed a u D hI hr hn => ⟨(valRF.val hI hr hn 7 (by kernel_rfl) rfl rfl), fun hb => exec_gtri rfl (valRF.got hI hr hn 8 (by kernel_rfl) rfl rfl hb) rfl⟩
      · exact valRF.pureStep rfl 32 rfl rfl (by simp) _ rfl fun listed a u D hI hr hn => exec_or rfl (valRF.val hI hr hn 7 (by kernel_rfl) rfl rfl) (valRF.val hI hr hn 9 (by kernel_rfl) rfl rfl) ha2
      · exact valRF.pureStep rfl 33 rfl rfl (by simp) _ rfl fun listed a u D hI hr hn => exec_move (.inl rfl) (valRF.val hI hr hn 10 (by kernel_rfl) rfl rfl)
      · exact valRF.may 34 rfl rfl (by simp) a2 _ rfl 11 33 rfl rfl fun listed a u D hI hr hn => ⟨(valRF.val hI hr hn 11 (by kernel_rfl) rfl rfl), fun hb => exec_move (.inl rfl) (hI.out 9 (by kernel_rfl))⟩
      · exact valRF.pureStep rfl 35 rfl rfl (by simp) _ rfl fun listed a u D hI hr hn => exec_or rfl (valRF.val hI hr hn 11 (by kernel_rfl) rfl rfl) (valRF.val hI hr hn 12 (by kernel_rfl) rfl rfl) ha3
      · exact valRF.pureStep rfl 36 rfl rfl (by simp) _ rfl fun listed a u D hI hr hn => exec_move (.inl rfl) (valRF.val hI hr hn 13 (by kernel_rfl) rfl rfl)
      · exact valRF.may 37 rfl rfl (by simp) a3 _ rfl 14 36 rfl rfl fun listed a u D hI hr hn => ⟨(valRF.val hI hr hn 14 (by kernel_rfl) rfl rfl), fun hb => exec_move (.inl rfl) (hI.out 10 (by kernel_rfl))⟩
      · exact valRF.may 38 rfl rfl (by simp) a3 _ rfl 14 36 rfl rfl fun listed a u D hI hr hn => ⟨(valRF.val hI hr hn 14 (by kernel_rfl) rfl rfl), fun hb => exec_lssi rfl (valRF.got hI hr hn 15 (by kernel_rfl) rfl rfl hb) rfl⟩
      · exact valRF.pureStep rfl 39 rfl rfl (by simp) _ rfl fun listed a u D hI hr hn => exec_or rfl (valRF.val hI hr hn 14 (by kernel_rfl) rfl rfl) (valRF.val hI hr hn 16 (by kernel_rfl) rfl rfl) ha4
      · exact valRF.pureStep rfl 40 rfl rfl (by simp) _ rfl fun listed a u D hI hr hn => exec_move (.inl rfl) (valRF.val hI hr hn 17 (by kernel_rfl) rfl rfl)
      · exact valRF.may 41 rfl rfl (by simp) a4 _ rfl 18 40 rfl rfl fun listed a u D hI hr hn => ⟨(valRF.val hI hr hn 18 (by kernel_rfl) rfl rfl), fun hb => exec_move (.inl rfl) (hI.out 0 (by kernel_rfl))⟩
      · exact valRF.may 42 rfl rfl (by simp) a4 _ rfl 18 40 rfl rfl fun listed a u D hI hr hn => ⟨(valRF.val hI hr hn 18 (by kernel_rfl) rfl rfl), fun hb => exec_move (.inl rfl) (hI.out 10 (by kernel_rfl))⟩
      · exact valRF.may 43 rfl rfl (by simp) a4 _ rfl 18 40 rfl rfl fun listed a u D hI hr hn => ⟨(valRF.val hI hr hn 18 (by kernel_rfl) rfl rfl), fun hb => by obtain ⟨e1, e2, e3, _, _⟩ := HIX.out (imp4 hb); exact exec_index_rte rfl (by rw [← e2]; exact (valRF.got hI hr hn 19 (by kernel_rfl) rfl rfl hb)) (by rw [← e1]; exact (valRF.got hI hr hn 20 (by kernel_rfl) rfl rfl hb)) e3 hm⟩
      · exact valRF.may 44 rfl rfl (by simp) a4 _ rfl 18 40 rfl rfl fun listed a u D hI hr hn => ⟨(valRF.val hI hr hn 18 (by kernel_rfl) rfl rfl), fun hb => exec_r2 rfl (valRF.got hI hr hn 21 (by kernel_rfl) rfl rfl hb)⟩
      · exact valRF.may 45 rfl rfl (by simp) a4 _ rfl 18 40 rfl rfl fun listed a u D hI hr hn => ⟨(valRF.val hI hr hn 18 (by kernel_rfl) rfl rfl), fun hb => exec_load rfl (valRF.got hI hr hn 22 (by kernel_rfl) rfl rfl hb) (run_load_ps ((HIX.out (imp4 hb)).2.2.2.2 u (H1.out.old.trans (((Below.refl _ w2).drew.trans hI.old).mono H1.out.old.size))))⟩
      · exact valRF.may 46 rfl rfl (by simp) a4 _ rfl 18 40 rfl rfl fun listed a u D hI hr hn => ⟨(valRF.val hI hr hn 18 (by kernel_rfl) rfl rfl), fun hb => exec_len_st rfl (valRF.got hI hr hn 23 (by kernel_rfl) rfl rfl hb)⟩
      · exact valRF.may 47 rfl rfl (by simp) a4 _ rfl 18 40 rfl rfl fun listed a u D hI hr hn => ⟨(valRF.val hI hr hn 18 (by kernel_rfl) rfl rfl), fun hb => exec_gtri rfl (valRF.got hI hr hn 24 (by kernel_rfl) rfl rfl hb) rfl⟩
      · exact valRF.pureStep rfl 48 rfl rfl (by simp) _ rfl fun listed a u D hI hr hn => exec_or rfl (valRF.val hI hr hn 18 (by kernel_rfl) rfl rfl) (valRF.val hI hr hn 25 (by kernel_rfl) rfl rfl) ha5
      · exact valRF.pureStep rfl 49 rfl rfl (by simp) _ rfl fun listed a u D hI hr hn => exec_move (.inl rfl) (valRF.val hI hr hn 26 (by kernel_rfl) rfl rfl)
      · exact valRF.may 50 rfl rfl (by simp) a5 _ rfl 27 49 rfl rfl fun listed a u D hI hr hn => ⟨(valRF.val hI hr hn 27 (by kernel_rfl) rfl rfl), fun hb => exec_p1 rfl (hI.out 5 (by kernel_rfl))⟩
      · exact valRF.may 51 rfl rfl (by simp) a5 _ rfl 27 49 rfl rfl fun listed a u D hI hr hn => ⟨(valRF.val hI hr hn 27 (by kernel_rfl) rfl rfl), fun hb => exec_load rfl (valRF.got hI hr hn 28 (by kernel_rfl) rfl rfl hb) (run_load_pi (((H1.out.keep ((Below.refl _ _).drew.trans hI.old)).box.cell (i := 1) rfl)))⟩
      · exact valRF.may 52 rfl rfl (by simp) a5 _ rfl 27 49 rfl rfl fun listed a u D hI hr hn => ⟨(valRF.val hI hr hn 27 (by kernel_rfl) rfl rfl), fun hb => exec_move (.inl rfl) (hI.out 0 (by kernel_rfl))⟩
      · exact valRF.may 53 rfl rfl (by simp) a5 _ rfl 27 49 rfl rfl fun listed a u D hI hr hn => ⟨(valRF.val hI hr hn 27 (by kernel_rfl) rfl rfl), fun hb => exec_move (.inl rfl) (hI.out 10 (by kernel_rfl))⟩
      · exact valRF.may 54 rfl rfl (by simp) a5 _ rfl 27 49 rfl rfl fun listed a u D hI hr hn => ⟨(valRF.val hI hr hn 27 (by kernel_rfl) rfl rfl), fun hb => by obtain ⟨e1, e2, e3, _, _⟩ := HIX.out (imp5 hb); exact exec_index_rte rfl (by rw [← e2]; exact (valRF.got hI hr hn 30 (by kernel_rfl) rfl rfl hb)) (by rw [← e1]; exact (valRF.got hI hr hn 31 (by kernel_rfl) rfl rfl hb)) e3 hm⟩
      · exact valRF.may 55 rfl rfl (by simp) a5 _ rfl 27 49 rfl rfl fun listed a u D hI hr hn => ⟨(valRF.val hI hr hn 27 (by kernel_rfl) rfl rfl), fun hb => exec_r1 rfl (valRF.got hI hr hn 32 (by kernel_rfl) rfl rfl hb)⟩
      · exact valRF.may 56 rfl rfl (by simp) a5 _ rfl 27 49 rfl rfl fun listed a u D hI hr hn => ⟨(valRF.val hI hr hn 27 (by kernel_rfl) rfl rfl), fun hb => exec_load rfl (valRF.got hI hr hn 33 (by kernel_rfl) rfl rfl hb) (run_load_pi ((HIX.out (imp5 hb)).2.2.2.1 u (H1.out.old.trans (((Below.refl _ w2).drew.trans hI.old).mono H1.out.old.size))))⟩
      · exact valRF.may 57 rfl rfl (by simp) a5 _ rfl 27 49 rfl rfl fun listed a u D hI hr hn => ⟨(valRF.val hI hr hn 27 (by kernel_rfl) rfl rfl), fun hb => exec_lssi rfl (valRF.got hI hr hn 29 (by kernel_rfl) rfl rfl hb) (valRF.got hI hr hn 34 (by kernel_rfl) rfl rfl hb)⟩
      · exact valRF.pureStep rfl 58 rfl rfl (by simp) _ rfl fun listed a u D hI hr hn => exec_or rfl (valRF.val hI hr hn 27 (by kernel_rfl) rfl rfl) (valRF.val hI hr hn 35 (by kernel_rfl) rfl rfl) ha6
      · exact valRF.pureStep rfl 59 rfl rfl (by simp) _ rfl fun listed a u D hI hr hn => exec_move (.inl rfl) (valRF.val hI hr hn 36 (by kernel_rfl) rfl rfl)
      · exact valRF.may 60 rfl rfl (by simp) a6 _ rfl 37 59 rfl rfl fun listed a u D hI hr hn => ⟨(valRF.val hI hr hn 37 (by kernel_rfl) rfl rfl), fun hb => exec_p2 rfl (hI.out 5 (by kernel_rfl))⟩
      · exact valRF.may 61 rfl rfl (by simp) a6 _ rfl 37 59 rfl rfl fun listed a u D hI hr hn => ⟨(valRF.val hI hr hn 37 (by kernel_rfl) rfl rfl), fun hb => exec_load rfl (valRF.got hI hr hn 38 (by kernel_rfl) rfl rfl hb) (run_load_pi (((H1.out.keep ((Below.refl _ _).drew.trans hI.old)).box.cell (i := 2) rfl)))⟩
      · exact valRF.may 62 rfl rfl (by simp) a6 _ rfl 37 59 rfl rfl fun listed a u D hI hr hn => ⟨(valRF.val hI hr hn 37 (by kernel_rfl) rfl rfl), fun hb => exec_p1 rfl (hI.out 5 (by kernel_rfl))⟩
      · exact valRF.may 63 rfl rfl (by simp) a6 _ rfl 37 59 rfl rfl fun listed a u D hI hr hn => ⟨(valRF.val hI hr hn 37 (by kernel_rfl) rfl rfl), fun hb => exec_load rfl (valRF.got hI hr hn 40 (by kernel_rfl) rfl rfl hb) (run_load_pi (((H1.out.keep ((Below.refl _ _).drew.trans hI.old)).box.cell (i := 1) rfl)))⟩
      · exact valRF.may 64 rfl rfl (by simp) a6 _ rfl 37 59 rfl rfl fun listed a u D hI hr hn => ⟨(valRF.val hI hr hn 37 (by kernel_rfl) rfl rfl), fun hb => exec_lssi rfl (valRF.got hI hr hn 39 (by kernel_rfl) rfl rfl hb) (valRF.got hI hr hn 41 (by kernel_rfl) rfl rfl hb)⟩
      · exact valRF.pureStep rfl 65 rfl rfl (by simp) _ rfl fun listed a u D hI hr hn => exec_or rfl (valRF.val hI hr hn 37 (by kernel_rfl) rfl rfl) (valRF.val hI hr hn 42 (by kernel_rfl) rfl rfl) ha7
      · exact valRF.pureStep rfl 66 rfl rfl (by simp) _ rfl fun listed a u D hI hr hn => exec_move (.inl rfl) (valRF.val hI hr hn 43 (by kernel_rfl) rfl rfl)
      · exact valRF.may 67 rfl rfl (by simp) a7 _ rfl 44 66 rfl rfl fun listed a u D hI hr hn => ⟨(valRF.val hI hr hn 44 (by kernel_rfl) rfl rfl), fun hb => exec_p2 rfl (hI.out 5 (by kernel_rfl))⟩
      · exact valRF.may 68 rfl rfl (by simp) a7 _ rfl 44 66 rfl rfl fun listed a u D hI hr hn => ⟨(valRF.val hI hr hn 44 (by kernel_rfl) rfl rfl), fun hb => exec_load rfl (valRF.got hI hr hn 45 (by kernel_rfl) rfl rfl hb) (run_load_pi (((H1.out.keep ((Below.refl _ _).drew.trans hI.old)).box.cell (i := 2) rfl)))⟩
      · exact valRF.may 69 rfl rfl (by simp) a7 _ rfl 44 66 rfl rfl fun listed a u D hI hr hn => ⟨(valRF.val hI hr hn 44 (by kernel_rfl) rfl rfl), fun hb => exec_move (.inl rfl) (hI.out 0 (by kernel_rfl))⟩
      · exact valRF.may 70 rfl rfl (by simp) a7 _ rfl 44 66 rfl rfl fun listed a u D hI hr hn => ⟨(valRF.val hI hr hn 44 (by kernel_rfl) rfl rfl), fun hb => exec_move (.inl rfl) (hI.out 10 (by kernel_rfl))⟩
      · exact valRF.may 71 rfl rfl (by simp) a7 _ rfl 44 66 rfl rfl fun listed a u D hI hr hn => ⟨(valRF.val hI hr hn 44 (by kernel_rfl) rfl rfl), fun hb => by obtain ⟨e1, e2, e3, _, _⟩ := HIX.out (imp7 hb); exact exec_index_rte rfl (by rw [← e2]; exact (valRF.got hI hr hn 47 (by kernel_rfl) rfl rfl hb)) (by rw [← e1]; exact (valRF.got hI hr hn 48 (by kernel_rfl) rfl rfl hb)) e3 hm⟩
      · exact valRF.may 72 rfl rfl (by simp) a7 _ rfl 44 66 rfl rfl fun listed a u D hI hr hn => ⟨(valRF.val hI hr hn 44 (by kernel_rfl) rfl rfl), fun hb => exec_r2 rfl (valRF.got hI hr hn 49 (by kernel_rfl) rfl rfl hb)⟩
      · exact valRF.may 73 rfl rfl (by simp) a7 _ rfl 44 66 rfl rfl fun listed a u D hI hr hn => ⟨(valRF.val hI hr hn 44 (by kernel_rfl) rfl rfl), fun hb => exec_load rfl (valRF.got hI hr hn 50 (by kernel_rfl) rfl rfl hb) (run_load_ps ((HIX.out (imp7 hb)).2.2.2.2 u (H1.out.old.trans (((Below.refl _ w2).drew.trans hI.old).mono H1.out.old.size))))⟩
      · exact valRF.may 74 rfl rfl (by simp) a7 _ rfl 44 66 rfl rfl fun listed a u D hI hr hn => ⟨(valRF.val hI hr hn 44 (by kernel_rfl) rfl rfl), fun hb => exec_len_st rfl (valRF.got hI hr hn 51 (by kernel_rfl) rfl rfl hb)⟩
      · exact valRF.may 75 rfl rfl (by simp) a7 _ rfl 44 66 rfl rfl fun listed a u D hI hr hn => ⟨(valRF.val hI hr hn 44 (by kernel_rfl) rfl rfl), fun hb => exec_gtri rfl (valRF.got hI hr hn 46 (by kernel_rfl) rfl rfl hb) (valRF.got hI hr hn 52 (by kernel_rfl) rfl rfl hb)⟩
      · exact valRF.pureStep rfl 76 rfl rfl (by simp) _ rfl fun listed a u D hI hr hn => exec_or rfl (valRF.val hI hr hn 44 (by kernel_rfl) rfl rfl) (valRF.val hI hr hn 53 (by kernel_rfl) rfl rfl) ha8
    · intro listed a u D hI hall
      have eR0 : a.tmps.getD 76 undef = .bool a8 := (hI.fact 54 ⟨hall 54 (by simp), fun k hk => by cases hk⟩).1
      have hold := H1.out.keep ((Below.refl _ _).drew.trans hI.old)
      have hl := hI.fill [22, 23, 24, 25, 26, 27, 28, 29, 30, 31, 32, 33, 34, 35, 36, 37, 38, 39, 40, 41, 42, 43, 44, 45, 46, 47, 48, 49, 50, 51, 52, 53, 54, 55, 56, 57, 58, 59, 60, 61, 62, 63, 64, 65, 66, 67, 68, 69, 70, 71, 72, 73, 74, 75, 76] (by kernel_rfl)
      clear hI hall
      obtain ⟨σ, hσ⟩ : ∃ σ : Nat → Value, ∀ t, a.tmps.getD t undef = σ t := ⟨_, fun _ => rfl⟩
      simp only [hσ] at hl eR0
      clear hσ
      simp only [List.foldl_cons, List.foldl_nil, List.setIfInBounds_toArray, List.set_cons_zero, List.set_cons_succ, eR0] at hl
      subst hl
      go_wp2_with fail
      go_meet
      exact ⟨Lib.hid hold, rfl⟩
  case rest =>
  obtain ⟨H3, rfl⟩ := hcut
  clear ha1 ha2 ha3 ha4 ha5 ha6 ha7 ha8 imp4 imp5 imp6 imp7
  cases a8 with
  | true =>
    have HF := Lib.hid (HNO.out rfl).symm
    go_wp2_with fail
    go_ret2
    exact withS_no HF.out H3.out.old
  | false =>
    obtain ⟨hneg, k1, k2, k3, k4, k5, k6, k7, k8⟩ := HYES.out rfl
    obtain ⟨e1, rfl, hin, _, _⟩ := HIX.out hneg
    have hx := HXX.out hneg
    have hxr : (l.map (·.rt))[i]? = some rt := by rw [List.getElem?_map, hx]; rfl
    have hstp := (HI.out.each _ (List.mem_of_getElem? hx)).1
    have hx16 : xn * 16 ≤ 140737488351232 := (HI.out.each _ (List.mem_of_getElem? hx)).2.2
    have hxl : rt.stops.length = xn := Stps.length hstp
    have hsv0 : 0 ≤ sv := by rw [← HSV.out]; exact rightP_served (by rw [HRV.out]; exact k1) (List.mem_of_getElem? hxr)
    have hn8 : n ≤ 8 := by have h := rightP_few (l := l.map (·.rt)) (by rw [HRV.out]; exact k1); rw [List.length_map, HL.out] at h; exact h
    have hF : withP (l.map (·.rt)) o s = some ((l.map (·.rt)).set i ⟨rt.drv, rt.served, putR rt.stops o s.pick s.drop⟩) := by
      rw [PlanMath.withP, HIV.out, e1, if_neg (by omega), Int.toNat_natCast, hxr]
      simp only
      rw [if_pos]
      simp only [withOk, Bool.and_eq_true, decide_eq_true_eq, nmb, Option.isNone_iff_eq_none]
      exact ⟨⟨⟨by rw [HRV.out]; exact k1, k2, k3⟩, Option.not_isSome_iff_eq_none.1 (by rw [HFS.out, k4]; decide)⟩, by omega, by rw [HSV.out]; exact k6, k7, by omega⟩
    obtain ⟨sd, sp, sq⟩ := s
    simp only at k6 k7 k8 hF H3
    obtain ⟨pn, rfl⟩ : ∃ z : Nat, sp = (z : Int) := ⟨sp.toNat, by omega⟩
    obtain ⟨dn, rfl⟩ : ∃ z : Nat, sq = (z : Int) := ⟨sq.toNat, by omega⟩
    rw [putR_nat (by omega) (by omega)] at hF
    have hpd : pn ≤ dn := by omega
    have hdn : dn ≤ xn := by omega
    have h78 := k5
    have HF := Lib.hid hF
    have HX := Lib.hid hx
    have HSTW := Lib.hid hstp
    have HXL := Lib.hid hxl
    subst e1
    clear hF hx hxr hstp hxl hneg k1 k2 k3 k4 k5 k6 k7 k8 hsv0 HNO HYES HIX HXX HNC HIV HRC
    go_wp2_with fail
    refine (rcopy_any _ n c l _ (by exact (HI.out.keep H3.out.old).more H3.out.old.size) (by omega)).mono ?_
    rintro e w6 ⟨v6, l6, rfl, hcs⟩
    have hrt6 : l6.map (·.rt) = l.map (·.rt) := by rw [hcs.rts, List.take_of_length_le (by rw [HL.out]; exact Nat.le_refl _)]
    have hl6 : l6.length = n := by have h := congrArg List.length hrt6; simp only [List.length_map] at h; rw [h]; exact HL.out
    obtain ⟨x6, hx6, hx6e⟩ : ∃ x6, l6[i]? = some x6 ∧ x6.rt = rt := by
      have h := congrArg (fun t : List Rte => t[i]?) hrt6
      simp only [List.getElem?_map, HX.out, Option.map_some] at h
      cases h' : l6[i]? with
      | none => rw [h'] at h; cases h
      | some x2 => rw [h'] at h; injection h with h; exact ⟨x2, rfl, h⟩
    obtain ⟨g, cap, rfl, hncap⟩ : ∃ g cap, v6 = .slice (some ⟨g, 0, none⟩) n cap ∧ n ≤ cap := by
      rcases hcs.plan.own.blk with ⟨_, h0⟩ | ⟨g, cap, cur, e1, _, _, h1, _⟩
      · omega
      · rw [hl6] at e1 h1
        exact ⟨g, cap, e1, h1⟩
    have H6 : Hid (WB w w6 ⟨sd, pn, dn⟩ y) := H3.out.keep hcs.plan.old
    have HNP : Hid (NewP wc w6.drew (.slice (some ⟨g, 0, none⟩) n cap) l6) := hcs.plan.keep (Below.refl _ _).drew
    have HFIT := Lib.hid hcs.fits
    have HX6 := Lib.hid hx6
    have HX6E := Lib.hid hx6e
    have HL6 := Lib.hid hl6
    have HRT6 := Lib.hid hrt6
    have HST6 : Hid (Stps w6.drew w6.drew.heap.size xa xn rt.stops) := Recs.more (Recs.keep HSTW.out (H6.out.old.trans ((Below.refl _ _).drew.mono H6.out.old.size))) H6.out.old.size
    obtain ⟨b', off', x', ex, hbb, hx', _, _, _, c2, _, _⟩ := (HI.out.keep H6.out.old).at_ hin
    injection ex with ex
    injection ex with ex1 ex2 _
    subst ex1 ex2
    obtain rfl : x' = ⟨rt, xa, xn, xc⟩ := by rw [HX.out] at hx'; injection hx' with h; exact h.symm
    simp only at c2
    have HD : Hid (WB w w6.drew ⟨sd, pn, dn⟩ y) := H6.out.keep (Below.refl _ _).drew
    have s1 := H6.out.box.cell (i := 1) rfl
    have s2 := H6.out.box.cell (i := 2) rfl
    clear hcs hx6 hx6e hl6 hrt6 hx' hbb
    go_wp2_with fail
    go_region_law (go_simp; go_at_call 56; refine (Slack.rput_any xa xn xc rt.stops o pn dn _ HST6.out hpd hdn hx16).mono ?_; rintro e w7 ⟨v7, rfl, hb7, ho7⟩; obtain ⟨A9, c9, hv7, _, _⟩ := ho7.read; subst hv7; obtain ⟨g', cap', hv', ⟨z7, hz7⟩, hf7, HN7⟩ := HNP.out.later hb7 ho7 HX6.out; have hg7 : g' = g := (by have hq := congrArg Value.ownBlock hv'; simpa [Value.ownBlock] using hq.symm); subst hg7; have HB7 := Lib.hid (Below.trans HD.out.old (hb7.mono HD.out.old.size)); clear hb7 ho7 hv')
    all_goals
      have hnl := NewP.lower HN7.out H3.out.old
      have HFN : Hid (Made w (w7.setCell ⟨g', i * 3 + 2, none⟩ (.slice A9 (xn + 2) c9)) (.slice (some ⟨g', 0, none⟩) n cap) ((l.map (·.rt)).set i ⟨rt.drv, rt.served, putM rt.stops o pn dn⟩)) := by
        refine ⟨_, hnl, ?_, fun r hr => ?_⟩
        · rw [List.map_set, HRT6.out, HX6E.out]
        · rcases List.mem_or_eq_of_mem_set hr with hr | rfl
          · exact HFIT.out r hr
          · show (xn + 2) * 16 ≤ _
            omega
      have HBE := Lib.hid hnl.old
      clear hnl HN7 HNP H6 HD HFIT HX6 HX6E HRT6 HST6 hz7 hf7
      go_wp2_with fail
      go_ret2
      refine ⟨HBE.out, ?_⟩
      rw [HF.out]
      exact ⟨_, rfl, HFN.out⟩
#print axioms rwith_any
end Go.Proofs.Ytbnhbbjmocclmaa.Plan
