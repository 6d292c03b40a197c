/-
  The program's plan.With, walked: the library's IndexFunc with its closure, and With.
-/
import Derived.Test.YtjklpdeeohhhnaaPlanPWithout
import Derived.Test.YtjklpdeeohhhnaaPlanPRight
import Derived.Test.YtjklpdeeohhhnaaPlanFinds
import Derived.Test.YtjklpdeeohhhnaaSlackPPut
import Derived.Test.YtjklpdeeohhhnaaPlanMaths
namespace Go.Proofs.Ytjklpdeeohhhnaa.Plan
open Go.ChangeShapes Go.WideShapes Go.ChangeAt Go.RowKit Go.Proofs.Ytjklpdeeohhhnaa.Mem Go.Proofs.Ytjklpdeeohhhnaa.FleetMath Go.Proofs.Ytjklpdeeohhhnaa.PlanMath Go.Proofs.Ytjklpdeeohhhnaa.Rec
set_option linter.unusedVariables false

/-- the closure: is it this driver's? -/
theorem pwith1_any (A : Option Addr) (n c : Nat) (x : Rte) (b : Nat) (d p q y : Int) (w : World) (hb : Blk w b 67 [.int .i64 d, .int .i64 p, .int .i64 q, .int .i64 y]) :
    Calls Try.prog 46 #[.agg #[.int .i64 x.drv, .int .i64 x.served, .slice A n c], .pointer (some ⟨b, 0, none⟩)] w (fun e w' => e = .returned (.bool (x.drv == d)) ∧ Below w.heap.size w w') := by
  have h1 := hb.below ((Below.refl _ _).alloc (Nat.le_refl _) (.cells #[.int .i64 x.drv, .int .i64 x.served, .slice A n c] 40)) hb.lt
  have c0 := h1.cell (i := 0) rfl
  clear h1 hb
  go_enter Try.func46, Try.ntmps46
  go_wp2
  go_ret
  exact ⟨rfl, (Below.refl _ _).alloc (Nat.le_refl _) _⟩

set_option maxRecDepth 100000 in
set_option maxHeartbeats 4000000 in
theorem pidx_any (A : Option Addr) (n c : Nat) (l : List RM) (b : Nat) (d p q y : Int) (w : World) (hl : Plns w w.heap.size A n l) (hb : Blk w b 67 [.int .i64 d, .int .i64 p, .int .i64 q, .int .i64 y]) :
    Calls Try.prog 45 #[.slice A n c, .func (.func 46) #[] #[.pointer (some ⟨b, 0, none⟩)]] w (fun e w' => e = .returned (.int .i64 (numFrom (l.map (·.rt)) d 0)) ∧ Below w.heap.size w w') := by
  have hm := Recs.le hl.rows
  have HI := Lib.hid hl
  have HL := Lib.hid hl.length
  have HBX := Lib.hid hb
  clear hl hb
  go_enter Try.func45, Try.ntmps45
  go_wp2_with fail
  go_loopw [8] (fun iv wr => ∃ k : Nat, k ≤ n ∧ iv = .int .i64 k ∧ Hid (Below w.heap.size w wr) ∧ Hid (numFrom ((l.drop k).map (·.rt)) d k = numFrom (l.map (·.rt)) d 0)) (fun iv _ => n - (intOf iv).toNat)
  case atStart => exact ⟨0, Nat.zero_le _, rfl, Below.refl _ _, Lib.hid rfl⟩
  case round =>
    obtain ⟨k, hk, rfl, HB, HK⟩ := hrel
    by_cases hlt : k < n
    · obtain ⟨bb, off, x, rfl, hbb, hx, hdr, c0, c1, c2, hst, _⟩ := (HI.out.keep HB.out).at_ hlt
      have HK1 := HK.out
      rw [hdr, List.map_cons, numFrom_cons] at HK1
      have HBW : Hid (Blk wr b 67 [.int .i64 d, .int .i64 p, .int .i64 q, .int .i64 y]) := HBX.out.below HB.out HBX.out.lt
      have HC := Lib.hid (pwith1_any x.a x.n x.c x.rt b d p q y)
      by_cases hid : x.rt.drv = d
      · rw [if_pos hid] at HK1
        have HF := Lib.hid HK1
        have e1 : (x.rt.drv == d) = true := by simpa using hid
        rw [e1] at HC
        clear hid HK HK1 hx hdr hst
        go_wp2_with fail
        refine (HC.out _ (by exact HBW.out)).mono ?_
        rintro e w' ⟨rfl, hb2⟩
        have HB2 := Lib.hid (HB.out.trans (hb2.mono HB.out.size))
        clear hb2 c0 c1 c2
        go_wp2_with fail
        go_ret
        exact ⟨ret_i (by rw [HF.out]), HB2.out⟩
      · rw [if_neg hid] at HK1
        have HF := Lib.hid HK1
        have e1 : (x.rt.drv == d) = false := by simpa using hid
        rw [e1] at HC
        clear hid HK HK1 hx hdr hst
        go_wp2_with fail
        refine (HC.out _ (by exact HBW.out)).mono ?_
        rintro e w' ⟨rfl, hb2⟩
        have HB2 := Lib.hid (HB.out.trans (hb2.mono HB.out.size))
        clear hb2 c0 c1 c2
        go_wp2_with fail
        go_roundw
        case rel => exact ⟨k + 1, by omega, by go_num, HB2, HF⟩
        case measure => simp [intOf]; omega
    · have HF : Hid (-1 = numFrom (l.map (·.rt)) d 0) := by
        have h := HK.out
        rw [List.drop_of_length_le (by have := HL.out; omega)] at h
        exact h
      clear HK
      go_wp2_with fail
      go_ret
      exact ⟨ret_i (by rw [← HF.out]), HB.out⟩
#print axioms pidx_any

theorem rmsV_set {l : List RM} {i : Nat} {x : RM} (hx : l[i]? = some x) (s : List Stp) (A : Option Addr) (m c : Nat) : (rmsV l).set (i * 3 + 2) (.slice A m c) = rmsV (l.set i ⟨⟨x.rt.drv, x.rt.served, s⟩, A, m, c⟩) := by
  induction l generalizing i with
  | nil => cases hx
  | cons y r ih =>
    cases i with
    | zero =>
      simp at hx
      subst hx
      rfl
    | succ i =>
      have h1 := ih (i := i) (by simpa using hx)
      rw [List.set_cons_succ]
      have e1 : ∀ t, rmsV (y :: t) = .int .i64 y.rt.drv :: .int .i64 y.rt.served :: .slice y.a y.n y.c :: rmsV t := fun t => rfl
      rw [e1, e1, ← h1, show (i + 1) * 3 + 2 = (i * 3 + 2) + 1 + 1 + 1 by omega]
      rfl
/-- a route of a plan that was made gets other stops, a row of the call's own that was made ahead of the plan -/
theorem NewP.other {w0 w1 w : World} {v : Value} {l : List RM} {i : Nat} {x : RM} {A : Option Addr} {s : List Stp} {c m : Nat} (h : NewP w1 w v l) (hw : Below w0.heap.size w0 w1) (ho : OwnK w1 w0.heap.size 36 2 (.slice A m c) m (stpsV s)) (hx : l[i]? = some x) :
    ∃ g cap, v = .slice (some ⟨g, 0, none⟩) l.length cap ∧ (∃ u, w.cell? ⟨g, i * 3 + 2, none⟩ = some u) ∧ w.frozen? ⟨g, i * 3 + 2, none⟩ = false ∧ Hid (NewP w0 (w.setCell ⟨g, i * 3 + 2, none⟩ (.slice A m c)) v (l.set i ⟨⟨x.rt.drv, x.rt.served, s⟩, A, m, c⟩)) := by
  have hlt := (List.getElem?_eq_some_iff.1 hx).1
  have hs := hw.size
  rcases h.own.blk with ⟨_, h0⟩ | ⟨g, cap, cur, rfl, hg, hB, hnc, hcl, htk⟩
  · omega
  have hi : i * 3 + 2 < cur.length := by
    have : (i + 1) * 3 ≤ cap * 3 := Nat.mul_le_mul_right _ (by omega)
    omega
  refine ⟨g, cap, rfl, ⟨_, hB.cell (List.getElem?_eq_getElem hi)⟩, hB.free _, ?_⟩
  have hoth : ∀ q, q ≠ g → (w.setCell ⟨g, i * 3 + 2, none⟩ (.slice A m c)).heap[q]? = w.heap[q]? := fun q hq => Below.heap_setCell _ _ _ _ hq
  have hown : ∀ {base : Nat} {r : Value} {k : Nat} {vs : List Value}, OwnK w base 36 2 r k vs → Two r (.slice (some ⟨g, 0, none⟩) l.length cap) → OwnK (w.setCell ⟨g, i * 3 + 2, none⟩ (.slice A m c)) base 36 2 r k vs := by
    rintro base r k vs ⟨⟨h1, h2⟩, h3⟩ h4
    refine ⟨⟨h1, ?_⟩, h3⟩
    rcases h2 with h2 | ⟨q, cp, cr, e, hq, hh, hr⟩
    · exact .inl h2
    · exact .inr ⟨q, cp, cr, e, hq, (hoth q (fun e' => h4 q (by rw [e]; rfl) (by subst e'; rfl))).trans hh, hr⟩
  have ht : Two (.slice A m c) (.slice (some ⟨g, 0, none⟩) l.length cap) := by
    intro q hq e
    have := (own_blk ho hq).2
    have e' : g = q := by simpa [Value.ownBlock] using e
    omega
  refine Lib.hid ⟨(hw.trans (h.old.mono hs)).setCell (by show w0.heap.size ≤ g; omega) _, ?_, fun r hr => ?_⟩
  · have hb := hB.put (i * 3 + 2) (.slice A m c)
    have e : (cur.set (i * 3 + 2) (.slice A m c)).take (l.length * 3) = rmsV (l.set i ⟨⟨x.rt.drv, x.rt.served, s⟩, A, m, c⟩) := by
      rw [List.take_set, htk]
      exact rmsV_set hx s A m c
    rw [List.length_set]
    refine ⟨⟨by rw [← e, List.length_take, List.length_set]; have : l.length * 3 ≤ cap * 3 := Nat.mul_le_mul_right _ hnc; omega, .inr ⟨g, cap, (cur.set (i * 3 + 2) (.slice A m c)).toArray, rfl, by omega, hb, hnc, ?_, by simp [hcl], e⟩⟩, h.own.2⟩
    rcases h.own.1.2 with ⟨h7, _⟩ | ⟨g2, cap2, cur2, h7, _, _, _, h8, _⟩
    · cases h7
    · injection h7 with _ _ h7
      rw [h7]; exact h8
  · rcases List.mem_or_eq_of_mem_set hr with hr | rfl
    · obtain ⟨h1, h2⟩ := h.each r hr
      exact ⟨(hown h1 h2).lower hs, h2⟩
    · exact ⟨hown (ho.keep (h.old.mono (Nat.le_refl _)) (Nat.le_refl _)) ht, ht⟩
#print axioms NewP.other

/-! ### With -/
/-- where a driver's route stands -/
theorem num_cases (l : List Rte) (d : Int) (k : Nat) : (numFrom l d k = -1 ∧ ∀ x ∈ l, x.drv ≠ d) ∨ ∃ i x, numFrom l d k = ((k + i : Nat) : Int) ∧ l[i]? = some x ∧ x.drv = d := by
  induction l generalizing k with
  | nil => exact .inl ⟨rfl, fun x h => by cases h⟩
  | cons y r ih =>
    rw [numFrom_cons]
    by_cases h : y.drv = d
    · rw [if_pos h]
      exact .inr ⟨0, y, rfl, rfl, h⟩
    · rw [if_neg h]
      rcases ih (k + 1) with ⟨h1, h2⟩ | ⟨i, x, h1, h2, h3⟩
      · exact .inl ⟨h1, fun x hx => by rcases List.mem_cons.1 hx with rfl | hx; exact h; exact h2 x hx⟩
      · exact .inr ⟨i + 1, x, by rw [h1]; congr 1; omega, h2, h3⟩
theorem withP_none (l : List Rte) (o : Int) (s : Spt) (h : numFrom l s.drv 0 = -1) : withP l o s = none := by
  unfold withP
  rw [h]
  rfl
theorem withP_some (l : List Rte) (o : Int) (s : Spt) {i : Nat} {x : Rte} (h : numFrom l s.drv 0 = (i : Int)) (hx : l[i]? = some x) : withP l o s = if withOk l o s x then some (l.set i ⟨x.drv, x.served, putR x.stops o s.pick s.drop⟩) else none := by
  unfold withP
  rw [h, if_neg (by omega), Int.toNat_natCast, hx]
/-- With's answer -/
def WithS (w : World) (r : Option (List Rte)) (e : Ending) (w' : World) : Prop := Below w.heap.size w w' ∧ match r with
  | none => e = .returned (.tuple #[.slice none 0 0, .bool false])
  | some q => ∃ v, e = .returned (.tuple #[v, .bool true]) ∧ Made w w' v q
theorem withS_no {w w' : World} {r : Option (List Rte)} (h : none = r) (hb : Below w.heap.size w w') : WithS w r (.returned (.tuple #[.slice none 0 0, .bool false])) w' := by
  subst h
  exact ⟨hb, rfl⟩
theorem ok_no {b : Bool} {q : List Rte} {r : Option (List Rte)} (h : r = if b then some q else none) (hb : b = false) : none = r := by rw [h, hb]; rfl

set_option maxRecDepth 100000 in
set_option maxHeartbeats 4000000 in
theorem pwith_any (A : Option Addr) (n c : Nat) (l : List RM) (o : Int) (s : Spt) (y : Int) (w : World) (hl : Plns w w.heap.size A n l) :
    Calls Try.prog 23 #[.slice A n c, .int .i64 o, .agg #[.int .i64 s.drv, .int .i64 s.pick, .int .i64 s.drop, .int .i64 y]] w (WithS w (withP (l.map (·.rt)) o s)) := by
  have hm := Recs.le hl.rows
  have HI := Lib.hid hl
  have HL := Lib.hid hl.length
  have HB0 : Hid (Below w.heap.size w (w.alloc (.cells #[.int .i64 s.drv, .int .i64 s.pick, .int .i64 s.drop, .int .i64 y] 67))) := (Below.refl _ _).alloc (Nat.le_refl _) _
  have HQ0 : Hid (Blk (w.alloc (.cells #[.int .i64 s.drv, .int .i64 s.pick, .int .i64 s.drop, .int .i64 y] 67)) w.heap.size 67 [.int .i64 s.drv, .int .i64 s.pick, .int .i64 s.drop, .int .i64 y]) := Blk.new _ _ _
  have HI0 := Lib.hid ((hl.keep HB0.out).more HB0.out.size)
  clear hl
  go_enter Try.func23, Try.ntmps23
  go_wp2_with fail
  refine (pidx_any _ _ _ l _ _ _ _ _ _ (by exact HI0.out) (by exact HQ0.out)).mono ?_
  rintro e w1 ⟨rfl, hb1⟩
  have HB1 := Lib.hid (HB0.out.trans (hb1.mono HB0.out.size))
  have HQ1 := Lib.hid (HQ0.out.below hb1 HQ0.out.lt)
  clear hb1 HI0 HB0 HQ0
  rcases num_cases (l.map (·.rt)) s.drv 0 with ⟨hnum, _⟩ | ⟨i, x0, hnum, hx0, hdd⟩
  · have HF := Lib.hid (withP_none (l.map (·.rt)) o s hnum).symm
    rw [hnum]
    clear hnum
    go_wp2_with fail
    go_ret2
    exact withS_no HF.out HB1.out
  · rw [Nat.zero_add] at hnum
    have HW := Lib.hid (withP_some (l.map (·.rt)) o s hnum hx0)
    obtain ⟨x, hx, hxe⟩ : ∃ x, l[i]? = some x ∧ x.rt = x0 := by
      rw [List.getElem?_map] at hx0
      cases h : l[i]? with
      | none => rw [h] at hx0; cases hx0
      | some x => rw [h] at hx0; injection hx0 with hx0; exact ⟨x, rfl, hx0⟩
    subst hxe
    rw [hnum]
    have HX := Lib.hid hx
    have hin : i < n := by have := (List.getElem?_eq_some_iff.1 hx).1; have := HL.out; omega
    clear hnum hx hx0 hdd
    have HI1 := Lib.hid ((HI.out.keep HB1.out).more HB1.out.size)
    go_wp2_with fail
    refine (pright_any _ _ _ l _ (by exact HI1.out)).mono ?_
    rintro e w2 ⟨rfl, hb2⟩
    have HB2 := Lib.hid (HB1.out.trans (hb2.mono HB1.out.size))
    have HQ2 := Lib.hid (HQ1.out.below hb2 HQ1.out.lt)
    clear hb2 HI1 HB1 HQ1
    obtain ⟨rv, hrv⟩ : ∃ r, rightP (l.map (·.rt)) = r := ⟨_, rfl⟩
    rw [hrv]
    have HRV := Lib.hid hrv
    clear hrv
    cases rv with
    | false =>
      have HF := Lib.hid (ok_no HW.out (by unfold withOk; rw [HRV.out]; rfl))
      go_wp2_with fail
      go_ret2
      exact withS_no HF.out HB2.out
    | true =>
      obtain ⟨nv, hnv⟩ : ∃ r, nmb o = r := ⟨_, rfl⟩
      have HNV := Lib.hid hnv
      clear hnv
      go_wp2_with fail
      refine (pnumbered_val _ nv _ HNV.out).mono ?_
      rintro e w3 ⟨rfl, rfl⟩
      cases nv with
      | false =>
        have HF := Lib.hid (ok_no HW.out (by unfold withOk; rw [HNV.out, Bool.and_false]; rfl))
        go_wp2_with fail
        go_ret2
        exact withS_no HF.out HB2.out
      | true =>
        obtain ⟨b, off, x', rfl, hbb, hx', hdr, c0, c1, c2, hst, hxc⟩ := (HI.out.keep HB2.out).at_ hin
        obtain rfl : x' = x := by have h := HX.out; rw [h] at hx'; injection hx' with h; exact h.symm
        have HST := Lib.hid hst
        have HB3 : Hid (Below w.heap.size w (w2.alloc (.cells #[.int .i64 x'.rt.drv, .int .i64 x'.rt.served, .slice x'.a x'.n x'.c] 40))) := HB2.out.alloc HB2.out.size _
        have HR3 : Hid (Blk (w2.alloc (.cells #[.int .i64 x'.rt.drv, .int .i64 x'.rt.served, .slice x'.a x'.n x'.c] 40)) w2.heap.size 40 [.int .i64 x'.rt.drv, .int .i64 x'.rt.served, .slice x'.a x'.n x'.c]) := Blk.new _ _ _
        have HQ3 := Lib.hid (HQ2.out.below ((Below.refl w2.heap.size w2).alloc (Nat.le_refl _) (.cells #[.int .i64 x'.rt.drv, .int .i64 x'.rt.served, .slice x'.a x'.n x'.c] 40)) HQ2.out.lt)
        have HI3 := Lib.hid ((HI.out.keep HB3.out).more HB3.out.size)
        have hx16 : x'.n * 16 ≤ 140737488351232 := (HI.out.each x' (List.mem_of_getElem? HX.out)).2.2
        have hx0 : 0 ≤ x'.rt.served := rightP_served HRV.out (List.mem_map_of_mem (List.mem_of_getElem? HX.out))
        have HXL := Lib.hid hst.length
        clear hx' hdr hst hbb HQ2
        go_wp2_with fail
        refine (pfindp_any _ _ _ l o _ (by exact HI3.out)).mono ?_
        rintro e w4 ⟨rfl, hb4⟩
        have HB4 := Lib.hid (HB3.out.trans (hb4.mono HB3.out.size))
        have HQ4 := Lib.hid (HQ3.out.below hb4 HQ3.out.lt)
        have HR4 := Lib.hid (HR3.out.below hb4 HR3.out.lt)
        clear hb4 HI3 HB3 HQ3 HR3 c0 c1 c2
        obtain ⟨fv, hfv⟩ : ∃ r, findP (l.map (·.rt)) o = r := ⟨_, rfl⟩
        rw [hfv]
        have HFV := Lib.hid hfv
        clear hfv
        cases fv with
        | some sp =>
          have HF := Lib.hid (ok_no HW.out (by unfold withOk; rw [HFV.out]; simp))
          have HB5 : Hid (Below w.heap.size w (w4.alloc (.cells #[.int .i64 sp.drv, .int .i64 sp.pick, .int .i64 sp.drop, .int .i64 0] 67))) := HB4.out.alloc HB4.out.size _
          unfold spotV
          go_wp2_with fail
          go_ret2
          exact withS_no HF.out HB5.out
        | none =>
          have HB5 : Hid (Below w.heap.size w (w4.alloc (.cells #[.int .i64 0, .int .i64 0, .int .i64 0, .int .i64 0] 67))) := HB4.out.alloc HB4.out.size _
          have HR5 := Lib.hid (HR4.out.below ((Below.refl w4.heap.size w4).alloc (Nat.le_refl _) (.cells #[.int .i64 0, .int .i64 0, .int .i64 0, .int .i64 0] 67)) HR4.out.lt)
          have HQ5 := Lib.hid (HQ4.out.below ((Below.refl w4.heap.size w4).alloc (Nat.le_refl _) (.cells #[.int .i64 0, .int .i64 0, .int .i64 0, .int .i64 0] 67)) HQ4.out.lt)
          have r1 := HR5.out.cell (i := 1) rfl
          have r2 := HR5.out.cell (i := 2) rfl
          have s1 := HQ5.out.cell (i := 1) rfl
          have s2 := HQ5.out.cell (i := 2) rfl
          clear HQ4 HR4
          unfold spotV
          by_cases h78 : (78 : Int) < (x'.n : Int)
          · have HF := Lib.hid (ok_no HW.out (by unfold withOk; rw [decide_eq_false (by have := HXL.out; omega), Bool.and_false]))
            go_wp2_with fail
            go_ret2
            exact withS_no HF.out HB5.out
          · by_cases hsv : s.pick < x'.rt.served
            · have HF := Lib.hid (ok_no HW.out (by unfold withOk; rw [decide_eq_false (by omega), Bool.and_false]))
              go_wp2_with fail
              go_ret2
              exact withS_no HF.out HB5.out
            · have HS5 := Lib.hid (Recs.more (Recs.keep (HI.out.each x' (List.mem_of_getElem? HX.out)).1 HB5.out) HB5.out.size)
              go_wp2_with fail
              refine (Slack.gput_any _ _ _ x'.rt.stops _ _ _ _ (by exact HS5.out) hxc hx16).mono ?_
              rintro e w6 ⟨v, rfl, hb6, ho6⟩
              have HB6 := Lib.hid (HB5.out.trans (hb6.mono HB5.out.size))
              obtain ⟨A9, c9, hv⟩ := ho6.slice
              subst hv
              have HO6 := Lib.hid (ho6.lower HB5.out.size)
              clear hb6 ho6 HS5 r1 r2 s1 s2 HR5 HQ5 HB5
              by_cases hok : s.pick ≤ s.drop ∧ s.drop ≤ (x'.n : Int)
              · have hlen := putR_len (l := x'.rt.stops) (o := o) (i := s.pick) (j := s.drop) ⟨by omega, hok.1, by rw [HXL.out]; exact hok.2⟩
                rw [HXL.out] at hlen
                have HF : Hid (withP (l.map (·.rt)) o s = some ((l.map (·.rt)).set i ⟨x'.rt.drv, x'.rt.served, putR x'.rt.stops o s.pick s.drop⟩)) := by
                  have e : withOk (l.map (·.rt)) o s x'.rt = true := by
                    unfold withOk
                    rw [HRV.out, HNV.out, HFV.out, decide_eq_true (by rw [HXL.out]; omega)]
                    rfl
                  have h := HW.out
                  rw [e] at h
                  exact h
                obtain ⟨st, hst⟩ : ∃ q, putR x'.rt.stops o s.pick s.drop = q := ⟨_, rfl⟩
                rw [hst] at hlen HO6 HF ⊢
                rw [hlen] at HO6 ⊢
                have HI6 := Lib.hid ((HI.out.keep HB6.out).more HB6.out.size)
                have h8 := rightP_few HRV.out
                have hn8 : n ≤ 8 := by rw [List.length_map, HL.out] at h8; exact h8
                have HWF : Hid (∀ r ∈ l, ∀ s ∈ r.rt.stops, (Lit.int .i64 s.ord).wf = true) := Lib.hid (fun r hr s hs => by
                  have := wf_ord HRV.out r.rt (List.mem_map_of_mem hr) s hs
                  exact WalkArith.wf_i64 (by omega))
                clear hlen hst hok hsv h8
                go_wp2_with fail
                refine (pwithout_any _ _ _ l none 0 0 [] _ (by exact HI6.out) (by omega) (by exact ⟨rfl, Nat.zero_le _, fun h => absurd h (Nat.lt_irrefl _)⟩) HWF.out (fun z h => by cases h)).mono ?_
                rintro e w7 ⟨v7, rfl, l', hnp, hrt, hfit⟩
                rw [withoutP_nil] at hrt
                have hlen' : l'.length = n := by have := congrArg List.length hrt; rw [List.length_map, List.length_map, HL.out] at this; exact this
                obtain ⟨x2, hx2, hx2e⟩ : ∃ x2, l'[i]? = some x2 ∧ x2.rt = x'.rt := by
                  have h := congrArg (fun t : List Rte => t[i]?) hrt
                  simp only [List.getElem?_map, HX.out, Option.map_some] at h
                  cases h' : l'[i]? with
                  | none => rw [h'] at h; cases h
                  | some x2 => rw [h'] at h; injection h with h; exact ⟨x2, rfl, h⟩
                obtain ⟨g, cap, hv7, ⟨z7, hz7⟩, hf7, HN⟩ := hnp.other HB6.out HO6.out hx2
                rw [hlen'] at hv7
                subst hv7
                have HFN : Hid (Made w (w7.setCell ⟨g, i * 3 + 2, none⟩ (.slice A9 (x'.n + 2) c9)) (.slice (some ⟨g, 0, none⟩) n cap) ((l.map (·.rt)).set i ⟨x'.rt.drv, x'.rt.served, st⟩)) := by
                  refine ⟨_, HN.out, ?_, fun r hr => ?_⟩
                  · rw [List.map_set, hrt, hx2e]
                  · rcases List.mem_or_eq_of_mem_set hr with hr | rfl
                    · exact hfit r hr
                    · show (x'.n + 2) * 16 ≤ _; omega
                have HBE : Hid (Below w.heap.size w (w7.setCell ⟨g, i * 3 + 2, none⟩ (.slice A9 (x'.n + 2) c9))) := HN.out.old
                clear hnp hrt hfit hlen' hx2 hx2e HN HI6 HO6
                go_wp2_with fail
                go_ret2
                refine ⟨HBE.out, ?_⟩
                rw [HF.out]
                exact ⟨_, rfl, HFN.out⟩
              · have hst : putR x'.rt.stops o s.pick s.drop = [] := by
                  have := HXL.out
                  exact putR_no (by omega)
                rw [hst]
                have HF := Lib.hid (ok_no HW.out (by unfold withOk; rw [decide_eq_false (by have := HXL.out; omega), Bool.and_false]))
                clear hst hok HO6
                go_wp2_with fail
                go_ret2
                exact withS_no HF.out HB6.out
#print axioms pwith_any
end Go.Proofs.Ytjklpdeeohhhnaa.Plan
