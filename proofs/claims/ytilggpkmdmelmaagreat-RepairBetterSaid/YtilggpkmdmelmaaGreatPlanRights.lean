/-
  PlanExec, PlanRRight, PlanPRight: one text.
-/
import Derived.Test.YtilggpkmdmelmaaGreatWordsRte
import Derived.Test.YtilggpkmdmelmaaGreatRegions
import Derived.Test.YtilggpkmdmelmaaGreatPlanMaths
import Derived.Test.YtilggpkmdmelmaaGreatPlanSmalls
import Derived.Test.YtilggpkmdmelmaaGreatLibRows
import Derived.Deep.Cut
import Derived.Deep.CutRange
import Derived.Test.YtilggpkmdmelmaaGreatPlanPSmalls
namespace Go.Proofs.YtilggpkmdmelmaaGreat.Plan
open Go.ChangeShapes Go.WideShapes Go.ChangeAt Go.RowKit Go.Proofs.YtilggpkmdmelmaaGreat.Mem Go.Proofs.YtilggpkmdmelmaaGreat.FleetMath Go.Proofs.YtilggpkmdmelmaaGreat.PlanMath Go.Proofs.YtilggpkmdmelmaaGreat.Rec
set_option linter.unusedVariables false
section
variable {o : Oper} {a : Act} {u : World} {x y : Operand}
theorem exec_index_rte {b off n c k : Nat} (h : o.op = .indexAddr 42 x y) (hx : a.eval x = .slice (some ⟨b, off, none⟩) n c) (hy : a.eval y = .int .i64 k) (hk : k < n) (hn : n ≤ 9223372036854775807) :
    (execOp a.eval o).run Tryz.prog u = .ok (.value (.pointer (some ⟨b, off + k * 3, none⟩))) u := by
  obtain ⟨ρ, hρ⟩ : ∃ ρ, a.eval = ρ := ⟨_, rfl⟩
  rw [hρ] at hx hy ⊢
  have hk1 : (k : Int) < (n : Int) := by omega
  unfold execOp
  rw [h]
  simp [go_sem, hx, hy, hk1]
theorem exec_r0 {g i : Nat} (h : o.op = .fieldAddr 40 x 0) (hp : a.eval x = .pointer (some ⟨g, i, none⟩)) : (execOp a.eval o).run Tryz.prog u = .ok (.value (.pointer (some ⟨g, i, none⟩))) u := by
  unfold execOp
  rw [h]
  simp only [hp]
  simp [go_sem]
theorem exec_r2 {g i : Nat} (h : o.op = .fieldAddr 40 x 2) (hp : a.eval x = .pointer (some ⟨g, i, none⟩)) : (execOp a.eval o).run Tryz.prog u = .ok (.value (.pointer (some ⟨g, i + 2, none⟩))) u := by
  unfold execOp
  rw [h]
  simp only [hp]
  simp [go_sem]
theorem run_load_pi {p : Addr} {v : Int} (h : u.cell? p = some (.int .i64 v)) : (Instr.loadAt 3 (.pointer (some p))).run Tryz.prog u = .ok (.int .i64 v) u := by
  simp [go_sem, h]
theorem run_load_ps {p : Addr} {A : Option Addr} {n c : Nat} (h : u.cell? p = some (.slice A n c)) : (Instr.loadAt 38 (.pointer (some p))).run Tryz.prog u = .ok (.slice A n c) u := by
  simp [go_sem, h]
end
end Go.Proofs.YtilggpkmdmelmaaGreat.Plan

namespace Go.Proofs.YtilggpkmdmelmaaGreat.Plan
open Go.ChangeShapes Go.WideShapes Go.ChangeAt Go.RowKit Go.Proofs.YtilggpkmdmelmaaGreat.Mem Go.Proofs.YtilggpkmdmelmaaGreat.FleetMath Go.Proofs.YtilggpkmdmelmaaGreat.PlanMath Go.Proofs.YtilggpkmdmelmaaGreat.Rec
set_option linter.unusedVariables false
set_option linter.unusedSimpArgs false
theorem drawn_below (w : World) (d : Nat) : Below w.heap.size w (w.drewN d) := ⟨(Below.refl w.heap.size w).os, (Below.refl w.heap.size w).tape, (Below.refl w.heap.size w).output, (Below.refl w.heap.size w).size, (Below.refl w.heap.size w).block⟩
structure RB1 (w wr : World) (v : Value) (f : List Stp) (g : Nat) (bx : List Value) : Prop where
  row : ES w wr v f
  box : Blk wr g 40 bx
  two : ∀ q, v.ownBlock = some q → q ≠ g
section
variable {w wr w' : World} {v v' : Value} {f : List Stp} {g : Nat} {bx : List Value}
theorem RB1.keep (h : RB1 w wr v f g bx) (hb : Below wr.heap.size wr w') : RB1 w w' v f g bx := ⟨h.row.keep hb, h.box.below hb h.box.lt, h.two⟩
theorem RB1.new (bx : List Value) (h : ES w wr v f) : RB1 w (wr.alloc (.cells bx.toArray 40)) v f wr.heap.size bx :=
  ⟨h.keep ((Below.refl _ _).alloc (Nat.le_refl _) _), Blk.new _ _ _, fun q hq => by have := (own_blk h.own hq).2; omega⟩
theorem RB1.grow {x : Stp} (h : RB1 w wr v f g bx) (ho : OwnK w' w.heap.size 37 2 v' (f.length + 1) (stpsV f ++ [.int .i64 x.ord, .bool x.drop])) (hg : wr.grownBy w' v.ownBlock)
    (hn : v'.ownBlock = v.ownBlock ∨ v'.ownBlock = some wr.heap.size) : RB1 w w' v' (f ++ [x]) g bx := by
  refine ⟨h.row.grow ho hg, (hg.block g h.box.lt fun e => h.two g e.symm rfl).trans h.box, fun q hq => ?_⟩
  rcases hn with hn | hn
  · exact h.two q (by rw [← hn]; exact hq)
  · rw [hn] at hq
    injection hq with hq
    have := h.box.lt
    omega
end
structure RB2 (w wr : World) (v : Value) (f : List Stp) (g : Nat) (bx : List Value) (h : Nat) (s : Stp) : Prop where
  one : RB1 w wr v f g bx
  stop : Blk wr h 37 [.int .i64 s.ord, .bool s.drop]
theorem RB2.keep {w wr w' : World} {v : Value} {f : List Stp} {g h : Nat} {bx : List Value} {s : Stp} (H : RB2 w wr v f g bx h s) (hb : Below wr.heap.size wr w') : RB2 w w' v f g bx h s := ⟨H.one.keep hb, H.stop.below hb H.stop.lt⟩
theorem RB2.new {w wr : World} {v : Value} {f : List Stp} {g : Nat} {bx : List Value} (s : Stp) (H : RB1 w wr v f g bx) : RB2 w (wr.alloc (.cells #[.int .i64 s.ord, .bool s.drop] 37)) v f g bx wr.heap.size s :=
  ⟨H.keep ((Below.refl _ _).alloc (Nat.le_refl _) _), Blk.new _ _ _⟩
theorem not_mem_next {f : List Stp} {j : Nat} {s t : Stp} (h : s ∉ f.take j) (ht : f[j]? = some t) (hne : t ≠ s) : s ∉ f.take (j + 1) := by
  rw [List.take_add_one, ht]
  intro hm
  rcases List.mem_append.1 hm with hm | hm
  · exact h hm
  · exact hne (by simpa using hm : s = t).symm
set_option maxRecDepth 100000 in
set_option maxHeartbeats 8000000 in
theorem rright_any (A : Option Addr) (n c : Nat) (l : List RM) (w : World) (hl : Plns w w.heap.size A n l) :
    Calls Tryz.prog 78 #[.slice A n c] w (fun e w' => e = .returned (.bool (rightP (l.map (·.rt)))) ∧ Below w.heap.size w w') := by
  have hm := Recs.le hl.rows
  have HL := Lib.hid hl.length
  have HI := Lib.hid hl
  clear hl
  obtain ⟨res, hres⟩ : ∃ r, rightP (l.map (·.rt)) = r := ⟨_, rfl⟩
  by_cases h8 : (8 : Int) < n
  · have HF : Hid (false = res) := by
      rw [← hres]
      cases hr : rightP (l.map (·.rt)) with
      | false => rfl
      | true => have := rightP_few hr; rw [List.length_map, HL.out] at this; omega
    rw [hres]
    go_enter Tryz.func78, Tryz.ntmps78
    go_wp2
    go_ret
    exact ⟨ret_bool HF.out, Below.refl _ _⟩
  have HG0 : Hid (RG (l.map (·.rt)) 0 0) := RG.start (by rw [List.length_map, HL.out]; omega)
  have HRES := Lib.hid hres
  rw [hres]
  clear hres
  go_enter Tryz.func78, Tryz.ntmps78
  go_wp2
  go_loopw [3, 4] (fun v i wr => ∃ (k : Nat) (last : Int), k ≤ n ∧ i = .int .i64 k ∧ Hid (ES w wr v (allS ((l.map (·.rt)).take k))) ∧ Hid (RG (l.map (·.rt)) k last)) (fun _ i _ => n - (intOf i).toNat)
  case atStart => exact ⟨0, 0, Nat.zero_le _, rfl, Lib.hid (by rw [List.take_zero]; exact ES.nil w), HG0⟩
  case round =>
    clear HG0
    obtain ⟨k, last, hk, rfl, HE, HG⟩ := hrel
    by_cases hlt : k < n
    · obtain ⟨b, off, x, rfl, hbb, hx, _, c0, c1, c2, hst, hnc⟩ := (HI.out.keep HE.out.old).at_ hlt
      have HSTW : Hid (Stps w w.heap.size x.a x.n x.rt.stops) := Lib.hid (HI.out.each x (List.mem_of_getElem? hx)).1
      have hxr : (l.map (·.rt))[k]? = some x.rt := by rw [List.getElem?_map, hx]; rfl
      obtain ⟨rt, xa, xn, xc⟩ := x
      simp only at c0 c1 c2 hst hnc hxr HSTW
      have HXR := Lib.hid hxr
      have HSL := Lib.hid (Stps.length hst)
      have hxm := Recs.le hst
      clear hxr hx hst
      have HB1 := Lib.hid (RB1.new [.int .i64 rt.drv, .int .i64 rt.served, .slice xa xn xc] HE.out)
      have y0 := HB1.out.box.cell (i := 0) rfl
      have y1 := HB1.out.box.cell (i := 1) rfl
      have y2 := HB1.out.box.cell (i := 2) rfl
      have HLAST := Lib.hid HG.out.pos
      go_upto_region 8 with fail
      go_cut [63] from 22 to 63 (fun b wx => Hid (RB1 w wx u3 (allS ((l.map (·.rt)).take k)) wr.heap.size [.int .i64 rt.drv, .int .i64 rt.served, .slice xa xn xc]) ∧ ∃ tb : Bool, b = .bool tb ∧ Hid (tb = true → ¬ okR last rt) ∧ Hid (tb = false → okR last rt))
      case first =>
        by_cases d1 : rt.drv < 1
        · have HN : Hid (¬ okR last rt) := fun h => by have := h.1; have := HLAST.out; omega
          go_quiet (fail)
          go_wp2_with fail
          go_meet
          exact ⟨Lib.hid (HB1.out.keep (drawn_below _ _)), true, rfl, fun _ => HN.out, fun h => by cases h⟩
        by_cases d2 : (1000000 : Int) < rt.drv
        · have HN : Hid (¬ okR last rt) := fun h => by have := h.2.1; omega
          go_quiet (fail)
          go_wp2_with fail
          go_meet
          exact ⟨Lib.hid (HB1.out.keep (drawn_below _ _)), true, rfl, fun _ => HN.out, fun h => by cases h⟩
        rcases Nat.eq_zero_or_pos k with hk0 | hk0
        · have hlast : last = 0 := HG.out.first hk0
          subst hlast
          subst hk0
          by_cases d4 : (80 : Int) < xn
          · have HN : Hid (¬ okR 0 rt) := fun h => by have := h.2.2.1; have := HSL.out; omega
            go_quiet (fail)
            go_wp2_with fail
            go_meet
            exact ⟨Lib.hid (HB1.out.keep (drawn_below _ _)), true, rfl, fun _ => HN.out, fun h => by cases h⟩
          by_cases d5 : rt.served < 0
          · have HN : Hid (¬ okR 0 rt) := fun h => by have := h.2.2.2.1; omega
            go_quiet (fail)
            go_wp2_with fail
            go_meet
            exact ⟨Lib.hid (HB1.out.keep (drawn_below _ _)), true, rfl, fun _ => HN.out, fun h => by cases h⟩
          by_cases d6 : (xn : Int) < rt.served
          · have HN : Hid (¬ okR 0 rt) := fun h => by have := h.2.2.2.2; have := HSL.out; omega
            go_quiet (fail)
            go_wp2_with fail
            go_meet
            exact ⟨Lib.hid (HB1.out.keep (drawn_below _ _)), true, rfl, fun _ => HN.out, fun h => by cases h⟩
          have HN : Hid (okR 0 rt) := ⟨by omega, by omega, by have := HSL.out; omega, by omega, by have := HSL.out; omega⟩
          go_quiet (fail)
          go_wp2_with fail
          go_meet
          exact ⟨Lib.hid (HB1.out.keep (drawn_below _ _)), false, rfl, fun h => (by cases h), fun _ => HN.out⟩
        · obtain ⟨j, rfl⟩ : ∃ j, k = j + 1 := ⟨k - 1, by omega⟩
          obtain ⟨b', off', y, ey, _, hy, _, z0, _⟩ := (HI.out.keep HB1.out.row.old).at_ (i := j) (by omega)
          injection ey with ey
          injection ey with ey1 ey2 _
          subst ey1 ey2
          have hlast : last = y.rt.drv := HG.out.prev j y.rt rfl (by rw [List.getElem?_map, hy]; rfl)
          obtain ⟨pd, hpd⟩ : ∃ d, y.rt.drv = d := ⟨_, rfl⟩
          rw [hpd] at hlast z0
          subst hlast
          clear hpd hy
          by_cases d3 : rt.drv ≤ last
          · have HN : Hid (¬ okR last rt) := fun h => by have := h.1; omega
            go_quiet (fail)
            go_wp2_with fail
            go_meet
            exact ⟨Lib.hid (HB1.out.keep (drawn_below _ _)), true, rfl, fun _ => HN.out, fun h => by cases h⟩
          by_cases d4 : (80 : Int) < xn
          · have HN : Hid (¬ okR last rt) := fun h => by have := h.2.2.1; have := HSL.out; omega
            go_quiet (fail)
            go_wp2_with fail
            go_meet
            exact ⟨Lib.hid (HB1.out.keep (drawn_below _ _)), true, rfl, fun _ => HN.out, fun h => by cases h⟩
          by_cases d5 : rt.served < 0
          · have HN : Hid (¬ okR last rt) := fun h => by have := h.2.2.2.1; omega
            go_quiet (fail)
            go_wp2_with fail
            go_meet
            exact ⟨Lib.hid (HB1.out.keep (drawn_below _ _)), true, rfl, fun _ => HN.out, fun h => by cases h⟩
          by_cases d6 : (xn : Int) < rt.served
          · have HN : Hid (¬ okR last rt) := fun h => by have := h.2.2.2.2; have := HSL.out; omega
            go_quiet (fail)
            go_wp2_with fail
            go_meet
            exact ⟨Lib.hid (HB1.out.keep (drawn_below _ _)), true, rfl, fun _ => HN.out, fun h => by cases h⟩
          have HN : Hid (okR last rt) := ⟨by omega, by omega, by have := HSL.out; omega, by omega, by have := HSL.out; omega⟩
          go_quiet (fail)
          go_wp2_with fail
          go_meet
          exact ⟨Lib.hid (HB1.out.keep (drawn_below _ _)), false, rfl, fun h => (by cases h), fun _ => HN.out⟩
      case rest =>
        obtain ⟨HB2, tb, rfl, HT1, HT2⟩ := hcut
        cases tb with
        | true =>
          have HF : Hid (false = res) := (HG.out.no HXR.out (HT1.out rfl)).symm.trans HRES.out
          clear y0 y1 y2 c0 c1 c2
          go_wp2
          go_ret
          exact ⟨ret_bool HF.out, HB2.out.row.old⟩
        | false =>
          have HI0 := Lib.hid (RI.start HG.out HXR.out (HT2.out rfl))
          obtain ⟨g, hg⟩ : ∃ g, wr.heap.size = g := ⟨_, rfl⟩
          rw [hg] at HB2 ⊢
          clear y0 y1 y2 c0 c1 c2 HT1 HT2 HB1 HE HG hg
          go_wp2
          go_loopw [3, 6] (fun v i wr => ∃ (j : Nat) (f : List Stp), j ≤ xn ∧ i = .int .i64 j ∧ Hid (RB1 w wr v f g [.int .i64 rt.drv, .int .i64 rt.served, .slice xa xn xc]) ∧ Hid (RI (l.map (·.rt)) k last rt j f)) (fun _ i _ => xn - (intOf i).toNat)
          case atStart => exact ⟨0, _, Nat.zero_le _, rfl, HB2, HI0⟩
          case round =>
            clear HB2 HI0
            obtain ⟨j, f, hj, rfl, HB, HR⟩ := hrel
            have y2 := HB.out.box.cell (i := 2) rfl
            by_cases hlt2 : j < xn
            · obtain ⟨bs, os, s, rfl, _, hsx, _, s0, s1⟩ := Stps.at_ (Recs.keep HSTW.out HB.out.row.old) hlt2
              have HSX := Lib.hid hsx
              have HS2 := Lib.hid (RB2.new s HB.out)
              have q0 := HS2.out.stop.cell (i := 0) rfl
              have q1 := HS2.out.stop.cell (i := 1) rfl
              clear hsx
              by_cases n1 : s.ord < 1
              · have HF : Hid (false = res) := (HR.out.num HSX.out (by omega)).symm.trans HRES.out
                have HO := Lib.hid HS2.out.one.row.old
                go_wp2
                go_ret
                exact ⟨ret_bool HF.out, HO.out⟩
              by_cases n2 : (1000000 : Int) < s.ord
              · have HF : Hid (false = res) := (HR.out.num HSX.out (by omega)).symm.trans HRES.out
                have HO := Lib.hid HS2.out.one.row.old
                go_wp2
                go_ret
                exact ⟨ret_bool HF.out, HO.out⟩
              have HNUM : Hid (1 ≤ s.ord ∧ s.ord ≤ 1000000) := ⟨by omega, by omega⟩
              obtain ⟨A3, c3, rfl⟩ := HB.out.row.own.slice
              obtain ⟨nf, hnf⟩ : ∃ nf, f.length = nf := ⟨_, rfl⟩
              have hnf2 : nf ≤ 100000 := by
                have h1 := HR.out.len
                omega
              have HNF := Lib.hid hnf
              rw [hnf] at HS2 ⊢
              go_wp2
              go_loopw [8] (fun i wx => ∃ (j3 : Nat), j3 ≤ nf ∧ i = .int .i64 j3 ∧ Hid (RB2 w wx (.slice A3 nf c3) f g [.int .i64 rt.drv, .int .i64 rt.served, .slice (some ⟨bs, os, none⟩) xn xc] wr.heap.size s) ∧ Hid (s ∉ f.take j3)) (fun i _ => nf - (intOf i).toNat)
              case atStart => exact ⟨0, Nat.zero_le _, rfl, HS2, Lib.hid (by simp)⟩
              case round =>
                clear HS2 q0 q1 s0 s1 y2
                obtain ⟨j3, hj3, rfl, HQ, HM⟩ := hrel
                have q0 := HQ.out.stop.cell (i := 0) rfl
                have q1 := HQ.out.stop.cell (i := 1) rfl
                by_cases hlt3 : j3 < nf
                · obtain ⟨A', c', e', _, hr3⟩ := HQ.out.one.row.own.read
                  rw [HNF.out] at hr3 e'
                  injection e' with e1 e2 e3
                  subst e1
                  subst e3
                  clear e2
                  obtain ⟨b3, o3, t, rfl, _, htx, _, t0, t1⟩ := Stps.at_ hr3 hlt3
                  have HTX := Lib.hid htx
                  clear hr3 htx
                  by_cases he : t = s
                  · have HF : Hid (false = res) := (HR.out.dup HSX.out (List.mem_of_getElem? (he ▸ HTX.out))).symm.trans HRES.out
                    have HO := Lib.hid HQ.out.one.row.old
                    subst he
                    clear HNUM HR HSX HM HTX
                    go_wp2_with fail
                    go_quiet (fail)
                    go_wp2
                    go_ret
                    exact ⟨ret_bool HF.out, HO.out.trans ((drawn_below _ _).mono HO.out.size)⟩
                  · have HN : Hid (s ∉ f.take (j3 + 1)) := not_mem_next HM.out HTX.out he
                    by_cases e1 : t.ord = s.ord
                    · have e3 : (t.drop == s.drop) = false := by
                        have : ¬ t.drop = s.drop := fun h => he (Stp.ext_iff'.2 ⟨e1, h⟩)
                        simpa using this
                      rw [e1] at t0
                      clear he e1 HM HTX n1 n2
                      go_wp2_with fail
                      go_quiet (fail)
                      go_wp2
                      go_roundw
                      case rel => exact ⟨j3 + 1, by omega, by go_num, Lib.hid (HQ.out.keep (drawn_below _ _)), HN⟩
                      case measure => simp [intOf]; omega
                    · have e3 : (t.ord == s.ord) = false := by simpa using e1
                      clear he e1 HM HTX n1 n2
                      go_wp2_with fail
                      go_quiet (fail)
                      go_wp2
                      go_roundw
                      case rel => exact ⟨j3 + 1, by omega, by go_num, Lib.hid (HQ.out.keep (drawn_below _ _)), HN⟩
                      case measure => simp [intOf]; omega
                · have hm3 : s ∉ f := by
                    have h1 := HM.out
                    rw [List.take_of_length_le (by have := HNF.out; omega)] at h1
                    exact h1
                  have HN := Lib.hid (HR.out.next HSX.out hm3 HNUM.out)
                  have HQ3 : Hid (RB1 w (wr.alloc (.cells #[.int .i64 s.ord, .bool s.drop] 37)) (.slice A3 nf c3) f g [.int .i64 rt.drv, .int .i64 rt.served, .slice (some ⟨bs, os, none⟩) xn xc]) := HQ.out.one.keep ((Below.refl _ _).alloc (Nat.le_refl _) _)
                  have HOWN : Hid (OwnK (wr.alloc (.cells #[.int .i64 s.ord, .bool s.drop] 37)) w.heap.size 37 2 (.slice A3 nf c3) nf (stpsV f)) := by
                    have h1 := HQ3.out.row.own
                    rw [HNF.out] at h1
                    exact h1
                  have HB3 := Lib.hid (Blk.new wr 37 [.int .i64 s.ord, .bool s.drop])
                  have HSZ := Lib.hid HQ3.out.row.old.size
                  clear hm3 n1 n2 HM HNUM HB
                  go_wp2_with (at_builtin; refine wpList_append_ko (o := ⟨some 99, _, _, _, _, _⟩) rfl (.tmp 96) (.tmp 98) Tryz.underlying38 infoStp rfl (by decide) rfl HOWN.out rfl HB3.out rfl rfl (stp_one' s) (by unfold maxLen; omega) (by omega) HSZ.out ?_; intro vB wB HO2 HG2 HN2; have HQ4 := Lib.hid (HQ3.out.grow (x := s) (by rw [HNF.out]; exact HO2.out) HG2.out HN2.out); clear HO2 HG2 HN2)
                  go_roundw
                  case rel => exact ⟨j + 1, f ++ [s], by omega, by go_num, HQ4, HN⟩
                  case measure => simp [intOf]; omega
            · have HD := HR.out.done (by have := HSL.out; omega)
              have HG' := Lib.hid HD.2
              have HE' : Hid (ES w wr u3 (allS ((l.map (·.rt)).take (k + 1)))) := by rw [← HD.1]; exact HB.out.row
              clear HD
              go_wp2
              go_roundw
              case rel => exact ⟨k + 1, rt.drv, by omega, by go_num, HE', HG'⟩
              case measure => simp [intOf]; omega
    · have HF : Hid (true = res) := (HG.out.all (by rw [List.length_map, HL.out]; omega)).symm.trans HRES.out
      go_wp2
      go_ret
      exact ⟨ret_bool HF.out, HE.out.old⟩
end Go.Proofs.YtilggpkmdmelmaaGreat.Plan

namespace Go.Proofs.YtilggpkmdmelmaaGreat.Plan
open Go.ChangeShapes Go.WideShapes Go.ChangeAt Go.RowKit Go.Proofs.YtilggpkmdmelmaaGreat.Mem Go.Proofs.YtilggpkmdmelmaaGreat.FleetMath Go.Proofs.YtilggpkmdmelmaaGreat.PlanMath Go.Proofs.YtilggpkmdmelmaaGreat.Rec
set_option linter.unusedVariables false
structure RS (w wr : World) (L : List Stp) (m : Nat) : Prop where
  old : Below w.heap.size w wr
  set : SetS wr w.heap.size L.length L
  few : L.length ≤ m
theorem RS.below {w wr w' : World} {L : List Stp} {m : Nat} (h : RS w wr L m) (hb : Below wr.heap.size wr w') : RS w w' L m := ⟨h.old.trans (hb.mono h.old.size), h.set.below hb h.set.lt, h.few⟩
theorem RS.drew {w wr : World} {L : List Stp} {m : Nat} (h : RS w wr L m) (d : Nat) : RS w (wr.drewN d) L m := ⟨below_drewN h.old d, h.set.block rfl, h.few⟩
theorem RS.put {w wr w' : World} {L : List Stp} {m : Nat} {s : Stp} (h : RS w wr L m) (hs : SetS w' w.heap.size (L.length + 1) (L ++ [s])) (ht : wr.mapTurned w' w.heap.size) : RS w w' (L ++ [s]) (m + 1) :=
  ⟨h.old.trans (turned_below ht (Nat.le_refl _) h.old.size), by rw [List.length_append]; exact hs, by have := h.few; rw [List.length_append]; simp only [List.length_cons, List.length_nil]; omega⟩
theorem blk_turned {w w' : World} {g b : Nat} {t : TypeId} {vs : List Value} (h : Blk w g t vs) (ht : w.mapTurned w' b) (hne : g ≠ b) : Blk w' g t vs :=
  (ht.grown.block g h.lt (fun e => hne (by injection e))).trans h
set_option maxRecDepth 100000 in
set_option maxHeartbeats 2000000 in
theorem pright_any (A : Option Addr) (n c : Nat) (l : List RM) (w : World) (hl : Plns w w.heap.size A n l) :
    Calls Tryz.prog 35 #[.slice A n c] w (fun e w' => e = .returned (.bool (rightP (l.map (·.rt)))) ∧ Below w.heap.size w w') := by
  have hm := Recs.le hl.rows
  have HL := Lib.hid hl.length
  have HI := Lib.hid hl
  have hmm := @run_makeMap Tryz.prog
  have HS0 : Hid (RS w (w.alloc (.map #[] 0)) [] (0 * 80)) := ⟨(Below.refl _ _).alloc (Nat.le_refl _) _, SetS.made w, Nat.zero_le _⟩
  clear hl
  by_cases h8 : (8 : Int) < n
  · have HR : Hid (false = rightP (l.map (·.rt))) := by
      have := HL.out
      have e : decide ((l.map (·.rt)).length ≤ 8) = false := by simp only [List.length_map, decide_eq_false_iff_not]; omega
      rw [rightP_from, e]
      exact Lib.hid rfl
    go_enter Tryz.func35, Tryz.ntmps35
    go_wp2
    go_ret
    exact ends_bool HR.out (Below.refl _ _)
  · have HR : Hid (rightFrom 0 [] (l.map (·.rt)) = rightP (l.map (·.rt))) := by
      have := HL.out
      have e : decide ((l.map (·.rt)).length ≤ 8) = true := by simp only [List.length_map, decide_eq_true_eq]; omega
      rw [rightP_from, e]
      exact Lib.hid rfl
    go_enter Tryz.func35, Tryz.ntmps35
    go_wp2
    go_loopw [3, 4, 16] (fun la ct i wr => ∃ (k : Nat) (last : Int) (L : List Stp), k ≤ n ∧ i = .int .i64 k ∧ la = .int .i64 last ∧ ct = .int .i64 (L.length : Int) ∧ L.length ≤ k * 80 ∧ Hid (RS w wr L (k * 80)) ∧ Hid (rightFrom last L ((l.drop k).map (·.rt)) = rightP (l.map (·.rt)))) (fun _ _ i _ => n - (intOf i).toNat)
    case atStart => exact ⟨0, 0, [], Nat.zero_le _, rfl, rfl, rfl, Nat.zero_le _, HS0, HR⟩
    case round =>
      clear HS0 HR
      obtain ⟨k, last, L, hk, rfl, rfl, rfl, hfew, HS, HK⟩ := hrel
      by_cases hlt : k < n
      · obtain ⟨b, off, x, rfl, hbb, hx, hdr, c0, c1, c2, hst, hxc⟩ := (HI.out.keep HS.out.old).at_ hlt
        have HX := Lib.hid hst
        have HXL := Lib.hid hst.length
        have HK1 := HK.out
        rw [hdr, List.map_cons, rightFrom_cons] at HK1
        have HKK := Lib.hid HK1
        have HXX := Lib.hid hx
        clear hx hdr HK1 HK hst
        have HB0 : Hid (Below wr.heap.size wr (wr.alloc (.cells #[.int .i64 x.rt.drv, .int .i64 x.rt.served, .slice x.a x.n x.c] 40))) := (Below.refl _ _).alloc (Nat.le_refl _) _
        have HQ : Hid (Blk (wr.alloc (.cells #[.int .i64 x.rt.drv, .int .i64 x.rt.served, .slice x.a x.n x.c] 40)) wr.heap.size 40 [.int .i64 x.rt.drv, .int .i64 x.rt.served, .slice x.a x.n x.c]) := Blk.new _ _ _
        by_cases ha : x.rt.drv ≤ last
        · have HF : Hid (false = rightP (l.map (·.rt))) := by
            have h := HKK.out
            rw [decide_eq_false (by omega), Bool.false_and, Bool.false_and] at h
            exact h
          have HE : Hid (Below w.heap.size w (wr.alloc (.cells #[.int .i64 x.rt.drv, .int .i64 x.rt.served, .slice x.a x.n x.c] 40))) := (HS.out.below HB0.out).old
          clear HKK
          go_wp2
          go_ret
          exact ends_bool HF.out HE.out
        · by_cases hb : (1000000 : Int) < x.rt.drv
          · have HF : Hid (false = rightP (l.map (·.rt))) := by
              have h := HKK.out
              rw [decide_eq_false (by omega), Bool.false_and, Bool.false_and] at h
              exact h
            have HE : Hid (Below w.heap.size w (wr.alloc (.cells #[.int .i64 x.rt.drv, .int .i64 x.rt.served, .slice x.a x.n x.c] 40))) := (HS.out.below HB0.out).old
            clear HKK
            go_wp2
            go_ret
            exact ends_bool HF.out HE.out
          · have HKL : Hid ((boundR x.rt && rightFrom x.rt.drv (L ++ x.rt.stops) ((l.drop (k + 1)).map (·.rt))) = rightP (l.map (·.rt))) := by
              have h := HKK.out
              rw [decide_eq_true (by omega), Bool.true_and] at h
              exact h
            clear HKK
            have HX1 : Hid (Stps (wr.alloc (.cells #[.int .i64 x.rt.drv, .int .i64 x.rt.served, .slice x.a x.n x.c] 40)) (wr.alloc (.cells #[.int .i64 x.rt.drv, .int .i64 x.rt.served, .slice x.a x.n x.c] 40)).heap.size x.a x.n x.rt.stops) := Recs.more (Recs.keep HX.out (HB0.out.mono HS.out.old.size)) (Nat.le_trans HS.out.old.size HB0.out.size)
            go_wp2_with fail
            refine (pbounded_any _ _ _ x.rt _ (by exact HX1.out)).mono ?_
            rintro e w1 ⟨rfl, hb1⟩
            have HS1 : Hid (RS w w1 L (k * 80)) := (HS.out.below HB0.out).below hb1
            have HQ1 := Lib.hid (HQ.out.below hb1 HQ.out.lt)
            clear hb1 HX1 HX HB0 HQ c0 c1 c2
            obtain ⟨br, hbr⟩ : ∃ r, boundR x.rt = r := ⟨_, rfl⟩
            have HBR := Lib.hid hbr
            rw [hbr]
            clear hbr
            cases br with
            | false =>
              have HF : Hid (false = rightP (l.map (·.rt))) := by
                have h := HKL.out
                rw [HBR.out, Bool.false_and] at h
                exact h
              clear HKL
              go_wp2
              go_ret
              exact ends_bool HF.out HS1.out.old
            | true =>
              have HKM : Hid (rightFrom x.rt.drv (L ++ x.rt.stops) ((l.drop (k + 1)).map (·.rt)) = rightP (l.map (·.rt))) := by
                have h := HKL.out
                rw [HBR.out, Bool.true_and] at h
                exact h
              have m2 := HQ1.out.cell (i := 2) rfl
              have HSL : Hid (RS w w1 (L ++ x.rt.stops.take 0) (k * 80 + 0)) := by
                rw [List.take_zero, List.append_nil]; exact HS1
              have hx80 : x.n ≤ 80 := by
                have := boundR_len HBR.out
                rw [HXL.out] at this
                exact this
              have HGN : Hid (wr.heap.size ≠ w.heap.size) := Lib.hid (Nat.ne_of_gt HS.out.set.lt)
              clear HKL HS1
              go_wp2
              go_loopw [37] (fun i wi => ∃ (j : Nat), j ≤ x.n ∧ i = .int .i64 j ∧ Hid (RS w wi (L ++ x.rt.stops.take j) (k * 80 + j)) ∧ Hid (Blk wi wr.heap.size 40 [.int .i64 x.rt.drv, .int .i64 x.rt.served, .slice x.a x.n x.c])) (fun i _ => x.n - (intOf i).toNat)
              case atStart => exact ⟨0, Nat.zero_le _, rfl, HSL, HQ1⟩
              case round =>
                clear HSL HQ1 m2
                obtain ⟨j, hj, rfl, HSI, HQI⟩ := hrel
                obtain ⟨wi, rfl⟩ : ∃ z, z = wr := ⟨_, rfl⟩
                by_cases hlt2 : j < x.n
                · obtain ⟨_, _, y, _, _, hy, _, _, _, _, hst, _⟩ := (HI.out.keep HSI.out.old).at_ hlt
                  obtain rfl : y = x := by rw [HXX.out] at hy; injection hy with h; exact h.symm
                  obtain ⟨b2, off2, s, hxa, hbb2, hs, hdr2, s0, s1⟩ := Stps.at_ hst hlt2
                  have hmem : s ∈ y.rt.stops := List.mem_of_getElem? hs
                  have hso := boundR_num HBR.out hmem
                  have hwf : (Lit.int .i64 s.ord).wf = true := WalkArith.wf_i64 (by omega)
                  have HSO := Lib.hid hwf
                  have HT : Hid (y.rt.stops.take (j + 1) = y.rt.stops.take j ++ [s]) := Lib.hid (by rw [List.take_add_one, hs]; rfl)
                  have hln : (L ++ y.rt.stops.take j).length ≤ 720 := by
                    have h1 := boundR_len HBR.out
                    rw [List.length_append, List.length_take]
                    omega
                  have HLN := Lib.hid hln
                  have HS2 : Hid (RS w (wi.alloc (.cells #[.int .i64 s.ord, .bool s.drop] 37)) (L ++ y.rt.stops.take j) (k * 80 + j)) := HSI.out.below ((Below.refl _ _).alloc (Nat.le_refl _) _)
                  have HQ2 := Lib.hid (HQI.out.below ((Below.refl wi.heap.size _).alloc (Nat.le_refl _) (.cells #[.int .i64 s.ord, .bool s.drop] 37)) HQI.out.lt)
                  clear hst hy hs hdr2 hmem hso hwf hln hbb2
                  go_wp2_with (at_mapUpdate; refine put_stop (L := L ++ y.rt.stops.take j) rfl _ _ _ rfl s HS2.out.set (by have := HLN.out; unfold maxLen; omega) HSO.out rfl rfl rfl ?_; intro w2 hs2 ht2; (try simp only [Act.put]))
                  have HS3 : Hid (RS w w2 (L ++ y.rt.stops.take (j + 1)) (k * 80 + (j + 1))) := by
                    rw [HT.out, ← List.append_assoc]
                    exact HS2.out.put hs2 ht2
                  have HQ3 := Lib.hid (blk_turned HQ2.out ht2 HGN.out)
                  clear hs2 ht2 HS2 HQ2 HSI HQI
                  go_roundw
                  case rel => exact ⟨j + 1, by omega, by go_num, HS3, HQ3⟩
                  case measure => simp [intOf]; omega
                · have hje : j = x.n := by omega
                  subst hje
                  have HSE : Hid (RS w wi (L ++ x.rt.stops) ((k + 1) * 80)) := by
                    have h := HSI.out
                    rw [List.take_of_length_le (by rw [HXL.out]; exact Nat.le_refl _)] at h
                    exact ⟨h.old, h.set, by have := h.few; omega⟩
                  have m0 := HQI.out.cell (i := 0) rfl
                  have m2 := HQI.out.cell (i := 2) rfl
                  have hlen : (L.length : Int) + (x.n : Int) = (((L ++ x.rt.stops).length : Nat) : Int) := by rw [List.length_append, HXL.out]; omega
                  have hfew2 : (L ++ x.rt.stops).length ≤ (k + 1) * 80 := HSE.out.few
                  obtain ⟨q, hq⟩ : ∃ q, (L ++ x.rt.stops).length = q := ⟨_, rfl⟩
                  rw [hq] at hlen hfew2
                  have HQE := Lib.hid hq
                  clear HSI HQI hq
                  go_wp2
                  go_quiet (fail)
                  go_wp2
                  go_roundw
                  case rel => exact ⟨k + 1, x.rt.drv, L ++ x.rt.stops, by omega, by go_num, rfl, by rw [HQE.out], by rw [HQE.out]; exact hfew2, Lib.hid (HSE.out.drew _), HKM⟩
                  case measure => simp [intOf]; omega
      · have HF : Hid (decide L.Nodup = rightP (l.map (·.rt))) := by
          have h := HK.out
          rw [List.drop_of_length_le (by have := HL.out; omega)] at h
          exact h
        have HE : Hid (Below w.heap.size w wr) := HS.out.old
        clear HK
        go_wp2_with (at_len; refine len_stops rfl _ rfl HS.out.set rfl ?_; intro z hz1 hz2)
        go_ret
        refine ends_bool ?_ HE.out
        rw [← HF.out]
        have : ((z : Int) == (L.length : Int)) = decide (z = L.length) := by
          rw [Bool.eq_iff_iff]; simp only [beq_iff_eq, decide_eq_true_eq]; omega
        rw [this]
        exact decide_eq_decide.2 hz2
end Go.Proofs.YtilggpkmdmelmaaGreat.Plan
