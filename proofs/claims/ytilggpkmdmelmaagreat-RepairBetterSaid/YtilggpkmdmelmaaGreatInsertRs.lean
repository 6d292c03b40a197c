/-
  InsertMath2, InsertRAlong, InsertRSmall, InsertRBest, InsertRCheap, InsertExec: one text.
-/
import Derived.Test.YtilggpkmdmelmaaGreatInsertMaths
import Derived.Test.YtilggpkmdmelmaaGreatDealRs
import Derived.Test.YtilggpkmdmelmaaGreatSpanAll
import Derived.Test.YtilggpkmdmelmaaGreatCertSmalls
import Derived.Test.YtilggpkmdmelmaaGreatRouteRDrives
import Derived.Test.YtilggpkmdmelmaaGreatSlackSmalls
import Derived.Deep.DeepCutAuto
import Derived.Test.YtilggpkmdmelmaaGreatSlackPs
import Derived.Test.YtilggpkmdmelmaaGreatRegions
import Derived.Test.YtilggpkmdmelmaaGreatPlanRights
import Derived.Test.YtilggpkmdmelmaaGreatCertOneW
import Derived.Test.YtilggpkmdmelmaaGreatCertFinds
import Derived.Test.YtilggpkmdmelmaaGreatRouteDrivesP
import Derived.Test.YtilggpkmdmelmaaGreatRouteRs
import Derived.Test.YtilggpkmdmelmaaGreatCertRs
import Derived.Test.YtilggpkmdmelmaaGreatAuditMaths
import Derived.Test.YtilggpkmdmelmaaGreatCertUseP
namespace Go.Proofs.YtilggpkmdmelmaaGreat.Insert
open Go.ChangeShapes Go.WideShapes Go.ChangeAt Go.RowKit Go.Proofs.YtilggpkmdmelmaaGreat.Mem Go.Proofs.YtilggpkmdmelmaaGreat.GeoMath Go.Proofs.YtilggpkmdmelmaaGreat.FleetMath Go.Proofs.YtilggpkmdmelmaaGreat.PlanMath Go.Proofs.YtilggpkmdmelmaaGreat.CertMath Go.Proofs.YtilggpkmdmelmaaGreat.InsertMath Go.Proofs.YtilggpkmdmelmaaGreat.Rec Go.Proofs.YtilggpkmdmelmaaGreat.Geo Go.Proofs.YtilggpkmdmelmaaGreat.Span Go.Proofs.YtilggpkmdmelmaaGreat.Deal
set_option linter.unusedVariables false
def Near (m : Option Mp) : Prop := ∀ mm, m = some mm → ∀ a b, 0 ≤ time mm a b ∧ time mm a b ≤ 1000000
theorem near {w : World} {t : TypeId} {base : Nat} {pv : Value} {m : Option Mp} (h : MapP w t base pv m) : Near m := by
  intro mm hm a b
  rcases h with ⟨_, h⟩ | ⟨_, n, l, _, h2, _, _, _, h6⟩
  · rw [h] at hm; cases hm
  · rw [h2] at hm
    injection hm with hm
    rw [← hm]
    exact time_bounds h6 a b
theorem cost_in {m : Option Mp} {d : Drv} {os : List FleetMath.Ord} {stops : List Stp} {c : Int} (h : Near m) (hl : stops.length ≤ 100) (hc : cost m d os stops = some c) : 0 ≤ c ∧ c ≤ 100000000 := by
  unfold cost at hc
  cases m with
  | none => cases hc
  | some mm =>
    simp only at hc
    split at hc
    · injection hc with hc
      have h1 := costM_bound (os := os) (h mm rfl) d.home stops
      rw [hc] at h1
      omega
    · cases hc
theorem old_bound {m : Option Mp} {d : Drv} {os : List FleetMath.Ord} {stops : List Stp} (h : Near m) (hl : stops.length ≤ 100) : 0 ≤ oldC m d os stops ∧ oldC m d os stops ≤ 100000000 := by
  unfold oldC
  cases hc : cost m d os stops with
  | none => simp
  | some c => exact cost_in h hl hc
theorem cost_form (m : Option Mp) (d : Drv) (os : List FleetMath.Ord) (stops : List Stp) : ∃ ov ok, optV (cost m d os stops) = .tuple #[.int .i64 ov, .bool ok] ∧ oldC m d os stops = ov := by
  unfold oldC
  cases cost m d os stops with
  | none => exact ⟨0, false, rfl, rfl⟩
  | some c => exact ⟨c, true, rfl, rfl⟩
theorem opt_form (r : Option Int) : ∃ v ok, optV r = .tuple #[.int .i64 v, .bool ok] ∧ (ok = true → r = some v) ∧ (ok = false → r = none) := by
  cases r with
  | none => exact ⟨0, false, rfl, fun h => (by cases h), fun _ => rfl⟩
  | some c => exact ⟨c, true, rfl, fun _ => rfl, fun h => (by cases h)⟩
end Go.Proofs.YtilggpkmdmelmaaGreat.Insert

namespace Go.Proofs.YtilggpkmdmelmaaGreat.Insert
open Go.ChangeShapes Go.WideShapes Go.ChangeAt Go.RowKit Go.Proofs.YtilggpkmdmelmaaGreat.Mem Go.Proofs.YtilggpkmdmelmaaGreat.GeoMath Go.Proofs.YtilggpkmdmelmaaGreat.FleetMath Go.Proofs.YtilggpkmdmelmaaGreat.PlanMath Go.Proofs.YtilggpkmdmelmaaGreat.CertMath Go.Proofs.YtilggpkmdmelmaaGreat.InsertMath Go.Proofs.YtilggpkmdmelmaaGreat.Rec Go.Proofs.YtilggpkmdmelmaaGreat.Geo Go.Proofs.YtilggpkmdmelmaaGreat.Span Go.Proofs.YtilggpkmdmelmaaGreat.Deal Go.Proofs.YtilggpkmdmelmaaGreat.Route Go.Proofs.YtilggpkmdmelmaaGreat.Plan Go.Proofs.YtilggpkmdmelmaaGreat.Cert Go.Proofs.YtilggpkmdmelmaaGreat.Slack
set_option linter.unusedVariables false
set_option linter.unusedSimpArgs false
section
variable {w u u' : World} {d : Drv} {x : RM} {o : FleetMath.Ord} {s t : Srch}
end
theorem run_load_dbx {u : World} {g : Nat} {d : Drv} (h : DBox u g d) : (Instr.loadAt 33 (.pointer (some ⟨g, 0, none⟩))).run Tryz.prog u = .ok (drvV d) u := by
  obtain ⟨h0, h1, h2, h3, h4, h5⟩ := h.cells
  simp [go_sem, h0, h1, h2, h3, h4, h5]
theorem ins_call4 {P : Program} {o : Oper} {a : Act} {u : World} {f : Nat} {ts : Array TypeId} {x1 x2 x3 x4 : Operand} {v1 v2 v3 v4 : Value} (h : o.op = .call { callee := .value (.func f), args := #[x1, x2, x3, x4], argTypes := ts }) (h1 : a.eval x1 = v1) (h2 : a.eval x2 = v2) (h3 : a.eval x3 = v3) (h4 : a.eval x4 = v4)
    (hf : (callFunc f #[v1, v2, v3, v4]).run P u = .ok (.enter f #[v1, v2, v3, v4]) u) : (execOp a.eval o).run P u = .ok (.enter f #[v1, v2, v3, v4]) u := by
  have hf' : a.eval (.func f) = .func (.func f) #[] #[] := rfl
  obtain ⟨ρ, hρ⟩ : ∃ ρ, a.eval = ρ := ⟨_, rfl⟩
  rw [hρ] at h1 h2 h3 h4 hf' ⊢
  unfold execOp
  rw [h]
  simp [go_sem, hf', h1, h2, h3, h4, hf]
end Go.Proofs.YtilggpkmdmelmaaGreat.Insert

namespace Go.Proofs.YtilggpkmdmelmaaGreat.Insert
open Go.ChangeShapes Go.WideShapes Go.ChangeAt Go.RowKit Go.Proofs.YtilggpkmdmelmaaGreat.Mem Go.Proofs.YtilggpkmdmelmaaGreat.GeoMath Go.Proofs.YtilggpkmdmelmaaGreat.FleetMath Go.Proofs.YtilggpkmdmelmaaGreat.PlanMath Go.Proofs.YtilggpkmdmelmaaGreat.CertMath Go.Proofs.YtilggpkmdmelmaaGreat.InsertMath Go.Proofs.YtilggpkmdmelmaaGreat.Rec Go.Proofs.YtilggpkmdmelmaaGreat.Geo Go.Proofs.YtilggpkmdmelmaaGreat.Span Go.Proofs.YtilggpkmdmelmaaGreat.Deal Go.Proofs.YtilggpkmdmelmaaGreat.Route Go.Proofs.YtilggpkmdmelmaaGreat.Plan Go.Proofs.YtilggpkmdmelmaaGreat.Cert
set_option linter.unusedVariables false
set_option linter.unusedSimpArgs false
abbrev sp4V (x : Sp4) : Value := .agg #[.int .i64 x.drv, .int .i64 x.pick, .int .i64 x.drop, .int .i64 x.cost]
abbrev toldV (t : Sp4 × Int × Int) : Value := .tuple #[sp4V t.1, .int .i64 t.2.1, .int .i64 t.2.2]
def S4Box (u : World) (g : Nat) (x : Sp4) : Prop := Blk u g 140 [.int .i64 x.drv, .int .i64 x.pick, .int .i64 x.drop, .int .i64 x.cost]
theorem S4Box.cells {u : World} {g : Nat} {x : Sp4} (h : S4Box u g x) : u.cell? ⟨g, 0, none⟩ = some (.int .i64 x.drv) ∧ u.cell? ⟨g, 1, none⟩ = some (.int .i64 x.pick) ∧ u.cell? ⟨g, 2, none⟩ = some (.int .i64 x.drop) ∧ u.cell? ⟨g, 3, none⟩ = some (.int .i64 x.cost) := ⟨Blk.cell h rfl, Blk.cell h rfl, Blk.cell h rfl, Blk.cell h rfl⟩
abbrev putS4 (u : World) (g : Nat) (x : Sp4) : World := ((((u.setCell ⟨g, 0, none⟩ (.int .i64 x.drv)).setCell ⟨g, 1, none⟩ (.int .i64 x.pick)).setCell ⟨g, 2, none⟩ (.int .i64 x.drop)).setCell ⟨g, 3, none⟩ (.int .i64 x.cost))
theorem putS4_box {u : World} {g : Nat} {y : Sp4} (h : S4Box u g y) (x : Sp4) : S4Box (putS4 u g x) g x := by
  unfold S4Box at h ⊢
  exact ((((h.put 0 _).put 1 _).put 2 _).put 3 _)
theorem putS4_below {B : Nat} {w u : World} {g : Nat} (h : Below B w u) (hg : B ≤ g) (x : Sp4) : Below B w (putS4 u g x) := ((((h.setCell hg _).setCell hg _).setCell hg _).setCell hg _)
set_option maxRecDepth 100000 in
set_option maxHeartbeats 4000000 in
theorem rdriver12_any (A : Option Addr) (n c : Nat) (l : List Drv) (id v : Int) (w : World) (B : Nat) (hl : Drvs w B A n l) (hv : pdIdx l id 0 = v) :
    Calls Tryz.prog 32 #[.slice A n c, .int .i64 id] w (fun e w' => e = .returned (.int .i64 v) ∧ w = w') := by
  have hm := Recs.le hl
  have HI := Lib.hid hl
  have HL := Lib.hid hl.length
  have HV := Lib.hid hv
  clear hl hv
  go_enter Tryz.func32, Tryz.ntmps32
  go_wp2_with fail
  go_loopw [5] (fun iv wr => ∃ k : Nat, k ≤ n ∧ iv = .int .i64 k ∧ w = wr ∧ Hid (pdIdx (l.drop k) id k = v)) (fun iv _ => n - (intOf iv).toNat)
  case atStart => exact ⟨0, Nat.zero_le _, rfl, by first | rfl | trivial, Lib.hid (by rw [List.drop_zero]; exact HV.out)⟩
  case round =>
    obtain ⟨k, hk, rfl, rfl, HK⟩ := hrel
    by_cases hlt : k < n
    · obtain ⟨bb, off, o, rfl, hbb, ho, hdr, c0, _⟩ := Drvs.at_ HI.out hlt
      have HK1 := HK.out
      rw [hdr, pdIdx_cons] at HK1
      by_cases hid : o.id = id
      · rw [if_pos hid] at HK1
        have HF := Lib.hid HK1
        have e1 : (o.id == id) = true := by simpa using hid
        clear hid HK HK1 ho hdr
        go_wp2_with fail
        go_ret
        exact ⟨ret_i HF.out, rfl⟩
      · rw [if_neg hid] at HK1
        have HF := Lib.hid HK1
        have e1 : (o.id == id) = false := by simpa using hid
        clear hid HK HK1 ho hdr
        go_wp2_with fail
        go_roundw
        case rel => exact ⟨k + 1, by omega, by go_num, by first | rfl | trivial, HF⟩
        case measure => simp [intOf]; omega
    · have HF : Hid (-1 = v) := by
        have h := HK.out
        rw [List.drop_of_length_le (by have := HL.out; omega)] at h
        exact h
      clear HK
      go_wp2_with fail
      go_ret
      exact ⟨ret_i HF.out, rfl⟩
end Go.Proofs.YtilggpkmdmelmaaGreat.Insert

namespace Go.Proofs.YtilggpkmdmelmaaGreat.Insert
open Go.ChangeShapes Go.WideShapes Go.ChangeAt Go.RowKit Go.Proofs.YtilggpkmdmelmaaGreat.Mem Go.Proofs.YtilggpkmdmelmaaGreat.GeoMath Go.Proofs.YtilggpkmdmelmaaGreat.FleetMath Go.Proofs.YtilggpkmdmelmaaGreat.PlanMath Go.Proofs.YtilggpkmdmelmaaGreat.CertMath Go.Proofs.YtilggpkmdmelmaaGreat.InsertMath Go.Proofs.YtilggpkmdmelmaaGreat.Rec Go.Proofs.YtilggpkmdmelmaaGreat.Geo Go.Proofs.YtilggpkmdmelmaaGreat.Span Go.Proofs.YtilggpkmdmelmaaGreat.Deal Go.Proofs.YtilggpkmdmelmaaGreat.Route Go.Proofs.YtilggpkmdmelmaaGreat.Plan Go.Proofs.YtilggpkmdmelmaaGreat.Cert
set_option linter.unusedVariables false
set_option linter.unusedSimpArgs false
structure BS (w : World) (d : Drv) (x : RM) (o : FleetMath.Ord) (u : World) : Prop where
  old : Below w.heap.size w u
  drv : DBox u w.heap.size d
  rte : RBox u (w.heap.size + 1) x
  ord : OBox u (w.heap.size + 2) o
  res : S4Box u (w.heap.size + 3) sp0
section
variable {w u u' : World} {d : Drv} {x : RM} {o : FleetMath.Ord}
theorem BS.next (h : BS w d x o u) (hb : Below u.heap.size u u') : BS w d x o u' :=
  ⟨h.old.trans (hb.mono h.old.size), h.drv.below hb, h.rte.below hb, h.ord.below hb, Blk.below h.res hb (Blk.lt h.res)⟩
theorem BS.start : BS w d x o ((((w.alloc (.cells #[.int .i64 d.id, .int .i64 d.room, .int .i64 d.home, .int .i64 d.win.fr, .int .i64 d.win.to, .bool d.retired] 33)).alloc (.cells #[.int .i64 x.rt.drv, .int .i64 x.rt.served, .slice x.a x.n x.c] 40)).alloc (.cells #[.int .i64 o.id, .int .i64 o.size, .int .i64 o.pick.place, .int .i64 o.pick.win.fr, .int .i64 o.pick.win.to, .int .i64 o.pick.serv, .int .i64 o.drop.place, .int .i64 o.drop.win.fr, .int .i64 o.drop.win.to, .int .i64 o.drop.serv] 31)).alloc (.cells #[.int .i64 0, .int .i64 0, .int .i64 0, .int .i64 0] 140)) := by
  have b0 : ∀ (u : World) (ob : Obj), Below u.heap.size u (u.alloc ob) := fun u ob => (Below.refl _ _).alloc (Nat.le_refl _) _
  have f0 : DBox (w.alloc (.cells #[.int .i64 d.id, .int .i64 d.room, .int .i64 d.home, .int .i64 d.win.fr, .int .i64 d.win.to, .bool d.retired] 33)) w.heap.size d := Blk.new w _ _
  obtain ⟨w1, h1⟩ : ∃ u, w.alloc (.cells #[.int .i64 d.id, .int .i64 d.room, .int .i64 d.home, .int .i64 d.win.fr, .int .i64 d.win.to, .bool d.retired] 33) = u := ⟨_, rfl⟩
  have z1 : w1.heap.size = w.heap.size + 1 := by rw [← h1]; simp
  have o1 : Below w.heap.size w w1 := by rw [← h1]; exact b0 _ _
  rw [h1] at f0 ⊢
  have f1 : RBox (w1.alloc (.cells #[.int .i64 x.rt.drv, .int .i64 x.rt.served, .slice x.a x.n x.c] 40)) w1.heap.size x := Blk.new w1 _ _
  obtain ⟨w2, h2⟩ : ∃ u, w1.alloc (.cells #[.int .i64 x.rt.drv, .int .i64 x.rt.served, .slice x.a x.n x.c] 40) = u := ⟨_, rfl⟩
  have z2 : w2.heap.size = w.heap.size + 2 := by rw [← h2]; simp [z1]
  have b2 : Below w1.heap.size w1 w2 := by rw [← h2]; exact b0 _ _
  rw [z1] at f1
  rw [h2] at f1 ⊢
  have f2 : OBox (w2.alloc (.cells #[.int .i64 o.id, .int .i64 o.size, .int .i64 o.pick.place, .int .i64 o.pick.win.fr, .int .i64 o.pick.win.to, .int .i64 o.pick.serv, .int .i64 o.drop.place, .int .i64 o.drop.win.fr, .int .i64 o.drop.win.to, .int .i64 o.drop.serv] 31)) w2.heap.size o := Blk.new w2 _ _
  obtain ⟨w3, h3⟩ : ∃ u, w2.alloc (.cells #[.int .i64 o.id, .int .i64 o.size, .int .i64 o.pick.place, .int .i64 o.pick.win.fr, .int .i64 o.pick.win.to, .int .i64 o.pick.serv, .int .i64 o.drop.place, .int .i64 o.drop.win.fr, .int .i64 o.drop.win.to, .int .i64 o.drop.serv] 31) = u := ⟨_, rfl⟩
  have z3 : w3.heap.size = w.heap.size + 3 := by rw [← h3]; simp [z2]
  have b3 : Below w2.heap.size w2 w3 := by rw [← h3]; exact b0 _ _
  rw [z2] at f2
  rw [h3] at f2 ⊢
  have f3 : S4Box (w3.alloc (.cells #[.int .i64 0, .int .i64 0, .int .i64 0, .int .i64 0] 140)) w3.heap.size sp0 := Blk.new w3 _ _
  have b4 : Below w3.heap.size w3 (w3.alloc (.cells #[.int .i64 0, .int .i64 0, .int .i64 0, .int .i64 0] 140)) := b0 _ _
  rw [z3] at f3
  exact ⟨((o1.trans (b2.mono o1.size)).trans (b3.mono (by omega))).trans (b4.mono (by omega)), ((f0.below b2).below b3).below b4, (f1.below b3).below b4, f2.below b4, f3⟩
theorem BS.put (h : BS w d x o u) (y : Sp4) : Below w.heap.size w (putS4 u (w.heap.size + 3) y) := putS4_below h.old (by omega) y
end
def argBad (m : Option Mp) (d : Drv) (os : List FleetMath.Ord) (r : Rte) (o : FleetMath.Ord) (b : Int) : Prop :=
  drvE m d ≠ 0 ∨ ordE m o ≠ 0 ∨ known m os = false ∨ (find os o.id).isSome = true ∨ r.drv ≠ d.id ∨ r.served < 0 ∨ (r.stops.length : Int) < r.served ∨ b < 0 ∨ 100000 < b
theorem bestBad_iff {m : Option Mp} {d : Drv} {os : List FleetMath.Ord} {r : Rte} {o : FleetMath.Ord} {b : Int} : bestBad m d os r o b ↔ argBad m d os r o b ∨ (drive m d os r.stops).2.2 ≠ 0 := by
  unfold bestBad argBad
  simp only [or_assoc]
theorem bestM_bad {m : Option Mp} {d : Drv} {os : List FleetMath.Ord} {r : Rte} {o : FleetMath.Ord} {b : Int} (h : bestBad m d os r o b) : bestM m d os r o b = (sp0, 0, 1) := if_pos h
end Go.Proofs.YtilggpkmdmelmaaGreat.Insert

namespace Go.Proofs.YtilggpkmdmelmaaGreat.Insert
open Go.ChangeShapes Go.WideShapes Go.ChangeAt Go.RowKit Go.Proofs.YtilggpkmdmelmaaGreat.Mem Go.Proofs.YtilggpkmdmelmaaGreat.GeoMath Go.Proofs.YtilggpkmdmelmaaGreat.FleetMath Go.Proofs.YtilggpkmdmelmaaGreat.PlanMath Go.Proofs.YtilggpkmdmelmaaGreat.CertMath Go.Proofs.YtilggpkmdmelmaaGreat.AuditMath Go.Proofs.YtilggpkmdmelmaaGreat.InsertMath Go.Proofs.YtilggpkmdmelmaaGreat.Rec Go.Proofs.YtilggpkmdmelmaaGreat.Geo Go.Proofs.YtilggpkmdmelmaaGreat.Span Go.Proofs.YtilggpkmdmelmaaGreat.Deal Go.Proofs.YtilggpkmdmelmaaGreat.Route Go.Proofs.YtilggpkmdmelmaaGreat.Plan Go.Proofs.YtilggpkmdmelmaaGreat.Cert
set_option linter.unusedVariables false
set_option linter.unusedSimpArgs false
theorem right_route {p : List Rte} (h : rightP p = true) {r : Rte} (hr : r ∈ p) : r.stops.length ≤ 80 ∧ ∃ sv : Nat, r.served = (sv : Int) ∧ sv ≤ r.stops.length := by
  unfold rightP at h
  simp only [Bool.and_eq_true, List.all_eq_true] at h
  have := h.1.1.2 r hr
  unfold rightR at this
  rw [decide_eq_true_eq] at this
  exact ⟨this.2.2.1, r.served.toNat, by omega, by omega⟩
theorem cheap_next {bn : Nat} {s : Srch} {G : Rte → List (Option Sp4)} {p : List Rte} {k : Nat} {r : Rte} {R : Srch} (h : R = goOn bn s ((p.drop k).flatMap G)) (hp : p.drop k = r :: p.drop (k + 1)) : R = goOn bn (goOn bn s (G r)) ((p.drop (k + 1)).flatMap G) := by
  rw [h, hp, List.flatMap_cons, goOn_append]
structure CS (w : World) (o : FleetMath.Ord) (u : World) : Prop where
  old : Below w.heap.size w u
  ord : OBox u w.heap.size o
  res : S4Box u (w.heap.size + 1) sp0
section
variable {w u u' : World} {o : FleetMath.Ord} {s t : Srch} {g : Nat}
theorem CS.next (h : CS w o u) (hb : Below u.heap.size u u') : CS w o u' := ⟨h.old.trans (hb.mono h.old.size), h.ord.below hb, Blk.below h.res hb (Blk.lt h.res)⟩
theorem CS.size (h : CS w o u) : w.heap.size + 2 ≤ u.heap.size := Blk.lt h.res
theorem CS.start : CS w o ((w.alloc (.cells #[.int .i64 o.id, .int .i64 o.size, .int .i64 o.pick.place, .int .i64 o.pick.win.fr, .int .i64 o.pick.win.to, .int .i64 o.pick.serv, .int .i64 o.drop.place, .int .i64 o.drop.win.fr, .int .i64 o.drop.win.to, .int .i64 o.drop.serv] 31)).alloc (.cells #[.int .i64 0, .int .i64 0, .int .i64 0, .int .i64 0] 140)) := by
  have b0 : ∀ (u : World) (ob : Obj), Below u.heap.size u (u.alloc ob) := fun u ob => (Below.refl _ _).alloc (Nat.le_refl _) _
  have f0 : OBox (w.alloc (.cells #[.int .i64 o.id, .int .i64 o.size, .int .i64 o.pick.place, .int .i64 o.pick.win.fr, .int .i64 o.pick.win.to, .int .i64 o.pick.serv, .int .i64 o.drop.place, .int .i64 o.drop.win.fr, .int .i64 o.drop.win.to, .int .i64 o.drop.serv] 31)) w.heap.size o := Blk.new w _ _
  obtain ⟨w1, h1⟩ : ∃ u, w.alloc (.cells #[.int .i64 o.id, .int .i64 o.size, .int .i64 o.pick.place, .int .i64 o.pick.win.fr, .int .i64 o.pick.win.to, .int .i64 o.pick.serv, .int .i64 o.drop.place, .int .i64 o.drop.win.fr, .int .i64 o.drop.win.to, .int .i64 o.drop.serv] 31) = u := ⟨_, rfl⟩
  have z1 : w1.heap.size = w.heap.size + 1 := by rw [← h1]; simp
  have o1 : Below w.heap.size w w1 := by rw [← h1]; exact b0 _ _
  rw [h1] at f0 ⊢
  have f3 : S4Box (w1.alloc (.cells #[.int .i64 0, .int .i64 0, .int .i64 0, .int .i64 0] 140)) w1.heap.size sp0 := Blk.new w1 _ _
  rw [z1] at f3
  exact ⟨o1.trans ((b0 _ _).mono (by omega)), f0.below (b0 _ _), f3⟩
theorem CS.put (h : CS w o u) (y : Sp4) : Below w.heap.size w (putS4 u (w.heap.size + 1) y) := putS4_below h.old (by omega) y
end
theorem run_load_rx {u : World} {b i : Nat} {x : RM} (h : u.cell? ⟨b, i, none⟩ = some (.int .i64 x.rt.drv) ∧ u.cell? ⟨b, i + 1, none⟩ = some (.int .i64 x.rt.served) ∧ u.cell? ⟨b, i + 2, none⟩ = some (.slice x.a x.n x.c)) : (Instr.loadAt 40 (.pointer (some ⟨b, i, none⟩))).run Tryz.prog u = .ok (rteV x) u := by
  obtain ⟨h0, h1, h2⟩ := h
  simp [go_sem, h0, h1, h2]
end Go.Proofs.YtilggpkmdmelmaaGreat.Insert

namespace Go.Proofs.YtilggpkmdmelmaaGreat.Insert
open Go.ChangeShapes Go.WideShapes Go.ChangeAt Go.RowKit Go.Proofs.YtilggpkmdmelmaaGreat.Mem Go.Proofs.YtilggpkmdmelmaaGreat.GeoMath Go.Proofs.YtilggpkmdmelmaaGreat.FleetMath Go.Proofs.YtilggpkmdmelmaaGreat.PlanMath Go.Proofs.YtilggpkmdmelmaaGreat.CertMath Go.Proofs.YtilggpkmdmelmaaGreat.InsertMath Go.Proofs.YtilggpkmdmelmaaGreat.Rec Go.Proofs.YtilggpkmdmelmaaGreat.Geo Go.Proofs.YtilggpkmdmelmaaGreat.Span Go.Proofs.YtilggpkmdmelmaaGreat.Deal Go.Proofs.YtilggpkmdmelmaaGreat.Keep Go.Proofs.YtilggpkmdmelmaaGreat.Route Go.Proofs.YtilggpkmdmelmaaGreat.Plan Go.Proofs.YtilggpkmdmelmaaGreat.Cert
set_option linter.unusedVariables false
set_option linter.unusedSimpArgs false
theorem exec_index_drv {o : Oper} {a : Act} {u : World} {x y : Operand} {b off n c k : Nat} (h : o.op = .indexAddr 34 x y) (hx : a.eval x = .slice (some ⟨b, off, none⟩) n c) (hy : a.eval y = .int .i64 k) (hk : k < n) (hn : n ≤ 9223372036854775807) :
    (execOp a.eval o).run Tryz.prog u = .ok (.value (.pointer (some ⟨b, off + k * 6, none⟩))) u := by
  obtain ⟨ρ, hρ⟩ : ∃ ρ, a.eval = ρ := ⟨_, rfl⟩
  rw [hρ] at hx hy ⊢
  have hk1 : (k : Int) < (n : Int) := by omega
  unfold execOp
  rw [h]
  simp [go_sem, hx, hy, hk1]
theorem run_load_dx {u : World} {b i : Nat} {d : Drv} (h : u.cell? ⟨b, i, none⟩ = some (.int .i64 d.id) ∧ u.cell? ⟨b, i + 1, none⟩ = some (.int .i64 d.room) ∧ u.cell? ⟨b, i + 2, none⟩ = some (.int .i64 d.home) ∧ u.cell? ⟨b, i + 3, none⟩ = some (.int .i64 d.win.fr) ∧ u.cell? ⟨b, i + 4, none⟩ = some (.int .i64 d.win.to) ∧ u.cell? ⟨b, i + 5, none⟩ = some (.bool d.retired)) : (Instr.loadAt 33 (.pointer (some ⟨b, i, none⟩))).run Tryz.prog u = .ok (drvV d) u := by
  obtain ⟨h0, h1, h2, h3, h4, h5⟩ := h
  simp [go_sem, h0, h1, h2, h3, h4, h5]
theorem run_load_sl (T : TypeId) {u : World} {p : Addr} {A : Option Addr} {n c : Nat} (hT : T = 34 ∨ T = 35 ∨ T = 42) (h : u.cell? p = some (.slice A n c)) : (Instr.loadAt T (.pointer (some p))).run Tryz.prog u = .ok (.slice A n c) u := by
  rcases hT with rfl | rfl | rfl <;> simp [go_sem, h]
theorem exec_asp4 {o : Oper} {a : Act} {u : World} (h : o.op = .alloc 140) : (execOp a.eval o).run Tryz.prog u = .ok (.value (.pointer (some ⟨u.heap.size, 0, none⟩))) (u.alloc (.cells #[.int .i64 0, .int .i64 0, .int .i64 0, .int .i64 0] 140)) := by
  unfold execOp
  rw [h]
  simp [go_sem]
theorem run_store_s4 {u : World} {g : Nat} {a0 a1 a2 a3 : Value} (h : Blk u g 140 [a0, a1, a2, a3]) (y : Sp4) : (Instr.storeAt 140 (.pointer (some ⟨g, 0, none⟩)) (sp4V y)).run Tryz.prog u = .ok () (putS4 u g y) := by
  have c0 := h.cell (i := 0) rfl
  have c1 := h.cell (i := 1) rfl
  have c2 := h.cell (i := 2) rfl
  have c3 := h.cell (i := 3) rfl
  have hff := h.free
  have hcs := cell_apart g
  have hfs := frozen_set
  simp [go_sem, c0, c1, c2, c3, hff, hcs, hfs]
theorem putS4_of {u : World} {g : Nat} {a0 a1 a2 a3 : Value} (h : Blk u g 140 [a0, a1, a2, a3]) (y : Sp4) : Blk (putS4 u g y) g 140 [.int .i64 y.drv, .int .i64 y.pick, .int .i64 y.drop, .int .i64 y.cost] := ((((h.put 0 _).put 1 _).put 2 _).put 3 _)
theorem ins_call6 {P : Program} {o : Oper} {a : Act} {u : World} {f : Nat} {ts : Array TypeId} {x1 x2 x3 x4 x5 x6 : Operand} {v1 v2 v3 v4 v5 v6 : Value} (h : o.op = .call { callee := .value (.func f), args := #[x1, x2, x3, x4, x5, x6], argTypes := ts }) (h1 : a.eval x1 = v1) (h2 : a.eval x2 = v2) (h3 : a.eval x3 = v3) (h4 : a.eval x4 = v4) (h5 : a.eval x5 = v5) (h6 : a.eval x6 = v6)
    (hf : (callFunc f #[v1, v2, v3, v4, v5, v6]).run P u = .ok (.enter f #[v1, v2, v3, v4, v5, v6]) u) : (execOp a.eval o).run P u = .ok (.enter f #[v1, v2, v3, v4, v5, v6]) u := by
  have hf' : a.eval (.func f) = .func (.func f) #[] #[] := rfl
  obtain ⟨ρ, hρ⟩ : ∃ ρ, a.eval = ρ := ⟨_, rfl⟩
  rw [hρ] at h1 h2 h3 h4 h5 h6 hf' ⊢
  unfold execOp
  rw [h]
  simp [go_sem, hf', h1, h2, h3, h4, h5, h6, hf]
end Go.Proofs.YtilggpkmdmelmaaGreat.Insert
