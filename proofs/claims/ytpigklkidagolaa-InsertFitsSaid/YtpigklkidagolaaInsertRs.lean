/-
  InsertMath2, InsertRAlong, InsertRSmall, InsertRBest, InsertRCheap, InsertExec: one text.
-/
import Derived.Test.YtpigklkidagolaaInsertMaths
import Derived.Test.YtpigklkidagolaaDealRs
import Derived.Test.YtpigklkidagolaaSpanAll
import Derived.Test.YtpigklkidagolaaCertSmalls
import Derived.Test.YtpigklkidagolaaRouteRDrives
import Derived.Test.YtpigklkidagolaaSlackSmalls
import Derived.Test.YtpigklkidagolaaSlackPs
import Derived.Test.YtpigklkidagolaaRegions
import Derived.Test.YtpigklkidagolaaPlanRights
import Derived.Test.YtpigklkidagolaaCertOneW
import Derived.Deep.DeepCutAuto
import Derived.Test.YtpigklkidagolaaCertFinds
import Derived.Test.YtpigklkidagolaaRouteDrivesP
import Derived.Test.YtpigklkidagolaaRouteRs
import Derived.Test.YtpigklkidagolaaCertRs
import Derived.Test.YtpigklkidagolaaAuditMaths
import Derived.Test.YtpigklkidagolaaCertUseP
/-
  Chapter 12: what drives cost, in bounds, as the walks meet it.
-/
namespace Go.Proofs.Ytpigklkidagolaa.Insert
open Go.ChangeShapes Go.WideShapes Go.ChangeAt Go.RowKit Go.Proofs.Ytpigklkidagolaa.Mem Go.Proofs.Ytpigklkidagolaa.GeoMath Go.Proofs.Ytpigklkidagolaa.FleetMath Go.Proofs.Ytpigklkidagolaa.PlanMath Go.Proofs.Ytpigklkidagolaa.CertMath Go.Proofs.Ytpigklkidagolaa.InsertMath Go.Proofs.Ytpigklkidagolaa.Rec Go.Proofs.Ytpigklkidagolaa.Geo Go.Proofs.Ytpigklkidagolaa.Span Go.Proofs.Ytpigklkidagolaa.Deal
set_option linter.unusedVariables false

/-- no way is long -/
def Near (m : Option Mp) : Prop := ∀ mm, m = some mm → ∀ a b, 0 ≤ time mm a b ∧ time mm a b ≤ 1000000
theorem near {w : World} {t : TypeId} {base : Nat} {pv : Value} {m : Option Mp} (h : MapP w t base pv m) : Near m := by
  intro mm hm a b
  rcases h with ⟨_, h⟩ | ⟨_, n, l, _, h2, _, _, _, h6⟩
  · rw [h] at hm; cases hm
  · rw [h2] at hm
    injection hm with hm
    rw [← hm]
    exact time_bounds h6 a b
theorem cost_in {m : Option Mp} {d : Drv} {os : List FleetMath.Ord} {stops : List Stp} {c : Int} (h : Near m) (hl : stops.length ≤ 100) (hc : cost m d os stops = some c) : 0 ≤ c ∧ c ≤ 100000000 := by
  unfold cost at hc
  cases m with
  | none => cases hc
  | some mm =>
    simp only at hc
    split at hc
    · injection hc with hc
      have h1 := costM_bound (os := os) (h mm rfl) d.home stops
      rw [hc] at h1
      omega
    · cases hc
theorem old_bound {m : Option Mp} {d : Drv} {os : List FleetMath.Ord} {stops : List Stp} (h : Near m) (hl : stops.length ≤ 100) : 0 ≤ oldC m d os stops ∧ oldC m d os stops ≤ 100000000 := by
  unfold oldC
  cases hc : cost m d os stops with
  | none => simp
  | some c => exact cost_in h hl hc
theorem cost_form (m : Option Mp) (d : Drv) (os : List FleetMath.Ord) (stops : List Stp) : ∃ ov ok, optV (cost m d os stops) = .tuple #[.int .i64 ov, .bool ok] ∧ oldC m d os stops = ov := by
  unfold oldC
  cases cost m d os stops with
  | none => exact ⟨0, false, rfl, rfl⟩
  | some c => exact ⟨c, true, rfl, rfl⟩
theorem opt_form (r : Option Int) : ∃ v ok, optV r = .tuple #[.int .i64 v, .bool ok] ∧ (ok = true → r = some v) ∧ (ok = false → r = none) := by
  cases r with
  | none => exact ⟨0, false, rfl, fun h => (by cases h), fun _ => rfl⟩
  | some c => exact ⟨c, true, rfl, fun _ => rfl, fun h => (by cases h)⟩
end Go.Proofs.Ytpigklkidagolaa.Insert

/-
  The document's own answer to chapter 12, walked: along. Written by tools/gen_insalong.py.
-/
namespace Go.Proofs.Ytpigklkidagolaa.Insert
open Go.ChangeShapes Go.WideShapes Go.ChangeAt Go.RowKit Go.Proofs.Ytpigklkidagolaa.Mem Go.Proofs.Ytpigklkidagolaa.GeoMath Go.Proofs.Ytpigklkidagolaa.FleetMath Go.Proofs.Ytpigklkidagolaa.PlanMath Go.Proofs.Ytpigklkidagolaa.CertMath Go.Proofs.Ytpigklkidagolaa.InsertMath Go.Proofs.Ytpigklkidagolaa.Rec Go.Proofs.Ytpigklkidagolaa.Geo Go.Proofs.Ytpigklkidagolaa.Span Go.Proofs.Ytpigklkidagolaa.Deal Go.Proofs.Ytpigklkidagolaa.Route Go.Proofs.Ytpigklkidagolaa.Plan Go.Proofs.Ytpigklkidagolaa.Cert Go.Proofs.Ytpigklkidagolaa.Slack
set_option linter.unusedVariables false
set_option linter.unusedSimpArgs false

/-- a search by value, and in a block -/
abbrev srV (s : Srch) : Value := .agg #[.int .i64 (s.1.getD sp0).drv, .int .i64 (s.1.getD sp0).pick, .int .i64 (s.1.getD sp0).drop, .int .i64 (s.1.getD sp0).cost, .bool s.1.isSome, .int .i64 ((s.2 : Nat) : Int)]
def SrBox (u : World) (g : Nat) (s : Srch) : Prop := Blk u g 103 [.int .i64 (s.1.getD sp0).drv, .int .i64 (s.1.getD sp0).pick, .int .i64 (s.1.getD sp0).drop, .int .i64 (s.1.getD sp0).cost, .bool s.1.isSome, .int .i64 ((s.2 : Nat) : Int)]
theorem SrBox.cells {u : World} {g : Nat} {s : Srch} (h : SrBox u g s) : u.cell? ⟨g, 0, none⟩ = some (.int .i64 (s.1.getD sp0).drv) ∧ u.cell? ⟨g, 1, none⟩ = some (.int .i64 (s.1.getD sp0).pick) ∧ u.cell? ⟨g, 2, none⟩ = some (.int .i64 (s.1.getD sp0).drop) ∧ u.cell? ⟨g, 3, none⟩ = some (.int .i64 (s.1.getD sp0).cost) ∧ u.cell? ⟨g, 4, none⟩ = some (.bool s.1.isSome) ∧ u.cell? ⟨g, 5, none⟩ = some (.int .i64 ((s.2 : Nat) : Int)) :=
  ⟨Blk.cell h rfl, Blk.cell h rfl, Blk.cell h rfl, Blk.cell h rfl, Blk.cell h rfl, Blk.cell h rfl⟩
/-- a search written into a block -/
abbrev putSr (u : World) (g : Nat) (s : Srch) : World := ((((((u.setCell ⟨g, 0, none⟩ (.int .i64 (s.1.getD sp0).drv)).setCell ⟨g, 1, none⟩ (.int .i64 (s.1.getD sp0).pick)).setCell ⟨g, 2, none⟩ (.int .i64 (s.1.getD sp0).drop)).setCell ⟨g, 3, none⟩ (.int .i64 (s.1.getD sp0).cost)).setCell ⟨g, 4, none⟩ (.bool s.1.isSome)).setCell ⟨g, 5, none⟩ (.int .i64 ((s.2 : Nat) : Int)))
theorem putSr_box {u : World} {g : Nat} {t : Srch} (h : SrBox u g t) (s : Srch) : SrBox (putSr u g s) g s := by
  unfold SrBox at h ⊢
  exact ((((((h.put 0 _).put 1 _).put 2 _).put 3 _).put 4 _).put 5 _)
theorem putSr_below {B : Nat} {w u : World} {g : Nat} (h : Below B w u) (hg : B ≤ g) (s : Srch) : Below B w (putSr u g s) := ((((((h.setCell hg _).setCell hg _).setCell hg _).setCell hg _).setCell hg _).setCell hg _)
/-- what stays through along -/
structure AS (w : World) (d : Drv) (x : RM) (o : FleetMath.Ord) (s : Srch) (u : World) : Prop where
  old : Below w.heap.size w u
  drv : DBox u w.heap.size d
  rte : RBox u (w.heap.size + 1) x
  ord : OBox u (w.heap.size + 2) o
  sr : SrBox u (w.heap.size + 3) s
  res : SrBox u (w.heap.size + 4) (none, 0)
section
variable {w u u' : World} {d : Drv} {x : RM} {o : FleetMath.Ord} {s t : Srch}
theorem AS.next (h : AS w d x o s u) (hb : Below u.heap.size u u') : AS w d x o s u' :=
  ⟨h.old.trans (hb.mono h.old.size), h.drv.below hb, h.rte.below hb, h.ord.below hb, Blk.below h.sr hb (Blk.lt h.sr), Blk.below h.res hb (Blk.lt h.res)⟩
theorem AS.size (h : AS w d x o s u) : w.heap.size + 5 ≤ u.heap.size := Blk.lt h.res
theorem AS.turn (h : AS w d x o s u) (ht : Only (w.heap.size + 3) u u') (hs : SrBox u' (w.heap.size + 3) t) : AS w d x o t u' :=
  ⟨h.old.trans (ht.below.mono (by omega)), ht.blk h.drv (by omega), ht.blk h.rte (by omega), ht.blk h.ord (by omega), hs, ht.blk h.res (by omega)⟩
theorem AS.step (h : AS w d x o s u) (k : Nat) : AS w d x o (s.1, k) (u.setCell ⟨w.heap.size + 3, 5, none⟩ (.int .i64 (k : Int))) := h.turn ((Only.refl _ _).set _ _) (Blk.put h.sr 5 _)
theorem AS.best (h : AS w d x o s u) (y : Sp4) : AS w d x o (some y, s.2) (((((u.setCell ⟨w.heap.size + 3, 0, none⟩ (.int .i64 y.drv)).setCell ⟨w.heap.size + 3, 1, none⟩ (.int .i64 y.pick)).setCell ⟨w.heap.size + 3, 2, none⟩ (.int .i64 y.drop)).setCell ⟨w.heap.size + 3, 3, none⟩ (.int .i64 y.cost)).setCell ⟨w.heap.size + 3, 4, none⟩ (.bool true)) :=
  h.turn (((((Only.refl _ _).set _ _).set _ _).set _ _).set _ _ |>.set _ _) (((((Blk.put h.sr 0 _).put 1 _).put 2 _).put 3 _).put 4 _)
end
abbrev W0 (w : World) (d : Drv) (x : RM) (o : FleetMath.Ord) (s : Srch) : World := ((((w.alloc (.cells #[.int .i64 d.id, .int .i64 d.room, .int .i64 d.home, .int .i64 d.win.fr, .int .i64 d.win.to, .bool d.retired] 33)).alloc (.cells #[.int .i64 x.rt.drv, .int .i64 x.rt.served, .slice x.a x.n x.c] 39)).alloc (.cells #[.int .i64 o.id, .int .i64 o.size, .int .i64 o.pick.place, .int .i64 o.pick.win.fr, .int .i64 o.pick.win.to, .int .i64 o.pick.serv, .int .i64 o.drop.place, .int .i64 o.drop.win.fr, .int .i64 o.drop.win.to, .int .i64 o.drop.serv] 31)).alloc (.cells #[.int .i64 (s.1.getD sp0).drv, .int .i64 (s.1.getD sp0).pick, .int .i64 (s.1.getD sp0).drop, .int .i64 (s.1.getD sp0).cost, .bool s.1.isSome, .int .i64 ((s.2 : Nat) : Int)] 103)).alloc (.cells #[.int .i64 0, .int .i64 0, .int .i64 0, .int .i64 0, .bool false, .int .i64 0] 103)
theorem AS.start (w : World) (d : Drv) (x : RM) (o : FleetMath.Ord) (s : Srch) : AS w d x o s (W0 w d x o s) := by
  have b0 : ∀ (u : World) (ob : Obj), Below u.heap.size u (u.alloc ob) := fun u ob => (Below.refl _ _).alloc (Nat.le_refl _) _
  have f0 : DBox (w.alloc (.cells #[.int .i64 d.id, .int .i64 d.room, .int .i64 d.home, .int .i64 d.win.fr, .int .i64 d.win.to, .bool d.retired] 33)) w.heap.size d := Blk.new w _ _
  obtain ⟨w1, h1⟩ : ∃ u, w.alloc (.cells #[.int .i64 d.id, .int .i64 d.room, .int .i64 d.home, .int .i64 d.win.fr, .int .i64 d.win.to, .bool d.retired] 33) = u := ⟨_, rfl⟩
  have z1 : w1.heap.size = w.heap.size + 1 := by rw [← h1]; simp
  have o1 : Below w.heap.size w w1 := by rw [← h1]; exact b0 _ _
  rw [h1] at f0
  have f1 : RBox (w1.alloc (.cells #[.int .i64 x.rt.drv, .int .i64 x.rt.served, .slice x.a x.n x.c] 39)) w1.heap.size x := Blk.new w1 _ _
  obtain ⟨w2, h2⟩ : ∃ u, w1.alloc (.cells #[.int .i64 x.rt.drv, .int .i64 x.rt.served, .slice x.a x.n x.c] 39) = u := ⟨_, rfl⟩
  have z2 : w2.heap.size = w.heap.size + 2 := by rw [← h2]; simp [z1]
  have b2 : Below w1.heap.size w1 w2 := by rw [← h2]; exact b0 _ _
  rw [h2, z1] at f1
  have f2 : OBox (w2.alloc (.cells #[.int .i64 o.id, .int .i64 o.size, .int .i64 o.pick.place, .int .i64 o.pick.win.fr, .int .i64 o.pick.win.to, .int .i64 o.pick.serv, .int .i64 o.drop.place, .int .i64 o.drop.win.fr, .int .i64 o.drop.win.to, .int .i64 o.drop.serv] 31)) w2.heap.size o := Blk.new w2 _ _
  obtain ⟨w3, h3⟩ : ∃ u, w2.alloc (.cells #[.int .i64 o.id, .int .i64 o.size, .int .i64 o.pick.place, .int .i64 o.pick.win.fr, .int .i64 o.pick.win.to, .int .i64 o.pick.serv, .int .i64 o.drop.place, .int .i64 o.drop.win.fr, .int .i64 o.drop.win.to, .int .i64 o.drop.serv] 31) = u := ⟨_, rfl⟩
  have z3 : w3.heap.size = w.heap.size + 3 := by rw [← h3]; simp [z2]
  have b3 : Below w2.heap.size w2 w3 := by rw [← h3]; exact b0 _ _
  rw [h3, z2] at f2
  have f3 : SrBox (w3.alloc (.cells #[.int .i64 (s.1.getD sp0).drv, .int .i64 (s.1.getD sp0).pick, .int .i64 (s.1.getD sp0).drop, .int .i64 (s.1.getD sp0).cost, .bool s.1.isSome, .int .i64 ((s.2 : Nat) : Int)] 103)) w3.heap.size s := Blk.new w3 _ _
  obtain ⟨w4, h4⟩ : ∃ u, w3.alloc (.cells #[.int .i64 (s.1.getD sp0).drv, .int .i64 (s.1.getD sp0).pick, .int .i64 (s.1.getD sp0).drop, .int .i64 (s.1.getD sp0).cost, .bool s.1.isSome, .int .i64 ((s.2 : Nat) : Int)] 103) = u := ⟨_, rfl⟩
  have z4 : w4.heap.size = w.heap.size + 4 := by rw [← h4]; simp [z3]
  have b4 : Below w3.heap.size w3 w4 := by rw [← h4]; exact b0 _ _
  rw [h4, z3] at f3
  have f4 : SrBox (w4.alloc (.cells #[.int .i64 0, .int .i64 0, .int .i64 0, .int .i64 0, .bool false, .int .i64 0] 103)) w4.heap.size (none, 0) := Blk.new w4 _ _
  have b5 : Below w4.heap.size w4 (w4.alloc (.cells #[.int .i64 0, .int .i64 0, .int .i64 0, .int .i64 0, .bool false, .int .i64 0] 103)) := b0 _ _
  rw [z4] at f4
  show AS w d x o s (((((w.alloc (.cells #[.int .i64 d.id, .int .i64 d.room, .int .i64 d.home, .int .i64 d.win.fr, .int .i64 d.win.to, .bool d.retired] 33)).alloc (.cells #[.int .i64 x.rt.drv, .int .i64 x.rt.served, .slice x.a x.n x.c] 39)).alloc (.cells #[.int .i64 o.id, .int .i64 o.size, .int .i64 o.pick.place, .int .i64 o.pick.win.fr, .int .i64 o.pick.win.to, .int .i64 o.pick.serv, .int .i64 o.drop.place, .int .i64 o.drop.win.fr, .int .i64 o.drop.win.to, .int .i64 o.drop.serv] 31)).alloc (.cells #[.int .i64 (s.1.getD sp0).drv, .int .i64 (s.1.getD sp0).pick, .int .i64 (s.1.getD sp0).drop, .int .i64 (s.1.getD sp0).cost, .bool s.1.isSome, .int .i64 ((s.2 : Nat) : Int)] 103)).alloc (.cells #[.int .i64 0, .int .i64 0, .int .i64 0, .int .i64 0, .bool false, .int .i64 0] 103))
  rw [h1, h2, h3, h4]
  have k1 := b3.trans (b4.mono b3.size)
  exact ⟨((o1.trans (b2.mono o1.size)).trans (b3.mono (by omega))).trans ((b4.mono (by omega)).trans (b5.mono (by omega))),
    (((f0.below b2).below b3).below b4).below b5, ((f1.below b3).below b4).below b5, (f2.below b4).below b5, Blk.below f3 b5 (Blk.lt f3), f4⟩
theorem run_load_dbx {u : World} {g : Nat} {d : Drv} (h : DBox u g d) : (Instr.loadAt 33 (.pointer (some ⟨g, 0, none⟩))).run Try.prog u = .ok (drvV d) u := by
  obtain ⟨h0, h1, h2, h3, h4, h5⟩ := h.cells
  simp [go_sem, h0, h1, h2, h3, h4, h5]
theorem ins_call4 {P : Program} {o : Oper} {a : Act} {u : World} {f : Nat} {ts : Array TypeId} {x1 x2 x3 x4 : Operand} {v1 v2 v3 v4 : Value} (h : o.op = .call { callee := .value (.func f), args := #[x1, x2, x3, x4], argTypes := ts }) (h1 : a.eval x1 = v1) (h2 : a.eval x2 = v2) (h3 : a.eval x3 = v3) (h4 : a.eval x4 = v4)
    (hf : (callFunc f #[v1, v2, v3, v4]).run P u = .ok (.enter f #[v1, v2, v3, v4]) u) : (execOp a.eval o).run P u = .ok (.enter f #[v1, v2, v3, v4]) u := by
  have hf' : a.eval (.func f) = .func (.func f) #[] #[] := rfl
  obtain ⟨ρ, hρ⟩ : ∃ ρ, a.eval = ρ := ⟨_, rfl⟩
  rw [hρ] at h1 h2 h3 h4 hf' ⊢
  unfold execOp
  rw [h]
  simp [go_sem, hf', h1, h2, h3, h4, hf]
/-! ### the orders with one more -/
def moreFact (base : Nat) (A : Option Addr) (n c : Nat) (os : List FleetMath.Ord) (o : FleetMath.Ord) (k : Nat) (v : Value) (D : Nat → Prop) (u : World) : Prop :=
  match k with
  | 0 => ownF base 10 31 0 [] v D u
  | 1 => pureF (fun v => v = .slice A n c) v D
  | 2 => ownF base 10 31 n (ordsV os) v D u
  | 3 => pureF (fun v => v = ordV o) v D
  | 4 => blkF (fun g => .slice (some ⟨g, 0, none⟩) 1 1) 31 (ordL o) v D u
  | 5 => ownF base 10 31 (n + 1) (ordsV (os ++ [o])) v D u
  | 6 => ownF base 10 31 (n + 1) (ordsV (os ++ [o])) v D u
  | _ => pureF (fun _ => True) v D
def moreRF (slots : List Nat) (base : Nat) (A : Option Addr) (n c : Nat) (os : List FleetMath.Ord) (o : FleetMath.Ord) : RF :=
  ⟨fun k => slots.getD k 0, fun k => if k = 0 then some 2 else if k = 2 then some 5 else if k = 4 then some 5 else if k = 5 then some 6 else none, moreFact base A n c os o⟩
theorem more_mon {base : Nat} {A : Option Addr} {n c : Nat} {os : List FleetMath.Ord} {o : FleetMath.Ord} (k : Nat) (v : Value) (D : Nat → Prop) (u u' : World) (h : moreFact base A n c os o k v D u) (hk : ∀ b, D b → u'.heap[b]? = u.heap[b]?) : moreFact base A n c os o k v D u' := by
  revert h
  unfold moreFact
  split <;> intro h <;> first | exact h | exact ownF.mon h hk | exact blkF.mon h hk

set_option maxRecDepth 100000 in
set_option maxHeartbeats 16000000 in
theorem ralong12_any (base : Nat) (pv : Value) (m : Option Mp) (d : Drv) (A2 : Option Addr) (n2 c2 : Nat) (os : List FleetMath.Ord) (x : RM) (o : FleetMath.Ord) (b : Nat) (s : Srch) (w : World) (h : MapP w 130 base pv m) (ho : Ords w w.heap.size A2 n2 os) (hs : Stps w w.heap.size x.a x.n x.rt.stops) (hxc : x.n ≤ x.c) (hx8 : x.n ≤ 80) (hn2 : n2 ≤ 64) (hb : b ≤ 100000) (hsb : s.2 ≤ b)
    (sv : Nat) (hsv : x.rt.served = (sv : Int)) (hsl : sv ≤ x.n) :
    Calls Try.prog 43 #[pv, drvV d, .slice A2 n2 c2, rteV x, ordV o, .int .i64 (b : Int), srV s] w (Gives w (srV (goOn b s (candR m d os o x.rt)))) := by
  have hm3 := Recs.le hs
  have HM := Lib.hid h
  have HO := Lib.hid ho
  have HST := Lib.hid hs
  have HL3 := Lib.hid hs.length
  have HSV := Lib.hid hsv
  obtain ⟨R, hR⟩ : ∃ R, goOn b s (candR m d os o x.rt) = R := ⟨_, rfl⟩
  have HR0 : Hid (R = goOn b s ((posL sv x.n).map (candP m d os o x.rt.stops))) := by
    show _ = _
    rw [← hR]
    unfold candR
    rw [hsv, hs.length]; rfl
  rw [hR]
  obtain ⟨cb1, cb2⟩ := old_bound (m := m) (d := d) (os := os) (stops := x.rt.stops) (near h) (by rw [hs.length]; omega)
  have HCB : Hid (∀ i j c, i ≤ j → j ≤ x.n → cost m d (os ++ [o]) (putM x.rt.stops o.id i j) = some c → 0 ≤ c ∧ c ≤ 100000000) := fun i j c hij hj hc => cost_in (near h) (by rw [putM_len hij (by rw [HL3.out]; omega), HL3.out]; omega) hc
  obtain ⟨oc, hoc⟩ : ∃ z, oldC m d os x.rt.stops = z := ⟨_, rfl⟩
  rw [hoc] at cb1 cb2
  have HOC := Lib.hid hoc
  obtain ⟨ov, ok0, hov, hov1⟩ := cost_form m d os x.rt.stops
  rw [hoc] at hov1
  subst hov1
  have HOV := Lib.hid hov
  have HA0 := Lib.hid (AS.start w d x o s)
  clear h ho hs hsv hR hoc hov
  go_enter Try.func43, Try.ntmps43
  go_upto_region 1 with fail
  obtain ⟨u0, hu0⟩ : ∃ u, W0 w d x o s = u := ⟨_, rfl⟩
  rw [hu0] at HA0
  unfold W0 at hu0
  (try rw [hu0])
  clear hu0
  obtain ⟨d0, d1, d2, d3, d4, d5⟩ := HA0.out.drv.cells
  obtain ⟨r0, r1, r2⟩ := HA0.out.rte.cells
  go_wp2_with fail
  refine (rcost_any base pv m d A2 n2 c2 os x.a x.n x.c x.rt.stops _ (by exact HM.out.keep HA0.out.old) (by exact Recs.more (Recs.keep HO.out HA0.out.old) HA0.out.old.size) (by exact Recs.more (Recs.keep HST.out HA0.out.old) HA0.out.old.size) hxc).mono ?_
  rintro e w1 ⟨rfl, hb1⟩
  rw [HOV.out]
  have HA1 := Lib.hid (HA0.out.next hb1)
  clear hb1 HA0 HOV d0 d1 d2 d3 d4 d5 r0 r1 r2
  go_upto_region 2 with fail
  go_cut [17] (fun mv wx => ∃ A9 c9, mv = .slice A9 (n2 + 1) c9 ∧ Hid (AS w d x o s wx) ∧ Hid (OwnK wx (w.heap.size + 5) 31 10 (.slice A9 (n2 + 1) c9) (n2 + 1) (ordsV (os ++ [o]))))
  case first =>
    refine wp_region_steps (moreRF [31, 32, 33, 34, 35, 36, 17] w1.drew.heap.size A2 n2 c2 os o) (by kernel_rfl) (by kernel_rfl) (by kernel_rfl) (fun k hk => ?_) (by kernel_rfl) more_mon ?_ ?_
    · simp only [List.length_cons, List.length_nil] at hk
      simp only [moreRF]
      rw [if_neg (by omega), if_neg (by omega), if_neg (by omega), if_neg (by omega)]
    · refine ⟨?_, ?_, ?_, ?_, ?_, ?_, ?_, trivial⟩
      · exact RStep.val rfl 31 rfl rfl (by simp) fun listed a u D hI hr hn => ⟨_, _, _, exec_none rfl, new_post hI.old ⟨OwnK.new0 u _ _ _ hI.old.size, fun b => by simp [Value.ownBlock]; exact eq_comm⟩⟩
      · exact RStep.pure rfl 32 rfl rfl (by simp) fun listed a u D hI hr hn => ⟨_, exec_move (.inl rfl) (hI.out 2 (by kernel_rfl)), pureF.new rfl⟩
      · refine RStep.val rfl 33 rfl rfl (by simp) fun listed a u D hI hr hn => ?_
        have h2 := (hI.get hr hn 0 (by kernel_rfl) (.inr rfl)).1
        have h3 := (hI.get hr hn 1 (by kernel_rfl) (.inl rfl)).1
        obtain ⟨ho2, hd2⟩ : ownF _ _ _ _ _ _ _ _ := h2
        obtain ⟨e3, _⟩ : pureF _ _ _ := h3
        have hold := HA1.out.old.trans ((OneR.below_drew hI.old).mono HA1.out.old.size)
        obtain ⟨v', u', hrun, hv', hg, hor⟩ := run_append_ks 34 Try.underlying34 infoOrd rfl (by omega) ho2 c2 (Recs.keep HO.out hold) (ordsV_one _) (by unfold maxLen; omega) (by omega) hI.old.size
        rw [Nat.zero_add, List.nil_append] at hv'
        exact ⟨v', u', _, exec_append rfl (own_eval rfl) (own_eval e3) hrun, grow_post hI.old hd2 rfl ho2 hv' hg hor ⟨hv', fun b => Iff.rfl⟩⟩
      · exact RStep.pure rfl 34 rfl rfl (by simp) fun listed a u D hI hr hn => ⟨_, exec_load rfl (hI.out 11 (by kernel_rfl)) (Slack.run_load_ord (HA1.out.ord.below (OneR.below_drew hI.old))), pureF.new rfl⟩
      · refine RStep.val rfl 35 rfl rfl (by simp) fun listed a u D hI hr hn => ?_
        obtain ⟨e5, _⟩ : pureF _ _ _ := (hI.get hr hn 3 (by kernel_rfl) (.inl rfl)).1
        exact ⟨_, _, _, exec_one rfl (own_eval e5), new_post hI.old ⟨_, rfl, Blk.new u _ _, fun b => Iff.rfl⟩⟩
      · refine RStep.val rfl 36 rfl rfl (by simp) fun listed a u D hI hr hn => ?_
        obtain ⟨ho4, hd4⟩ : ownF _ _ _ _ _ _ _ _ := (hI.get hr hn 2 (by kernel_rfl) (.inr rfl)).1
        obtain ⟨g6, e6, hb6, hd6⟩ : blkF _ _ _ _ _ _ := (hI.get hr hn 4 (by kernel_rfl) (.inr rfl)).1
        have hr6 : Recs u u.heap.size (some ⟨g6, 0, none⟩) 1 10 (ordL o) := ⟨rfl, by unfold maxLen; omega, fun _ => ⟨g6, 0, rfl, hb6.lt, fun p y hy => by rw [Nat.zero_add]; exact hb6.cell hy⟩⟩
        obtain ⟨v', u', hrun, hv', hg, hor⟩ := run_append_ks 34 Try.underlying34 infoOrd rfl (by omega) ho4 1 hr6 (ordL_one o) (by unfold maxLen; omega) (by omega) hI.old.size
        have hv2 : OwnK u' w1.drew.heap.size 31 10 v' (n2 + 1) (ordsV (os ++ [o])) := by rw [ordsV_append]; exact hv'
        exact ⟨v', u', _, exec_append rfl (own_eval rfl) (own_eval e6) hrun, grow_post hI.old hd4 rfl ho4 hv2 hg hor ⟨hv2, fun b => Iff.rfl⟩⟩
      · refine RStep.val rfl 17 rfl rfl (by simp) fun listed a u D hI hr hn => ?_
        have hg5 := hI.get hr hn 5 (by kernel_rfl) (.inr rfl)
        obtain ⟨ho5, hd5⟩ : ownF _ _ _ _ _ _ _ _ := hg5.1
        exact ⟨_, u, D 5, exec_move (.inr rfl) rfl, hI.old, Nat.le_refl _, fun _ _ _ => rfl, fun b hb => .inl ⟨5, rfl, hb⟩, ⟨ho5, hd5⟩⟩
    · intro listed a u D hI hall
      obtain ⟨hrow, _⟩ : ownF _ _ _ _ _ _ _ _ := hI.fact 6 ⟨hall 6 (by simp), fun k hk => by simp [moreRF] at hk⟩
      have hold := OneR.below_drew hI.old
      have hl := hI.fill [31, 32, 33, 34, 35, 36, 17] (by kernel_rfl)
      clear hI hall
      obtain ⟨σ, hσ⟩ : ∃ σ : Nat → Value, ∀ t, a.tmps.getD t undef = σ t := ⟨_, fun _ => rfl⟩
      have hrow' : OwnK u w1.drew.heap.size 31 10 (a.tmps.getD 17 undef) (n2 + 1) (ordsV (os ++ [o])) := hrow
      clear hrow
      simp only [hσ] at hl hrow'
      clear hσ
      simp only [List.foldl_cons, List.foldl_nil, List.setIfInBounds_toArray, List.set_cons_zero, List.set_cons_succ] at hl
      obtain ⟨v9, hv9⟩ : ∃ v, σ 17 = v := ⟨_, rfl⟩
      rw [hv9] at hl hrow'
      clear hv9
      obtain ⟨A9, c9, e9, _, _⟩ := OwnK.read hrow'
      subst e9
      have HROW := Lib.hid (hrow'.lower HA1.out.size)
      have HAX := Lib.hid (HA1.out.next hold)
      clear hrow'
      subst hl
      go_wp2_with fail
      go_meet
      exact ⟨A9, c9, rfl, HAX, HROW⟩
  case rest =>
  obtain ⟨A9, c9, rfl, HA2, HMR⟩ := hcut
  obtain ⟨w2, rfl⟩ : ∃ u, u = wc := ⟨_, rfl⟩
  clear HA1
  obtain ⟨r0, r1, r2⟩ := HA2.out.rte.cells
  rw [HSV.out] at r1
  go_wp2_with fail
  clear r0 r1 r2
  go_loopw [18] (fun iv wr => ∃ (i : Nat) (t : Srch), i ≤ x.n + 1 ∧ iv = .int .i64 i ∧ Hid (AS w d x o t wr) ∧ Hid (OwnK wr (w.heap.size + 5) 31 10 (.slice A9 (n2 + 1) c9) (n2 + 1) (ordsV (os ++ [o]))) ∧ Hid (t.2 ≤ b) ∧ Hid (R = goOn b t ((posL i x.n).map (candP m d os o x.rt.stops)))) (fun i _ => x.n + 1 - (intOf i).toNat)
  case atStart => exact ⟨sv, s, by omega, rfl, HA2, HMR, Lib.hid hsb, HR0⟩
  case round =>
    clear HA2 HMR HR0 hsb
    obtain ⟨i, t, hi, rfl, HS, HMR, HTB, HG⟩ := hrel
    obtain ⟨r0, r1, r2⟩ := HS.out.rte.cells
    by_cases hin : i ≤ x.n
    case neg =>
      have HE : Hid (R = t) := by
        show _ = _
        have h1 := HG.out
        rw [posL_end (by omega), List.map_nil, goOn_nil] at h1
        exact h1
      obtain ⟨s0, s1, s2, s3, s4, s5⟩ := HS.out.sr.cells
      obtain ⟨x0, x1, x2, x3, x4, x5⟩ := HS.out.res.cells
      have hcs := cell_apart (w.heap.size + 4)
      have hfs := frozen_set
      have hff := Blk.free HS.out.res
      have HRS := Lib.hid (putSr_box HS.out.res t).cells
      have HBR := Lib.hid (putSr_below HS.out.old (by omega : w.heap.size ≤ w.heap.size + 4) t)
      clear HG
      go_wp2_with fail
      refine bodyPost_ret (v := srV t) ?_ rfl ⟨by rw [HE.out], HBR.out⟩
      obtain ⟨q0, q1, q2, q3, q4, q5⟩ := HRS.out
      simp [results, Try.results43, go_sem, q0, q1, q2, q3, q4, q5]
    have HG0 : Hid (R = goOn b t ((rowL i i x.n ++ posL (i + 1) x.n).map (candP m d os o x.rt.stops))) := by
      show _ = _
      have h1 := HG.out
      rw [posL_cons hin] at h1
      exact h1
    clear HG
    go_wp2_with fail
    clear r0 r1 r2
    go_loopw [19] (fun jv wz => ∃ (j : Nat) (t : Srch), i ≤ j ∧ j ≤ x.n + 1 ∧ jv = .int .i64 j ∧ Hid (AS w d x o t wz) ∧ Hid (OwnK wz (w.heap.size + 5) 31 10 (.slice A9 (n2 + 1) c9) (n2 + 1) (ordsV (os ++ [o]))) ∧ Hid (t.2 ≤ b) ∧ Hid (R = goOn b t ((rowL i j x.n ++ posL (i + 1) x.n).map (candP m d os o x.rt.stops)))) (fun j _ => x.n + 1 - (intOf j).toNat)
    case atStart => exact ⟨i, t, Nat.le_refl _, by omega, rfl, HS, HMR, HTB, HG0⟩
    case round =>
      clear HS HMR HTB HG0
      obtain ⟨j, t, hij, hj, rfl, HS, HMR, HTB, HG⟩ := hrel
      obtain ⟨r0, r1, r2⟩ := HS.out.rte.cells
      by_cases hjn : j ≤ x.n
      case neg =>
        have HE : Hid (R = goOn b t ((posL (i + 1) x.n).map (candP m d os o x.rt.stops))) := by
          show _ = _
          have h1 := HG.out
          rw [rowL_end (by omega), List.nil_append] at h1
          exact h1
        clear HG
        go_wp2_with fail
        go_roundw
        case rel => exact ⟨i + 1, t, by omega, by go_num, HS, HMR, HTB, HE⟩
        case measure => simp [intOf]; omega
      obtain ⟨bt, k⟩ := t
      have hkb : k ≤ b := HTB.out
      obtain ⟨s0, s1, s2, s3, s4, s5⟩ := HS.out.sr.cells
      simp only at s0 s1 s2 s3 s4 s5
      by_cases hfull : b ≤ k
      · have HE : Hid (R = (bt, k)) := by
          show _ = _
          have h1 := HG.out
          rw [goOn_full (s := (bt, k)) hfull] at h1
          exact h1
        obtain ⟨x0, x1, x2, x3, x4, x5⟩ := HS.out.res.cells
        have hcs := cell_apart (w.heap.size + 4)
        have hfs := frozen_set
        have hff := Blk.free HS.out.res
        have HRS := Lib.hid (putSr_box HS.out.res (bt, k)).cells
        have HBR := Lib.hid (putSr_below HS.out.old (by omega : w.heap.size ≤ w.heap.size + 4) (bt, k))
        have e1 : (b : Int) ≤ (k : Int) := by omega
        clear HG
        go_wp2_with fail
        refine bodyPost_ret (v := srV (bt, k)) ?_ rfl ⟨by rw [HE.out], HBR.out⟩
        obtain ⟨q0, q1, q2, q3, q4, q5⟩ := HRS.out
        simp [results, Try.results43, go_sem, q0, q1, q2, q3, q4, q5]
      · obtain ⟨k1, hk1⟩ : ∃ k1 : Nat, k + 1 = k1 := ⟨_, rfl⟩
        have HG1 : Hid (R = goOn b (betterC bt (candP m d os o x.rt.stops (i, j)), k1) ((rowL i (j + 1) x.n ++ posL (i + 1) x.n).map (candP m d os o x.rt.stops))) := by
          show _ = _
          have h1 := HG.out
          rw [rowL_cons hjn, List.cons_append, List.map_cons, goOn_cons (s := (bt, k)) (by show k < b; omega)] at h1
          rw [← hk1]
          exact h1
        have e1 : (k : Int) < (b : Int) := by omega
        have hks : (k : Int) + 1 = (k1 : Int) := by omega
        have hkw : IntKind.i64.wrap (k1 : Int) = (k1 : Int) := IntWalk.i64_in _ (by omega)
        have f5 := Blk.free HS.out.sr 5
        have HS1 := Lib.hid (HS.out.step k1)
        have HMR1 : Hid (OwnK (wr.setCell ⟨w.heap.size + 3, 5, none⟩ (.int .i64 (k1 : Int))) (w.heap.size + 5) 31 10 (.slice A9 (n2 + 1) c9) (n2 + 1) (ordsV (os ++ [o]))) := ((Only.refl _ _).set _ _).own HMR.out (by omega)
        have HK1 := Lib.hid hk1
        clear HG hk1
        go_upto_region 12 with fail
        clear hks hkw f5 s0 s1 s2 s3 s4 s5 r0 r1 r2
        obtain ⟨w3, hw3⟩ : ∃ u, wr.setCell ⟨w.heap.size + 3, 5, none⟩ (.int .i64 (k1 : Int)) = u := ⟨_, rfl⟩
        have HS2 : Hid (AS w d x o (bt, k1) w3) := by rw [← hw3]; exact HS1.out
        rw [hw3] at HMR1
        (try rw [hw3])
        have HTB1 : Hid (k1 ≤ b) := by show _ ≤ _; have := HK1.out; omega
        clear hw3 HS1 HS HMR HTB
        obtain ⟨cv, ck, hcv, hc1, hc0⟩ := opt_form (cost m d (os ++ [o]) (putM x.rt.stops o.id i j))
        have HCV := Lib.hid hcv
        have HC1 := Lib.hid hc1
        have HC0 := Lib.hid hc0
        clear hcv hc1 hc0
        go_cut [20, 21] (fun av kv wx => av = .int .i64 cv ∧ kv = .bool ck ∧ Hid (Below w3.heap.size w3 wx))
        case first =>
          have HC : Hid (∀ u, Below w3.heap.size w3 u → AS w d x o (bt, k1) u) := fun u hu => HS2.out.next hu
          have HPT : Hid (∀ u, Below w3.heap.size w3 u → Calls Try.prog 72 #[.slice x.a x.n x.c, .int .i64 o.id, .int .i64 ((i : Nat) : Int), .int .i64 ((j : Nat) : Int)] u fun en u' => ∃ v, en = .returned v ∧ Below u.heap.size u u' ∧ OwnK u' u.heap.size 36 2 v (x.n + 2) (stpsV (putM x.rt.stops o.id i j))) := fun u hu => by
            have h0 := (HS2.out.next hu).old
            exact rput_any x.a x.n x.c x.rt.stops o.id i j u (Recs.more (Recs.keep HST.out h0) h0.size) hij hjn (by omega)
          have HCS : Hid (∀ u A8 c8, x.n + 2 ≤ c8 → Recs u u.heap.size A8 (x.n + 2) 2 (stpsV (putM x.rt.stops o.id i j)) → Below w3.heap.size w3 u → Calls Try.prog 71 #[pv, drvV d, .slice A9 (n2 + 1) c9, .slice A8 (x.n + 2) c8] u fun en u' => en = .returned (.tuple #[.int .i64 cv, .bool ck]) ∧ Below u.heap.size u u') := fun u A8 c8 hc8 hr8 hu => by
            have h0 := (HS2.out.next hu).old
            obtain ⟨A7, c7, e7, _, hr7⟩ := OwnK.read (HMR1.out.keep hu (Nat.le_refl _))
            injection e7 with e7 _ _
            subst e7
            have h1 := rcost_any base pv m d A9 (n2 + 1) c9 (os ++ [o]) A8 (x.n + 2) c8 (putM x.rt.stops o.id i j) u (HM.out.keep h0) hr7 hr8 hc8
            rw [HCV.out] at h1
            exact h1
          refine wp_region_steps (rowsRF w3.heap.size 2 36 [64, 65, 66, 67, 68, 69, 70, 71, 72, 73, 74, 63, 75, 76, 20, 21] [pv, drvV d, .slice A9 (n2 + 1) c9, .pointer (some ⟨w.heap.size + 1, 2, none⟩), .slice x.a x.n x.c, .pointer (some ⟨w.heap.size + 2, 0, none⟩), .int .i64 o.id, .int .i64 ((i : Nat) : Int), .int .i64 ((j : Nat) : Int), undef, .tuple #[.int .i64 cv, .bool ck], .tuple #[.int .i64 cv, .bool ck], .int .i64 cv, .bool ck, .int .i64 cv, .bool ck] [(9, x.n + 2, stpsV (putM x.rt.stops o.id i j))]) (by kernel_rfl) (by kernel_rfl) (by kernel_rfl) (fun _ _ => rfl) (by kernel_rfl) rowsRF.mon ?_ ?_
          · refine ⟨?_, ?_, ?_, ?_, ?_, ?_, ?_, ?_, ?_, ?_, ?_, ?_, ?_, ?_, ?_, ?_, trivial⟩
            · exact rowsRF.pureStep rfl 64 rfl rfl (by simp) _ rfl (by kernel_rfl) fun listed a u D hI hr hn => exec_move (.inl rfl) (hI.out 0 (by kernel_rfl))
            · exact rowsRF.pureStep rfl 65 rfl rfl (by simp) _ rfl (by kernel_rfl) fun listed a u D hI hr hn => exec_load rfl (hI.out 8 (by kernel_rfl)) (run_load_dbx (HC.out _ (OneR.below_drew hI.old)).drv)
            · exact rowsRF.pureStep rfl 66 rfl rfl (by simp) _ rfl (by kernel_rfl) fun listed a u D hI hr hn => exec_move (.inl rfl) (hI.out 17 (by kernel_rfl))
            · exact rowsRF.pureStep rfl 67 rfl rfl (by simp) _ rfl (by kernel_rfl) fun listed a u D hI hr hn => op_field rfl (hI.out 10 (by kernel_rfl)) (by simp [go_sem])
            · exact rowsRF.pureStep rfl 68 rfl rfl (by simp) _ rfl (by kernel_rfl) fun listed a u D hI hr hn => exec_load rfl (rowsRF.val hI hr hn 3 (by kernel_rfl) rfl (by kernel_rfl) rfl) (run_load_ps (HC.out _ (OneR.below_drew hI.old)).rte.cells.2.2)
            · exact rowsRF.pureStep rfl 69 rfl rfl (by simp) _ rfl (by kernel_rfl) fun listed a u D hI hr hn => op_field rfl (hI.out 11 (by kernel_rfl)) (by simp [go_sem])
            · exact rowsRF.pureStep rfl 70 rfl rfl (by simp) _ rfl (by kernel_rfl) fun listed a u D hI hr hn => exec_load rfl (rowsRF.val hI hr hn 5 (by kernel_rfl) rfl (by kernel_rfl) rfl) (run_load_pi (HC.out _ (OneR.below_drew hI.old)).ord.cells.1)
            · exact rowsRF.pureStep rfl 71 rfl rfl (by simp) _ rfl (by kernel_rfl) fun listed a u D hI hr hn => exec_move (.inl rfl) (hI.out 18 (by kernel_rfl))
            · exact rowsRF.pureStep rfl 72 rfl rfl (by simp) _ rfl (by kernel_rfl) fun listed a u D hI hr hn => exec_move (.inl rfl) (hI.out 19 (by kernel_rfl))
            · refine rowsRF.callStep (n := x.n + 2) (vs := stpsV (putM x.rt.stops o.id i j)) rfl 73 rfl rfl (by simp) (by kernel_rfl) (Nat.le_refl _) fun listed a u D hI hr hn => ⟨_, _, ins_call4 rfl (rowsRF.val hI hr hn 4 (by kernel_rfl) rfl (by kernel_rfl) rfl) (rowsRF.val hI hr hn 6 (by kernel_rfl) rfl (by kernel_rfl) rfl) (rowsRF.val hI hr hn 7 (by kernel_rfl) rfl (by kernel_rfl) rfl) (rowsRF.val hI hr hn 8 (by kernel_rfl) rfl (by kernel_rfl) rfl) (by simp [go_sem]), HPT.out _ (OneR.below_drew hI.old)⟩
            · refine rowsRF.callV rfl 74 rfl rfl (by simp) _ rfl (by kernel_rfl) fun listed a u D hI hr hn => ?_
              obtain ⟨A8, c8, e8, hc8, hr8⟩ := rowsRF.row (n := x.n + 2) (vs := stpsV (putM x.rt.stops o.id i j)) hI hr hn 9 (by kernel_rfl) rfl (by kernel_rfl)
              exact ⟨_, _, ins_call4 rfl (rowsRF.val hI hr hn 0 (by kernel_rfl) rfl (by kernel_rfl) rfl) (rowsRF.val hI hr hn 1 (by kernel_rfl) rfl (by kernel_rfl) rfl) (rowsRF.val hI hr hn 2 (by kernel_rfl) rfl (by kernel_rfl) rfl) e8 (by simp [go_sem]), HCS.out u A8 c8 hc8 hr8 (OneR.below_drew hI.old)⟩
            · exact rowsRF.pureStep rfl 63 rfl rfl (by simp) _ rfl (by kernel_rfl) fun listed a u D hI hr hn => exec_move (.inl rfl) (rowsRF.val hI hr hn 10 (by kernel_rfl) rfl (by kernel_rfl) rfl)
            · exact rowsRF.pureStep rfl 75 rfl rfl (by simp) _ rfl (by kernel_rfl) fun listed a u D hI hr hn => exec_extract rfl (rowsRF.val hI hr hn 11 (by kernel_rfl) rfl (by kernel_rfl) rfl) rfl
            · exact rowsRF.pureStep rfl 76 rfl rfl (by simp) _ rfl (by kernel_rfl) fun listed a u D hI hr hn => exec_extract rfl (rowsRF.val hI hr hn 11 (by kernel_rfl) rfl (by kernel_rfl) rfl) rfl
            · exact rowsRF.pureStep rfl 20 rfl rfl (by simp) _ rfl (by kernel_rfl) fun listed a u D hI hr hn => exec_move (.inr rfl) (rowsRF.val hI hr hn 12 (by kernel_rfl) rfl (by kernel_rfl) rfl)
            · exact rowsRF.pureStep rfl 21 rfl rfl (by simp) _ rfl (by kernel_rfl) fun listed a u D hI hr hn => exec_move (.inr rfl) (rowsRF.val hI hr hn 13 (by kernel_rfl) rfl (by kernel_rfl) rfl)
          · intro listed a u D hI hall
            have eR0 : a.tmps.getD 20 undef = .int .i64 cv := (hI.fact 14 ⟨hall 14 (by simp), fun k hk => by cases hk⟩).1
            have eR1 : a.tmps.getD 21 undef = .bool ck := (hI.fact 15 ⟨hall 15 (by simp), fun k hk => by cases hk⟩).1
            have hold := OneR.below_drew hI.old
            have hl := hI.fill [64, 65, 66, 67, 68, 69, 70, 71, 72, 73, 74, 63, 75, 76, 20, 21] (by kernel_rfl)
            clear hI hall
            obtain ⟨σ, hσ⟩ : ∃ σ : Nat → Value, ∀ t, a.tmps.getD t undef = σ t := ⟨_, fun _ => rfl⟩
            simp only [hσ] at hl eR0 eR1
            clear hσ
            simp only [List.foldl_cons, List.foldl_nil, List.setIfInBounds_toArray, List.set_cons_zero, List.set_cons_succ, eR0, eR1] at hl
            subst hl
            go_wp2_with fail
            go_meet
            exact ⟨rfl, rfl, hold⟩
        case rest =>
        obtain ⟨rfl, rfl, hb4⟩ := hcut
        obtain ⟨w4, rfl⟩ : ∃ u, u = wc := ⟨_, rfl⟩
        have HS4 := Lib.hid (HS2.out.next hb4.out)
        have HMR4 := Lib.hid (HMR1.out.keep hb4.out (Nat.le_refl _))
        clear hb4 HS2 HMR1 HCV
        obtain ⟨s0, s1, s2, s3, s4, s5⟩ := HS4.out.sr.cells
        simp only at s0 s1 s2 s3 s4 s5
        cases ck with
        | false =>
          have HG2 : Hid (R = goOn b (bt, k1) ((rowL i (j + 1) x.n ++ posL (i + 1) x.n).map (candP m d os o x.rt.stops))) := by
            show _ = _
            have h1 := HG1.out
            have h2 : candP m d os o x.rt.stops (i, j) = none := by unfold candP; rw [HC0.out rfl]
            rw [h2, betterC_none] at h1
            exact h1
          clear HG1 HC0 HC1
          go_wp2_with fail
          go_roundw
          case rel => exact ⟨j + 1, (bt, k1), by omega, by omega, by go_num, HS4, HMR4, HTB1, HG2⟩
          case measure => simp [intOf]; omega
        | true =>
          have hcs1 := HC1.out rfl
          obtain ⟨hv1, hv2⟩ := HCB.out i j cv hij hjn hcs1
          obtain ⟨pc, hpc⟩ : ∃ z, cv - oc = z := ⟨_, rfl⟩
          have hp1 : -100000000 ≤ pc := by omega
          have hp2 : pc ≤ 100000000 := by omega
          have HCD : Hid (candP m d os o x.rt.stops (i, j) = some ⟨d.id, i, j, pc⟩) := by
            show _ = _
            unfold candP
            rw [hcs1, HOC.out, ← hpc]
          have HMR5 : Hid (OwnK (((((w4.setCell ⟨w.heap.size + 3, 0, none⟩ (.int .i64 d.id)).setCell ⟨w.heap.size + 3, 1, none⟩ (.int .i64 ((i : Nat) : Int))).setCell ⟨w.heap.size + 3, 2, none⟩ (.int .i64 ((j : Nat) : Int))).setCell ⟨w.heap.size + 3, 3, none⟩ (.int .i64 pc)).setCell ⟨w.heap.size + 3, 4, none⟩ (.bool true)) (w.heap.size + 5) 31 10 (.slice A9 (n2 + 1) c9) (n2 + 1) (ordsV (os ++ [o]))) := ((((((Only.refl _ _).set _ _).set _ _).set _ _).set _ _).set _ _).own HMR4.out (by omega)
          have HS5 := Lib.hid (HS4.out.best ⟨d.id, i, j, pc⟩)
          have hcs := cell_apart (w.heap.size + 3)
          have hfs := frozen_set
          have hff := Blk.free HS4.out.sr
          obtain ⟨d0, d1, d2, d3, d4, d5⟩ := HS4.out.drv.cells
          clear hcs1 hv1 hv2 HC1 HC0 d1 d2 d3 d4 d5
          cases bt with
          | none =>
            have HG2 : Hid (R = goOn b (some ⟨d.id, i, j, pc⟩, k1) ((rowL i (j + 1) x.n ++ posL (i + 1) x.n).map (candP m d os o x.rt.stops))) := by
              show _ = _
              have h1 := HG1.out
              rw [HCD.out, betterC_first] at h1
              exact h1
            clear HG1
            simp only [Option.isSome_none] at s4
            go_wp2_with fail
            go_roundw
            case rel => exact ⟨j + 1, (some ⟨d.id, i, j, pc⟩, k1), by omega, by omega, by go_num, HS5, HMR5, HTB1, HG2⟩
            case measure => simp [intOf]; omega
          | some z =>
            simp only [Option.isSome_some, Option.getD_some] at s0 s1 s2 s3 s4
            by_cases hz : pc < z.cost
            · have HG2 : Hid (R = goOn b (some ⟨d.id, i, j, pc⟩, k1) ((rowL i (j + 1) x.n ++ posL (i + 1) x.n).map (candP m d os o x.rt.stops))) := by
                show _ = _
                have h1 := HG1.out
                rw [HCD.out, betterC_less hz] at h1
                exact h1
              clear HG1
              go_wp2_with fail
              go_roundw
              case rel => exact ⟨j + 1, (some ⟨d.id, i, j, pc⟩, k1), by omega, by omega, by go_num, HS5, HMR5, HTB1, HG2⟩
              case measure => simp [intOf]; omega
            · have HG2 : Hid (R = goOn b (some z, k1) ((rowL i (j + 1) x.n ++ posL (i + 1) x.n).map (candP m d os o x.rt.stops))) := by
                show _ = _
                have h1 := HG1.out
                rw [HCD.out, betterC_more hz] at h1
                exact h1
              clear HG1 HS5 HMR5
              go_wp2_with fail
              go_roundw
              case rel => exact ⟨j + 1, (some z, k1), by omega, by omega, by go_num, HS4, HMR4, HTB1, HG2⟩
              case measure => simp [intOf]; omega
#print axioms ralong12_any
end Go.Proofs.Ytpigklkidagolaa.Insert

/-
  The document's own answer to chapter 12, walked: told, Driver. Written by tools/gen_insbest.py.
-/
namespace Go.Proofs.Ytpigklkidagolaa.Insert
open Go.ChangeShapes Go.WideShapes Go.ChangeAt Go.RowKit Go.Proofs.Ytpigklkidagolaa.Mem Go.Proofs.Ytpigklkidagolaa.GeoMath Go.Proofs.Ytpigklkidagolaa.FleetMath Go.Proofs.Ytpigklkidagolaa.PlanMath Go.Proofs.Ytpigklkidagolaa.CertMath Go.Proofs.Ytpigklkidagolaa.InsertMath Go.Proofs.Ytpigklkidagolaa.Rec Go.Proofs.Ytpigklkidagolaa.Geo Go.Proofs.Ytpigklkidagolaa.Span Go.Proofs.Ytpigklkidagolaa.Deal Go.Proofs.Ytpigklkidagolaa.Route Go.Proofs.Ytpigklkidagolaa.Plan Go.Proofs.Ytpigklkidagolaa.Cert
set_option linter.unusedVariables false
set_option linter.unusedSimpArgs false

abbrev sp4V (x : Sp4) : Value := .agg #[.int .i64 x.drv, .int .i64 x.pick, .int .i64 x.drop, .int .i64 x.cost]
/-- what a search answers -/
abbrev toldV (t : Sp4 × Int × Int) : Value := .tuple #[sp4V t.1, .int .i64 t.2.1, .int .i64 t.2.2]
def S4Box (u : World) (g : Nat) (x : Sp4) : Prop := Blk u g 42 [.int .i64 x.drv, .int .i64 x.pick, .int .i64 x.drop, .int .i64 x.cost]
theorem S4Box.cells {u : World} {g : Nat} {x : Sp4} (h : S4Box u g x) : u.cell? ⟨g, 0, none⟩ = some (.int .i64 x.drv) ∧ u.cell? ⟨g, 1, none⟩ = some (.int .i64 x.pick) ∧ u.cell? ⟨g, 2, none⟩ = some (.int .i64 x.drop) ∧ u.cell? ⟨g, 3, none⟩ = some (.int .i64 x.cost) := ⟨Blk.cell h rfl, Blk.cell h rfl, Blk.cell h rfl, Blk.cell h rfl⟩
abbrev putS4 (u : World) (g : Nat) (x : Sp4) : World := ((((u.setCell ⟨g, 0, none⟩ (.int .i64 x.drv)).setCell ⟨g, 1, none⟩ (.int .i64 x.pick)).setCell ⟨g, 2, none⟩ (.int .i64 x.drop)).setCell ⟨g, 3, none⟩ (.int .i64 x.cost))
theorem putS4_box {u : World} {g : Nat} {y : Sp4} (h : S4Box u g y) (x : Sp4) : S4Box (putS4 u g x) g x := by
  unfold S4Box at h ⊢
  exact ((((h.put 0 _).put 1 _).put 2 _).put 3 _)
theorem putS4_below {B : Nat} {w u : World} {g : Nat} (h : Below B w u) (hg : B ≤ g) (x : Sp4) : Below B w (putS4 u g x) := ((((h.setCell hg _).setCell hg _).setCell hg _).setCell hg _)

set_option maxRecDepth 100000 in
set_option maxHeartbeats 4000000 in
theorem rtold_any (s : Srch) (w : World) : Calls Try.prog 42 #[srV s] w (Gives w (toldV (toldM s))) := by
  have hb1 : Below w.heap.size w (w.alloc (.cells #[.int .i64 (s.1.getD sp0).drv, .int .i64 (s.1.getD sp0).pick, .int .i64 (s.1.getD sp0).drop, .int .i64 (s.1.getD sp0).cost, .bool s.1.isSome, .int .i64 ((s.2 : Nat) : Int)] 103)) := (Below.refl _ _).alloc (Nat.le_refl _) _
  have HB0 : Hid (Below w.heap.size w ((w.alloc (.cells #[.int .i64 (s.1.getD sp0).drv, .int .i64 (s.1.getD sp0).pick, .int .i64 (s.1.getD sp0).drop, .int .i64 (s.1.getD sp0).cost, .bool s.1.isSome, .int .i64 ((s.2 : Nat) : Int)] 103)).alloc (.cells #[.int .i64 0, .int .i64 0, .int .i64 0, .int .i64 0] 42))) := hb1.alloc hb1.size _
  have HS0 : Hid (SrBox ((w.alloc (.cells #[.int .i64 (s.1.getD sp0).drv, .int .i64 (s.1.getD sp0).pick, .int .i64 (s.1.getD sp0).drop, .int .i64 (s.1.getD sp0).cost, .bool s.1.isSome, .int .i64 ((s.2 : Nat) : Int)] 103)).alloc (.cells #[.int .i64 0, .int .i64 0, .int .i64 0, .int .i64 0] 42)) w.heap.size s) := Blk.below (Blk.new w 103 [.int .i64 (s.1.getD sp0).drv, .int .i64 (s.1.getD sp0).pick, .int .i64 (s.1.getD sp0).drop, .int .i64 (s.1.getD sp0).cost, .bool s.1.isSome, .int .i64 ((s.2 : Nat) : Int)]) ((Below.refl _ _).alloc (Nat.le_refl _) _) (Blk.new w 103 [.int .i64 (s.1.getD sp0).drv, .int .i64 (s.1.getD sp0).pick, .int .i64 (s.1.getD sp0).drop, .int .i64 (s.1.getD sp0).cost, .bool s.1.isSome, .int .i64 ((s.2 : Nat) : Int)]).lt
  have HX0 : Hid (S4Box ((w.alloc (.cells #[.int .i64 (s.1.getD sp0).drv, .int .i64 (s.1.getD sp0).pick, .int .i64 (s.1.getD sp0).drop, .int .i64 (s.1.getD sp0).cost, .bool s.1.isSome, .int .i64 ((s.2 : Nat) : Int)] 103)).alloc (.cells #[.int .i64 0, .int .i64 0, .int .i64 0, .int .i64 0] 42)) (w.heap.size + 1) sp0) := by
    have h1 := Blk.new (w.alloc (.cells #[.int .i64 (s.1.getD sp0).drv, .int .i64 (s.1.getD sp0).pick, .int .i64 (s.1.getD sp0).drop, .int .i64 (s.1.getD sp0).cost, .bool s.1.isSome, .int .i64 ((s.2 : Nat) : Int)] 103)) 42 [.int .i64 0, .int .i64 0, .int .i64 0, .int .i64 0]
    rw [World.size_alloc] at h1
    exact h1
  obtain ⟨t, ht⟩ : ∃ t, toldM s = t := ⟨_, rfl⟩
  have HT := Lib.hid ht
  rw [ht]
  clear hb1 ht
  go_enter Try.func42, Try.ntmps42
  go_upto_region 1 with fail
  obtain ⟨u0, hu0⟩ : ∃ u, (w.alloc (.cells #[.int .i64 (s.1.getD sp0).drv, .int .i64 (s.1.getD sp0).pick, .int .i64 (s.1.getD sp0).drop, .int .i64 (s.1.getD sp0).cost, .bool s.1.isSome, .int .i64 ((s.2 : Nat) : Int)] 103)).alloc (.cells #[.int .i64 0, .int .i64 0, .int .i64 0, .int .i64 0] 42) = u := ⟨_, rfl⟩
  rw [hu0] at HB0 HS0 HX0
  (try rw [hu0])
  clear hu0
  obtain ⟨bt, k⟩ := s
  obtain ⟨s0, s1, s2, s3, s4, s5⟩ := HS0.out.cells
  obtain ⟨x0, x1, x2, x3⟩ := HX0.out.cells
  simp only at s0 s1 s2 s3 s4 s5
  have hcs := cell_apart (w.heap.size + 1)
  have hca := cell_far (g := w.heap.size + 1) (h := w.heap.size) (by omega)
  have hfs := frozen_set
  have hff := Blk.free HX0.out
  cases bt with
  | none =>
    simp only [Option.isSome_none] at s4
    have HF : Hid ((sp0, (k : Int), 20) = t) := HT.out
    have HR := Lib.hid (putS4_box HX0.out sp0).cells
    have HB := Lib.hid (putS4_below HB0.out (Nat.le_succ w.heap.size) sp0)
    go_wp2_with fail
    go_region
    all_goals
      go_wp2_with fail
      refine bodyPost_ret (v := toldV (sp0, (k : Int), 20)) ?_ rfl ⟨by rw [HF.out], by exact HB.out.drew⟩
      obtain ⟨q0, q1, q2, q3⟩ := HR.out
      simp [results, Try.results42, go_sem, q0, q1, q2, q3]
  | some y =>
    simp only [Option.isSome_some, Option.getD_some] at s0 s1 s2 s3 s4
    have HF : Hid ((y, (k : Int), 0) = t) := HT.out
    have HR := Lib.hid (putS4_box HX0.out y).cells
    have HB := Lib.hid (putS4_below HB0.out (Nat.le_succ w.heap.size) y)
    go_wp2_with fail
    go_region
    all_goals
      go_wp2_with fail
      refine bodyPost_ret (v := toldV (y, (k : Int), 0)) ?_ rfl ⟨by rw [HF.out], by exact HB.out.drew⟩
      obtain ⟨q0, q1, q2, q3⟩ := HR.out
      simp [results, Try.results42, go_sem, q0, q1, q2, q3]

set_option maxRecDepth 100000 in
set_option maxHeartbeats 4000000 in
theorem rdriver12_any (A : Option Addr) (n c : Nat) (l : List Drv) (id v : Int) (w : World) (B : Nat) (hl : Drvs w B A n l) (hv : pdIdx l id 0 = v) :
    Calls Try.prog 46 #[.slice A n c, .int .i64 id] w (fun e w' => e = .returned (.int .i64 v) ∧ w = w') := by
  have hm := Recs.le hl
  have HI := Lib.hid hl
  have HL := Lib.hid hl.length
  have HV := Lib.hid hv
  clear hl hv
  go_enter Try.func46, Try.ntmps46
  go_wp2_with fail
  go_loopw [5] (fun iv wr => ∃ k : Nat, k ≤ n ∧ iv = .int .i64 k ∧ w = wr ∧ Hid (pdIdx (l.drop k) id k = v)) (fun iv _ => n - (intOf iv).toNat)
  case atStart => exact ⟨0, Nat.zero_le _, rfl, by first | rfl | trivial, Lib.hid (by rw [List.drop_zero]; exact HV.out)⟩
  case round =>
    obtain ⟨k, hk, rfl, rfl, HK⟩ := hrel
    by_cases hlt : k < n
    · obtain ⟨bb, off, o, rfl, hbb, ho, hdr, c0, _⟩ := Drvs.at_ HI.out hlt
      have HK1 := HK.out
      rw [hdr, pdIdx_cons] at HK1
      by_cases hid : o.id = id
      · rw [if_pos hid] at HK1
        have HF := Lib.hid HK1
        have e1 : (o.id == id) = true := by simpa using hid
        clear hid HK HK1 ho hdr
        go_wp2_with fail
        go_ret
        exact ⟨ret_i HF.out, rfl⟩
      · rw [if_neg hid] at HK1
        have HF := Lib.hid HK1
        have e1 : (o.id == id) = false := by simpa using hid
        clear hid HK HK1 ho hdr
        go_wp2_with fail
        go_roundw
        case rel => exact ⟨k + 1, by omega, by go_num, by first | rfl | trivial, HF⟩
        case measure => simp [intOf]; omega
    · have HF : Hid (-1 = v) := by
        have h := HK.out
        rw [List.drop_of_length_le (by have := HL.out; omega)] at h
        exact h
      clear HK
      go_wp2_with fail
      go_ret
      exact ⟨ret_i HF.out, rfl⟩
#print axioms rtold_any
#print axioms rdriver12_any
end Go.Proofs.Ytpigklkidagolaa.Insert

/-
  The document's own answer to chapter 12, walked: Best. Written by tools/gen_insbest.py.
-/
namespace Go.Proofs.Ytpigklkidagolaa.Insert
open Go.ChangeShapes Go.WideShapes Go.ChangeAt Go.RowKit Go.Proofs.Ytpigklkidagolaa.Mem Go.Proofs.Ytpigklkidagolaa.GeoMath Go.Proofs.Ytpigklkidagolaa.FleetMath Go.Proofs.Ytpigklkidagolaa.PlanMath Go.Proofs.Ytpigklkidagolaa.CertMath Go.Proofs.Ytpigklkidagolaa.InsertMath Go.Proofs.Ytpigklkidagolaa.Rec Go.Proofs.Ytpigklkidagolaa.Geo Go.Proofs.Ytpigklkidagolaa.Span Go.Proofs.Ytpigklkidagolaa.Deal Go.Proofs.Ytpigklkidagolaa.Route Go.Proofs.Ytpigklkidagolaa.Plan Go.Proofs.Ytpigklkidagolaa.Cert
set_option linter.unusedVariables false
set_option linter.unusedSimpArgs false

/-- what stays through Best -/
structure BS (w : World) (d : Drv) (x : RM) (o : FleetMath.Ord) (u : World) : Prop where
  old : Below w.heap.size w u
  drv : DBox u w.heap.size d
  rte : RBox u (w.heap.size + 1) x
  ord : OBox u (w.heap.size + 2) o
  res : S4Box u (w.heap.size + 3) sp0
section
variable {w u u' : World} {d : Drv} {x : RM} {o : FleetMath.Ord}
theorem BS.next (h : BS w d x o u) (hb : Below u.heap.size u u') : BS w d x o u' :=
  ⟨h.old.trans (hb.mono h.old.size), h.drv.below hb, h.rte.below hb, h.ord.below hb, Blk.below h.res hb (Blk.lt h.res)⟩
theorem BS.start : BS w d x o ((((w.alloc (.cells #[.int .i64 d.id, .int .i64 d.room, .int .i64 d.home, .int .i64 d.win.fr, .int .i64 d.win.to, .bool d.retired] 33)).alloc (.cells #[.int .i64 x.rt.drv, .int .i64 x.rt.served, .slice x.a x.n x.c] 39)).alloc (.cells #[.int .i64 o.id, .int .i64 o.size, .int .i64 o.pick.place, .int .i64 o.pick.win.fr, .int .i64 o.pick.win.to, .int .i64 o.pick.serv, .int .i64 o.drop.place, .int .i64 o.drop.win.fr, .int .i64 o.drop.win.to, .int .i64 o.drop.serv] 31)).alloc (.cells #[.int .i64 0, .int .i64 0, .int .i64 0, .int .i64 0] 42)) := by
  have b0 : ∀ (u : World) (ob : Obj), Below u.heap.size u (u.alloc ob) := fun u ob => (Below.refl _ _).alloc (Nat.le_refl _) _
  have f0 : DBox (w.alloc (.cells #[.int .i64 d.id, .int .i64 d.room, .int .i64 d.home, .int .i64 d.win.fr, .int .i64 d.win.to, .bool d.retired] 33)) w.heap.size d := Blk.new w _ _
  obtain ⟨w1, h1⟩ : ∃ u, w.alloc (.cells #[.int .i64 d.id, .int .i64 d.room, .int .i64 d.home, .int .i64 d.win.fr, .int .i64 d.win.to, .bool d.retired] 33) = u := ⟨_, rfl⟩
  have z1 : w1.heap.size = w.heap.size + 1 := by rw [← h1]; simp
  have o1 : Below w.heap.size w w1 := by rw [← h1]; exact b0 _ _
  rw [h1] at f0 ⊢
  have f1 : RBox (w1.alloc (.cells #[.int .i64 x.rt.drv, .int .i64 x.rt.served, .slice x.a x.n x.c] 39)) w1.heap.size x := Blk.new w1 _ _
  obtain ⟨w2, h2⟩ : ∃ u, w1.alloc (.cells #[.int .i64 x.rt.drv, .int .i64 x.rt.served, .slice x.a x.n x.c] 39) = u := ⟨_, rfl⟩
  have z2 : w2.heap.size = w.heap.size + 2 := by rw [← h2]; simp [z1]
  have b2 : Below w1.heap.size w1 w2 := by rw [← h2]; exact b0 _ _
  rw [z1] at f1
  rw [h2] at f1 ⊢
  have f2 : OBox (w2.alloc (.cells #[.int .i64 o.id, .int .i64 o.size, .int .i64 o.pick.place, .int .i64 o.pick.win.fr, .int .i64 o.pick.win.to, .int .i64 o.pick.serv, .int .i64 o.drop.place, .int .i64 o.drop.win.fr, .int .i64 o.drop.win.to, .int .i64 o.drop.serv] 31)) w2.heap.size o := Blk.new w2 _ _
  obtain ⟨w3, h3⟩ : ∃ u, w2.alloc (.cells #[.int .i64 o.id, .int .i64 o.size, .int .i64 o.pick.place, .int .i64 o.pick.win.fr, .int .i64 o.pick.win.to, .int .i64 o.pick.serv, .int .i64 o.drop.place, .int .i64 o.drop.win.fr, .int .i64 o.drop.win.to, .int .i64 o.drop.serv] 31) = u := ⟨_, rfl⟩
  have z3 : w3.heap.size = w.heap.size + 3 := by rw [← h3]; simp [z2]
  have b3 : Below w2.heap.size w2 w3 := by rw [← h3]; exact b0 _ _
  rw [z2] at f2
  rw [h3] at f2 ⊢
  have f3 : S4Box (w3.alloc (.cells #[.int .i64 0, .int .i64 0, .int .i64 0, .int .i64 0] 42)) w3.heap.size sp0 := Blk.new w3 _ _
  have b4 : Below w3.heap.size w3 (w3.alloc (.cells #[.int .i64 0, .int .i64 0, .int .i64 0, .int .i64 0] 42)) := b0 _ _
  rw [z3] at f3
  exact ⟨((o1.trans (b2.mono o1.size)).trans (b3.mono (by omega))).trans (b4.mono (by omega)), ((f0.below b2).below b3).below b4, (f1.below b3).below b4, f2.below b4, f3⟩
theorem BS.put (h : BS w d x o u) (y : Sp4) : Below w.heap.size w (putS4 u (w.heap.size + 3) y) := putS4_below h.old (by omega) y
end
def argBad (m : Option Mp) (d : Drv) (os : List FleetMath.Ord) (r : Rte) (o : FleetMath.Ord) (b : Int) : Prop :=
  drvE m d ≠ 0 ∨ ordE m o ≠ 0 ∨ known m os = false ∨ (find os o.id).isSome = true ∨ r.drv ≠ d.id ∨ r.served < 0 ∨ (r.stops.length : Int) < r.served ∨ b < 0 ∨ 100000 < b
theorem bestBad_iff {m : Option Mp} {d : Drv} {os : List FleetMath.Ord} {r : Rte} {o : FleetMath.Ord} {b : Int} : bestBad m d os r o b ↔ argBad m d os r o b ∨ (drive m d os r.stops).2.2 ≠ 0 := by
  unfold bestBad argBad
  simp only [or_assoc]
theorem bestM_bad {m : Option Mp} {d : Drv} {os : List FleetMath.Ord} {r : Rte} {o : FleetMath.Ord} {b : Int} (h : bestBad m d os r o b) : bestM m d os r o b = (sp0, 0, 1) := if_pos h
theorem idx_some {os : List FleetMath.Ord} {id fi : Int} (h : idxV (findI os id) = fi) : (find os id).isSome = true ↔ 0 ≤ fi := by
  rw [← h]
  cases hf : findI os id with
  | none => rw [findI_none hf]; simp [idxV]
  | some i => obtain ⟨o, _, _, h1⟩ := findI_some hf; rw [h1]; simp [idxV]

set_option maxRecDepth 100000 in
set_option maxHeartbeats 16000000 in
theorem rbest_any (base : Nat) (pv : Value) (m : Option Mp) (d : Drv) (A2 : Option Addr) (n2 c2 : Nat) (os : List FleetMath.Ord) (x : RM) (o : FleetMath.Ord) (b : Int) (w : World) (h : MapP w 130 base pv m) (ho : Ords w w.heap.size A2 n2 os) (hs : Stps w w.heap.size x.a x.n x.rt.stops) (hxc : x.n ≤ x.c) :
    Calls Try.prog 18 #[pv, drvV d, .slice A2 n2 c2, rteV x, ordV o, .int .i64 b] w (Gives w (toldV (bestM m d os x.rt o b))) := by
  obtain ⟨rt, xa, xn, xc⟩ := x
  simp only at hs hxc
  have hm3 := Recs.le hs
  have HM := Lib.hid h
  have HO := Lib.hid ho
  have HST := Lib.hid hs
  have HL3 := Lib.hid hs.length
  have HL2 := Lib.hid ho.length
  obtain ⟨R, hR⟩ : ∃ R, bestM m d os rt o b = R := ⟨_, rfl⟩
  have HR := Lib.hid hR
  show Calls _ _ #[pv, .agg #[.int .i64 d.id, .int .i64 d.room, .int .i64 d.home, .int .i64 d.win.fr, .int .i64 d.win.to, .bool d.retired], .slice A2 n2 c2, .agg #[.int .i64 rt.drv, .int .i64 rt.served, .slice xa xn xc], .agg #[.int .i64 o.id, .int .i64 o.size, .int .i64 o.pick.place, .int .i64 o.pick.win.fr, .int .i64 o.pick.win.to, .int .i64 o.pick.serv, .int .i64 o.drop.place, .int .i64 o.drop.win.fr, .int .i64 o.drop.win.to, .int .i64 o.drop.serv], .int .i64 b] _ _
  rw [show bestM m d os (RM.mk rt xa xn xc).rt o b = R from hR]
  have HS0 : Hid (BS w d ⟨rt, xa, xn, xc⟩ o ((((w.alloc (.cells #[.int .i64 d.id, .int .i64 d.room, .int .i64 d.home, .int .i64 d.win.fr, .int .i64 d.win.to, .bool d.retired] 33)).alloc (.cells #[.int .i64 rt.drv, .int .i64 rt.served, .slice xa xn xc] 39)).alloc (.cells #[.int .i64 o.id, .int .i64 o.size, .int .i64 o.pick.place, .int .i64 o.pick.win.fr, .int .i64 o.pick.win.to, .int .i64 o.pick.serv, .int .i64 o.drop.place, .int .i64 o.drop.win.fr, .int .i64 o.drop.win.to, .int .i64 o.drop.serv] 31)).alloc (.cells #[.int .i64 0, .int .i64 0, .int .i64 0, .int .i64 0] 42))) := BS.start (x := ⟨rt, xa, xn, xc⟩)
  obtain ⟨q, hq⟩ : ∃ q, pv = .pointer q := by
    rcases h with ⟨rfl, _⟩ | ⟨_, _, _, rfl, _⟩
    · exact ⟨_, rfl⟩
    · exact ⟨_, rfl⟩
  subst hq
  have HQ : Hid (q = none → m = none) := fun hq => by
    rcases h with ⟨_, h2⟩ | ⟨_, _, _, h1, _⟩
    · exact h2
    · rw [hq] at h1; cases h1
  clear h ho hs hR
  go_enter Try.func18, Try.ntmps18
  go_upto_region 1 with fail
  obtain ⟨u0, hu0⟩ : ∃ u, (((w.alloc (.cells #[.int .i64 d.id, .int .i64 d.room, .int .i64 d.home, .int .i64 d.win.fr, .int .i64 d.win.to, .bool d.retired] 33)).alloc (.cells #[.int .i64 rt.drv, .int .i64 rt.served, .slice xa xn xc] 39)).alloc (.cells #[.int .i64 o.id, .int .i64 o.size, .int .i64 o.pick.place, .int .i64 o.pick.win.fr, .int .i64 o.pick.win.to, .int .i64 o.pick.serv, .int .i64 o.drop.place, .int .i64 o.drop.win.fr, .int .i64 o.drop.win.to, .int .i64 o.drop.serv] 31)).alloc (.cells #[.int .i64 0, .int .i64 0, .int .i64 0, .int .i64 0] 42) = u := ⟨_, rfl⟩
  rw [hu0] at HS0
  (try rw [hu0])
  clear hu0
  go_cut [71] (fun bv wx => ∃ t : Bool, bv = .bool t ∧ Hid (t = true ↔ argBad m d os rt o b) ∧ Hid (BS w d ⟨rt, xa, xn, xc⟩ o wx))
  case first =>
    cases q with
    | none =>
      have HY : Hid (true = true ↔ argBad m d os rt o b) := ⟨fun _ => .inl (by rw [HQ.out rfl]; simp [drvE]), fun _ => rfl⟩
      go_wp2_with fail
      go_meet
      exact ⟨true, rfl, Lib.hid (by simpa using HY.out), HS0⟩
    | some z =>
      obtain ⟨de, hde⟩ : ∃ z, drvE m d = z := ⟨_, rfl⟩
      have HDE := Lib.hid hde
      clear hde
      obtain ⟨d0, d1, d2, d3, d4, d5⟩ := HS0.out.drv.cells
      go_wp2_with fail
      refine (rdriver_any base (.pointer (some z)) m d _ (by exact HM.out.keep HS0.out.old)).mono ?_
      rintro e w1 ⟨rfl, hb1⟩
      rw [HDE.out]
      have HS1 := Lib.hid (HS0.out.next hb1)
      clear hb1 HS0 d0 d1 d2 d3 d4 d5
      by_cases h1 : de = 0
      case neg =>
        have HY : Hid (true = true ↔ argBad m d os rt o b) := ⟨fun _ => .inl (by rw [HDE.out]; exact h1), fun _ => rfl⟩
        have e1 : (de != 0) = true := by simpa using h1
        clear h1
        go_wp2_with fail
        go_meet
        exact ⟨true, rfl, Lib.hid (by simpa using HY.out), HS1⟩
      subst h1
      obtain ⟨oe, hoe⟩ : ∃ z, ordE m o = z := ⟨_, rfl⟩
      have HOE := Lib.hid hoe
      clear hoe
      obtain ⟨o0, o1, o2, o3, o4, o5, o6, o7, o8, o9⟩ := HS1.out.ord.cells
      go_wp2_with fail
      refine (rorder_any base (.pointer (some z)) m o _ (by exact HM.out.keep HS1.out.old)).mono ?_
      rintro e w2 ⟨rfl, hb2⟩
      rw [HOE.out]
      have HS2 := Lib.hid (HS1.out.next hb2)
      clear hb2 HS1 o0 o1 o2 o3 o4 o5 o6 o7 o8 o9
      by_cases h2 : oe = 0
      case neg =>
        have HY : Hid (true = true ↔ argBad m d os rt o b) := ⟨fun _ => .inr (.inl (by rw [HOE.out]; exact h2)), fun _ => rfl⟩
        have e1 : (oe != 0) = true := by simpa using h2
        clear h2
        go_wp2_with fail
        go_meet
        exact ⟨true, rfl, Lib.hid (by simpa using HY.out), HS2⟩
      subst h2
      obtain ⟨kb, hkb⟩ : ∃ z, known m os = z := ⟨_, rfl⟩
      have HKB := Lib.hid hkb
      clear hkb
      go_wp2_with fail
      refine (rknown_any base (.pointer (some z)) m A2 n2 c2 os _ (by exact HM.out.keep HS2.out.old) (by exact Recs.more (Recs.keep HO.out HS2.out.old) HS2.out.old.size)).mono ?_
      rintro e w3 ⟨rfl, hb3⟩
      rw [HKB.out]
      have HS3 := Lib.hid (HS2.out.next hb3)
      clear hb3 HS2
      cases kb with
      | false =>
        have HY : Hid (true = true ↔ argBad m d os rt o b) := ⟨fun _ => .inr (.inr (.inl HKB.out)), fun _ => rfl⟩
        go_wp2_with fail
        go_meet
        exact ⟨true, rfl, Lib.hid (by simpa using HY.out), HS3⟩
      | true =>
      obtain ⟨fi, hfi⟩ : ∃ z, idxV (findI os o.id) = z := ⟨_, rfl⟩
      have HFI := Lib.hid hfi
      have HFS := Lib.hid (idx_some hfi)
      clear hfi
      obtain ⟨o0, o1, o2, o3, o4, o5, o6, o7, o8, o9⟩ := HS3.out.ord.cells
      obtain ⟨d0, d1, d2, d3, d4, d5⟩ := HS3.out.drv.cells
      obtain ⟨r0, r1, r2⟩ := RBox.cells (x := ⟨rt, xa, xn, xc⟩) HS3.out.rte
      go_wp2_with fail
      refine (rfind_any A2 n2 c2 os o.id _ w.heap.size (by exact Recs.keep HO.out HS3.out.old)).mono ?_
      rintro e w4 ⟨rfl, rfl⟩
      rw [HFI.out]
      by_cases h4 : 0 ≤ fi
      · have HY : Hid (true = true ↔ argBad m d os rt o b) := ⟨fun _ => .inr (.inr (.inr (.inl (HFS.out.2 h4)))), fun _ => rfl⟩
        go_wp2_with fail
        go_meet
        exact ⟨true, rfl, Lib.hid (by simpa using HY.out), HS3⟩
      by_cases h5 : rt.drv = d.id
      case neg =>
        have HY : Hid (true = true ↔ argBad m d os rt o b) := ⟨fun _ => .inr (.inr (.inr (.inr (.inl h5)))), fun _ => rfl⟩
        have e1 : (rt.drv != d.id) = true := by simpa using h5
        clear h5
        go_wp2_with fail
        go_meet
        exact ⟨true, rfl, Lib.hid (by simpa using HY.out), HS3⟩
      have H5 := Lib.hid h5
      have e5 : (rt.drv != d.id) = false := by simpa using h5
      clear h5
      by_cases h6 : rt.served < 0
      · have HY : Hid (true = true ↔ argBad m d os rt o b) := ⟨fun _ => .inr (.inr (.inr (.inr (.inr (.inl h6))))), fun _ => rfl⟩
        go_wp2_with fail
        go_meet
        exact ⟨true, rfl, Lib.hid (by simpa using HY.out), HS3⟩
      by_cases h7 : (xn : Int) < rt.served
      · have HY : Hid (true = true ↔ argBad m d os rt o b) := ⟨fun _ => .inr (.inr (.inr (.inr (.inr (.inr (.inl (by rw [HL3.out]; exact h7))))))), fun _ => rfl⟩
        go_wp2_with fail
        go_meet
        exact ⟨true, rfl, Lib.hid (by simpa using HY.out), HS3⟩
      by_cases h8 : b < 0
      · have HY : Hid (true = true ↔ argBad m d os rt o b) := ⟨fun _ => .inr (.inr (.inr (.inr (.inr (.inr (.inr (.inl h8))))))), fun _ => rfl⟩
        go_wp2_with fail
        go_meet
        exact ⟨true, rfl, Lib.hid (by simpa using HY.out), HS3⟩
      by_cases h9 : 100000 < b
      · have HY : Hid (true = true ↔ argBad m d os rt o b) := ⟨fun _ => .inr (.inr (.inr (.inr (.inr (.inr (.inr (.inr h9))))))), fun _ => rfl⟩
        go_wp2_with fail
        go_meet
        exact ⟨true, rfl, Lib.hid (by simpa using HY.out), HS3⟩
      have HY : Hid (false = true ↔ argBad m d os rt o b) := ⟨fun h => (by cases h), fun h => by
        rcases h with h | h | h | h | h | h | h | h | h
        · exact absurd HDE.out h
        · exact absurd HOE.out h
        · rw [HKB.out] at h; cases h
        · exact absurd (HFS.out.1 h) h4
        · exact absurd H5.out h
        · exact absurd h h6
        · rw [HL3.out] at h; exact absurd h h7
        · exact absurd h h8
        · exact absurd h h9⟩
      have E4 : decide (0 ≤ fi) = false := by simpa using h4
      have E6 : decide (rt.served < 0) = false := by simpa using h6
      have E7 : decide ((xn : Int) < rt.served) = false := by simpa using h7
      have E8 : decide (b < 0) = false := by simpa using h8
      have E9 : decide ((100000 : Int) < b) = false := by simpa using h9
      go_wp2_with fail
      go_meet
      exact ⟨false, by simp [E4, E6, E7, E8, E9], Lib.hid (by simpa using HY.out), HS3⟩
  case rest =>
  obtain ⟨t, rfl, HY, HS1⟩ := hcut
  obtain ⟨w1, rfl⟩ : ∃ u, u = wc := ⟨_, rfl⟩
  clear HS0 HQ
  have hcs := cell_apart (w.heap.size + 3)
  have hfs := frozen_set
  cases t with
  | true =>
    have HF : Hid ((sp0, 0, 1) = R) := by show _ = _; rw [← HR.out, bestM_bad (bestBad_iff.2 (.inl (HY.out.1 rfl)))]
    have hff := Blk.free HS1.out.res
    obtain ⟨x0, x1, x2, x3⟩ := HS1.out.res.cells
    have HRS := Lib.hid (putS4_box HS1.out.res sp0).cells
    have HBR := Lib.hid (HS1.out.put sp0)
    go_wp2_with fail
    refine bodyPost_ret (v := toldV (sp0, 0, 1)) ?_ rfl ⟨by rw [HF.out], HBR.out⟩
    obtain ⟨q0, q1, q2, q3⟩ := HRS.out
    simp [results, Try.results18, go_sem, q0, q1, q2, q3]
  | false =>
  have HNB : Hid (¬ argBad m d os rt o b) := fun h => by have := HY.out.2 h; cases this
  obtain ⟨d0, d1, d2, d3, d4, d5⟩ := HS1.out.drv.cells
  obtain ⟨r0, r1, r2⟩ := RBox.cells (x := ⟨rt, xa, xn, xc⟩) HS1.out.rte
  obtain ⟨D, hD⟩ : ∃ D, drive m d os rt.stops = D := ⟨_, rfl⟩
  have HDD := Lib.hid hD
  obtain ⟨dv, dk, de⟩ := D
  clear hD HY
  go_wp2_with fail
  refine (rdrive_any base (.pointer q) m d A2 n2 c2 os xa xn xc rt.stops _ (by exact HM.out.keep HS1.out.old) (by exact Recs.more (Recs.keep HO.out HS1.out.old) HS1.out.old.size) (by exact Recs.more (Recs.keep HST.out HS1.out.old) HS1.out.old.size) hxc).mono ?_
  rintro e w2 ⟨hb2, v2, rfl, _⟩
  rw [HDD.out]
  have HS2 := Lib.hid (HS1.out.next hb2)
  have HS3 := Lib.hid (HS2.out.next ((Below.refl _ _).alloc (Nat.le_refl _) (.cells #[.int .i64 (dk : Int), .int .i64 de] 75)))
  clear hb2 HS1 HS2 d0 d1 d2 d3 d4 d5 r0 r1 r2
  have hff := Blk.free HS3.out.res
  obtain ⟨x0, x1, x2, x3⟩ := HS3.out.res.cells
  by_cases hde : de = 0
  case neg =>
    have e1 : (de != 0) = true := by simpa using hde
    have HF : Hid ((sp0, 0, 1) = R) := by show _ = _; rw [← HR.out, bestM_bad (bestBad_iff.2 (.inr (by rw [HDD.out]; exact hde)))]
    have HRS := Lib.hid (putS4_box HS3.out.res sp0).cells
    have HBR := Lib.hid (HS3.out.put sp0)
    clear hde
    go_wp2_with fail
    refine bodyPost_ret (v := toldV (sp0, 0, 1)) ?_ rfl ⟨by rw [HF.out], HBR.out⟩
    obtain ⟨q0, q1, q2, q3⟩ := HRS.out
    simp [results, Try.results18, go_sem, q0, q1, q2, q3]
  subst hde
  have HNN : Hid (¬ bestBad m d os rt o b) := fun h => by
    rcases bestBad_iff.1 h with h | h
    · exact HNB.out h
    · rw [HDD.out] at h; exact h rfl
  obtain ⟨d0, d1, d2, d3, d4, d5⟩ := HS3.out.drv.cells
  cases hrt : d.retired with
  | true =>
    rw [hrt] at d5
    have HF : Hid ((sp0, 0, 23) = R) := by show _ = _; rw [← HR.out]; unfold bestM; rw [if_neg HNN.out, if_pos hrt]
    have HRS := Lib.hid (putS4_box HS3.out.res sp0).cells
    have HBR := Lib.hid (HS3.out.put sp0)
    clear hrt
    go_wp2_with fail
    refine bodyPost_ret (v := toldV (sp0, 0, 23)) ?_ rfl ⟨by rw [HF.out], HBR.out⟩
    obtain ⟨q0, q1, q2, q3⟩ := HRS.out
    simp [results, Try.results18, go_sem, q0, q1, q2, q3]
  | false =>
  rw [hrt] at d5
  obtain ⟨r0, r1, r2⟩ := RBox.cells (x := ⟨rt, xa, xn, xc⟩) HS3.out.rte
  have HRT := Lib.hid hrt
  clear hrt
  by_cases h78 : 78 < xn
  · have HF : Hid ((sp0, 0, 10) = R) := by show _ = _; rw [← HR.out]; unfold bestM; rw [if_neg HNN.out, if_neg (by rw [HRT.out]; decide), if_pos (by rw [HL3.out]; exact h78)]
    have e1 : (78 : Int) < (xn : Int) := by omega
    have HRS := Lib.hid (putS4_box HS3.out.res sp0).cells
    have HBR := Lib.hid (HS3.out.put sp0)
    go_wp2_with fail
    refine bodyPost_ret (v := toldV (sp0, 0, 10)) ?_ rfl ⟨by rw [HF.out], HBR.out⟩
    obtain ⟨q0, q1, q2, q3⟩ := HRS.out
    simp [results, Try.results18, go_sem, q0, q1, q2, q3]
  · have e1 : ¬ (78 : Int) < (xn : Int) := by omega
    have hnb := HNB.out
    unfold argBad at hnb
    simp only [not_or, Int.not_lt, Decidable.not_not] at hnb
    obtain ⟨-, -, hkn, -, -, hs1, hs2, hb1, hb2⟩ := hnb
    obtain ⟨sv, hsv⟩ : ∃ sv : Nat, rt.served = (sv : Int) := ⟨rt.served.toNat, by omega⟩
    obtain ⟨bn, hbn⟩ : ∃ bn : Nat, b = (bn : Int) := ⟨b.toNat, by omega⟩
    have hsl : sv ≤ xn := by have := HL3.out; omega
    have hkk : known m os = true := by
      cases hk : known m os
      · exact absurd hk hkn
      · rfl
    have hn2 : n2 ≤ 64 := by have := (known_iff.1 hkk).1; have := HL2.out; omega
    subst hbn
    obtain ⟨S, hS⟩ : ∃ S, goOn bn (none, 0) (candR m d os o rt) = S := ⟨_, rfl⟩
    have HF : Hid (toldM S = R) := by show _ = _; rw [← HR.out]; unfold bestM; rw [if_neg HNN.out, if_neg (by rw [HRT.out]; decide), if_neg (by rw [HL3.out]; omega), ← hS]; rfl
    have HSS := Lib.hid hS
    have HSV := Lib.hid hsv
    obtain ⟨o0, o1, o2, o3, o4, o5, o6, o7, o8, o9⟩ := HS3.out.ord.cells
    have hbn1 : bn ≤ 100000 := by omega
    have hal : ∀ u, BS w d ⟨rt, xa, xn, xc⟩ o u → Calls Try.prog 43 #[.pointer q, .agg #[.int .i64 d.id, .int .i64 d.room, .int .i64 d.home, .int .i64 d.win.fr, .int .i64 d.win.to, .bool false], .slice A2 n2 c2, .agg #[.int .i64 rt.drv, .int .i64 rt.served, .slice xa xn xc], .agg #[.int .i64 o.id, .int .i64 o.size, .int .i64 o.pick.place, .int .i64 o.pick.win.fr, .int .i64 o.pick.win.to, .int .i64 o.pick.serv, .int .i64 o.drop.place, .int .i64 o.drop.win.fr, .int .i64 o.drop.win.to, .int .i64 o.drop.serv], .int .i64 (bn : Int), .agg #[.int .i64 0, .int .i64 0, .int .i64 0, .int .i64 0, .bool false, .int .i64 0]] u (Gives u (srV S)) := fun u hu => by
      have h := ralong12_any base (.pointer q) m d A2 n2 c2 os ⟨rt, xa, xn, xc⟩ o bn (none, 0) u (HM.out.keep hu.old) (Recs.more (Recs.keep HO.out hu.old) hu.old.size) (Recs.more (Recs.keep HST.out hu.old) hu.old.size) hxc (by show xn ≤ 80; omega) hn2 hbn1 (Nat.zero_le _) sv HSV.out hsl
      rw [show goOn bn (none, 0) (candR m d os o (RM.mk rt xa xn xc).rt) = S from HSS.out] at h
      simp only [drvV, HRT.out] at h
      exact h
    clear hS hsv hs1 hs2 hb1 hb2 hkn hkk
    go_wp2_with fail
    refine (hal _ (by exact HS3.out)).mono ?_
    rintro e w5 ⟨rfl, hb5⟩
    have HS5 := Lib.hid (HS3.out.next hb5)
    clear hb5 HS3 d0 d1 d2 d3 d4 d5 r0 r1 r2 x0 x1 x2 x3 hff o0 o1 o2 o3 o4 o5 o6 o7 o8 o9
    go_wp2_with fail
    refine (rtold_any S _).mono ?_
    rintro e w6 ⟨rfl, hb6⟩
    rw [HF.out]
    have HS6 := Lib.hid (HS5.out.next hb6)
    clear hb6 HS5
    obtain ⟨y, k1, k2⟩ := R
    have hff := Blk.free HS6.out.res
    obtain ⟨x0, x1, x2, x3⟩ := HS6.out.res.cells
    have HRS := Lib.hid (putS4_box HS6.out.res y).cells
    have HBR := Lib.hid (HS6.out.put y)
    go_wp2_with fail
    refine bodyPost_ret (v := toldV (y, k1, k2)) ?_ rfl ⟨rfl, HBR.out⟩
    obtain ⟨q0, q1, q2, q3⟩ := HRS.out
    simp [results, Try.results18, go_sem, q0, q1, q2, q3]
#print axioms rbest_any
end Go.Proofs.Ytpigklkidagolaa.Insert

/-
  The document's own answer to chapter 12, walked: Cheapest. Written by tools/gen_inscheap.py.
-/
namespace Go.Proofs.Ytpigklkidagolaa.Insert
open Go.ChangeShapes Go.WideShapes Go.ChangeAt Go.RowKit Go.Proofs.Ytpigklkidagolaa.Mem Go.Proofs.Ytpigklkidagolaa.GeoMath Go.Proofs.Ytpigklkidagolaa.FleetMath Go.Proofs.Ytpigklkidagolaa.PlanMath Go.Proofs.Ytpigklkidagolaa.CertMath Go.Proofs.Ytpigklkidagolaa.AuditMath Go.Proofs.Ytpigklkidagolaa.InsertMath Go.Proofs.Ytpigklkidagolaa.Rec Go.Proofs.Ytpigklkidagolaa.Geo Go.Proofs.Ytpigklkidagolaa.Span Go.Proofs.Ytpigklkidagolaa.Deal Go.Proofs.Ytpigklkidagolaa.Route Go.Proofs.Ytpigklkidagolaa.Plan Go.Proofs.Ytpigklkidagolaa.Cert
set_option linter.unusedVariables false
set_option linter.unusedSimpArgs false

theorem make_good {m : Option Mp} {ds : List Drv} {os : List FleetMath.Ord} {p : List Rte} (h : (makeC m ds os p).2.2 = 0) : wellC m ds os p = true ∧ ∀ r ∈ p, ∃ d, drvOf ds r.drv = some d ∧ (drive m d os r.stops).2.2 = 0 := by
  cases hw : wellC m ds os p with
  | false => rw [makeC_no hw] at h; simp at h
  | true =>
    refine ⟨rfl, (makeFrom_iff 0).1 ?_⟩
    cases hx : makeFrom m ds os 0 p with
    | error y => obtain ⟨k, e⟩ := y; rw [makeC_err hw hx] at h; exact absurd h (makeFrom_err hx)
    | ok c => exact ⟨c, rfl⟩
theorem right_route {p : List Rte} (h : rightP p = true) {r : Rte} (hr : r ∈ p) : r.stops.length ≤ 80 ∧ ∃ sv : Nat, r.served = (sv : Int) ∧ sv ≤ r.stops.length := by
  unfold rightP at h
  simp only [Bool.and_eq_true, List.all_eq_true] at h
  have := h.1.1.2 r hr
  unfold rightR at this
  rw [decide_eq_true_eq] at this
  exact ⟨this.2.2.1, r.served.toNat, by omega, by omega⟩
theorem candD_shut {m : Option Mp} {ds : List Drv} {os : List FleetMath.Ord} {o : FleetMath.Ord} {r : Rte} {d : Drv} (h : drvOf ds r.drv = some d) (ho : d.retired = true ∨ 78 < r.stops.length) : candD m ds os o r = [] := by
  unfold candD
  rw [h]
  simp only
  rw [if_neg]
  unfold openR
  rcases ho with h | h
  · rw [h]; simp
  · simp; intro _; exact h
theorem candD_open {m : Option Mp} {ds : List Drv} {os : List FleetMath.Ord} {o : FleetMath.Ord} {r : Rte} {d : Drv} (h : drvOf ds r.drv = some d) (h1 : d.retired = false) (h2 : ¬ 78 < r.stops.length) : candD m ds os o r = candR m d os o r := by
  unfold candD
  rw [h]
  simp only
  rw [if_pos]
  unfold openR
  rw [h1]; simp; omega
theorem cheap_next {bn : Nat} {s : Srch} {G : Rte → List (Option Sp4)} {p : List Rte} {k : Nat} {r : Rte} {R : Srch} (h : R = goOn bn s ((p.drop k).flatMap G)) (hp : p.drop k = r :: p.drop (k + 1)) : R = goOn bn (goOn bn s (G r)) ((p.drop (k + 1)).flatMap G) := by
  rw [h, hp, List.flatMap_cons, goOn_append]
/-- what stays through Cheapest -/
structure CS (w : World) (o : FleetMath.Ord) (u : World) : Prop where
  old : Below w.heap.size w u
  ord : OBox u w.heap.size o
  res : S4Box u (w.heap.size + 1) sp0
structure KS (w : World) (o : FleetMath.Ord) (g : Nat) (s : Srch) (u : World) : Prop where
  cs : CS w o u
  far : w.heap.size + 2 ≤ g
  sr : SrBox u g s
section
variable {w u u' : World} {o : FleetMath.Ord} {s t : Srch} {g : Nat}
theorem CS.next (h : CS w o u) (hb : Below u.heap.size u u') : CS w o u' := ⟨h.old.trans (hb.mono h.old.size), h.ord.below hb, Blk.below h.res hb (Blk.lt h.res)⟩
theorem CS.size (h : CS w o u) : w.heap.size + 2 ≤ u.heap.size := Blk.lt h.res
theorem CS.start : CS w o ((w.alloc (.cells #[.int .i64 o.id, .int .i64 o.size, .int .i64 o.pick.place, .int .i64 o.pick.win.fr, .int .i64 o.pick.win.to, .int .i64 o.pick.serv, .int .i64 o.drop.place, .int .i64 o.drop.win.fr, .int .i64 o.drop.win.to, .int .i64 o.drop.serv] 31)).alloc (.cells #[.int .i64 0, .int .i64 0, .int .i64 0, .int .i64 0] 42)) := by
  have b0 : ∀ (u : World) (ob : Obj), Below u.heap.size u (u.alloc ob) := fun u ob => (Below.refl _ _).alloc (Nat.le_refl _) _
  have f0 : OBox (w.alloc (.cells #[.int .i64 o.id, .int .i64 o.size, .int .i64 o.pick.place, .int .i64 o.pick.win.fr, .int .i64 o.pick.win.to, .int .i64 o.pick.serv, .int .i64 o.drop.place, .int .i64 o.drop.win.fr, .int .i64 o.drop.win.to, .int .i64 o.drop.serv] 31)) w.heap.size o := Blk.new w _ _
  obtain ⟨w1, h1⟩ : ∃ u, w.alloc (.cells #[.int .i64 o.id, .int .i64 o.size, .int .i64 o.pick.place, .int .i64 o.pick.win.fr, .int .i64 o.pick.win.to, .int .i64 o.pick.serv, .int .i64 o.drop.place, .int .i64 o.drop.win.fr, .int .i64 o.drop.win.to, .int .i64 o.drop.serv] 31) = u := ⟨_, rfl⟩
  have z1 : w1.heap.size = w.heap.size + 1 := by rw [← h1]; simp
  have o1 : Below w.heap.size w w1 := by rw [← h1]; exact b0 _ _
  rw [h1] at f0 ⊢
  have f3 : S4Box (w1.alloc (.cells #[.int .i64 0, .int .i64 0, .int .i64 0, .int .i64 0] 42)) w1.heap.size sp0 := Blk.new w1 _ _
  rw [z1] at f3
  exact ⟨o1.trans ((b0 _ _).mono (by omega)), f0.below (b0 _ _), f3⟩
theorem CS.put (h : CS w o u) (y : Sp4) : Below w.heap.size w (putS4 u (w.heap.size + 1) y) := putS4_below h.old (by omega) y
theorem KS.next (h : KS w o g s u) (hb : Below u.heap.size u u') : KS w o g s u' := ⟨h.cs.next hb, h.far, Blk.below h.sr hb (Blk.lt h.sr)⟩
theorem KS.start (h : CS w o u) : KS w o u.heap.size (none, 0) (u.alloc (.cells #[.int .i64 0, .int .i64 0, .int .i64 0, .int .i64 0, .bool false, .int .i64 0] 103)) :=
  ⟨h.next ((Below.refl _ _).alloc (Nat.le_refl _) _), h.size, Blk.new u _ _⟩
theorem putSr_only (u : World) (g : Nat) (s : Srch) : Only g u (putSr u g s) := ((((((Only.refl _ _).set _ _).set _ _).set _ _).set _ _).set _ _).set _ _
theorem KS.put (h : KS w o g s u) (t : Srch) : KS w o g t (putSr u g t) :=
  ⟨⟨h.cs.old.trans ((putSr_only u g t).below.mono (by have := h.far; omega)), (putSr_only u g t).blk h.cs.ord (by have := h.far; omega), (putSr_only u g t).blk h.cs.res (by have := h.far; omega)⟩, h.far, putSr_box h.sr t⟩
end
theorem run_load_rx {u : World} {b i : Nat} {x : RM} (h : u.cell? ⟨b, i, none⟩ = some (.int .i64 x.rt.drv) ∧ u.cell? ⟨b, i + 1, none⟩ = some (.int .i64 x.rt.served) ∧ u.cell? ⟨b, i + 2, none⟩ = some (.slice x.a x.n x.c)) : (Instr.loadAt 39 (.pointer (some ⟨b, i, none⟩))).run Try.prog u = .ok (rteV x) u := by
  obtain ⟨h0, h1, h2⟩ := h
  simp [go_sem, h0, h1, h2]
theorem run_load_sr {u : World} {g : Nat} {s : Srch} (h : SrBox u g s) : (Instr.loadAt 103 (.pointer (some ⟨g, 0, none⟩))).run Try.prog u = .ok (srV s) u := by
  obtain ⟨h0, h1, h2, h3, h4, h5⟩ := h.cells
  simp [go_sem, h0, h1, h2, h3, h4, h5]
theorem run_store_sr {u : World} {g : Nat} {s : Srch} (h : SrBox u g s) (t : Srch) : (Instr.storeAt 103 (.pointer (some ⟨g, 0, none⟩)) (srV t)).run Try.prog u = .ok () (putSr u g t) := by
  obtain ⟨c0, c1, c2, c3, c4, c5⟩ := h.cells
  have hff := Blk.free h
  have hcs := cell_apart g
  have hfs := frozen_set
  simp [go_sem, c0, c1, c2, c3, c4, c5, hff, hcs, hfs]
theorem ins_call7 {P : Program} {o : Oper} {a : Act} {u : World} {f : Nat} {ts : Array TypeId} {x1 x2 x3 x4 x5 x6 x7 : Operand} {v1 v2 v3 v4 v5 v6 v7 : Value} (h : o.op = .call { callee := .value (.func f), args := #[x1, x2, x3, x4, x5, x6, x7], argTypes := ts }) (h1 : a.eval x1 = v1) (h2 : a.eval x2 = v2) (h3 : a.eval x3 = v3) (h4 : a.eval x4 = v4) (h5 : a.eval x5 = v5) (h6 : a.eval x6 = v6) (h7 : a.eval x7 = v7)
    (hf : (callFunc f #[v1, v2, v3, v4, v5, v6, v7]).run P u = .ok (.enter f #[v1, v2, v3, v4, v5, v6, v7]) u) : (execOp a.eval o).run P u = .ok (.enter f #[v1, v2, v3, v4, v5, v6, v7]) u := by
  have hf' : a.eval (.func f) = .func (.func f) #[] #[] := rfl
  obtain ⟨ρ, hρ⟩ : ∃ ρ, a.eval = ρ := ⟨_, rfl⟩
  rw [hρ] at h1 h2 h3 h4 h5 h6 h7 hf' ⊢
  unfold execOp
  rw [h]
  simp [go_sem, hf', h1, h2, h3, h4, h5, h6, h7, hf]

set_option maxRecDepth 100000 in
set_option maxHeartbeats 16000000 in
theorem rcheapest_any (base : Nat) (pv : Value) (m : Option Mp) (A : Option Addr) (n c : Nat) (ds : List Drv) (A2 : Option Addr) (n2 c2 : Nat) (os : List FleetMath.Ord) (A3 : Option Addr) (n3 c3 : Nat) (l : List RM) (o : FleetMath.Ord) (b : Int) (w : World)
    (h : MapP w 130 base pv m) (hd : Drvs w w.heap.size A n ds) (ho : Ords w w.heap.size A2 n2 os) (hl : Plns w w.heap.size A3 n3 l) :
    Calls Try.prog 20 #[pv, .slice A n c, .slice A2 n2 c2, .slice A3 n3 c3, ordV o, .int .i64 b] w (Gives w (toldV (cheapM m ds os (l.map (·.rt)) o b))) := by
  have hm := Recs.le hl.rows
  have hmd := Recs.le hd
  have HD := Lib.hid hd
  have HO := Lib.hid ho
  have HP := Lib.hid hl
  have HL := Lib.hid hl.length
  have HL2 := Lib.hid ho.length
  have HLD := Lib.hid hd.length
  have HM := Lib.hid h
  obtain ⟨R, hR⟩ : ∃ R, cheapM m ds os (l.map (·.rt)) o b = R := ⟨_, rfl⟩
  have HR := Lib.hid hR
  rw [hR]
  show Calls _ _ #[pv, .slice A n c, .slice A2 n2 c2, .slice A3 n3 c3, .agg #[.int .i64 o.id, .int .i64 o.size, .int .i64 o.pick.place, .int .i64 o.pick.win.fr, .int .i64 o.pick.win.to, .int .i64 o.pick.serv, .int .i64 o.drop.place, .int .i64 o.drop.win.fr, .int .i64 o.drop.win.to, .int .i64 o.drop.serv], .int .i64 b] _ _
  have HS0 : Hid (CS w o (((w.alloc (.cells #[.int .i64 o.id, .int .i64 o.size, .int .i64 o.pick.place, .int .i64 o.pick.win.fr, .int .i64 o.pick.win.to, .int .i64 o.pick.serv, .int .i64 o.drop.place, .int .i64 o.drop.win.fr, .int .i64 o.drop.win.to, .int .i64 o.drop.serv] 31)).alloc (.cells #[.int .i64 0, .int .i64 0, .int .i64 0, .int .i64 0] 42)))) := CS.start
  obtain ⟨q, hq⟩ : ∃ q, pv = .pointer q := by
    rcases h with ⟨rfl, _⟩ | ⟨_, _, _, rfl, _⟩
    · exact ⟨_, rfl⟩
    · exact ⟨_, rfl⟩
  subst hq
  obtain ⟨M, hMK⟩ : ∃ M, makeC m ds os (l.map (·.rt)) = M := ⟨_, rfl⟩
  have HMK := Lib.hid hMK
  obtain ⟨mc, mk, me⟩ := M
  clear h hd ho hl hR hMK
  go_enter Try.func20, Try.ntmps20
  go_upto_region 1 with fail
  obtain ⟨u0, hu0⟩ : ∃ u, ((w.alloc (.cells #[.int .i64 o.id, .int .i64 o.size, .int .i64 o.pick.place, .int .i64 o.pick.win.fr, .int .i64 o.pick.win.to, .int .i64 o.pick.serv, .int .i64 o.drop.place, .int .i64 o.drop.win.fr, .int .i64 o.drop.win.to, .int .i64 o.drop.serv] 31)).alloc (.cells #[.int .i64 0, .int .i64 0, .int .i64 0, .int .i64 0] 42)) = u := ⟨_, rfl⟩
  rw [hu0] at HS0
  (try rw [hu0])
  clear hu0
  go_wp2_with fail
  refine (rmake_any base (.pointer q) m A n c ds A2 n2 c2 os A3 n3 c3 l _ (by exact HM.out.keep HS0.out.old) (by exact Recs.more (Recs.keep HD.out HS0.out.old) HS0.out.old.size) (by exact Recs.more (Recs.keep HO.out HS0.out.old) HS0.out.old.size) (by exact (HP.out.keep HS0.out.old).more HS0.out.old.size)).mono ?_
  rintro e z1 ⟨v1, l1, rfl, hmade⟩
  rw [HMK.out]
  have HS1 := Lib.hid (HS0.out.next hmade.new.old)
  have HS2 := Lib.hid (HS1.out.next ((Below.refl _ _).alloc (Nat.le_refl _) (.cells #[.int .i64 (mk : Int), .int .i64 me] 75)))
  clear hmade HS0 HS1
  go_upto_region 2 with fail
  go_cut [51] (fun bv wx => ∃ t : Bool, bv = .bool t ∧ Hid (t = true ↔ cheapBad m ds os (l.map (·.rt)) o b) ∧ Hid (CS w o wx))
  case first =>
    by_cases h1 : me = 0
    case neg =>
      have HY : Hid (true = true ↔ cheapBad m ds os (l.map (·.rt)) o b) := ⟨fun _ => .inl (by rw [HMK.out]; exact h1), fun _ => rfl⟩
      have e1 : (me != 0) = true := by simpa using h1
      clear h1
      go_wp2_with fail
      go_meet
      exact ⟨true, rfl, Lib.hid (by simpa using HY.out), HS2⟩
    subst h1
    obtain ⟨oe, hoe⟩ : ∃ z, ordE m o = z := ⟨_, rfl⟩
    have HOE := Lib.hid hoe
    clear hoe
    obtain ⟨o0, o1, o2, o3, o4, o5, o6, o7, o8, o9⟩ := HS2.out.ord.cells
    go_wp2_with fail
    refine (rorder_any base (.pointer q) m o _ (by exact HM.out.keep HS2.out.old)).mono ?_
    rintro e w2 ⟨rfl, hb2⟩
    rw [HOE.out]
    have HS3 := Lib.hid (HS2.out.next hb2)
    clear hb2 HS2 o0 o1 o2 o3 o4 o5 o6 o7 o8 o9
    by_cases h2 : oe = 0
    case neg =>
      have HY : Hid (true = true ↔ cheapBad m ds os (l.map (·.rt)) o b) := ⟨fun _ => .inr (.inl (by rw [HOE.out]; exact h2)), fun _ => rfl⟩
      have e1 : (oe != 0) = true := by simpa using h2
      clear h2
      go_wp2_with fail
      go_meet
      exact ⟨true, rfl, Lib.hid (by simpa using HY.out), HS3⟩
    subst h2
    obtain ⟨fi, hfi⟩ : ∃ z, idxV (findI os o.id) = z := ⟨_, rfl⟩
    have HFI := Lib.hid hfi
    have HFS := Lib.hid (idx_some hfi)
    clear hfi
    obtain ⟨o0, o1, o2, o3, o4, o5, o6, o7, o8, o9⟩ := HS3.out.ord.cells
    go_wp2_with fail
    refine (rfind_any A2 n2 c2 os o.id _ w.heap.size (by exact Recs.keep HO.out HS3.out.old)).mono ?_
    rintro e w4 ⟨rfl, rfl⟩
    rw [HFI.out]
    by_cases h4 : 0 ≤ fi
    · have HY : Hid (true = true ↔ cheapBad m ds os (l.map (·.rt)) o b) := ⟨fun _ => .inr (.inr (.inl (HFS.out.2 h4))), fun _ => rfl⟩
      go_wp2_with fail
      go_meet
      exact ⟨true, rfl, Lib.hid (by simpa using HY.out), HS3⟩
    by_cases h8 : b < 0
    · have HY : Hid (true = true ↔ cheapBad m ds os (l.map (·.rt)) o b) := ⟨fun _ => .inr (.inr (.inr (.inl h8))), fun _ => rfl⟩
      go_wp2_with fail
      go_meet
      exact ⟨true, rfl, Lib.hid (by simpa using HY.out), HS3⟩
    by_cases h9 : 100000 < b
    · have HY : Hid (true = true ↔ cheapBad m ds os (l.map (·.rt)) o b) := ⟨fun _ => .inr (.inr (.inr (.inr h9))), fun _ => rfl⟩
      go_wp2_with fail
      go_meet
      exact ⟨true, rfl, Lib.hid (by simpa using HY.out), HS3⟩
    have HY : Hid (false = true ↔ cheapBad m ds os (l.map (·.rt)) o b) := ⟨fun h => (by cases h), fun h => by
      rcases h with h | h | h | h | h
      · rw [HMK.out] at h; exact absurd rfl h
      · exact absurd HOE.out h
      · exact absurd (HFS.out.1 h) h4
      · exact absurd h h8
      · exact absurd h h9⟩
    have E4 : decide (0 ≤ fi) = false := by simpa using h4
    have E8 : decide (b < 0) = false := by simpa using h8
    have E9 : decide ((100000 : Int) < b) = false := by simpa using h9
    go_wp2_with fail
    go_meet
    exact ⟨false, by simp [E4, E8, E9], Lib.hid (by simpa using HY.out), HS3⟩
  case rest =>
  obtain ⟨t, rfl, HY, HS1⟩ := hcut
  obtain ⟨w1, rfl⟩ : ∃ u, u = wc := ⟨_, rfl⟩
  clear HS2
  have hcs := cell_apart (w.heap.size + 1)
  have hfs := frozen_set
  cases t with
  | true =>
    have HF : Hid ((sp0, 0, 1) = R) := by show _ = _; rw [← HR.out]; unfold cheapM; rw [if_pos (HY.out.1 rfl)]
    have hff := Blk.free HS1.out.res
    obtain ⟨x0, x1, x2, x3⟩ := HS1.out.res.cells
    have HRS := Lib.hid (putS4_box HS1.out.res sp0).cells
    have HBR := Lib.hid (HS1.out.put sp0)
    go_wp2_with fail
    refine bodyPost_ret (v := toldV (sp0, 0, 1)) ?_ rfl ⟨by rw [HF.out], HBR.out⟩
    obtain ⟨q0, q1, q2, q3⟩ := HRS.out
    simp [results, Try.results20, go_sem, q0, q1, q2, q3]
  | false =>
  have hnb : ¬ cheapBad m ds os (l.map (·.rt)) o b := fun h => by have := HY.out.2 h; cases this
  have hF := HR.out
  unfold cheapM at hF
  rw [if_neg hnb] at hF
  unfold cheapBad at hnb
  simp only [not_or, Int.not_lt, Decidable.not_not] at hnb
  obtain ⟨hmk, -, -, hb1, hb2⟩ := hnb
  obtain ⟨hwc, hdr⟩ := make_good hmk
  obtain ⟨_, _, hd8, hkn, hrp, _, _⟩ := wellC_parts hwc
  have hn8 : n3 ≤ 8 := by
    have := rightP_few hrp
    rw [List.length_map, HL.out] at this
    exact this
  have hn2 : n2 ≤ 64 := by have := (known_iff.1 hkn).1; rw [HL2.out] at this; omega
  obtain ⟨bn, hbn⟩ : ∃ bn : Nat, b = (bn : Int) := ⟨b.toNat, by omega⟩
  subst hbn
  have hbn1 : bn ≤ 100000 := by omega
  have HDR := Lib.hid hdr
  have HRP := Lib.hid hrp
  have HN2 := Lib.hid hn2
  have HBN := Lib.hid hbn1
  obtain ⟨S, hS⟩ : ∃ S, goOn bn (none, 0) ((l.map (·.rt)).flatMap (candD m ds os o)) = S := ⟨_, rfl⟩
  have HF : Hid (toldM S = R) := by show _ = _; rw [← hF, ← hS]; rfl
  have HSS : Hid (S = goOn bn (none, 0) (((l.map (·.rt)).drop 0).flatMap (candD m ds os o))) := by show _ = _; rw [List.drop_zero, hS]
  have HK0 := Lib.hid (KS.start HS1.out)
  clear hF hS hmk hb1 hb2 hwc hdr hkn hrp hn2 hbn1 HY HS1 hd8
  go_wp2_with fail
  go_loopw [18] (fun iv wr => ∃ (k : Nat) (s : Srch), k ≤ n3 ∧ iv = .int .i64 k ∧ Hid (KS w o w1.heap.size s wr) ∧ Hid (S = goOn bn s (((l.map (·.rt)).drop k).flatMap (candD m ds os o))) ∧ Hid (s.2 ≤ bn)) (fun iv _ => n3 - (intOf iv).toNat)
  case atStart => exact ⟨0, (none, 0), Nat.zero_le _, rfl, HK0, HSS, Lib.hid (Nat.zero_le _)⟩
  case round =>
    clear HK0 HSS
    obtain ⟨k, s, hk, rfl, HS, HG, HSB⟩ := hrel
    by_cases hlt : k < n3
    case neg =>
      have HE : Hid (S = s) := by
        show _ = _
        have h1 := HG.out
        rw [List.drop_of_length_le (by rw [List.length_map, HL.out]; omega), List.flatMap_nil, goOn_nil] at h1
        exact h1
      clear HG
      obtain ⟨s0, s1, s2, s3, s4, s5⟩ := HS.out.sr.cells
      go_wp2_with fail
      refine (rtold_any s _).mono ?_
      rintro e w6 ⟨rfl, hb6⟩
      rw [← HE.out, HF.out]
      have HS6 := Lib.hid (HS.out.cs.next hb6)
      clear hb6 HS s0 s1 s2 s3 s4 s5
      obtain ⟨y, k1, k2⟩ := R
      have hff := Blk.free HS6.out.res
      obtain ⟨x0, x1, x2, x3⟩ := HS6.out.res.cells
      have HRS := Lib.hid (putS4_box HS6.out.res y).cells
      have HBR := Lib.hid (HS6.out.put y)
      go_wp2_with fail
      refine bodyPost_ret (v := toldV (y, k1, k2)) ?_ rfl ⟨rfl, HBR.out⟩
      obtain ⟨q0, q1, q2, q3⟩ := HRS.out
      simp [results, Try.results20, go_sem, q0, q1, q2, q3]
    obtain ⟨pb, off, x, hA3, hbb, hx, hdr, c0, c1, c2', hst, hxc⟩ := (HP.out.keep HS.out.cs.old).at_ hlt
    subst hA3
    have hmem : x.rt ∈ l.map (·.rt) := List.mem_map.2 ⟨x, List.mem_of_getElem? hx, rfl⟩
    have HXX := Lib.hid hx
    have HPD : Hid ((l.map (·.rt)).drop k = x.rt :: (l.map (·.rt)).drop (k + 1)) := by
      show _ = _
      rw [← List.map_drop, hdr, List.map_cons, List.map_drop]
    have HN := Lib.hid (cheap_next HG.out HPD.out)
    obtain ⟨hx80, sv, hsv, hsl⟩ := right_route HRP.out hmem
    have hxl := hst.length
    rw [hxl] at hx80 hsl
    have HSV := Lib.hid hsv
    have HXL := Lib.hid hxl
    have HST := Lib.hid (HP.out.each x (List.mem_of_getElem? hx)).1
    obtain ⟨i, d, HII, HDO, HPI⟩ : ∃ (i : Nat) (d : Drv), Hid (ds[i]? = some d) ∧ Hid (drvOf ds x.rt.drv = some d) ∧ Hid (pdIdx ds x.rt.drv 0 = (i : Int)) := by
      obtain ⟨d, h1, _⟩ := HDR.out x.rt hmem
      rcases pdIdx_of ds x.rt.drv with ⟨h2, _⟩ | ⟨i, d', h2, h3, h4⟩
      · rw [h1] at h2; cases h2
      · exact ⟨i, d', h2, h3, h4⟩
    have hin : i < n := by rw [← HLD.out]; exact (List.getElem?_eq_some_iff.1 HII.out).1
    clear hx hdr hsv hxl hst hmem HG
    go_wp2_with fail
    refine (rdriver12_any A n c ds x.rt.drv (i : Int) _ w.heap.size (by exact Recs.keep HD.out HS.out.cs.old) HPI.out).mono ?_
    rintro e w2 ⟨rfl, rfl⟩
    obtain ⟨db, doff, d', hA, hdb, hd', _, d0, d1, d2, d3, d4, d5⟩ := Drvs.at_ (Recs.keep HD.out HS.out.cs.old) hin
    have hdd : d' = d := by have := HII.out; rw [hd'] at this; injection this
    subst hdd
    subst hA
    have HS3 := Lib.hid (HS.out.next ((Below.refl _ _).alloc (Nat.le_refl _) (.cells #[.int .i64 d'.id, .int .i64 d'.room, .int .i64 d'.home, .int .i64 d'.win.fr, .int .i64 d'.win.to, .bool d'.retired] 33)))
    have HX3 : Hid (DBox (wr.alloc (.cells #[.int .i64 d'.id, .int .i64 d'.room, .int .i64 d'.home, .int .i64 d'.win.fr, .int .i64 d'.win.to, .bool d'.retired] 33)) wr.heap.size d') := Blk.new wr _ _
    go_upto_region 9 with fail
    obtain ⟨gd, hgd⟩ : ∃ g, wr.heap.size = g := ⟨_, rfl⟩
    obtain ⟨w3, hw3⟩ : ∃ u, wr.alloc (.cells #[.int .i64 d'.id, .int .i64 d'.room, .int .i64 d'.home, .int .i64 d'.win.fr, .int .i64 d'.win.to, .bool d'.retired] 33) = u := ⟨_, rfl⟩
    rw [hgd] at HX3 ⊢
    rw [hw3] at HS3 HX3
    (try rw [hw3])
    clear hw3 hgd HS c0 c1 c2' d0 d1 d2 d3 d4 d5 hd'
    obtain ⟨d, hdq⟩ : ∃ z, z = d' := ⟨_, rfl⟩
    subst hdq
    obtain ⟨c0, c1, c2'⟩ : w3.cell? ⟨pb, off + k * 3, none⟩ = some (.int .i64 x.rt.drv) ∧ w3.cell? ⟨pb, off + k * 3 + 1, none⟩ = some (.int .i64 x.rt.served) ∧ w3.cell? ⟨pb, off + k * 3 + 2, none⟩ = some (.slice x.a x.n x.c) := by
      obtain ⟨_, _, _, e0, _, h1, _, c0, c1, c2', _⟩ := (HP.out.keep HS3.out.cs.old).at_ hlt
      injection e0 with e0
      injection e0 with e1 e2
      subst e1; subst e2
      rw [HXX.out] at h1
      injection h1 with h1
      subst h1
      exact ⟨c0, c1, c2'⟩
    obtain ⟨d0, d1, d2, d3, d4, d5⟩ := HX3.out.cells
    cases hrt : d.retired with
    | true =>
      rw [hrt] at d5
      have HN1 : Hid (S = goOn bn s (((l.map (·.rt)).drop (k + 1)).flatMap (candD m ds os o))) := by
        show _ = _
        have := HN.out
        rw [candD_shut HDO.out (.inl hrt), goOn_nil] at this
        exact this
      clear hrt HN
      go_wp2_with fail
      go_roundw
      case rel => exact ⟨k + 1, s, by omega, by go_num, HS3, HN1, HSB⟩
      case measure => simp [intOf]; omega
    | false =>
    rw [hrt] at d5
    by_cases h78 : 78 < x.n
    · have e1 : (78 : Int) < (x.n : Int) := by omega
      have HN1 : Hid (S = goOn bn s (((l.map (·.rt)).drop (k + 1)).flatMap (candD m ds os o))) := by
        show _ = _
        have := HN.out
        rw [candD_shut HDO.out (.inr (by rw [HXL.out]; exact h78)), goOn_nil] at this
        exact this
      clear hrt HN
      go_wp2_with fail
      go_roundw
      case rel => exact ⟨k + 1, s, by omega, by go_num, HS3, HN1, HSB⟩
      case measure => simp [intOf]; omega
    have e1 : ¬ (78 : Int) < (x.n : Int) := by omega
    obtain ⟨t, ht⟩ : ∃ t, goOn bn s (candR m d os o x.rt) = t := ⟨_, rfl⟩
    have HN1 : Hid (S = goOn bn t (((l.map (·.rt)).drop (k + 1)).flatMap (candD m ds os o))) := by
      show _ = _
      have := HN.out
      rw [candD_open HDO.out hrt (by rw [HXL.out]; exact h78), ht] at this
      exact this
    have HTB : Hid (t.2 ≤ bn) := by show _ ≤ _; rw [← ht]; exact goOn_le HSB.out _
    have HRT := Lib.hid hrt
    have HAL : Hid (∀ u, Below w3.heap.size w3 u → Calls Try.prog 43 #[.pointer q, .agg #[.int .i64 d.id, .int .i64 d.room, .int .i64 d.home, .int .i64 d.win.fr, .int .i64 d.win.to, .bool d.retired], .slice A2 n2 c2, .agg #[.int .i64 x.rt.drv, .int .i64 x.rt.served, .slice x.a x.n x.c], .agg #[.int .i64 o.id, .int .i64 o.size, .int .i64 o.pick.place, .int .i64 o.pick.win.fr, .int .i64 o.pick.win.to, .int .i64 o.pick.serv, .int .i64 o.drop.place, .int .i64 o.drop.win.fr, .int .i64 o.drop.win.to, .int .i64 o.drop.serv], .int .i64 (bn : Int), .agg #[.int .i64 (s.1.getD sp0).drv, .int .i64 (s.1.getD sp0).pick, .int .i64 (s.1.getD sp0).drop, .int .i64 (s.1.getD sp0).cost, .bool s.1.isSome, .int .i64 ((s.2 : Nat) : Int)]] u (fun e u' => e = .returned (srV t) ∧ Below u.heap.size u u')) := Lib.hid fun u hu => by
      have ho := HS3.out.cs.old.trans (hu.mono HS3.out.cs.old.size)
      refine (ralong12_any base (.pointer q) m d A2 n2 c2 os x o bn s u (HM.out.keep ho) (Recs.more (Recs.keep HO.out ho) ho.size) (Recs.more (Recs.keep HST.out ho) ho.size) hxc hx80 HN2.out HBN.out HSB.out sv HSV.out hsl).mono ?_
      rintro e u' ⟨rfl, hb⟩
      exact ⟨by rw [ht], hb⟩
    have HC : Hid (∀ u, Below w3.heap.size w3 u → u.cell? ⟨pb, off + k * 3, none⟩ = some (.int .i64 x.rt.drv) ∧ u.cell? ⟨pb, off + k * 3 + 1, none⟩ = some (.int .i64 x.rt.served) ∧ u.cell? ⟨pb, off + k * 3 + 2, none⟩ = some (.slice x.a x.n x.c)) := Lib.hid fun u hu => by
      obtain ⟨_, _, _, e0, _, h1, _, c0, c1, c2', _⟩ := (HP.out.keep (HS3.out.cs.old.trans (hu.mono HS3.out.cs.old.size))).at_ hlt
      injection e0 with e0
      injection e0 with e1 e2
      subst e1; subst e2
      rw [HXX.out] at h1
      injection h1 with h1
      subst h1
      exact ⟨c0, c1, c2'⟩
    clear hrt ht HN d0 d1 d2 d3 d4
    go_upto_region 10 with fail
    clear d5 c0 c1 c2' e1
    refine wp_region_lastL (l := [_, _, _, _, _, _, _, _, _, _, _]) (o := _) rfl (rowsRF w3.heap.size 1 36 [80, 81, 82, 83, 84, 85, 86, 87, 88, 89, 90, 17] [.pointer q, drvV d, .slice A2 n2 c2, .slice (some ⟨pb, off, none⟩) n3 c3, .int .i64 k, .pointer (some ⟨pb, off + k * 3, none⟩), rteV x, ordV o, .int .i64 (bn : Int), srV s, srV t] []) (by kernel_rfl) (by kernel_rfl) (by kernel_rfl) (fun _ _ => rfl) (by kernel_rfl) (by kernel_rfl) rowsRF.mon ?_ rfl ?_
    · refine ⟨?_, ?_, ?_, ?_, ?_, ?_, ?_, ?_, ?_, ?_, ?_, trivial⟩
      · exact rowsRF.pureStep rfl 80 rfl rfl (by simp) _ rfl (by kernel_rfl) fun listed a u D hI hr hn => exec_move (.inl rfl) (hI.out 0 (by kernel_rfl))
      · exact rowsRF.pureStep rfl 81 rfl rfl (by simp) _ rfl (by kernel_rfl) fun listed a u D hI hr hn => exec_load rfl (hI.out 19 (by kernel_rfl)) (run_load_dbx (HX3.out.below (OneR.below_drew hI.old)))
      · exact rowsRF.pureStep rfl 82 rfl rfl (by simp) _ rfl (by kernel_rfl) fun listed a u D hI hr hn => exec_move (.inl rfl) (hI.out 2 (by kernel_rfl))
      · exact rowsRF.pureStep rfl 83 rfl rfl (by simp) _ rfl (by kernel_rfl) fun listed a u D hI hr hn => exec_move (.inl rfl) (hI.out 3 (by kernel_rfl))
      · exact rowsRF.pureStep rfl 84 rfl rfl (by simp) _ rfl (by kernel_rfl) fun listed a u D hI hr hn => exec_move (.inl rfl) (hI.out 18 (by kernel_rfl))
      · exact rowsRF.pureStep rfl 85 rfl rfl (by simp) _ rfl (by kernel_rfl) fun listed a u D hI hr hn => exec_index_rte rfl (rowsRF.val hI hr hn 3 (by kernel_rfl) rfl (by kernel_rfl) rfl) (rowsRF.val hI hr hn 4 (by kernel_rfl) rfl (by kernel_rfl) rfl) hlt (by omega)
      · exact rowsRF.pureStep rfl 86 rfl rfl (by simp) _ rfl (by kernel_rfl) fun listed a u D hI hr hn => exec_load rfl (rowsRF.val hI hr hn 5 (by kernel_rfl) rfl (by kernel_rfl) rfl) (run_load_rx (HC.out _ (OneR.below_drew hI.old)))
      · exact rowsRF.pureStep rfl 87 rfl rfl (by simp) _ rfl (by kernel_rfl) fun listed a u D hI hr hn => exec_load rfl (hI.out 10 (by kernel_rfl)) (Slack.run_load_ord (HS3.out.next (OneR.below_drew hI.old)).cs.ord)
      · exact rowsRF.pureStep rfl 88 rfl rfl (by simp) _ rfl (by kernel_rfl) fun listed a u D hI hr hn => exec_move (.inl rfl) (hI.out 5 (by kernel_rfl))
      · exact rowsRF.pureStep rfl 89 rfl rfl (by simp) _ rfl (by kernel_rfl) fun listed a u D hI hr hn => exec_load rfl (hI.out 17 (by kernel_rfl)) (run_load_sr (HS3.out.next (OneR.below_drew hI.old)).sr)
      · exact rowsRF.callV rfl 90 rfl rfl (by simp) _ rfl (by kernel_rfl) fun listed a u D hI hr hn => ⟨_, _, ins_call7 rfl (rowsRF.val hI hr hn 0 (by kernel_rfl) rfl (by kernel_rfl) rfl) (rowsRF.val hI hr hn 1 (by kernel_rfl) rfl (by kernel_rfl) rfl) (rowsRF.val hI hr hn 2 (by kernel_rfl) rfl (by kernel_rfl) rfl) (rowsRF.val hI hr hn 6 (by kernel_rfl) rfl (by kernel_rfl) rfl) (rowsRF.val hI hr hn 7 (by kernel_rfl) rfl (by kernel_rfl) rfl) (rowsRF.val hI hr hn 8 (by kernel_rfl) rfl (by kernel_rfl) rfl) (rowsRF.val hI hr hn 9 (by kernel_rfl) rfl (by kernel_rfl) rfl) (by simp [go_sem]), HAL.out u (OneR.below_drew hI.old)⟩
    · intro listed a u D hI hall hr hn K hK
      have e90 : a.tmps.getD 90 undef = srV t := rowsRF.val hI hr hn 10 (by kernel_rfl) rfl (by kernel_rfl) rfl
      have e17 : a.tmps.getD 17 undef = .pointer (some ⟨w1.heap.size, 0, none⟩) := hI.out 17 (by kernel_rfl)
      have HS5 := Lib.hid (HS3.out.next (OneR.below_drew hI.old))
      have HQ := Lib.hid (HS5.out.put t)
      have hl := hI.fill [80, 81, 82, 83, 84, 85, 86, 87, 88, 89, 90] (by kernel_rfl)
      refine last_store rfl (exec_store rfl e17 e90 (run_store_sr HS5.out.sr t)) (hK _ _ ?_)
      clear hI hall hr hn hK HAL HC HX3 HS3 HS5 e17 e90
      obtain ⟨σ, hσ⟩ : ∃ σ : Nat → Value, ∀ t, a.tmps.getD t undef = σ t := ⟨_, fun _ => rfl⟩
      simp only [hσ] at hl
      clear hσ
      simp only [List.foldl_cons, List.foldl_nil, List.setIfInBounds_toArray, List.set_cons_zero, List.set_cons_succ] at hl
      subst hl
      obtain ⟨w6, hw6⟩ : ∃ v, putSr u w1.heap.size t = v := ⟨_, rfl⟩
      rw [hw6] at HQ ⊢
      clear hw6
      go_wp2_with fail
      go_roundw
      case rel => exact ⟨k + 1, t, by omega, by go_num, HQ, HN1, HTB⟩
      case measure => simp [intOf]; omega
#print axioms rcheapest_any
end Go.Proofs.Ytpigklkidagolaa.Insert

/-
  Single operations and regions' words, as chapter 12's walks meet them.
-/
namespace Go.Proofs.Ytpigklkidagolaa.Insert
open Go.ChangeShapes Go.WideShapes Go.ChangeAt Go.RowKit Go.Proofs.Ytpigklkidagolaa.Mem Go.Proofs.Ytpigklkidagolaa.GeoMath Go.Proofs.Ytpigklkidagolaa.FleetMath Go.Proofs.Ytpigklkidagolaa.PlanMath Go.Proofs.Ytpigklkidagolaa.CertMath Go.Proofs.Ytpigklkidagolaa.InsertMath Go.Proofs.Ytpigklkidagolaa.Rec Go.Proofs.Ytpigklkidagolaa.Geo Go.Proofs.Ytpigklkidagolaa.Span Go.Proofs.Ytpigklkidagolaa.Deal Go.Proofs.Ytpigklkidagolaa.Keep Go.Proofs.Ytpigklkidagolaa.Route Go.Proofs.Ytpigklkidagolaa.Plan Go.Proofs.Ytpigklkidagolaa.Cert
set_option linter.unusedVariables false
set_option linter.unusedSimpArgs false

theorem exec_index_drv {o : Oper} {a : Act} {u : World} {x y : Operand} {b off n c k : Nat} (h : o.op = .indexAddr 45 x y) (hx : a.eval x = .slice (some ⟨b, off, none⟩) n c) (hy : a.eval y = .int .i64 k) (hk : k < n) (hn : n ≤ 9223372036854775807) :
    (execOp a.eval o).run Try.prog u = .ok (.value (.pointer (some ⟨b, off + k * 6, none⟩))) u := by
  obtain ⟨ρ, hρ⟩ : ∃ ρ, a.eval = ρ := ⟨_, rfl⟩
  rw [hρ] at hx hy ⊢
  have hk1 : (k : Int) < (n : Int) := by omega
  unfold execOp
  rw [h]
  simp [go_sem, hx, hy, hk1]
theorem run_load_dx {u : World} {b i : Nat} {d : Drv} (h : u.cell? ⟨b, i, none⟩ = some (.int .i64 d.id) ∧ u.cell? ⟨b, i + 1, none⟩ = some (.int .i64 d.room) ∧ u.cell? ⟨b, i + 2, none⟩ = some (.int .i64 d.home) ∧ u.cell? ⟨b, i + 3, none⟩ = some (.int .i64 d.win.fr) ∧ u.cell? ⟨b, i + 4, none⟩ = some (.int .i64 d.win.to) ∧ u.cell? ⟨b, i + 5, none⟩ = some (.bool d.retired)) : (Instr.loadAt 33 (.pointer (some ⟨b, i, none⟩))).run Try.prog u = .ok (drvV d) u := by
  obtain ⟨h0, h1, h2, h3, h4, h5⟩ := h
  simp [go_sem, h0, h1, h2, h3, h4, h5]
theorem run_load_sl (T : TypeId) {u : World} {p : Addr} {A : Option Addr} {n c : Nat} (hT : T = 45 ∨ T = 34 ∨ T = 47) (h : u.cell? p = some (.slice A n c)) : (Instr.loadAt T (.pointer (some p))).run Try.prog u = .ok (.slice A n c) u := by
  rcases hT with rfl | rfl | rfl <;> simp [go_sem, h]
theorem exec_asp4 {o : Oper} {a : Act} {u : World} (h : o.op = .alloc 42) : (execOp a.eval o).run Try.prog u = .ok (.value (.pointer (some ⟨u.heap.size, 0, none⟩))) (u.alloc (.cells #[.int .i64 0, .int .i64 0, .int .i64 0, .int .i64 0] 42)) := by
  unfold execOp
  rw [h]
  simp [go_sem]
theorem run_store_s4 {u : World} {g : Nat} {a0 a1 a2 a3 : Value} (h : Blk u g 42 [a0, a1, a2, a3]) (y : Sp4) : (Instr.storeAt 42 (.pointer (some ⟨g, 0, none⟩)) (sp4V y)).run Try.prog u = .ok () (putS4 u g y) := by
  have c0 := h.cell (i := 0) rfl
  have c1 := h.cell (i := 1) rfl
  have c2 := h.cell (i := 2) rfl
  have c3 := h.cell (i := 3) rfl
  have hff := h.free
  have hcs := cell_apart g
  have hfs := frozen_set
  simp [go_sem, c0, c1, c2, c3, hff, hcs, hfs]
theorem putS4_of {u : World} {g : Nat} {a0 a1 a2 a3 : Value} (h : Blk u g 42 [a0, a1, a2, a3]) (y : Sp4) : Blk (putS4 u g y) g 42 [.int .i64 y.drv, .int .i64 y.pick, .int .i64 y.drop, .int .i64 y.cost] := ((((h.put 0 _).put 1 _).put 2 _).put 3 _)
theorem ins_call6 {P : Program} {o : Oper} {a : Act} {u : World} {f : Nat} {ts : Array TypeId} {x1 x2 x3 x4 x5 x6 : Operand} {v1 v2 v3 v4 v5 v6 : Value} (h : o.op = .call { callee := .value (.func f), args := #[x1, x2, x3, x4, x5, x6], argTypes := ts }) (h1 : a.eval x1 = v1) (h2 : a.eval x2 = v2) (h3 : a.eval x3 = v3) (h4 : a.eval x4 = v4) (h5 : a.eval x5 = v5) (h6 : a.eval x6 = v6)
    (hf : (callFunc f #[v1, v2, v3, v4, v5, v6]).run P u = .ok (.enter f #[v1, v2, v3, v4, v5, v6]) u) : (execOp a.eval o).run P u = .ok (.enter f #[v1, v2, v3, v4, v5, v6]) u := by
  have hf' : a.eval (.func f) = .func (.func f) #[] #[] := rfl
  obtain ⟨ρ, hρ⟩ : ∃ ρ, a.eval = ρ := ⟨_, rfl⟩
  rw [hρ] at h1 h2 h3 h4 h5 h6 hf' ⊢
  unfold execOp
  rw [h]
  simp [go_sem, hf', h1, h2, h3, h4, h5, h6, hf]
abbrev putRt (u : World) (g : Nat) (x : RM) : World := (((u.setCell ⟨g, 0, none⟩ (.int .i64 x.rt.drv)).setCell ⟨g, 1, none⟩ (.int .i64 x.rt.served)).setCell ⟨g, 2, none⟩ (.slice x.a x.n x.c))
theorem putRt_of {u : World} {g : Nat} {a0 a1 a2 : Value} (h : Blk u g 39 [a0, a1, a2]) (x : RM) : Blk (putRt u g x) g 39 [.int .i64 x.rt.drv, .int .i64 x.rt.served, .slice x.a x.n x.c] := (((h.put 0 _).put 1 _).put 2 _)
theorem run_store_rx {u : World} {g : Nat} {a0 a1 a2 : Value} (h : Blk u g 39 [a0, a1, a2]) (x : RM) : (Instr.storeAt 39 (.pointer (some ⟨g, 0, none⟩)) (rteV x)).run Try.prog u = .ok () (putRt u g x) := by
  have c0 := h.cell (i := 0) rfl
  have c1 := h.cell (i := 1) rfl
  have c2 := h.cell (i := 2) rfl
  have hff := h.free
  have hcs := cell_apart g
  have hfs := frozen_set
  simp [go_sem, c0, c1, c2, hff, hcs, hfs]
abbrev putDr (u : World) (g : Nat) (d : Drv) : World := ((((((u.setCell ⟨g, 0, none⟩ (.int .i64 d.id)).setCell ⟨g, 1, none⟩ (.int .i64 d.room)).setCell ⟨g, 2, none⟩ (.int .i64 d.home)).setCell ⟨g, 3, none⟩ (.int .i64 d.win.fr)).setCell ⟨g, 4, none⟩ (.int .i64 d.win.to)).setCell ⟨g, 5, none⟩ (.bool d.retired))
theorem putDr_of {u : World} {g : Nat} {a0 a1 a2 a3 a4 a5 : Value} (h : Blk u g 33 [a0, a1, a2, a3, a4, a5]) (d : Drv) : Blk (putDr u g d) g 33 [.int .i64 d.id, .int .i64 d.room, .int .i64 d.home, .int .i64 d.win.fr, .int .i64 d.win.to, .bool d.retired] := ((((((h.put 0 _).put 1 _).put 2 _).put 3 _).put 4 _).put 5 _)
theorem run_store_dx {u : World} {g : Nat} {a0 a1 a2 a3 a4 a5 : Value} (h : Blk u g 33 [a0, a1, a2, a3, a4, a5]) (d : Drv) : (Instr.storeAt 33 (.pointer (some ⟨g, 0, none⟩)) (drvV d)).run Try.prog u = .ok () (putDr u g d) := by
  have c0 := h.cell (i := 0) rfl
  have c1 := h.cell (i := 1) rfl
  have c2 := h.cell (i := 2) rfl
  have c3 := h.cell (i := 3) rfl
  have c4 := h.cell (i := 4) rfl
  have c5 := h.cell (i := 5) rfl
  have hff := h.free
  have hcs := cell_apart g
  have hfs := frozen_set
  simp [go_sem, c0, c1, c2, c3, c4, c5, hff, hcs, hfs]
theorem run_load_wd {u : World} {g : Nat} {x : Wd} (h : WBox u g x) : (Instr.loadAt 51 (.pointer (some ⟨g, 0, none⟩))).run Try.prog u = .ok (wdV x) u := by
  obtain ⟨h0, h1, h2, h3, h4⟩ := h.cells
  simp [go_sem, h0, h1, h2, h3, h4]
theorem exec_art {o : Oper} {a : Act} {u : World} (h : o.op = .alloc 39) : (execOp a.eval o).run Try.prog u = .ok (.value (.pointer (some ⟨u.heap.size, 0, none⟩))) (u.alloc (.cells #[.int .i64 0, .int .i64 0, .slice none 0 0] 39)) := by
  unfold execOp
  rw [h]
  simp [go_sem]
theorem exec_adr {o : Oper} {a : Act} {u : World} (h : o.op = .alloc 33) : (execOp a.eval o).run Try.prog u = .ok (.value (.pointer (some ⟨u.heap.size, 0, none⟩))) (u.alloc (.cells #[.int .i64 0, .int .i64 0, .int .i64 0, .int .i64 0, .int .i64 0, .bool false] 33)) := by
  unfold execOp
  rw [h]
  simp [go_sem]
#print axioms exec_adr
end Go.Proofs.Ytpigklkidagolaa.Insert
