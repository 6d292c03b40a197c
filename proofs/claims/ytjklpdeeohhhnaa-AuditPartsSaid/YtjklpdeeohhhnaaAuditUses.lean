/-
  AuditUse, AuditUse2, AuditSpot: one text.
-/
import Derived.Test.YtjklpdeeohhhnaaAuditProgs
import Derived.Test.YtjklpdeeohhhnaaAuditRuns
import Derived.Test.YtjklpdeeohhhnaaCertUseP
import Derived.Test.YtjklpdeeohhhnaaAuditWords
import Derived.Test.YtjklpdeeohhhnaaLibRows
import Derived.Test.YtjklpdeeohhhnaaAuditRs
import Derived.Test.YtjklpdeeohhhnaaPlanFinds
import Derived.Test.YtjklpdeeohhhnaaCertOneW
/-
  The calls of chapter 11's statements, as their walks meet them: over a world that came in.
-/
namespace Go.Proofs.Ytjklpdeeohhhnaa.Audit
open Go.ChangeShapes Go.WideShapes Go.ChangeAt Go.RowKit Go.Proofs.Ytjklpdeeohhhnaa.Mem Go.Proofs.Ytjklpdeeohhhnaa.GeoMath Go.Proofs.Ytjklpdeeohhhnaa.FleetMath Go.Proofs.Ytjklpdeeohhhnaa.PlanMath Go.Proofs.Ytjklpdeeohhhnaa.CertMath Go.Proofs.Ytjklpdeeohhhnaa.AuditMath Go.Proofs.Ytjklpdeeohhhnaa.Rec Go.Proofs.Ytjklpdeeohhhnaa.Geo Go.Proofs.Ytjklpdeeohhhnaa.Span Go.Proofs.Ytjklpdeeohhhnaa.Deal Go.Proofs.Ytjklpdeeohhhnaa.Keep Go.Proofs.Ytjklpdeeohhhnaa.Route Go.Proofs.Ytjklpdeeohhhnaa.Plan Go.Proofs.Ytjklpdeeohhhnaa.Cert
set_option linter.unusedVariables false
set_option linter.unusedSimpArgs false

/-- a list of Troubles in memory of the call's own -/
structure TB (u u' : World) (B : Option Addr) (c : Nat) (t : List Trb) : Prop where
  below : Below u.heap.size u u'
  own : OwnK u' u.heap.size 47 3 (.slice B t.length c) t.length (trbsV t)
section
variable {W u u' u'' : World} {q r : Option Addr} {m : Option Mp} {x : Wd} {ds : List Drv} {os : List FleetMath.Ord} {ps : List RM} {t : List Trb} {B : Option Addr} {c : Nat}
theorem TB.of {e : Ending} {k : Nat} {vs : List Value} (h : MakesK u 47 3 t.length (trbsV t) e u') : ∃ B c, e = .returned (.slice B t.length c) ∧ TB u u' B c t := by
  obtain ⟨v, rfl, hb, ho⟩ := h
  obtain ⟨B, c, rfl⟩ := ho.slice
  exact ⟨B, c, rfl, hb, ho⟩
theorem own_trbs {base : Nat} (h : OwnK u base 47 3 (.slice B t.length c) t.length (trbsV t)) : Trbs u u.heap.size B t.length t := by
  obtain ⟨A, c', e, _, hr⟩ := h.read
  injection e with e1 _ _
  subst e1
  exact hr
theorem use_audit (h : CR W q r m x ds os ps u) (hr : auditM m ds os (ps.map (·.rt)) = t) :
    Calls Try.prog 10 #[.pointer q, x.ds.v, x.os.v, x.pl.v] u fun e u' => ∃ B c, e = .returned (.slice B t.length c) ∧ TB u u' B c t := by
  refine (paudit_any W.heap.size q m _ _ _ ds _ _ _ os _ _ _ ps u x.ds.h x.os.h x.pl.h h.map h.drvs h.ords h.plns).mono ?_
  rintro e u' hm
  rw [hr] at hm
  exact TB.of (k := 0) (vs := []) hm
end
#print axioms use_audit
end Go.Proofs.Ytjklpdeeohhhnaa.Audit

/-
  .. and the document's own answer.
-/
namespace Go.Proofs.Ytjklpdeeohhhnaa.Audit
open Go.ChangeShapes Go.WideShapes Go.ChangeAt Go.RowKit Go.Proofs.Ytjklpdeeohhhnaa.Mem Go.Proofs.Ytjklpdeeohhhnaa.GeoMath Go.Proofs.Ytjklpdeeohhhnaa.FleetMath Go.Proofs.Ytjklpdeeohhhnaa.PlanMath Go.Proofs.Ytjklpdeeohhhnaa.CertMath Go.Proofs.Ytjklpdeeohhhnaa.AuditMath Go.Proofs.Ytjklpdeeohhhnaa.Rec Go.Proofs.Ytjklpdeeohhhnaa.Geo Go.Proofs.Ytjklpdeeohhhnaa.Span Go.Proofs.Ytjklpdeeohhhnaa.Deal Go.Proofs.Ytjklpdeeohhhnaa.Keep Go.Proofs.Ytjklpdeeohhhnaa.Route Go.Proofs.Ytjklpdeeohhhnaa.Plan Go.Proofs.Ytjklpdeeohhhnaa.Cert
set_option linter.unusedVariables false
set_option linter.unusedSimpArgs false

theorem use_raudit {W u : World} {q r : Option Addr} {m : Option Mp} {x : Wd} {ds : List Drv} {os : List FleetMath.Ord} {ps l' : List RM} {t : List Trb} {A : Option Addr} {n c : Nat} (h : CR W q r m x ds os ps u) (hp : Plns u u.heap.size A n l') (he : l'.map (·.rt) = ps.map (·.rt)) (hr : auditM m ds os (ps.map (·.rt)) = t) :
    Calls Try.prog 15 #[.pointer r, x.ds.v, x.os.v, .slice A n c] u fun e u' => ∃ B c, e = .returned (.slice B t.length c) ∧ TB u u' B c t := by
  refine (raudit_any W.heap.size _ m _ _ _ ds _ _ _ os _ _ _ l' u h.rmap h.drvs h.ords hp).mono ?_
  rintro e u' hm
  rw [he, hr] at hm
  exact TB.of (k := 0) (vs := []) hm
#print axioms use_raudit
end Go.Proofs.Ytjklpdeeohhhnaa.Audit

/-
  A spot's box, and plan.Find called into one: what AuditNone and AuditParts share. Written by tools/gen_anone.py.
-/
namespace Go.Proofs.Ytjklpdeeohhhnaa.Audit
open Go.ChangeShapes Go.WideShapes Go.ChangeAt Go.RowKit Go.Proofs.Ytjklpdeeohhhnaa.Mem Go.Proofs.Ytjklpdeeohhhnaa.GeoMath Go.Proofs.Ytjklpdeeohhhnaa.FleetMath Go.Proofs.Ytjklpdeeohhhnaa.PlanMath Go.Proofs.Ytjklpdeeohhhnaa.CertMath Go.Proofs.Ytjklpdeeohhhnaa.AuditMath Go.Proofs.Ytjklpdeeohhhnaa.Rec Go.Proofs.Ytjklpdeeohhhnaa.Geo Go.Proofs.Ytjklpdeeohhhnaa.Span Go.Proofs.Ytjklpdeeohhhnaa.Deal Go.Proofs.Ytjklpdeeohhhnaa.Keep Go.Proofs.Ytjklpdeeohhhnaa.Route Go.Proofs.Ytjklpdeeohhhnaa.Plan Go.Proofs.Ytjklpdeeohhhnaa.Cert
set_option linter.unusedVariables false
set_option linter.unusedSimpArgs false
theorem spot_form (r : Option Spt) : ∃ (d p q : Int) (b : Bool), spotV r = .tuple #[.agg #[.int .i64 d, .int .i64 p, .int .i64 q, .int .i64 0], .bool b] ∧ b = r.isSome := by
  cases r with
  | none => exact ⟨0, 0, 0, false, rfl, rfl⟩
  | some s => exact ⟨s.drv, s.pick, s.drop, true, rfl, rfl⟩
theorem run_load_pln {u : World} {p : Addr} {A : Option Addr} {n c : Nat} (h : u.cell? p = some (.slice A n c)) : (Instr.loadAt 42 (.pointer (some p))).run Try.prog u = .ok (.slice A n c) u := by simp [go_sem, h]
theorem run_load_ors {u : World} {p : Addr} {A : Option Addr} {n c : Nat} (h : u.cell? p = some (.slice A n c)) : (Instr.loadAt 37 (.pointer (some p))).run Try.prog u = .ok (.slice A n c) u := by simp [go_sem, h]
theorem exec_asp {o : Oper} {a : Act} {u : World} (h : o.op = .alloc 67) : (execOp a.eval o).run Try.prog u = .ok (.value (.pointer (some ⟨u.heap.size, 0, none⟩))) (u.alloc (.cells #[.int .i64 0, .int .i64 0, .int .i64 0, .int .i64 0] 67)) := by
  unfold execOp
  rw [h]
  simp [go_sem]
abbrev putSp (u : World) (g : Nat) (d p q : Int) : World := ((((u.setCell ⟨g, 0, none⟩ (.int .i64 d)).setCell ⟨g, 1, none⟩ (.int .i64 p)).setCell ⟨g, 2, none⟩ (.int .i64 q)).setCell ⟨g, 3, none⟩ (.int .i64 0))
theorem run_store_sp {u : World} {g : Nat} {d p q : Int} (h : Blk u g 67 [.int .i64 0, .int .i64 0, .int .i64 0, .int .i64 0]) : (Instr.storeAt 67 (.pointer (some ⟨g, 0, none⟩)) (.agg #[.int .i64 d, .int .i64 p, .int .i64 q, .int .i64 0])).run Try.prog u = .ok () (putSp u g d p q) := by
  have c0 := h.cell (i := 0) rfl
  have c1 := h.cell (i := 1) rfl
  have c2 := h.cell (i := 2) rfl
  have c3 := h.cell (i := 3) rfl
  have hff := h.free
  have hcs := OneR.cell_apart g
  have hfs := OneR.frozen_set
  simp [go_sem, c0, c1, c2, c3, hff, hcs, hfs]
theorem putSp_box {u : World} {g : Nat} {d p q : Int} {a0 a1 a2 a3 : Value} (h : Blk u g 67 [a0, a1, a2, a3]) : Blk (putSp u g d p q) g 67 [.int .i64 d, .int .i64 p, .int .i64 q, .int .i64 0] := (((h.put 0 (.int .i64 d)).put 1 (.int .i64 p)).put 2 (.int .i64 q)).put 3 (.int .i64 0)
theorem use_pfind {W u : World} {q r : Option Addr} {m : Option Mp} {x : Wd} {ds : List Drv} {os : List FleetMath.Ord} {ps : List RM} (h : CR W q r m x ds os ps u) {o sd sp sq : Int} {sb : Bool} (hs : spotV (findP (ps.map (·.rt)) o) = .tuple #[.agg #[.int .i64 sd, .int .i64 sp, .int .i64 sq, .int .i64 0], .bool sb]) :
    Calls Try.prog 20 #[.slice x.pl.a x.pl.n x.pl.c, .int .i64 o] u (fun e w' => e = .returned (.tuple #[.agg #[.int .i64 sd, .int .i64 sp, .int .i64 sq, .int .i64 0], .bool sb]) ∧ Below u.heap.size u w') := by
  rw [← hs]
  exact pfindp_any _ _ _ ps o u h.plns
#print axioms run_store_sp
end Go.Proofs.Ytjklpdeeohhhnaa.Audit
