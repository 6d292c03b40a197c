/-
  What the walks of 'one' and 'along' share: single operations, a site's box. No function is named.
-/
import Derived.Test.YtpigklkidagolaaCertRs
import Derived.Test.YtpigklkidagolaaCertMaths
import Derived.Test.YtpigklkidagolaaWordsRte
import Derived.Test.YtpigklkidagolaaLibRows
import Derived.Test.YtpigklkidagolaaPlanMaths
import Derived.Test.YtpigklkidagolaaPlanRights
import Derived.Test.YtpigklkidagolaaRegions
import Derived.Test.YtpigklkidagolaaRouteRs
import Derived.Deep.RegionLaw
import Derived.Deep.DeepCutAuto
namespace Go.Proofs.Ytpigklkidagolaa.Cert
open Go.ChangeShapes Go.WideShapes Go.ChangeAt Go.RowKit Go.Proofs.Ytpigklkidagolaa.Mem Go.Proofs.Ytpigklkidagolaa.GeoMath Go.Proofs.Ytpigklkidagolaa.FleetMath Go.Proofs.Ytpigklkidagolaa.PlanMath Go.Proofs.Ytpigklkidagolaa.CertMath Go.Proofs.Ytpigklkidagolaa.Rec Go.Proofs.Ytpigklkidagolaa.Geo Go.Proofs.Ytpigklkidagolaa.Span Go.Proofs.Ytpigklkidagolaa.Deal Go.Proofs.Ytpigklkidagolaa.Route Go.Proofs.Ytpigklkidagolaa.Plan
set_option linter.unusedVariables false
set_option linter.unusedSimpArgs false
namespace OneR
theorem below_drew {w u' : World} (hb : Below w.drew.heap.size w.drew u') : Below w.heap.size w u' := (Below.refl w.heap.size w).drew.trans hb
theorem cell_apart (g : Nat) : ∀ (u : World) (i j : Nat) (v : Value), i ≠ j → (u.setCell ⟨g, i, none⟩ v).cell? ⟨g, j, none⟩ = u.cell? ⟨g, j, none⟩ := fun u i j v h => World.cell?_setCell_other u _ _ v fun e => h (by injection e)
theorem frozen_set : ∀ (u : World) (a b : Addr) (v : Value), (u.setCell a v).frozen? b = u.frozen? b := fun u a b v => by simp
theorem exec_front_stp {o : Oper} {a : Act} {u : World} {x y : Operand} {A : Option Addr} {n c h : Nat} (ho : o.op = .slice 37 x none (some y) none) (hx : a.eval x = .slice A n c) (hy : a.eval y = .int .i64 (h : Int)) (h2 : h ≤ n) (h3 : n ≤ c) :
    (execOp a.eval o).run Try.prog u = .ok (.value (.slice A h c)) u := by
  have hsz : (sizeOf 36).run Try.prog u = .ok 2 u := by
    obtain ⟨i, hi, _, hz, _⟩ := info_parts infoStp
    simp [sizeOf, typeInfo, hi, hz]
  have q : h ≤ c := Nat.le_trans h2 h3
  have hz0 : A.map (·.add 0) = A := by
    cases A with
    | none => rfl
    | some ad => rfl
  have hr : (Instr.sliceAt 37 (.slice A n c) none (some (.int .i64 (h : Int))) none).run Try.prog u = .ok (.slice A h c) u := by
    simp [Instr.sliceAt, Instr.slice, Instr.sliceBounds, Instr.sliceBound, run_underlying Try.underlying37, asIntOf, hsz, q]
    intro _
    exact hz0
  obtain ⟨ρ, hρ⟩ : ∃ ρ, a.eval = ρ := ⟨_, rfl⟩
  rw [hρ] at hx hy ⊢
  unfold execOp
  rw [ho]
  simp only [hx, hy, Option.map_none, Option.map_some, Sem.run_bind, hr, Result.andThen_ok, Sem.run_pure]
section
variable {o : Oper} {a : Act} {u : World} {x y : Operand}
theorem exec_bstp {v : Int} (h : o.op = .build 36 #[(0, x)]) (hx : a.eval x = .int .i64 v) : (execOp a.eval o).run Try.prog u = .ok (.value (stpV ⟨v, false⟩)) u := by
  obtain ⟨ρ, hρ⟩ : ∃ ρ, a.eval = ρ := ⟨_, rfl⟩
  rw [hρ] at hx ⊢
  unfold execOp
  rw [h]
  simp [go_sem, hx]
theorem exec_neg {p : Int} {T : TypeId} {b : Bool} (h : o.op = .binOp .lss 3 x (.const (.int .i64 0)) T) (hp : a.eval x = .int .i64 p) (hb : decide (p < 0) = b) : (execOp a.eval o).run Try.prog u = .ok (.value (.bool b)) u := by
  have hc : a.eval (.const (.int .i64 0)) = .int .i64 0 := rfl
  obtain ⟨ρ, hρ⟩ : ∃ ρ, a.eval = ρ := ⟨_, rfl⟩
  rw [hρ] at hp hc ⊢
  unfold execOp
  rw [h, ← hb]
  simp [go_sem, hp, hc]
theorem exec_and {b c r : Bool} (h : o.op = .pick x y (.const (.bool false))) (hp : a.eval x = .bool b) (hy : a.eval y = .bool c) (hr : (b && c) = r) : (execOp a.eval o).run Try.prog u = .ok (.value (.bool r)) u := by
  have hc : a.eval (.const (.bool false)) = .bool false := rfl
  obtain ⟨ρ, hρ⟩ : ∃ ρ, a.eval = ρ := ⟨_, rfl⟩
  rw [hρ] at hp hy hc ⊢
  unfold execOp
  rw [h, ← hr]
  cases b <;> simp [go_sem, hp, hy, hc]
theorem exec_andf (h : o.op = .pick x y (.const (.bool false))) (hp : a.eval x = .bool false) : (execOp a.eval o).run Try.prog u = .ok (.value (.bool false)) u := by
  have hc : a.eval (.const (.bool false)) = .bool false := rfl
  obtain ⟨ρ, hρ⟩ : ∃ ρ, a.eval = ρ := ⟨_, rfl⟩
  rw [hρ] at hp hc ⊢
  unfold execOp
  rw [h]
  simp [go_sem, hp, hc]
theorem exec_index_o {b off n c k : Nat} (h : o.op = .indexAddr 34 x y) (hx : a.eval x = .slice (some ⟨b, off, none⟩) n c) (hy : a.eval y = .int .i64 k) (hk : k < n) (hn : n ≤ 9223372036854775807) :
    (execOp a.eval o).run Try.prog u = .ok (.value (.pointer (some ⟨b, off + k * 10, none⟩))) u := by
  obtain ⟨ρ, hρ⟩ : ∃ ρ, a.eval = ρ := ⟨_, rfl⟩
  rw [hρ] at hx hy ⊢
  have hk1 : (k : Int) < (n : Int) := by omega
  unfold execOp
  rw [h]
  simp [go_sem, hx, hy, hk1]
theorem exec_asi (h : o.op = .alloc 29) : (execOp a.eval o).run Try.prog u = .ok (.value (.pointer (some ⟨u.heap.size, 0, none⟩))) (u.alloc (.cells #[.int .i64 0, .int .i64 0, .int .i64 0, .int .i64 0] 29)) := by
  unfold execOp
  rw [h]
  simp [go_sem]
end
/-- the cells of an order -/
def OAt (u : World) (b i : Nat) (o : FleetMath.Ord) : Prop := u.cell? ⟨b, i, none⟩ = some (.int .i64 o.id) ∧ u.cell? ⟨b, i + 1, none⟩ = some (.int .i64 o.size) ∧ u.cell? ⟨b, i + 2, none⟩ = some (.int .i64 o.pick.place) ∧ u.cell? ⟨b, i + 3, none⟩ = some (.int .i64 o.pick.win.fr) ∧ u.cell? ⟨b, i + 4, none⟩ = some (.int .i64 o.pick.win.to) ∧ u.cell? ⟨b, i + 5, none⟩ = some (.int .i64 o.pick.serv) ∧ u.cell? ⟨b, i + 6, none⟩ = some (.int .i64 o.drop.place) ∧ u.cell? ⟨b, i + 7, none⟩ = some (.int .i64 o.drop.win.fr) ∧ u.cell? ⟨b, i + 8, none⟩ = some (.int .i64 o.drop.win.to) ∧ u.cell? ⟨b, i + 9, none⟩ = some (.int .i64 o.drop.serv)
theorem run_load_oo {u : World} {b i : Nat} {o : FleetMath.Ord} (h : OAt u b i o) : (Instr.loadAt 31 (.pointer (some ⟨b, i, none⟩))).run Try.prog u = .ok (ordV o) u := by
  obtain ⟨g0, g1, g2, g3, g4, g5, g6, g7, g8, g9⟩ := h
  simp [go_sem, g0, g1, g2, g3, g4, g5, g6, g7, g8, g9]
theorem run_load_st {u : World} {b i : Nat} {s : Stp} (h : u.cell? ⟨b, i, none⟩ = some (.int .i64 s.ord) ∧ u.cell? ⟨b, i + 1, none⟩ = some (.bool s.drop)) : (Instr.loadAt 36 (.pointer (some ⟨b, i, none⟩))).run Try.prog u = .ok (stpV s) u := by
  obtain ⟨c0, c1⟩ := h
  simp [go_sem, c0, c1]
abbrev putSi (u : World) (g : Nat) (si : Site) : World := ((((u.setCell ⟨g, 0, none⟩ (.int .i64 si.place)).setCell ⟨g, 1, none⟩ (.int .i64 si.win.fr)).setCell ⟨g, 2, none⟩ (.int .i64 si.win.to)).setCell ⟨g, 3, none⟩ (.int .i64 si.serv))
theorem putSi_box {u : World} {g : Nat} {a0 a1 a2 a3 : Value} (h : Blk u g 29 [a0, a1, a2, a3]) (si : Site) : SBox (putSi u g si) g si := ((((h.put 0 (.int .i64 si.place)).put 1 (.int .i64 si.win.fr)).put 2 (.int .i64 si.win.to)).put 3 (.int .i64 si.serv))
theorem run_store_si {u : World} {g : Nat} {si : Site} (h : Blk u g 29 [.int .i64 0, .int .i64 0, .int .i64 0, .int .i64 0]) : (Instr.storeAt 29 (.pointer (some ⟨g, 0, none⟩)) (siteV si)).run Try.prog u = .ok () (putSi u g si) := by
  have c0 := h.cell (i := 0) rfl
  have c1 := h.cell (i := 1) rfl
  have c2 := h.cell (i := 2) rfl
  have c3 := h.cell (i := 3) rfl
  have hff := h.free
  have hcs := cell_apart g
  have hfs := frozen_set
  simp [go_sem, c0, c1, c2, c3, hff, hcs, hfs]
/-- what stays in one: the driver's box -/
structure OS (w : World) (d : Drv) (u : World) : Prop where
  old : Below w.heap.size w u
  drv : DBox u w.heap.size d
theorem OS.next {w u u' : World} {d : Drv} (h : OS w d u) (hb : Below u.heap.size u u') : OS w d u' := ⟨h.old.trans (hb.mono h.old.size), h.drv.below hb⟩
theorem OS.drewN {w u : World} {d : Drv} (h : OS w d u) (k : Nat) : OS w d (u.drewN k) := h.next (below_drewN (Below.refl _ _) k)
theorem OS.start (w : World) (d : Drv) : OS w d (w.alloc (.cells #[.int .i64 d.id, .int .i64 d.room, .int .i64 d.home, .int .i64 d.win.fr, .int .i64 d.win.to, .bool d.retired] 33)) := ⟨(Below.refl _ _).alloc (Nat.le_refl _) _, Blk.new w _ _⟩
theorem stops_next {vs : List Vis} {stops : List Stp} {k : Nat} {x : Vis} {s : Stp} (h : (vs.take k).map (·.stop) = stops.take k) (hx : vs[k]? = some x) (hs : stops[k]? = some s) (e : x.stop = s) : (vs.take (k + 1)).map (·.stop) = stops.take (k + 1) := by
  rw [List.take_add_one, List.take_add_one, hx, hs, List.map_append, h]
  simp [e]
theorem stops_not {vs : List Vis} {stops : List Stp} {k : Nat} {x : Vis} {s : Stp} (hx : vs[k]? = some x) (hs : stops[k]? = some s) (e : x.stop ≠ s) : vs.map (·.stop) ≠ stops := by
  intro h
  have h1 : (vs.map (·.stop))[k]? = some x.stop := by rw [List.getElem?_map, hx]; rfl
  rw [h, hs] at h1
  injection h1 with h1
  exact e h1.symm
theorem stops_all {vs : List Vis} {stops : List Stp} {k : Nat} (h : (vs.take k).map (·.stop) = stops.take k) (h1 : vs.length ≤ k) (h2 : stops.length ≤ k) : vs.map (·.stop) = stops := by
  rw [List.take_of_length_le h1, List.take_of_length_le h2] at h
  exact h
end OneR
end Go.Proofs.Ytpigklkidagolaa.Cert
