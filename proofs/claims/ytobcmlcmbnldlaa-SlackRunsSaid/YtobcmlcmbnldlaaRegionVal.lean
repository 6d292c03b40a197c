/-
  A region that draws its order and only reckons values: all of them in a list, one step an operation. No program is named here.
-/
import Derived.Test.YtobcmlcmbnldlaaLibRows
namespace Go.Proofs.Ytobcmlcmbnldlaa.Mem
open Go.ChangeShapes Go.WideShapes Go.ChangeAt Go.RowKit

def valRF (slots : List Nat) (vals : List Value) : RF := ⟨fun k => slots.getD k 0, fun _ => none, fun k v D _ => pureF (fun v => v = vals.getD k undef) v D⟩
theorem valRF.mon {slots : List Nat} {vals : List Value} (k : Nat) (v : Value) (D : Nat → Prop) (u u' : World) (h : (valRF slots vals).fact k v D u) (_ : ∀ b, D b → u'.heap[b]? = u.heap[b]?) : (valRF slots vals).fact k v D u' := h
section
variable {P : Program} {ops : Array Oper} {Q : Exit → Act → World → Prop} {w0 : World} {a0 : Act} {i : Nat} {o : Oper} {listed : Array Bool} {a : Act} {u : World} {D : Nat → Nat → Prop} {slots : List Nat} {vals : List Value}
/-- the value of an operation that is at hand -/
theorem valRF.val (h : RInv ops (valRF slots vals) w0 a0 listed a u D) (hr : ∀ e ∈ o.after, Region.binds .any e = true → listed.getD e.on false = true) (hn : listed.getD i false = false) (j : Nat) (hj : depB o j = true) {s : Nat} {v : Value} (hs : slots.getD j 0 = s) (hv : vals.getD j undef = v) : a.eval (.tmp s) = v := by
  have hg := (h.get hr hn j hj (.inl rfl)).1
  rw [← hs, ← hv]
  exact hg.1
theorem valRF.pureStep (hg : o.guard = none) (s : Nat) (hd : o.dst = some s) (hsl : slots.getD i 0 = s) (hin : s < a0.tmps.size) (v : Value) (hv : vals.getD i undef = v)
    (h : ∀ listed a u D, RInv ops (valRF slots vals) w0 a0 listed a u D → (∀ e ∈ o.after, Region.binds .any e = true → listed.getD e.on false = true) → listed.getD i false = false → (execOp a.eval o).run P u = .ok (.value v) u) : RStep P ops Q (valRF slots vals) w0 a0 i o :=
  RStep.pure hg s hd hsl hin fun listed a u D hI hr hn => ⟨v, h listed a u D hI hr hn, pureF.new hv.symm⟩
theorem valRF.callStep (hg : o.guard = none) (s : Nat) (hd : o.dst = some s) (hsl : slots.getD i 0 = s) (hin : s < a0.tmps.size) (v : Value) (hv : vals.getD i undef = v)
    (h : ∀ listed a u D, RInv ops (valRF slots vals) w0 a0 listed a u D → (∀ e ∈ o.after, Region.binds .any e = true → listed.getD e.on false = true) → listed.getD i false = false → ∃ f args, (execOp a.eval o).run P u = .ok (.enter f args) u ∧ Calls P f args u fun e u' => e = .returned v ∧ Below u.heap.size u u') : RStep P ops Q (valRF slots vals) w0 a0 i o :=
  RStep.call hg s hd hsl hin fun listed a u D hI hr hn => by
    obtain ⟨f, args, e1, hc⟩ := h listed a u D hI hr hn
    refine ⟨f, args, e1, hc.mono ?_⟩
    rintro e u' ⟨rfl, hb⟩
    exact ⟨v, fun _ => False, rfl, hI.old.trans (hb.mono hI.old.size), hb.size, fun b hlt _ => hb.block b hlt, fun b hd => hd.elim, pureF.new hv.symm⟩
/-! ### guarded operations -/
theorem guard_at {o : Oper} {j t : Nat} {b b' : Bool} (hg : o.guard = some (j, b)) (hj : (ops[j]?).bind (·.dst) = some t) (hv : a.tmps.getD t undef = .bool b') : Region.wanted o (yielded ops a.tmps) = (b' == b) := by
  have h1 : a.tmps[t]? = some (.bool b') := by
    cases h : a.tmps[t]? with
    | none => rw [Array.getD_eq_getD_getElem?, h] at hv; cases hv
    | some v => rw [Array.getD_eq_getD_getElem?, h] at hv; exact congrArg some hv
  have h2 : yielded ops a.tmps j = some b' := by
    unfold yielded
    rw [hj]
    simp [h1]
  unfold Region.wanted
  rw [hg]
  simp only [h2]
  cases b <;> cases b' <;> rfl
theorem guard_no {o : Oper} {j t : Nat} {b : Bool} (hg : o.guard = some (j, b)) (hj : (ops[j]?).bind (·.dst) = some t) (hv : a.tmps.getD t undef = .bool (!b)) : Region.wanted o (yielded ops a.tmps) = false := by
  rw [guard_at hg hj hv]; cases b <;> rfl
theorem guard_yes {o : Oper} {j t : Nat} {b : Bool} (hg : o.guard = some (j, b)) (hj : (ops[j]?).bind (·.dst) = some t) (hv : a.tmps.getD t undef = .bool b) : Region.wanted o (yielded ops a.tmps) = true := by
  rw [guard_at hg hj hv]; cases b <;> rfl
section
variable {R : RF}
theorem RStep.valW (t : Nat) (hd : o.dst = some t) (hsl : R.slot i = t) (hin : t < a0.tmps.size)
    (h : ∀ listed a u D, RInv ops R w0 a0 listed a u D → (∀ e ∈ o.after, Region.binds .any e = true → listed.getD e.on false = true) → listed.getD i false = false → Region.wanted o (yielded ops a.tmps) = true ∧ ∃ v u' D', (execOp a.eval o).run P u = .ok (.value v) u' ∧ RPostV R w0 i u D v u' D') : RStep P ops Q R w0 a0 i o := by
  intro listed a u D hI hr hn K hK
  obtain ⟨hw, v, u', D', h1, h2⟩ := h listed a u D hI hr hn
  rw [if_pos hw]
  unfold Oper.wp
  rw [h1]
  exact hK v u' D' (h2.post hd hsl (by rw [hI.tsz]; exact hin))
theorem RStep.pureW (t : Nat) (hd : o.dst = some t) (hsl : R.slot i = t) (hin : t < a0.tmps.size)
    (h : ∀ listed a u D, RInv ops R w0 a0 listed a u D → (∀ e ∈ o.after, Region.binds .any e = true → listed.getD e.on false = true) → listed.getD i false = false → Region.wanted o (yielded ops a.tmps) = true ∧ ∃ v, (execOp a.eval o).run P u = .ok (.value v) u ∧ R.fact i v (fun _ => False) u) : RStep P ops Q R w0 a0 i o :=
  RStep.valW t hd hsl hin fun listed a u D hI hr hn => by
    obtain ⟨hw, v, h1, h2⟩ := h listed a u D hI hr hn
    exact ⟨hw, v, u, _, h1, hI.old, Nat.le_refl _, fun _ _ _ => rfl, fun _ hb => hb.elim, h2⟩
theorem RStep.callW (t : Nat) (hd : o.dst = some t) (hsl : R.slot i = t) (hin : t < a0.tmps.size)
    (h : ∀ listed a u D, RInv ops R w0 a0 listed a u D → (∀ e ∈ o.after, Region.binds .any e = true → listed.getD e.on false = true) → listed.getD i false = false → Region.wanted o (yielded ops a.tmps) = true ∧ ∃ f args, (execOp a.eval o).run P u = .ok (.enter f args) u ∧ Calls P f args u fun e u' => ∃ v D', e = .returned v ∧ RPostV R w0 i u D v u' D') : RStep P ops Q R w0 a0 i o := by
  intro listed a u D hI hr hn K hK
  obtain ⟨hw, f, args, h1, h2⟩ := h listed a u D hI hr hn
  rw [if_pos hw]
  unfold Oper.wp
  rw [h1]
  refine h2.mono ?_
  rintro e u' ⟨v, D', rfl, h3⟩
  exact hK v u' D' (h3.post hd hsl (by rw [hI.tsz]; exact hin))
/-- an operation that is passed over -/
theorem RStep.skipW (t : Nat) (hd : o.dst = some t) (hsl : R.slot i = t) (hin : t < a0.tmps.size)
    (h : ∀ listed a u D, RInv ops R w0 a0 listed a u D → (∀ e ∈ o.after, Region.binds .any e = true → listed.getD e.on false = true) → listed.getD i false = false → Region.wanted o (yielded ops a.tmps) = false ∧ R.fact i undef (fun _ => False) u) : RStep P ops Q R w0 a0 i o := by
  intro listed a u D hI hr hn K hK
  obtain ⟨hw, h2⟩ := h listed a u D hI hr hn
  rw [if_neg (by rw [hw]; decide)]
  refine hK undef u (fun _ => False) (RPostV.post hd hsl (by rw [hI.tsz]; exact hin) ?_)
  exact ⟨hI.old, Nat.le_refl _, fun _ _ _ => rfl, fun _ hb => hb.elim, h2⟩
end
theorem valRF.skipStep (s : Nat) (hd : o.dst = some s) (hsl : slots.getD i 0 = s) (hin : s < a0.tmps.size) (hv : vals.getD i undef = undef)
    (h : ∀ listed a u D, RInv ops (valRF slots vals) w0 a0 listed a u D → (∀ e ∈ o.after, Region.binds .any e = true → listed.getD e.on false = true) → listed.getD i false = false → Region.wanted o (yielded ops a.tmps) = false) : RStep P ops Q (valRF slots vals) w0 a0 i o :=
  RStep.skipW s hd hsl hin fun listed a u D hI hr hn => ⟨h listed a u D hI hr hn, pureF.new hv.symm⟩
theorem valRF.pureStepG (s : Nat) (hd : o.dst = some s) (hsl : slots.getD i 0 = s) (hin : s < a0.tmps.size) (v : Value) (hv : vals.getD i undef = v)
    (h : ∀ listed a u D, RInv ops (valRF slots vals) w0 a0 listed a u D → (∀ e ∈ o.after, Region.binds .any e = true → listed.getD e.on false = true) → listed.getD i false = false → Region.wanted o (yielded ops a.tmps) = true ∧ (execOp a.eval o).run P u = .ok (.value v) u) : RStep P ops Q (valRF slots vals) w0 a0 i o :=
  RStep.pureW s hd hsl hin fun listed a u D hI hr hn => ⟨(h listed a u D hI hr hn).1, v, (h listed a u D hI hr hn).2, pureF.new hv.symm⟩
theorem valRF.callStepG (s : Nat) (hd : o.dst = some s) (hsl : slots.getD i 0 = s) (hin : s < a0.tmps.size) (v : Value) (hv : vals.getD i undef = v)
    (h : ∀ listed a u D, RInv ops (valRF slots vals) w0 a0 listed a u D → (∀ e ∈ o.after, Region.binds .any e = true → listed.getD e.on false = true) → listed.getD i false = false → Region.wanted o (yielded ops a.tmps) = true ∧ ∃ f args, (execOp a.eval o).run P u = .ok (.enter f args) u ∧ Calls P f args u fun e u' => e = .returned v ∧ Below u.heap.size u u') : RStep P ops Q (valRF slots vals) w0 a0 i o :=
  RStep.callW s hd hsl hin fun listed a u D hI hr hn => by
    obtain ⟨hw, f, args, e1, hc⟩ := h listed a u D hI hr hn
    refine ⟨hw, f, args, e1, hc.mono ?_⟩
    rintro e u' ⟨rfl, hb⟩
    exact ⟨v, fun _ => False, rfl, hI.old.trans (hb.mono hI.old.size), hb.size, fun b hlt _ => hb.block b hlt, fun b hd => hd.elim, pureF.new hv.symm⟩
end
#print axioms RStep.skipW
#print axioms valRF.callStep
end Go.Proofs.Ytobcmlcmbnldlaa.Mem
