/-
  RegionVal, RegionRow, RegionMay, Exec: one text.
-/
import Derived.Test.YtjklpdeeohhhnaaLibRows
/-
  A region that draws its order and only reckons values: all of them in a list, one step an operation. No program is named here.
-/
namespace Go.Proofs.Ytjklpdeeohhhnaa.Mem
open Go.ChangeShapes Go.WideShapes Go.ChangeAt Go.RowKit

def valRF (slots : List Nat) (vals : List Value) : RF := ⟨fun k => slots.getD k 0, fun _ => none, fun k v D _ => pureF (fun v => v = vals.getD k undef) v D⟩
theorem valRF.mon {slots : List Nat} {vals : List Value} (k : Nat) (v : Value) (D : Nat → Prop) (u u' : World) (h : (valRF slots vals).fact k v D u) (_ : ∀ b, D b → u'.heap[b]? = u.heap[b]?) : (valRF slots vals).fact k v D u' := h
section
variable {P : Program} {ops : Array Oper} {Q : Exit → Act → World → Prop} {w0 : World} {a0 : Act} {i : Nat} {o : Oper} {listed : Array Bool} {a : Act} {u : World} {D : Nat → Nat → Prop} {slots : List Nat} {vals : List Value}
/-- the value of an operation that is at hand -/
theorem valRF.val (h : RInv ops (valRF slots vals) w0 a0 listed a u D) (hr : ∀ e ∈ o.after, Region.binds .any e = true → listed.getD e.on false = true) (hn : listed.getD i false = false) (j : Nat) (hj : depB o j = true) {s : Nat} {v : Value} (hs : slots.getD j 0 = s) (hv : vals.getD j undef = v) : a.eval (.tmp s) = v := by
  have hg := (h.get hr hn j hj (.inl rfl)).1
  rw [← hs, ← hv]
  exact hg.1
theorem valRF.pureStep (hg : o.guard = none) (s : Nat) (hd : o.dst = some s) (hsl : slots.getD i 0 = s) (hin : s < a0.tmps.size) (v : Value) (hv : vals.getD i undef = v)
    (h : ∀ listed a u D, RInv ops (valRF slots vals) w0 a0 listed a u D → (∀ e ∈ o.after, Region.binds .any e = true → listed.getD e.on false = true) → listed.getD i false = false → (execOp a.eval o).run P u = .ok (.value v) u) : RStep P ops Q (valRF slots vals) w0 a0 i o :=
  RStep.pure hg s hd hsl hin fun listed a u D hI hr hn => ⟨v, h listed a u D hI hr hn, pureF.new hv.symm⟩
theorem valRF.callStep (hg : o.guard = none) (s : Nat) (hd : o.dst = some s) (hsl : slots.getD i 0 = s) (hin : s < a0.tmps.size) (v : Value) (hv : vals.getD i undef = v)
    (h : ∀ listed a u D, RInv ops (valRF slots vals) w0 a0 listed a u D → (∀ e ∈ o.after, Region.binds .any e = true → listed.getD e.on false = true) → listed.getD i false = false → ∃ f args, (execOp a.eval o).run P u = .ok (.enter f args) u ∧ Calls P f args u fun e u' => e = .returned v ∧ Below u.heap.size u u') : RStep P ops Q (valRF slots vals) w0 a0 i o :=
  RStep.call hg s hd hsl hin fun listed a u D hI hr hn => by
    obtain ⟨f, args, e1, hc⟩ := h listed a u D hI hr hn
    refine ⟨f, args, e1, hc.mono ?_⟩
    rintro e u' ⟨rfl, hb⟩
    exact ⟨v, fun _ => False, rfl, hI.old.trans (hb.mono hI.old.size), hb.size, fun b hlt _ => hb.block b hlt, fun b hd => hd.elim, pureF.new hv.symm⟩
/-! ### guarded operations -/
theorem guard_at {o : Oper} {j t : Nat} {b b' : Bool} (hg : o.guard = some (j, b)) (hj : (ops[j]?).bind (·.dst) = some t) (hv : a.tmps.getD t undef = .bool b') : Region.wanted o (yielded ops a.tmps) = (b' == b) := by
  have h1 : a.tmps[t]? = some (.bool b') := by
    cases h : a.tmps[t]? with
    | none => rw [Array.getD_eq_getD_getElem?, h] at hv; cases hv
    | some v => rw [Array.getD_eq_getD_getElem?, h] at hv; exact congrArg some hv
  have h2 : yielded ops a.tmps j = some b' := by
    unfold yielded
    rw [hj]
    simp [h1]
  unfold Region.wanted
  rw [hg]
  simp only [h2]
  cases b <;> cases b' <;> rfl
theorem guard_no {o : Oper} {j t : Nat} {b : Bool} (hg : o.guard = some (j, b)) (hj : (ops[j]?).bind (·.dst) = some t) (hv : a.tmps.getD t undef = .bool (!b)) : Region.wanted o (yielded ops a.tmps) = false := by
  rw [guard_at hg hj hv]; cases b <;> rfl
theorem guard_yes {o : Oper} {j t : Nat} {b : Bool} (hg : o.guard = some (j, b)) (hj : (ops[j]?).bind (·.dst) = some t) (hv : a.tmps.getD t undef = .bool b) : Region.wanted o (yielded ops a.tmps) = true := by
  rw [guard_at hg hj hv]; cases b <;> rfl
section
variable {R : RF}
theorem RStep.valW (t : Nat) (hd : o.dst = some t) (hsl : R.slot i = t) (hin : t < a0.tmps.size)
    (h : ∀ listed a u D, RInv ops R w0 a0 listed a u D → (∀ e ∈ o.after, Region.binds .any e = true → listed.getD e.on false = true) → listed.getD i false = false → Region.wanted o (yielded ops a.tmps) = true ∧ ∃ v u' D', (execOp a.eval o).run P u = .ok (.value v) u' ∧ RPostV R w0 i u D v u' D') : RStep P ops Q R w0 a0 i o := by
  intro listed a u D hI hr hn K hK
  obtain ⟨hw, v, u', D', h1, h2⟩ := h listed a u D hI hr hn
  rw [if_pos hw]
  unfold Oper.wp
  rw [h1]
  exact hK v u' D' (h2.post hd hsl (by rw [hI.tsz]; exact hin))
theorem RStep.pureW (t : Nat) (hd : o.dst = some t) (hsl : R.slot i = t) (hin : t < a0.tmps.size)
    (h : ∀ listed a u D, RInv ops R w0 a0 listed a u D → (∀ e ∈ o.after, Region.binds .any e = true → listed.getD e.on false = true) → listed.getD i false = false → Region.wanted o (yielded ops a.tmps) = true ∧ ∃ v, (execOp a.eval o).run P u = .ok (.value v) u ∧ R.fact i v (fun _ => False) u) : RStep P ops Q R w0 a0 i o :=
  RStep.valW t hd hsl hin fun listed a u D hI hr hn => by
    obtain ⟨hw, v, h1, h2⟩ := h listed a u D hI hr hn
    exact ⟨hw, v, u, _, h1, hI.old, Nat.le_refl _, fun _ _ _ => rfl, fun _ hb => hb.elim, h2⟩
theorem RStep.callW (t : Nat) (hd : o.dst = some t) (hsl : R.slot i = t) (hin : t < a0.tmps.size)
    (h : ∀ listed a u D, RInv ops R w0 a0 listed a u D → (∀ e ∈ o.after, Region.binds .any e = true → listed.getD e.on false = true) → listed.getD i false = false → Region.wanted o (yielded ops a.tmps) = true ∧ ∃ f args, (execOp a.eval o).run P u = .ok (.enter f args) u ∧ Calls P f args u fun e u' => ∃ v D', e = .returned v ∧ RPostV R w0 i u D v u' D') : RStep P ops Q R w0 a0 i o := by
  intro listed a u D hI hr hn K hK
  obtain ⟨hw, f, args, h1, h2⟩ := h listed a u D hI hr hn
  rw [if_pos hw]
  unfold Oper.wp
  rw [h1]
  refine h2.mono ?_
  rintro e u' ⟨v, D', rfl, h3⟩
  exact hK v u' D' (h3.post hd hsl (by rw [hI.tsz]; exact hin))
/-- an operation that is passed over -/
theorem RStep.skipW (t : Nat) (hd : o.dst = some t) (hsl : R.slot i = t) (hin : t < a0.tmps.size)
    (h : ∀ listed a u D, RInv ops R w0 a0 listed a u D → (∀ e ∈ o.after, Region.binds .any e = true → listed.getD e.on false = true) → listed.getD i false = false → Region.wanted o (yielded ops a.tmps) = false ∧ R.fact i undef (fun _ => False) u) : RStep P ops Q R w0 a0 i o := by
  intro listed a u D hI hr hn K hK
  obtain ⟨hw, h2⟩ := h listed a u D hI hr hn
  rw [if_neg (by rw [hw]; decide)]
  refine hK undef u (fun _ => False) (RPostV.post hd hsl (by rw [hI.tsz]; exact hin) ?_)
  exact ⟨hI.old, Nat.le_refl _, fun _ _ _ => rfl, fun _ hb => hb.elim, h2⟩
end
theorem valRF.skipStep (s : Nat) (hd : o.dst = some s) (hsl : slots.getD i 0 = s) (hin : s < a0.tmps.size) (hv : vals.getD i undef = undef)
    (h : ∀ listed a u D, RInv ops (valRF slots vals) w0 a0 listed a u D → (∀ e ∈ o.after, Region.binds .any e = true → listed.getD e.on false = true) → listed.getD i false = false → Region.wanted o (yielded ops a.tmps) = false) : RStep P ops Q (valRF slots vals) w0 a0 i o :=
  RStep.skipW s hd hsl hin fun listed a u D hI hr hn => ⟨h listed a u D hI hr hn, pureF.new hv.symm⟩
theorem valRF.pureStepG (s : Nat) (hd : o.dst = some s) (hsl : slots.getD i 0 = s) (hin : s < a0.tmps.size) (v : Value) (hv : vals.getD i undef = v)
    (h : ∀ listed a u D, RInv ops (valRF slots vals) w0 a0 listed a u D → (∀ e ∈ o.after, Region.binds .any e = true → listed.getD e.on false = true) → listed.getD i false = false → Region.wanted o (yielded ops a.tmps) = true ∧ (execOp a.eval o).run P u = .ok (.value v) u) : RStep P ops Q (valRF slots vals) w0 a0 i o :=
  RStep.pureW s hd hsl hin fun listed a u D hI hr hn => ⟨(h listed a u D hI hr hn).1, v, (h listed a u D hI hr hn).2, pureF.new hv.symm⟩
theorem valRF.callStepG (s : Nat) (hd : o.dst = some s) (hsl : slots.getD i 0 = s) (hin : s < a0.tmps.size) (v : Value) (hv : vals.getD i undef = v)
    (h : ∀ listed a u D, RInv ops (valRF slots vals) w0 a0 listed a u D → (∀ e ∈ o.after, Region.binds .any e = true → listed.getD e.on false = true) → listed.getD i false = false → Region.wanted o (yielded ops a.tmps) = true ∧ ∃ f args, (execOp a.eval o).run P u = .ok (.enter f args) u ∧ Calls P f args u fun e u' => e = .returned v ∧ Below u.heap.size u u') : RStep P ops Q (valRF slots vals) w0 a0 i o :=
  RStep.callW s hd hsl hin fun listed a u D hI hr hn => by
    obtain ⟨hw, f, args, e1, hc⟩ := h listed a u D hI hr hn
    refine ⟨hw, f, args, e1, hc.mono ?_⟩
    rintro e u' ⟨rfl, hb⟩
    exact ⟨v, fun _ => False, rfl, hI.old.trans (hb.mono hI.old.size), hb.size, fun b hlt _ => hb.block b hlt, fun b hd => hd.elim, pureF.new hv.symm⟩
end
#print axioms RStep.skipW
#print axioms valRF.callStep
end Go.Proofs.Ytjklpdeeohhhnaa.Mem

/-
  A region that draws its order and reckons values and rows of the call's own, made by calls, the last of which is assigned: one step an operation. No program is named here.
-/
namespace Go.Proofs.Ytjklpdeeohhhnaa.Mem
open Go.ChangeShapes Go.WideShapes Go.ChangeAt Go.RowKit

/-- rows: which operations leave a row, of how many elements, which cells; last: the operation whose row is assigned by the next one -/
def rowRF (base k : Nat) (e : TypeId) (slots : List Nat) (vals : List Value) (rows : List (Nat × Nat × List Value)) (last to : Nat) : RF :=
  ⟨fun i => slots.getD i 0, fun i => if i = last then some to else none, fun i v D u => match rows.find? (fun x => x.1 == i) with
    | some x => ownF base k e x.2.1 x.2.2 v D u
    | none => pureF (fun v => v = vals.getD i undef) v D⟩
theorem rowRF.mon {base k : Nat} {e : TypeId} {slots : List Nat} {vals : List Value} {rows : List (Nat × Nat × List Value)} {last to : Nat} (i : Nat) (v : Value) (D : Nat → Prop) (u u' : World) (h : (rowRF base k e slots vals rows last to).fact i v D u) (hk : ∀ b, D b → u'.heap[b]? = u.heap[b]?) : (rowRF base k e slots vals rows last to).fact i v D u' := by
  revert h
  show (match rows.find? (fun x => x.1 == i) with | some x => ownF base k e x.2.1 x.2.2 v D u | none => pureF (fun v => v = vals.getD i undef) v D) → (match rows.find? (fun x => x.1 == i) with | some x => ownF base k e x.2.1 x.2.2 v D u' | none => pureF (fun v => v = vals.getD i undef) v D)
  split
  · exact fun h => ownF.mon h hk
  · exact fun h => h
theorem ownK_lt {w : World} {base k n : Nat} {e : TypeId} {v : Value} {vs : List Value} (h : OwnK w base e k v n vs) {g : Nat} (hg : v.ownBlock = some g) : base ≤ g ∧ g < w.heap.size := by
  rcases h.1.2 with ⟨rfl, _⟩ | ⟨b, cap, cur, rfl, hb, hh, _⟩
  · cases hg
  · have : b = g := by simpa [Value.ownBlock] using hg
    subst this
    refine ⟨hb, ?_⟩
    rcases Nat.lt_or_ge b w.heap.size with hlt | hge
    · exact hlt
    · rw [Array.getElem?_eq_none hge] at hh; cases hh
section
variable {P : Program} {ops : Array Oper} {Q : Exit → Act → World → Prop} {w0 : World} {a0 : Act} {i : Nat} {o : Oper} {listed : Array Bool} {a : Act} {u : World} {D : Nat → Nat → Prop} {base k : Nat} {e : TypeId} {slots : List Nat} {vals : List Value} {rows : List (Nat × Nat × List Value)} {last to : Nat}
theorem rowRF.val (h : RInv ops (rowRF base k e slots vals rows last to) w0 a0 listed a u D) (hr : ∀ e ∈ o.after, Region.binds .any e = true → listed.getD e.on false = true) (hn : listed.getD i false = false) (j : Nat) (hj : depB o j = true) {s : Nat} {v : Value} (hl : j ≠ last) (hs : slots.getD j 0 = s) (hw : rows.find? (fun x => x.1 == j) = none) (hv : vals.getD j undef = v) : a.tmps.getD s undef = v := by
  have hg : (match rows.find? (fun x => x.1 == j) with | some x => ownF base k e x.2.1 x.2.2 (a.tmps.getD (slots.getD j 0) undef) (D j) u | none => pureF (fun v => v = vals.getD j undef) (a.tmps.getD (slots.getD j 0) undef) (D j)) := (h.get hr hn j hj (.inl (if_neg hl))).1
  rw [hw, hs, hv] at hg
  exact hg.1
theorem rowRF.row (h : RInv ops (rowRF base k e slots vals rows last to) w0 a0 listed a u D) (hr : ∀ e ∈ o.after, Region.binds .any e = true → listed.getD e.on false = true) (hn : listed.getD i false = false) (j : Nat) (hj : depB o j = true) {s n : Nat} {vs : List Value} (hl : j ≠ last) (hs : slots.getD j 0 = s) (hw : rows.find? (fun x => x.1 == j) = some (j, n, vs)) :
    ∃ A c, a.tmps.getD s undef = .slice A n c ∧ n ≤ c ∧ Recs u u.heap.size A n k vs := by
  have hg : (match rows.find? (fun x => x.1 == j) with | some x => ownF base k e x.2.1 x.2.2 (a.tmps.getD (slots.getD j 0) undef) (D j) u | none => pureF (fun v => v = vals.getD j undef) (a.tmps.getD (slots.getD j 0) undef) (D j)) := (h.get hr hn j hj (.inl (if_neg hl))).1
  rw [hw, hs] at hg
  exact OwnK.read hg.1
theorem rowRF.pureStep (hg : o.guard = none) (s : Nat) (hd : o.dst = some s) (hsl : slots.getD i 0 = s) (hin : s < a0.tmps.size) (v : Value) (hv : vals.getD i undef = v) (hw : rows.find? (fun x => x.1 == i) = none)
    (h : ∀ listed a u D, RInv ops (rowRF base k e slots vals rows last to) w0 a0 listed a u D → (∀ e ∈ o.after, Region.binds .any e = true → listed.getD e.on false = true) → listed.getD i false = false → (execOp a.eval o).run P u = .ok (.value v) u) : RStep P ops Q (rowRF base k e slots vals rows last to) w0 a0 i o :=
  RStep.pure hg s hd hsl hin fun listed a u D hI hr hn => ⟨v, h listed a u D hI hr hn, by
    show (match rows.find? (fun x => x.1 == i) with | some x => ownF base k e x.2.1 x.2.2 v (fun _ => False) u | none => pureF (fun v => v = vals.getD i undef) v (fun _ => False))
    rw [hw]
    exact pureF.new hv.symm⟩
theorem rowRF.callStep (hg : o.guard = none) (s : Nat) (hd : o.dst = some s) (hsl : slots.getD i 0 = s) (hin : s < a0.tmps.size) {n : Nat} {vs : List Value} (hw : rows.find? (fun x => x.1 == i) = some (i, n, vs)) (hb : base ≤ w0.heap.size)
    (h : ∀ listed a u D, RInv ops (rowRF base k e slots vals rows last to) w0 a0 listed a u D → (∀ e ∈ o.after, Region.binds .any e = true → listed.getD e.on false = true) → listed.getD i false = false → ∃ f args, (execOp a.eval o).run P u = .ok (.enter f args) u ∧ Calls P f args u fun en u' => ∃ v, en = .returned v ∧ Below u.heap.size u u' ∧ OwnK u' u.heap.size e k v n vs) : RStep P ops Q (rowRF base k e slots vals rows last to) w0 a0 i o :=
  RStep.call hg s hd hsl hin fun listed a u D hI hr hn => by
    obtain ⟨f, args, e1, hc⟩ := h listed a u D hI hr hn
    refine ⟨f, args, e1, hc.mono ?_⟩
    rintro en u' ⟨v, rfl, hbl, ho⟩
    refine ⟨v, fun b => v.ownBlock = some b, rfl, hI.old.trans (hbl.mono hI.old.size), hbl.size, fun b hlt _ => hbl.block b hlt, fun b hq => .inr (ownK_lt ho hq), ?_⟩
    show (match rows.find? (fun x => x.1 == i) with | some x => ownF base k e x.2.1 x.2.2 v (fun b => v.ownBlock = some b) u' | none => pureF (fun v => v = vals.getD i undef) v (fun b => v.ownBlock = some b))
    rw [hw]
    exact ⟨ho.lower (Nat.le_trans hb hI.old.size), fun b => Iff.rfl⟩
/-- the last row is assigned -/
theorem rowRF.takeStep (hg : o.guard = none) (s : Nat) (hd : o.dst = some s) (hsl : slots.getD i 0 = s) (hin : s < a0.tmps.size) {n : Nat} {vs : List Value} (hw : rows.find? (fun x => x.1 == i) = some (i, n, vs)) (hi : i = to) (hne : last ≠ to) (hj : depB o last = true) {s' : Nat} (hs' : slots.getD last 0 = s') (hw' : rows.find? (fun x => x.1 == last) = some (last, n, vs)) (ho : o.op = .move (.tmp s') ∨ o.op = .assign (.tmp s')) :
    RStep P ops Q (rowRF base k e slots vals rows last to) w0 a0 i o := by
  subst hi
  refine RStep.val hg s hd hsl hin fun listed a u D hI hr hn => ?_
  have he : (rowRF base k e slots vals rows last i).eater last = some i := if_pos rfl
  have hg : (match rows.find? (fun x => x.1 == last) with | some x => ownF base k e x.2.1 x.2.2 (a.tmps.getD (slots.getD last 0) undef) (D last) u | none => pureF (fun v => v = vals.getD last undef) (a.tmps.getD (slots.getD last 0) undef) (D last)) := (hI.get hr hn last hj (.inr he)).1
  rw [hw', hs'] at hg
  refine ⟨a.tmps.getD s' undef, u, D last, exec_move ho rfl, hI.old, Nat.le_refl _, fun _ _ _ => rfl, fun b hb => .inl ⟨last, he, hb⟩, ?_⟩
  show (match rows.find? (fun x => x.1 == i) with | some x => ownF base k e x.2.1 x.2.2 (a.tmps.getD s' undef) (D last) u | none => pureF (fun v => v = vals.getD i undef) (a.tmps.getD s' undef) (D last))
  rw [hw]
  exact hg
/-- the row at the end -/
theorem rowRF.done {l : List Oper} (h : RInv l.toArray (rowRF base k e slots vals rows last to) w0 a0 listed a u D) (hall : ∀ i, i < l.length → listed.getD i false = true) (hi : to < l.length) (hne : to ≠ last) {s n : Nat} {vs : List Value} (hs : slots.getD to 0 = s) (hw : rows.find? (fun x => x.1 == to) = some (to, n, vs)) : OwnK u base e k (a.tmps.getD s undef) n vs := by
  have he : (rowRF base k e slots vals rows last to).eater to = none := if_neg hne
  have hg : (match rows.find? (fun x => x.1 == to) with | some x => ownF base k e x.2.1 x.2.2 (a.tmps.getD (slots.getD to 0) undef) (D to) u | none => pureF (fun v => v = vals.getD to undef) (a.tmps.getD (slots.getD to 0) undef) (D to)) := h.fact to ⟨hall to hi, fun j hj => by rw [he] at hj; cases hj⟩
  rw [hw, hs] at hg
  exact hg.1
end
#print axioms rowRF.done
#print axioms rowRF.takeStep
end Go.Proofs.Ytjklpdeeohhhnaa.Mem

/-
  A region that draws its order and only reckons values, some of which are reckoned only where those ahead are false ('a || b || ..'): one step an operation. No program is named here.
-/
namespace Go.Proofs.Ytjklpdeeohhhnaa.Mem
open Go.ChangeShapes Go.WideShapes Go.ChangeAt Go.RowKit

/-- a value that is reckoned only where b is false -/
def mb (b : Bool) (v : Value) : Value := if b then undef else v
section
variable {P : Program} {ops : Array Oper} {Q : Exit → Act → World → Prop} {w0 : World} {a0 : Act} {i : Nat} {o : Oper} {listed : Array Bool} {a : Act} {u : World} {D : Nat → Nat → Prop} {slots : List Nat} {vals : List Value}
theorem valRF.got (h : RInv ops (valRF slots vals) w0 a0 listed a u D) (hr : ∀ e ∈ o.after, Region.binds .any e = true → listed.getD e.on false = true) (hn : listed.getD i false = false) (j : Nat) (hj : depB o j = true) {s : Nat} {v : Value} {b : Bool} (hs : slots.getD j 0 = s) (hv : vals.getD j undef = mb b v) (hb : b = false) : a.eval (.tmp s) = v := by
  rw [valRF.val h hr hn j hj hs hv, hb]
  rfl
theorem valRF.may (s : Nat) (hd : o.dst = some s) (hsl : slots.getD i 0 = s) (hin : s < a0.tmps.size) (b : Bool) (v : Value) (hv : vals.getD i undef = mb b v) (gi t : Nat) (hg : o.guard = some (gi, false)) (hj : (ops[gi]?).bind (·.dst) = some t)
    (h : ∀ listed a u D, RInv ops (valRF slots vals) w0 a0 listed a u D → (∀ e ∈ o.after, Region.binds .any e = true → listed.getD e.on false = true) → listed.getD i false = false → a.tmps.getD t undef = .bool b ∧ (b = false → (execOp a.eval o).run P u = .ok (.value v) u)) : RStep P ops Q (valRF slots vals) w0 a0 i o := by
  cases b with
  | true => exact valRF.skipStep s hd hsl hin hv fun listed a u D hI hr hn => guard_no hg hj (h listed a u D hI hr hn).1
  | false => exact valRF.pureStepG s hd hsl hin v hv fun listed a u D hI hr hn => ⟨guard_yes hg hj (h listed a u D hI hr hn).1, (h listed a u D hI hr hn).2 rfl⟩
end
section
variable {P : Program} {o : Oper} {a : Act} {u : World} {x y : Operand}
theorem exec_or {b c r : Bool} (h : o.op = .pick x (.const (.bool true)) y) (hp : a.eval x = .bool b) (hy : a.eval y = mb b (.bool c)) (hr : (b || c) = r) : (execOp a.eval o).run P u = .ok (.value (.bool r)) u := by
  have hc : a.eval (.const (.bool true)) = .bool true := rfl
  obtain ⟨ρ, hρ⟩ : ∃ ρ, a.eval = ρ := ⟨_, rfl⟩
  rw [hρ] at hp hy hc ⊢
  unfold execOp
  rw [h]
  subst hr
  cases b with
  | true => simp [go_sem, hp, hc]
  | false => simp [go_sem, hp, hy, mb]
end
#print axioms valRF.may
#print axioms exec_or
end Go.Proofs.Ytjklpdeeohhhnaa.Mem

/-
  Single operations run, for regions that draw (lib/XRegionVal); 'all but one block stays'. No function is named here.
-/
namespace Go.Proofs.Ytjklpdeeohhhnaa.Mem
open Go.ChangeShapes Go.WideShapes Go.ChangeAt Go.RowKit
section
variable {P : Program} {o : Oper} {a : Act} {u : World}
theorem op_nil {x : Operand} {p : Addr} (h : o.op = .nilCheck x) (hp : a.eval x = .pointer (some p)) : (execOp a.eval o).run P u = .ok (.value (.pointer (some p))) u := by
  unfold execOp
  rw [h]
  simp only [hp]
  simp [go_sem]
theorem op_field {t : TypeId} {x : Operand} {i : Nat} {p q : Value} (h : o.op = .fieldAddr t x i) (hp : a.eval x = p) (hr : (Instr.fieldAt t p i).run P u = .ok q u) : (execOp a.eval o).run P u = .ok (.value q) u := by
  unfold execOp
  rw [h]
  simp only [hp, Sem.run_bind, hr, Result.andThen_ok, Sem.run_pure]
theorem op_extract {x : Operand} {k : Nat} {vs : Array Value} {v : Value} (h : o.op = .extract x k) (hp : a.eval x = .tuple vs) (hv : vs[k]? = some v) : (execOp a.eval o).run P u = .ok (.value v) u := by
  unfold execOp
  rw [h]
  simp only [hp]
  simp [go_sem, hv]
theorem op_call1 {f : Nat} {ts : Array TypeId} {x : Operand} {v : Value} (h : o.op = .call { callee := .value (.func f), args := #[x], argTypes := ts }) (h1 : a.eval x = v) (hf : (callFunc f #[v]).run P u = .ok (.enter f #[v]) u) : (execOp a.eval o).run P u = .ok (.enter f #[v]) u := by
  have hf' : a.eval (.func f) = .func (.func f) #[] #[] := rfl
  obtain ⟨ρ, hρ⟩ : ∃ ρ, a.eval = ρ := ⟨_, rfl⟩
  rw [hρ] at h1 hf' ⊢
  unfold execOp
  rw [h]
  simp [go_sem, hf', h1, hf]
theorem op_call2 {f : Nat} {ts : Array TypeId} {x y : Operand} {v1 v2 : Value} (h : o.op = .call { callee := .value (.func f), args := #[x, y], argTypes := ts }) (h1 : a.eval x = v1) (h2 : a.eval y = v2) (hf : (callFunc f #[v1, v2]).run P u = .ok (.enter f #[v1, v2]) u) : (execOp a.eval o).run P u = .ok (.enter f #[v1, v2]) u := by
  have hf' : a.eval (.func f) = .func (.func f) #[] #[] := rfl
  obtain ⟨ρ, hρ⟩ : ∃ ρ, a.eval = ρ := ⟨_, rfl⟩
  rw [hρ] at h1 h2 hf' ⊢
  unfold execOp
  rw [h]
  simp [go_sem, hf', h1, h2, hf]
end
/-- w' is w but for what block g holds, and for what is new -/
structure Save (g : Nat) (w w' : World) : Prop where
  below : Below g w w'
  size : w.heap.size ≤ w'.heap.size
  other : ∀ h, h < w.heap.size → h ≠ g → w'.heap[h]? = w.heap[h]?
section
variable {g : Nat} {w u u' : World}
theorem Save.of (h : Below w.heap.size w u) (hg : g ≤ w.heap.size) : Save g w u := ⟨h.mono hg, h.size, fun _ hl _ => h.block _ hl⟩
theorem Save.refl (hg : g ≤ w.heap.size) : Save g w w := .of (Below.refl _ _) hg
theorem Save.set (h : Save g w u) (i : Nat) (x : Value) : Save g w (u.setCell ⟨g, i, none⟩ x) :=
  ⟨h.below.setCell (Nat.le_refl _) _, by simpa using h.size, fun q hq hn => (Below.heap_setCell u _ _ _ hn).trans (h.other q hq hn)⟩
theorem Save.next (h : Save g w u) (hb : Below u.heap.size u u') (hg : g ≤ u.heap.size) : Save g w u' :=
  ⟨h.below.trans (hb.mono hg), Nat.le_trans h.size hb.size, fun q hq hn => (hb.block q (Nat.lt_of_lt_of_le hq h.size)).trans (h.other q hq hn)⟩
theorem Save.trans (h : Save g w u) (h' : Save g u u') : Save g w u' :=
  ⟨h.below.trans h'.below, Nat.le_trans h.size h'.size, fun q hq hn => (h'.other q (Nat.lt_of_lt_of_le hq h.size) hn).trans (h.other q hq hn)⟩
end
#print axioms op_call2
end Go.Proofs.Ytjklpdeeohhhnaa.Mem
