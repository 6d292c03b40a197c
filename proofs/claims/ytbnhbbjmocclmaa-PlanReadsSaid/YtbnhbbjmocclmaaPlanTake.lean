/-
  A plan in the making while a reader, made earlier, goes on: the state, and what keeps it.
-/
import Derived.Test.YtbnhbbjmocclmaaPlanPDecode
import Derived.Test.YtbnhbbjmocclmaaWireRRead2
namespace Go.Proofs.Ytbnhbbjmocclmaa.Plan
open Go.ChangeShapes Go.WideShapes Go.ChangeAt Go.RowKit Go.Proofs.Ytbnhbbjmocclmaa.Mem Go.Proofs.Ytbnhbbjmocclmaa.FleetMath Go.Proofs.Ytbnhbbjmocclmaa.PlanMath Go.Proofs.Ytbnhbbjmocclmaa.Rec Go.Proofs.Ytbnhbbjmocclmaa.WireMath Go.Proofs.Ytbnhbbjmocclmaa.Wire
set_option linter.unusedVariables false

/-- the list of routes v, made from block base on -/
structure QP (base : Nat) (w : World) (v : Value) (l : List RM) : Prop where
  size : base ≤ w.heap.size
  own : OwnK w base 26 3 v l.length (rmsV l)
  each : ∀ r ∈ l, OwnK w base 23 2 r.v r.n (stpsV r.rt.stops) ∧ Two r.v v
/-- the world as it stands, cut off at block base -/
def cutW (w : World) (base : Nat) : World := { w with heap := w.heap.extract 0 base }
theorem cutW_size {w : World} {base : Nat} (h : base ≤ w.heap.size) : (cutW w base).heap.size = base := by simp [cutW]; omega
theorem cutW_below {w : World} {base : Nat} (h : base ≤ w.heap.size) : Below (cutW w base).heap.size (cutW w base) w := by
  rw [cutW_size h]
  refine ⟨rfl, rfl, rfl, by rw [cutW_size h]; exact h, fun k hk => ?_⟩
  simp [cutW, Array.getElem?_extract]
  omega
section
variable {base g b : Nat} {w w' : World} {v v' u u' : Value} {l : List RM} {f : List Stp} {bx : List Value}
theorem QP.np (h : QP base w v l) : NewP (cutW w base) w v l := by
  refine ⟨cutW_below h.size, ?_, ?_⟩
  · rw [cutW_size h.size]; exact h.own
  · rw [cutW_size h.size]; exact h.each
theorem NewP.qp {w0 : World} (h : NewP w0 w v l) : QP w0.heap.size w v l := ⟨h.old.size, h.own, h.each⟩
theorem QP.nil (w : World) : QP w.heap.size w (.slice none 0 0) [] := ⟨Nat.le_refl _, OwnK.nil _ _ _ _, fun r h => by cases h⟩
theorem QP.save (h : QP base w v l) (hs : Save g w w') (hg : g < base) : QP base w' v l :=
  ⟨Nat.le_trans h.size hs.size, OwnK.save h.own hs fun q hq => by have := (own_blk h.own hq).1; omega, fun r hr => ⟨OwnK.save (h.each r hr).1 hs fun q hq => by have := (own_blk (h.each r hr).1 hq).1; omega, (h.each r hr).2⟩⟩
theorem QP.keep (h : QP base w v l) (hb : Below w.heap.size w w') : QP base w' v l := ⟨Nat.le_trans h.size hb.size, h.own.keep hb (Nat.le_refl _), fun r hr => ⟨(h.each r hr).1.keep hb (Nat.le_refl _), (h.each r hr).2⟩⟩
/-- .. with the next route in a box, its stops in a row -/
structure TK (base : Nat) (w : World) (v : Value) (l : List RM) (b : Nat) (bx : List Value) (u : Value) (f : List Stp) : Prop where
  plan : QP base w v l
  box : Blk w b 26 bx
  ge : base ≤ b
  row : OwnK w base 23 2 u f.length (stpsV f)
  two : Two u v
  apart : ∀ r ∈ l, Two u r.v
  bu : u.ownBlock ≠ some b
  bv : v.ownBlock ≠ some b
  br : ∀ r ∈ l, r.v.ownBlock ≠ some b
theorem TK.start (h : QP base w v l) (bx : List Value) : TK base (w.alloc (.cells bx.toArray 26)) v l w.heap.size bx (.slice none 0 0) [] := by
  have hb : Below w.heap.size w (w.alloc (.cells bx.toArray 26)) := (Below.refl _ _).alloc (Nat.le_refl _) _
  refine ⟨h.keep hb, Blk.new _ _ _, h.size, OwnK.nil _ _ _ _, Two.nil _, fun _ _ => Two.nil _, (fun h => by cases h), fun hq => ?_, fun r hr hq => ?_⟩
  · have := (own_blk h.own hq).2; omega
  · have := (own_blk (h.each r hr).1 hq).2; omega
theorem TK.save (h : TK base w v l b bx u f) (hs : Save g w w') (hg : g < base) : TK base w' v l b bx u f := by
  have hge := h.ge
  exact ⟨h.plan.save hs hg, (hs.other b h.box.lt (by omega)).trans h.box, h.ge, OwnK.save h.row hs (fun q hq => by have := (own_blk h.row hq).1; omega), h.two, h.apart, h.bu, h.bv, h.br⟩
theorem TK.keep (h : TK base w v l b bx u f) (hb : Below w.heap.size w w') : TK base w' v l b bx u f :=
  ⟨h.plan.keep hb, h.box.below hb h.box.lt, h.ge, h.row.keep hb (Nat.le_refl _), h.two, h.apart, h.bu, h.bv, h.br⟩
/-- an own row keeps when another block is written -/
theorem OwnK.setOther {n k i : Nat} {e : TypeId} {vs : List Value} {x : Value} (h : OwnK w base e k u n vs) (hn : u.ownBlock ≠ some b) : OwnK (w.setCell ⟨b, i, none⟩ x) base e k u n vs := by
  obtain ⟨⟨h1, h2⟩, h3⟩ := h
  refine ⟨⟨h1, ?_⟩, h3⟩
  rcases h2 with h2 | ⟨q, cap, cur, e, hq, hh, hr⟩
  · exact .inl h2
  · exact .inr ⟨q, cap, cur, e, hq, (Below.heap_setCell _ _ _ _ (fun e' => hn (by subst e'; rw [e]; rfl))).trans hh, hr⟩
theorem TK.set (h : TK base w v l b bx u f) (i : Nat) (x : Value) : TK base (w.setCell ⟨b, i, none⟩ x) v l b (bx.set i x) u f := by
  have hsz : (w.setCell ⟨b, i, none⟩ x).heap.size = w.heap.size := by simp [World.setCell]
  exact ⟨⟨by rw [hsz]; exact h.plan.size, OwnK.setOther h.plan.own h.bv, fun r hr => ⟨OwnK.setOther (h.plan.each r hr).1 (h.br r hr), (h.plan.each r hr).2⟩⟩, h.box.put i x, h.ge, OwnK.setOther h.row h.bu, h.two, h.apart, h.bu, h.bv, h.br⟩
theorem TK.cell (h : TK base w v l b bx u f) {i : Nat} (hi : i < bx.length) : (∃ z, w.cell? ⟨b, i, none⟩ = some z) ∧ w.frozen? ⟨b, i, none⟩ = false := ⟨⟨_, h.box.cell (List.getElem?_eq_getElem hi)⟩, h.box.free _⟩
/-- a stop more in the row -/
theorem TK.grow {x : Stp} (h : TK base w v l b bx u f) (ho : OwnK w' base 23 2 u' (f.length + 1) (stpsV f ++ [.int .i64 x.ord, .bool x.drop])) (hg : w.grownBy w' u.ownBlock)
    (hn : u'.ownBlock = u.ownBlock ∨ u'.ownBlock = some w.heap.size) : TK base w' v l b bx u' (f ++ [x]) := by
  have hR : RowP (cutW w base) w v l u f := ⟨h.plan.np, by rw [cutW_size h.plan.size]; exact h.row, h.two, h.apart⟩
  have hR2 := hR.grow (x := x) (w' := w') (u' := u') (by rw [cutW_size h.plan.size]; exact ho) hg hn
  have hq := hR2.plan.qp
  rw [cutW_size h.plan.size] at hq
  have hrow := hR2.own
  rw [cutW_size h.plan.size] at hrow
  refine ⟨hq, (hg.block b h.box.lt fun e => h.bu e.symm).trans h.box, h.ge, hrow, hR2.two, hR2.apart, fun e => ?_, h.bv, h.br⟩
  rcases hn with hn | hn
  · exact h.bu (by rw [← hn]; exact e)
  · rw [hn] at e
    injection e with e
    have := h.box.lt
    omega
/-- the route is put behind the others -/
theorem TK.push {r : RM} (h : TK base w v l b bx u f) (hu : u = r.v) (hs : r.rt.stops = f) (ho : OwnK w' base 26 3 v' (l.length + 1) (rmsV l ++ rmL r)) (hg : w.grownBy w' v.ownBlock)
    (hn : v'.ownBlock = v.ownBlock ∨ v'.ownBlock = some w.heap.size) : QP base w' v' (l ++ [r]) := by
  have hR : RowP (cutW w base) w v l u f := ⟨h.plan.np, by rw [cutW_size h.plan.size]; exact h.row, h.two, h.apart⟩
  have hR2 := hR.push (r := r) (w' := w') (v' := v') hu hs (by rw [cutW_size h.plan.size]; exact ho) hg hn
  have hq := hR2.qp
  rw [cutW_size h.plan.size] at hq
  exact hq
/-- what grows above base leaves the reader -/
theorem RRef.grown {xs : List UInt8} {r : Rd} {row : Option Nat} (h : RRef w g xs r) (hg : w.grownBy w' row) (hn : ∀ q, row = some q → g < q) : RRef w' g xs r := by
  obtain ⟨⟨A, c, h1, h2, h3⟩, h4, h5⟩ := h
  have hb : ∀ q, q ≤ g → w'.heap[q]? = w.heap[q]? := fun q hq => hg.block q (by have := h1.lt; omega) fun e => by have := hn q e.symm; omega
  refine ⟨⟨A, c, (hb g (Nat.le_refl _)).trans h1, Reads.same h2 fun p hp => ?_, h3⟩, h4, h5⟩
  unfold World.cell?
  rw [hb p.block (by omega)]
theorem Save.grown {row : Option Nat} {w0 : World} (h : Save g w0 w) (hg : w.grownBy w' row) (hn : ∀ q, row = some q → w0.heap.size ≤ q) (hgl : g < w0.heap.size) : Save g w0 w' := by
  have hb : ∀ q, q < w0.heap.size → w'.heap[q]? = w.heap[q]? := fun q hq => hg.block q (by have := h.size; omega) fun e => by have := hn q e.symm; omega
  exact ⟨⟨hg.os.trans h.below.os, hg.tape.trans h.below.tape, hg.output.trans h.below.output, Nat.le_trans h.size hg.size, fun q hq => (hb q (by omega)).trans (h.below.block q hq)⟩, Nat.le_trans h.size hg.size, fun q hq hne => (hb q hq).trans (h.other q hq hne)⟩
theorem Save.new' {w0 : World} {i : Nat} {x : Value} (h : Save g w0 w) (hb : w0.heap.size ≤ b) (hg : g < w0.heap.size) : Save g w0 (w.setCell ⟨b, i, none⟩ x) := by
  have hsz : (w.setCell ⟨b, i, none⟩ x).heap.size = w.heap.size := by simp [World.setCell]
  exact ⟨h.below.setCell (by show g ≤ b; omega) _, by rw [hsz]; exact h.size, fun q hq hne => (Below.heap_setCell _ _ _ _ (by show q ≠ b; omega)).trans (h.other q hq hne)⟩
theorem RRef.setOther {xs : List UInt8} {r : Rd} {i : Nat} {x : Value} (h : RRef w g xs r) (hb : g < b) : RRef (w.setCell ⟨b, i, none⟩ x) g xs r := by
  obtain ⟨⟨A, c, h1, h2, h3⟩, h4, h5⟩ := h
  exact ⟨⟨A, c, (Below.heap_setCell _ _ _ _ (by show g ≠ b; omega)).trans h1, Reads.keep h2 ((Below.refl g w).setCell (by show g ≤ b; omega) _), h3⟩, h4, h5⟩
end
#print axioms TK.grow
#print axioms Save.grown
end Go.Proofs.Ytbnhbbjmocclmaa.Plan
