/-
  The document's own answer to chapter 11: what its walks share. A list of Troubles grows behind a driver's box.
-/
import Derived.Test.YtjklpdeeohhhnaaAuditMaths
import Derived.Test.YtjklpdeeohhhnaaAuditWords
import Derived.Test.YtjklpdeeohhhnaaCertOneW
import Derived.Test.YtjklpdeeohhhnaaSlackPart
import Derived.Test.YtjklpdeeohhhnaaLibRows
namespace Go.Proofs.Ytjklpdeeohhhnaa.Audit
open Go.ChangeShapes Go.WideShapes Go.ChangeAt Go.RowKit Go.Proofs.Ytjklpdeeohhhnaa.Mem Go.Proofs.Ytjklpdeeohhhnaa.GeoMath Go.Proofs.Ytjklpdeeohhhnaa.FleetMath Go.Proofs.Ytjklpdeeohhhnaa.PlanMath Go.Proofs.Ytjklpdeeohhhnaa.CertMath Go.Proofs.Ytjklpdeeohhhnaa.AuditMath Go.Proofs.Ytjklpdeeohhhnaa.Rec Go.Proofs.Ytjklpdeeohhhnaa.Geo Go.Proofs.Ytjklpdeeohhhnaa.Span Go.Proofs.Ytjklpdeeohhhnaa.Deal Go.Proofs.Ytjklpdeeohhhnaa.Route Go.Proofs.Ytjklpdeeohhhnaa.Plan Go.Proofs.Ytjklpdeeohhhnaa.Cert Go.Proofs.Ytjklpdeeohhhnaa.Cert.OneR
set_option linter.unusedVariables false
set_option linter.unusedSimpArgs false

abbrev tcells (t : Trb) : List Value := [.int .i64 t.drv, .int .i64 t.ord, .int .i64 t.why]
theorem tcells_one (t : Trb) : ∀ v ∈ tcells t, v.oneCell' = true := by
  intro v hv
  simp only [List.mem_cons, List.not_mem_nil, or_false] at hv
  rcases hv with rfl | rfl | rfl <;> rfl
theorem trbsV_snoc (l : List Trb) (t : Trb) : trbsV (l ++ [t]) = trbsV l ++ tcells t := by rw [trbsV_append]; rfl
/-- a list of the call's own, behind the world X -/
structure TL (X : World) (v : Value) (l : List Trb) (u : World) : Prop where
  below : Below X.heap.size X u
  own : OwnK u X.heap.size 47 3 v l.length (trbsV l)
/-- a block that no append of v turns -/
def KB (v : Value) (u : World) (g : Nat) (t : TypeId) (vs : List Value) : Prop := Blk u g t vs ∧ v.ownBlock ≠ some g
section
variable {X u u' : World} {v v' : Value} {l : List Trb} {g : Nat} {t : TypeId} {vs : List Value}
theorem own_off {base k n : Nat} {e : TypeId} (h : OwnK u base e k v n vs) : v.ownBlock ≠ some u.heap.size := by
  rcases h.1.2 with ⟨rfl, _⟩ | ⟨g, cap, cur, rfl, _, hh, _⟩
  · intro e; cases e
  · have hlt : g < u.heap.size := by
      rcases Nat.lt_or_ge g u.heap.size with hlt | hge
      · exact hlt
      · rw [Array.getElem?_eq_none hge] at hh; cases hh
    intro e
    have : g = u.heap.size := by simpa [Value.ownBlock] using e
    omega
theorem TL.start (X : World) : TL X (.slice none 0 0) [] X := ⟨Below.refl _ _, OwnK.nil _ _ _ _⟩
theorem TL.next (h : TL X v l u) (hb : Below u.heap.size u u') : TL X v l u' := ⟨h.below.trans (hb.mono h.below.size), h.own.keep hb (Nat.le_refl _)⟩
theorem TL.alloc (h : TL X v l u) (o : Obj) : TL X v l (u.alloc o) := h.next ((Below.refl _ _).alloc (Nat.le_refl _) _)
theorem TL.drewN (h : TL X v l u) (d : Nat) : TL X v l (u.drewN d) := h.next (below_drewN (Below.refl _ _) d)
theorem TL.push {t : Trb} (h : TL X v l u) (ho : OwnK u' X.heap.size 47 3 v' (l.length + 1) (trbsV l ++ tcells t)) (hg : u.grownBy u' v.ownBlock) : TL X v' (l ++ [t]) u' :=
  ⟨h.own.below h.below hg h.below.size (Nat.le_refl _), by rw [trbsV_snoc, List.length_append]; exact ho⟩
theorem TL.box (h : TL X v l u) (t : TypeId) (vs : List Value) : KB v (u.alloc (.cells vs.toArray t)) u.heap.size t vs := ⟨Blk.new _ _ _, own_off h.own⟩
theorem KB.of (h : TL X v l u) (hb : Blk u g t vs) (ht : t ≠ 47) : KB v u g t vs := by
  refine ⟨hb, fun e => ?_⟩
  rcases h.own.blk with ⟨rfl, _⟩ | ⟨g', cap, cur, rfl, _, h2, _⟩
  · cases e
  · have : g' = g := by simpa [Value.ownBlock] using e
    subst this
    unfold Blk at hb h2
    rw [hb] at h2
    injection h2 with h2
    injection h2 with _ h2
    exact ht h2
theorem KB.next (h : KB v u g t vs) (hb : Below u.heap.size u u') : KB v u' g t vs := ⟨h.1.below hb h.1.lt, h.2⟩
theorem KB.push (h : KB v u g t vs) (hg : u.grownBy u' v.ownBlock) (hn : v'.ownBlock = v.ownBlock ∨ v'.ownBlock = some u.heap.size) : KB v' u' g t vs := by
  refine ⟨(hg.block g h.1.lt fun e => h.2 e.symm).trans h.1, ?_⟩
  rcases hn with e | e
  · rw [e]; exact h.2
  · rw [e]; intro e'; injection e' with e'; have := h.1.lt; omega
end
/-- one Trouble appended -/
theorem wpList_trb {X u : World} {ops : Array Oper} {rest : List Oper} {o : Oper} {a : Act} {Q : Exit → Act → World → Prop} {v : Value} {l : List Trb} (hgd : o.guard = none) (s x : Operand)
    (ho : o.op = .call { callee := .builtin .append, args := #[s, x], argTypes := #[43, 43] })
    (h : TL X v l u) (hs : a.eval s = v) {g c : Nat} (t : Trb) (hy : Blk u g 47 (tcells t)) (hx : a.eval x = .slice (some ⟨g, 0, none⟩) 1 c) (hl : l.length ≤ 100000)
    (hk : ∀ v' u', Hid (TL X v' (l ++ [t]) u') → Hid (∀ b T vs, KB v u b T vs → KB v' u' b T vs) → wpList Try.prog ops Q rest (a.put o.dst v') u') : wpList Try.prog ops Q (o :: rest) a u :=
  wpList_append_ko hgd s x Try.underlying43 infoTrb rfl (by decide) ho h.own hs hy hx rfl (tcells_one t) (by unfold maxLen; omega) (by omega) h.below.size
    fun v' w' h1 h2 h3 => hk v' w' (h.push h1.out h2.out) (Lib.hid fun b T vs hb => hb.push h2.out h3.out)
abbrev AX (w : World) (d : Drv) : World := w.alloc (.cells #[.int .i64 d.id, .int .i64 d.room, .int .i64 d.home, .int .i64 d.win.fr, .int .i64 d.win.to, .bool d.retired] 33)
theorem AX.old {w u : World} {d : Drv} {v : Value} {l : List Trb} (h : TL (AX w d) v l u) : Below w.heap.size w u := by
  have h1 : Below w.heap.size w (AX w d) := (Below.refl _ _).alloc (Nat.le_refl _) _
  exact h1.trans (h.below.mono h1.size)
theorem AX.drv {w u : World} {d : Drv} {v : Value} {l : List Trb} (h : TL (AX w d) v l u) : DBox u w.heap.size d := Blk.below (Blk.new w 33 [.int .i64 d.id, .int .i64 d.room, .int .i64 d.home, .int .i64 d.win.fr, .int .i64 d.win.to, .bool d.retired]) h.below (by simp)
section
variable {o : Oper} {a : Act} {u : World} {x y : Operand}
theorem exec_not {b : Bool} {T : TypeId} (h : o.op = .unOp .not T x) (hx : a.eval x = .bool b) : (execOp a.eval o).run Try.prog u = .ok (.value (.bool (!b))) u := by
  obtain ⟨ρ, hρ⟩ : ∃ ρ, a.eval = ρ := ⟨_, rfl⟩
  rw [hρ] at hx ⊢
  unfold execOp
  rw [h]
  simp [go_sem, hx]
theorem exec_has {p : Int} {T : TypeId} {b : Bool} (h : o.op = .binOp .geq 3 x (.const (.int .i64 0)) T) (hp : a.eval x = .int .i64 p) (hb : decide (0 ≤ p) = b) : (execOp a.eval o).run Try.prog u = .ok (.value (.bool b)) u := by
  have hc : a.eval (.const (.int .i64 0)) = .int .i64 0 := rfl
  obtain ⟨ρ, hρ⟩ : ∃ ρ, a.eval = ρ := ⟨_, rfl⟩
  rw [hρ] at hp hc ⊢
  unfold execOp
  rw [h, ← hb]
  simp [go_sem, hp, hc]
theorem exec_more {k : Nat} {T : TypeId} (h : o.op = .binOp .add 3 x (.const (.int .i64 1)) T) (hp : a.eval x = .int .i64 (k : Int)) (hk : k ≤ 1000000) : (execOp a.eval o).run Try.prog u = .ok (.value (.int .i64 ((k + 1 : Nat) : Int))) u := by
  have hc : a.eval (.const (.int .i64 1)) = .int .i64 1 := rfl
  obtain ⟨ρ, hρ⟩ : ∃ ρ, a.eval = ρ := ⟨_, rfl⟩
  rw [hρ] at hp hc ⊢
  have hw : IntKind.i64.wrap ((k : Int) + 1) = (k : Int) + 1 := IntWalk.i64_in _ (by omega)
  unfold execOp
  rw [h]
  simp [go_sem, hp, hc, hw]
theorem exec_bstp2 {v : Int} (h : o.op = .build 36 #[(0, x), (1, .const (.bool true))]) (hx : a.eval x = .int .i64 v) : (execOp a.eval o).run Try.prog u = .ok (.value (stpV ⟨v, true⟩)) u := by
  have hc : a.eval (.const (.bool true)) = .bool true := rfl
  obtain ⟨ρ, hρ⟩ : ∃ ρ, a.eval = ρ := ⟨_, rfl⟩
  rw [hρ] at hx hc ⊢
  unfold execOp
  rw [h]
  simp [go_sem, hx, hc]
end
#print axioms wpList_trb
end Go.Proofs.Ytjklpdeeohhhnaa.Audit
