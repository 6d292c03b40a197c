/-
  Single operations run: for the regions of the statements.
-/
import Derived.Test.YtobcmlcmbnldlaaSlackProg
import Derived.Test.YtobcmlcmbnldlaaSpanAll
import Derived.Test.YtobcmlcmbnldlaaWithin
namespace Go.Proofs.Ytobcmlcmbnldlaa.Slack
open Go.ChangeShapes Go.WideShapes Go.ChangeAt Go.RowKit Go.Proofs.Ytobcmlcmbnldlaa.Mem Go.Proofs.Ytobcmlcmbnldlaa.GeoMath Go.Proofs.Ytobcmlcmbnldlaa.FleetMath Go.Proofs.Ytobcmlcmbnldlaa.Rec Go.Proofs.Ytobcmlcmbnldlaa.Geo Go.Proofs.Ytobcmlcmbnldlaa.Span Go.Proofs.Ytobcmlcmbnldlaa.Deal Go.Proofs.Ytobcmlcmbnldlaa.Route
set_option linter.unusedVariables false

theorem exec_call7 {o : Oper} {a : Act} {u : World} {f : Nat} {ts : Array TypeId} {x1 x2 x3 x4 x5 x6 x7 : Operand} {v1 v2 v3 v4 v5 v6 v7 : Value} (h : o.op = .call { callee := .value (.func f), args := #[x1, x2, x3, x4, x5, x6, x7], argTypes := ts }) (h1 : a.eval x1 = v1) (h2 : a.eval x2 = v2) (h3 : a.eval x3 = v3) (h4 : a.eval x4 = v4) (h5 : a.eval x5 = v5) (h6 : a.eval x6 = v6) (h7 : a.eval x7 = v7) (hf : (callFunc f #[v1, v2, v3, v4, v5, v6, v7]).run Try.prog u = .ok (.enter f #[v1, v2, v3, v4, v5, v6, v7]) u) :
    (execOp a.eval o).run Try.prog u = .ok (.enter f #[v1, v2, v3, v4, v5, v6, v7]) u := by
  have hf' : a.eval (.func f) = .func (.func f) #[] #[] := rfl
  obtain ⟨ρ, hρ⟩ : ∃ ρ, a.eval = ρ := ⟨_, rfl⟩
  rw [hρ] at h1 h2 h3 h4 h5 h6 h7 hf' ⊢
  unfold execOp
  rw [h]
  simp [go_sem, hf', h1, h2, h3, h4, h5, h6, h7, hf]
theorem exec_wos {o : Oper} {a : Act} {u : World} {x : Operand} {g : Nat} (h : o.op = .fieldAddr 50 x 3) (hp : a.eval x = .pointer (some ⟨g, 0, none⟩)) : (execOp a.eval o).run Try.prog u = .ok (.value (.pointer (some ⟨g, 3, none⟩))) u := by
  unfold execOp
  rw [h]
  simp only [hp]
  simp [go_sem]
theorem run_load_osx {u : World} {p : Addr} {A : Option Addr} {n c : Nat} (h : u.cell? p = some (.slice A n c)) : (Instr.loadAt 36 (.pointer (some p))).run Try.prog u = .ok (.slice A n c) u := by
  simp [go_sem, h]
theorem run_load_fault {u : World} {g k : Nat} {e : Int} (h : FBox u g k e) : (Instr.loadAt 64 (.pointer (some ⟨g, 0, none⟩))).run Try.prog u = .ok (faultV k e) u := by
  obtain ⟨c0, c1⟩ := h.cells
  simp [go_sem, c0, c1]
theorem exec_not {o : Oper} {a : Act} {u : World} {x : Operand} {b : Bool} {t : TypeId} (h : o.op = .unOp .not t x) (ht : t = 4) (hp : a.eval x = .bool b) : (execOp a.eval o).run Try.prog u = .ok (.value (.bool (!b))) u := by
  subst ht
  obtain ⟨ρ, hρ⟩ : ∃ ρ, a.eval = ρ := ⟨_, rfl⟩
  rw [hρ] at hp ⊢
  unfold execOp
  rw [h]
  simp [go_sem, hp]
theorem exec_neqb {o : Oper} {a : Act} {u : World} {x y : Operand} {b c : Bool} {T : TypeId} (h : o.op = .binOp .neq 4 x y T) (hp : a.eval x = .bool b) (hq : a.eval y = .bool c) : (execOp a.eval o).run Try.prog u = .ok (.value (.bool (b != c))) u := by
  obtain ⟨ρ, hρ⟩ : ∃ ρ, a.eval = ρ := ⟨_, rfl⟩
  rw [hρ] at hp hq ⊢
  unfold execOp
  rw [h]
  cases b <;> cases c <;> simp [go_sem, hp, hq]

#print axioms exec_call7
end Go.Proofs.Ytobcmlcmbnldlaa.Slack
