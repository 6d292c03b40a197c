/-
  Single operations run, for the regions of plans that draw.
-/
import Derived.Test.YtjklpdeeohhhnaaWordsRte
import Derived.Test.YtjklpdeeohhhnaaRegions
namespace Go.Proofs.Ytjklpdeeohhhnaa.Plan
open Go.ChangeShapes Go.WideShapes Go.ChangeAt Go.RowKit Go.Proofs.Ytjklpdeeohhhnaa.Mem Go.Proofs.Ytjklpdeeohhhnaa.FleetMath Go.Proofs.Ytjklpdeeohhhnaa.PlanMath Go.Proofs.Ytjklpdeeohhhnaa.Rec
set_option linter.unusedVariables false

section
variable {o : Oper} {a : Act} {u : World} {x y : Operand}
theorem exec_index_rte {b off n c k : Nat} (h : o.op = .indexAddr 42 x y) (hx : a.eval x = .slice (some ⟨b, off, none⟩) n c) (hy : a.eval y = .int .i64 k) (hk : k < n) (hn : n ≤ 9223372036854775807) :
    (execOp a.eval o).run Try.prog u = .ok (.value (.pointer (some ⟨b, off + k * 3, none⟩))) u := by
  obtain ⟨ρ, hρ⟩ : ∃ ρ, a.eval = ρ := ⟨_, rfl⟩
  rw [hρ] at hx hy ⊢
  have hk1 : (k : Int) < (n : Int) := by omega
  unfold execOp
  rw [h]
  simp [go_sem, hx, hy, hk1]
theorem exec_index_st {b off n c k : Nat} (h : o.op = .indexAddr 38 x y) (hx : a.eval x = .slice (some ⟨b, off, none⟩) n c) (hy : a.eval y = .int .i64 k) (hk : k < n) (hn : n ≤ 9223372036854775807) :
    (execOp a.eval o).run Try.prog u = .ok (.value (.pointer (some ⟨b, off + k * 2, none⟩))) u := by
  obtain ⟨ρ, hρ⟩ : ∃ ρ, a.eval = ρ := ⟨_, rfl⟩
  rw [hρ] at hx hy ⊢
  have hk1 : (k : Int) < (n : Int) := by omega
  unfold execOp
  rw [h]
  simp [go_sem, hx, hy, hk1]
theorem exec_r0 {g i : Nat} (h : o.op = .fieldAddr 40 x 0) (hp : a.eval x = .pointer (some ⟨g, i, none⟩)) : (execOp a.eval o).run Try.prog u = .ok (.value (.pointer (some ⟨g, i, none⟩))) u := by
  unfold execOp
  rw [h]
  simp only [hp]
  simp [go_sem]
theorem exec_r1 {g i : Nat} (h : o.op = .fieldAddr 40 x 1) (hp : a.eval x = .pointer (some ⟨g, i, none⟩)) : (execOp a.eval o).run Try.prog u = .ok (.value (.pointer (some ⟨g, i + 1, none⟩))) u := by
  unfold execOp
  rw [h]
  simp only [hp]
  simp [go_sem]
theorem exec_r2 {g i : Nat} (h : o.op = .fieldAddr 40 x 2) (hp : a.eval x = .pointer (some ⟨g, i, none⟩)) : (execOp a.eval o).run Try.prog u = .ok (.value (.pointer (some ⟨g, i + 2, none⟩))) u := by
  unfold execOp
  rw [h]
  simp only [hp]
  simp [go_sem]
theorem exec_s0 {g i : Nat} (h : o.op = .fieldAddr 36 x 0) (hp : a.eval x = .pointer (some ⟨g, i, none⟩)) : (execOp a.eval o).run Try.prog u = .ok (.value (.pointer (some ⟨g, i, none⟩))) u := by
  unfold execOp
  rw [h]
  simp only [hp]
  simp [go_sem]
theorem exec_s1 {g i : Nat} (h : o.op = .fieldAddr 36 x 1) (hp : a.eval x = .pointer (some ⟨g, i, none⟩)) : (execOp a.eval o).run Try.prog u = .ok (.value (.pointer (some ⟨g, i + 1, none⟩))) u := by
  unfold execOp
  rw [h]
  simp only [hp]
  simp [go_sem]
theorem run_load_pi {p : Addr} {v : Int} (h : u.cell? p = some (.int .i64 v)) : (Instr.loadAt 3 (.pointer (some p))).run Try.prog u = .ok (.int .i64 v) u := by
  simp [go_sem, h]
theorem run_load_pb {p : Addr} {v : Bool} (h : u.cell? p = some (.bool v)) : (Instr.loadAt 4 (.pointer (some p))).run Try.prog u = .ok (.bool v) u := by
  simp [go_sem, h]
theorem run_load_ps {p : Addr} {A : Option Addr} {n c : Nat} (h : u.cell? p = some (.slice A n c)) : (Instr.loadAt 38 (.pointer (some p))).run Try.prog u = .ok (.slice A n c) u := by
  simp [go_sem, h]
theorem exec_len_st {A : Option Addr} {n c : Nat} (h : o.op = .call { callee := .builtin .len, args := #[x], argTypes := #[38] }) (hp : a.eval x = .slice A n c) : (execOp a.eval o).run Try.prog u = .ok (.value (.int .i64 (n : Int))) u := by
  obtain ⟨ρ, hρ⟩ : ∃ ρ, a.eval = ρ := ⟨_, rfl⟩
  rw [hρ] at hp ⊢
  unfold execOp
  rw [h]
  simp [go_sem, hp]
theorem exec_lssi {p q : Int} {T : TypeId} (h : o.op = .binOp .lss 3 x y T) (hp : a.eval x = .int .i64 p) (hq : a.eval y = .int .i64 q) : (execOp a.eval o).run Try.prog u = .ok (.value (.bool (decide (p < q)))) u := by
  obtain ⟨ρ, hρ⟩ : ∃ ρ, a.eval = ρ := ⟨_, rfl⟩
  rw [hρ] at hp hq ⊢
  unfold execOp
  rw [h]
  simp [go_sem, hp, hq]
theorem exec_gtri {p q : Int} {T : TypeId} (h : o.op = .binOp .gtr 3 x y T) (hp : a.eval x = .int .i64 p) (hq : a.eval y = .int .i64 q) : (execOp a.eval o).run Try.prog u = .ok (.value (.bool (decide (q < p)))) u := by
  obtain ⟨ρ, hρ⟩ : ∃ ρ, a.eval = ρ := ⟨_, rfl⟩
  rw [hρ] at hp hq ⊢
  unfold execOp
  rw [h]
  simp [go_sem, hp, hq]
theorem exec_notb {b : Bool} {T : TypeId} (h : o.op = .unOp .not T x) (hT : T = 4) (hp : a.eval x = .bool b) : (execOp a.eval o).run Try.prog u = .ok (.value (.bool (!b))) u := by
  subst hT
  obtain ⟨ρ, hρ⟩ : ∃ ρ, a.eval = ρ := ⟨_, rfl⟩
  rw [hρ] at hp ⊢
  unfold execOp
  rw [h]
  simp [go_sem, hp]
end
#print axioms exec_len_st
end Go.Proofs.Ytjklpdeeohhhnaa.Plan
