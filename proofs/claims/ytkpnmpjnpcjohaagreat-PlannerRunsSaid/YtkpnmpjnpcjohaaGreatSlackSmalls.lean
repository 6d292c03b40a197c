/-
  SlackPL, SlackPart: one text.
-/
import Derived.Test.YtkpnmpjnpcjohaaGreatWords
import Derived.Test.YtkpnmpjnpcjohaaGreatLibRows
import Derived.Test.YtkpnmpjnpcjohaaGreatMaths
import Derived.Deep.DeepCutAuto
import Derived.RegionTactic
import Derived.Deep.QuietTactic
import Derived.BigQuiet
namespace Go.Proofs.YtkpnmpjnpcjohaaGreat.Slack
open Go.ChangeShapes Go.WideShapes Go.ChangeAt Go.RowKit Mem FleetMath Rec
set_option linter.unusedVariables false
theorem stp_one (a : Int) (b : Bool) : ∀ v ∈ [Value.int .i64 a, .bool b], v.oneCell' = true := by
  intro v hv
  simp only [List.mem_cons, List.not_mem_nil, or_false] at hv
  rcases hv with rfl | rfl <;> rfl
end Go.Proofs.YtkpnmpjnpcjohaaGreat.Slack

namespace Go.Proofs.YtkpnmpjnpcjohaaGreat.Slack
open Go.ChangeShapes Go.WideShapes Go.ChangeAt Go.RowKit Mem FleetMath Rec
set_option linter.unusedVariables false
theorem _root_.Go.Proofs.YtkpnmpjnpcjohaaGreat.Mem.Recs.part {w : World} {B n k l h c : Nat} {A : Option Addr} {vs : List Value} (hr : Recs w B A n k vs) (h1 : l ≤ h) (h2 : h ≤ n) (h3 : n ≤ c) :
    Recs w B (if c = l then A else A.map (·.add (l * k))) (h - l) k ((vs.drop (l * k)).take ((h - l) * k)) := by
  have hl := hr.1
  have e1 : (h - l) * k + l * k = h * k := by rw [← Nat.add_mul]; congr 1; omega
  have e2 : h * k ≤ n * k := Nat.mul_le_mul_right _ h2
  refine ⟨by rw [List.length_take, List.length_drop]; omega, by have := hr.2.1; omega, fun hp => ?_⟩
  obtain ⟨b, off, rfl, hb, hc⟩ := hr.2.2 (by omega)
  rw [if_neg (by omega)]
  refine ⟨b, off + l * k, by rw [Option.map_some, add_at], hb, fun j u hu => ?_⟩
  rw [List.getElem?_take] at hu
  split at hu
  · rw [List.getElem?_drop] at hu
    rw [Nat.add_assoc]
    exact hc _ u hu
  · cases hu
theorem stpsV_drop (l : List Stp) (i : Nat) : (stpsV l).drop (i * 2) = stpsV (l.drop i) := by
  induction l generalizing i with
  | nil => simp [stpsV]
  | cons x r ih =>
    cases i with
    | zero => simp
    | succ i =>
      rw [show (i + 1) * 2 = i * 2 + 2 by omega, List.drop_succ_cons, ← ih]
      rfl
theorem stpsV_take (l : List Stp) (i : Nat) : (stpsV l).take (i * 2) = stpsV (l.take i) := by
  induction l generalizing i with
  | nil => simp [stpsV]
  | cons x r ih =>
    cases i with
    | zero => simp [stpsV]
    | succ i =>
      rw [show (i + 1) * 2 = i * 2 + 2 by omega, List.take_succ_cons]
      have e : stpsV (x :: r) = .int .i64 x.ord :: .bool x.drop :: stpsV r := rfl
      have e' : stpsV (x :: r.take i) = .int .i64 x.ord :: .bool x.drop :: stpsV (r.take i) := rfl
      rw [e, e', ← ih]
      rfl
theorem Stps.part {w : World} {B n l h c : Nat} {A : Option Addr} {xs : List Stp} (hr : Stps w B A n xs) (h1 : l ≤ h) (h2 : h ≤ n) (h3 : n ≤ c) :
    Stps w B (if c = l then A else A.map (·.add (l * 2))) (h - l) ((xs.drop l).take (h - l)) := by
  have := Recs.part hr h1 h2 h3
  rwa [stpsV_drop, stpsV_take] at this
abbrev partAt (A : Option Addr) (l c : Nat) : Option Addr := if c = l then A else A.map (·.add (l * 2))
theorem run_slice_stp {A : Option Addr} {n c l h : Nat} {lo hi : Option Value} (u : World) (hlo : (lo = none ∧ l = 0) ∨ lo = some (.int .i64 (l : Int))) (hhi : (hi = none ∧ h = n) ∨ hi = some (.int .i64 (h : Int))) (h1 : l ≤ h) (h2 : h ≤ n) (h3 : n ≤ c) :
    (Instr.sliceAt 35 (.slice A n c) lo hi none).run Tryz.prog u = .ok (.slice (partAt A l c) (h - l) (c - l)) u := by
  have hsz : (sizeOf 48).run Tryz.prog u = .ok 2 u := by
    obtain ⟨i, hi, _, hz, _⟩ := info_parts infoStp
    simp [sizeOf, typeInfo, hi, hz]
  have q : h ≤ c := Nat.le_trans h2 h3
  rcases hlo with ⟨rfl, rfl⟩ | rfl <;> rcases hhi with ⟨rfl, rfl⟩ | rfl <;>
    simp [Instr.sliceAt, Instr.slice, Instr.sliceBounds, Instr.sliceBound, run_underlying Tryz.underlying35, asIntOf, hsz, partAt, h1, q]
theorem exec_slice {o : Oper} {a : Act} {u : World} {x : Operand} {lo hi : Option Operand} {A : Option Addr} {n c l h : Nat} (ho : o.op = .slice 35 x lo hi none) (hx : a.eval x = .slice A n c)
    (hlo : (lo = none ∧ l = 0) ∨ ∃ y, lo = some y ∧ a.eval y = .int .i64 (l : Int)) (hhi : (hi = none ∧ h = n) ∨ ∃ y, hi = some y ∧ a.eval y = .int .i64 (h : Int)) (h1 : l ≤ h) (h2 : h ≤ n) (h3 : n ≤ c) :
    (execOp a.eval o).run Tryz.prog u = .ok (.value (.slice (partAt A l c) (h - l) (c - l))) u := by
  have hr := run_slice_stp (A := A) (n := n) (c := c) (l := l) (h := h) (lo := lo.map a.eval) (hi := hi.map a.eval) u (by
    rcases hlo with ⟨rfl, e⟩ | ⟨y, rfl, e⟩
    · exact .inl ⟨rfl, e⟩
    · exact .inr (by rw [Option.map_some, e])) (by
    rcases hhi with ⟨rfl, e⟩ | ⟨y, rfl, e⟩
    · exact .inl ⟨rfl, e⟩
    · exact .inr (by rw [Option.map_some, e])) h1 h2 h3
  unfold execOp
  rw [ho]
  simp only [hx, Option.map_none, Sem.run_bind, hr, Result.andThen_ok, Sem.run_pure]
end Go.Proofs.YtkpnmpjnpcjohaaGreat.Slack
