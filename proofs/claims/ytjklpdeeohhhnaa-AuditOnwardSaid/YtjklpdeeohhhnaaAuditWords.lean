/-
  WordsTrb, SameTrb: one text.
-/
import Derived.Test.YtjklpdeeohhhnaaLibRows
import Derived.Test.YtjklpdeeohhhnaaMaths
import Derived.Test.YtjklpdeeohhhnaaAuditMaths
import Derived.RegionTactic
import Derived.Deep.QuietTactic
import Derived.BigQuiet
/-
  Lists of api.Trouble in memory.
-/
namespace Go.Proofs.Ytjklpdeeohhhnaa.Rec
open Go.ChangeShapes Go.WideShapes Go.ChangeAt Go.RowKit Go.Proofs.Ytjklpdeeohhhnaa.Mem Go.Proofs.Ytjklpdeeohhhnaa.FleetMath Go.Proofs.Ytjklpdeeohhhnaa.AuditMath

abbrev trbV (x : Trb) : Value := .agg #[.int .i64 x.drv, .int .i64 x.ord, .int .i64 x.why]
/-- the cells of a list -/
def trbsV (l : List Trb) : List Value := l.flatMap fun x => [.int .i64 x.drv, .int .i64 x.ord, .int .i64 x.why]
theorem trbsV_len (l : List Trb) : (trbsV l).length = l.length * 3 := by
  induction l with
  | nil => rfl
  | cons x r ih => simp only [trbsV, List.flatMap_cons, List.length_append, List.length_cons, List.length_nil] at ih ⊢; omega
theorem trbsV_append (l m : List Trb) : trbsV (l ++ m) = trbsV l ++ trbsV m := by simp [trbsV]
theorem trbsV_one (l : List Trb) : ∀ v ∈ trbsV l, v.oneCell' = true := by
  intro v hv
  simp only [trbsV, List.mem_flatMap, List.mem_cons, List.not_mem_nil, or_false] at hv
  obtain ⟨x, _, hv⟩ := hv
  rcases hv with rfl | rfl | rfl <;> rfl
theorem trbsV_at {l : List Trb} {i : Nat} {x : Trb} (h : l[i]? = some x) : (trbsV l)[i * 3 + 0]? = some (.int .i64 x.drv) ∧ (trbsV l)[i * 3 + 1]? = some (.int .i64 x.ord) ∧ (trbsV l)[i * 3 + 2]? = some (.int .i64 x.why) := by
  induction l generalizing i with
  | nil => cases h
  | cons y r ih =>
    cases i with
    | zero => simp at h; subst h; exact ⟨rfl, rfl, rfl⟩
    | succ i =>
      have := ih (i := i) (by simpa using h)
      rw [show (i + 1) * 3 + 0 = (i * 3 + 0) + 3 by omega, show (i + 1) * 3 + 1 = (i * 3 + 1) + 3 by omega, show (i + 1) * 3 + 2 = (i * 3 + 2) + 3 by omega]
      exact this
abbrev Trbs (w : World) (B : Nat) (A : Option Addr) (n : Nat) (l : List Trb) : Prop := Recs w B A n 3 (trbsV l)
theorem Trbs.length {w : World} {B n : Nat} {A : Option Addr} {l : List Trb} (h : Trbs w B A n l) : l.length = n := by have := h.1; rw [trbsV_len] at this; omega
theorem Trbs.at_ {w : World} {B n i : Nat} {A : Option Addr} {l : List Trb} (h : Trbs w B A n l) (hi : i < n) : ∃ b off x, A = some ⟨b, off, none⟩ ∧ b < B ∧ l[i]? = some x ∧ l.drop i = x :: l.drop (i + 1) ∧ w.cell? ⟨b, off + i * 3, none⟩ = some (.int .i64 x.drv) ∧ w.cell? ⟨b, off + i * 3 + 1, none⟩ = some (.int .i64 x.ord) ∧ w.cell? ⟨b, off + i * 3 + 2, none⟩ = some (.int .i64 x.why) := by
  obtain ⟨b, off, e, hb, hc⟩ := Recs.at_ h hi
  have hlt : i < l.length := by rw [h.length]; exact hi
  have hx := List.getElem?_eq_getElem hlt
  obtain ⟨h0, h1, h2⟩ := trbsV_at hx
  exact ⟨b, off, _, e, hb, hx, List.drop_eq_getElem_cons hlt, hc 0 _ h0, hc 1 _ h1, hc 2 _ h2⟩
theorem infoTrb : (Try.prog.info? 47).map (fun i => (i.zero, i.size, i.bytes)) = some (some (.agg #[.int .i64 0, .int .i64 0, .int .i64 0]), 3, 24) := by kernel_rfl
theorem sizeTrb : (Try.prog.info? 47).map (·.size) = some 3 := by kernel_rfl
#print axioms Trbs.at_
end Go.Proofs.Ytjklpdeeohhhnaa.Rec

/-
  draybook's Same, Roomy and Intact over lists of api.Trouble: the contracts.
-/
namespace Go.Proofs.Ytjklpdeeohhhnaa.Rec
open Go.ChangeShapes Go.WideShapes Go.ChangeAt Go.RowKit Go.Proofs.Ytjklpdeeohhhnaa.Mem Go.Proofs.Ytjklpdeeohhhnaa.FleetMath Go.Proofs.Ytjklpdeeohhhnaa.AuditMath


set_option maxRecDepth 100000 in
set_option maxHeartbeats 1000000 in
theorem sameTrb (A A' : Option Addr) (n c c' : Nat) (xs : List Trb) (B B' : Nat) (w : World) (h : Trbs w B A n xs) (h' : Trbs w B' A' n xs) :
    Calls Try.prog 11 #[.slice A n c, .slice A' n c'] w (Quietly w (.bool true)) := by
  have hm := Recs.le h
  have H := Lib.hid h
  have H' := Lib.hid h'
  clear h h'
  go_enter Try.func11, Try.ntmps11
  go_wp2
  go_loopw [5] (fun i wr => ∃ (k d : Nat), k ≤ n ∧ i = .int .i64 k ∧ wr = w.drewN d) (fun i _ => n - (intOf i).toNat)
  case atStart => exact ⟨0, 0, Nat.zero_le _, rfl, rfl⟩
  case round =>
    obtain ⟨k, d, hk, rfl, rfl⟩ := hrel
    by_cases hlt : k < n
    · obtain ⟨b, off, x, rfl, _, hx, _, c0, c1, c2⟩ := Trbs.at_ H.out hlt
      obtain ⟨b', off', y, rfl, _, hy, _, d0, d1, d2⟩ := Trbs.at_ H'.out hlt
      rw [hx] at hy
      injection hy with hy
      subst hy
      clear hx
      go_wp2
      go_quiet (fail)
      go_wp2
      go_roundw
      case rel => exact ⟨k + 1, _, by omega, by go_num, rfl⟩
      case measure => simp [intOf]; omega
    · go_wp2
      go_ret
      exact ⟨rfl, _, rfl⟩
#print axioms sameTrb
end Go.Proofs.Ytjklpdeeohhhnaa.Rec
