/-
  A list of ints in a block of its own.
-/
import Derived.Test.YtjklpdeeohhhnaaLibRows
namespace Go.Proofs.Ytjklpdeeohhhnaa.Plan
open Go.ChangeShapes Go.WideShapes Go.ChangeAt Go.RowKit Go.Proofs.Ytjklpdeeohhhnaa.Mem Go.Proofs.Ytjklpdeeohhhnaa.MemI
set_option linter.unusedVariables false
set_option linter.unusedSimpArgs false

theorem ints_blk {u : World} {g n : Nat} {t : TypeId} {l : List Int} (h : Blk u g t (intsV l)) (hl : l.length = n) (hn : n ≤ 64) : Ints u u.heap.size (some ⟨g, 0, none⟩) n l :=
  ⟨by rw [intsV_len, hl], by unfold maxLen; omega, fun _ => ⟨g, 0, rfl, h.lt, fun j x hx => by rw [Nat.zero_add]; exact h.cell hx⟩⟩
end Go.Proofs.Ytjklpdeeohhhnaa.Plan
