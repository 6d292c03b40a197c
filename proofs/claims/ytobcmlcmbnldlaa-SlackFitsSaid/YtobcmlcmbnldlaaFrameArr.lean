/-
  A pair of ints that came in ([2]int), opened.
-/
import Derived.Test.YtobcmlcmbnldlaaFrames
namespace Go.Proofs.Ytobcmlcmbnldlaa.Frames
open Go.ChangeShapes Go.WideShapes Go.ChangeAt Go.RowKit Go.Deep Go.Proofs.Ytobcmlcmbnldlaa.Mem
theorem okWide_array {P : Program} {w : World} {r : Reach} {base n : Nat} {t e : TypeId} {v : Value} (ht : P.underlying t = some (.array n e)) (h : Value.okWide P w r base t v) : ∃ cs, v = .agg cs ∧ cs.size = P.cellsOf t := by
  simp only [Value.okWide, ht] at h
  obtain ⟨cs, h1, h2, _⟩ := h
  exact ⟨cs, h1, h2⟩
set_option maxRecDepth 100000
theorem cellsArr2 : Try.prog.cellsOf 59 = 2 := by kernel_rfl
theorem arr2_open {H : Type} {enc : TypeId × Value → H} {W : World} {r : Reach} {b0 : Nat} {v : Value} {d : DataW H} {p : List MemPlace} (hv : Value.okWide Try.prog W r b0 59 v) (h : DataW.Trod enc Try.prog W 0 (fun _ => true) true 59 v d p) :
    ∃ x : Int × Int, v = .agg #[.int .i64 x.1, .int .i64 x.2] ∧ wfI x.1 ∧ wfI x.2 := by
  obtain ⟨cs, rfl, hs⟩ := okWide_array Try.underlying59 hv
  obtain ⟨l⟩ := cs
  obtain ⟨fuel, hf⟩ := h
  obtain ⟨xs, m, _, _, hl, hlen, hall⟩ := DataW.trod_array Try.underlying59 hf
  have hl2 : l.length = 2 := by rw [cellsArr2] at hs; simpa using hs
  match l, hl2 with
  | [a, b], _ =>
    have h0 := hall 0 (by omega)
    have h1 := hall 1 (by omega)
    rw [List.getElem?_eq_getElem (by omega)] at h0 h1
    simp only [Value.cells, cellsInt, Nat.zero_mul, Nat.one_mul, List.drop_zero, List.take_succ_cons, List.take_zero, List.drop_succ_cons] at h0 h1
    obtain ⟨x, hx, wx⟩ := int_in h0
    obtain ⟨y, hy, wy⟩ := int_in h1
    injection hx with hx
    injection hy with hy
    subst hx
    subst hy
    exact ⟨(x, y), rfl, wx, wy⟩
#print axioms arr2_open
end Go.Proofs.Ytobcmlcmbnldlaa.Frames
