/-
  What the frames of the proofs share: a window that came in by value, a slice of windows that came in, opened.
-/
import Derived.Test.YtglkphngddnieaaWordsWin
import Derived.SizedLaws
import Derived.ChangeOld
import Derived.ShutString
import Derived.JoinedCond
import Derived.Lib.SmallJoins
import Derived.Deep.SlicePairs
namespace Go.Proofs.Ytglkphngddnieaa.Frames
open Go.ChangeShapes Go.WideShapes Go.ChangeAt Go.RowKit Go.Deep Go.Joins Go.Proofs.Ytglkphngddnieaa.Mem Go.Proofs.Ytglkphngddnieaa.Rec Go.Proofs.Ytglkphngddnieaa.FleetMath

theorem own : ownKnob Try.prog.godebug = none := by kernel_rfl
theorem laidOut : laidOutB Try.prog = true := by kernel_rfl
theorem bytesWin : Try.prog.bytesOf 23 = 16 := by kernel_rfl
theorem cellsWin : Try.prog.cellsOf 23 = 2 := by kernel_rfl
theorem cellsInt : Try.prog.cellsOf 3 = 1 := by kernel_rfl
/-- what a slice reads as: how many elements, the room behind them counted in -/
def ListData {H : Type} (d : DataW H) (cap : Nat) : Prop := d = .nil ∧ cap = 0 ∨ ∃ l m : List (DataW H), d = .slice l m ∧ l.length + m.length = cap
section
variable {H : Type} {enc : TypeId × Value → H} {W : World}
theorem win_open {r : Reach} {b0 : Nat} {v : Value} {d : DataW H} {p : List MemPlace} (hv : Value.okWide Try.prog W r b0 23 v) (h : DataW.Trod enc Try.prog W 0 (fun _ => true) true 23 v d p) :
    ∃ x : Win, v = winV x ∧ (Lit.int .i64 x.fr).wf = true ∧ (Lit.int .i64 x.to).wf = true := by
  obtain ⟨v0, v1, y0, y1, n, rfl, _, _, t0, t1⟩ := open_agg2 Try.underlying23 (by kernel_rfl) cellsWin hv h
  obtain ⟨a, ha, _, wa⟩ := DataW.trod_int Try.underlying3 t0
  obtain ⟨b, hb, _, wb⟩ := DataW.trod_int Try.underlying3 t1
  injection ha with ha
  injection hb with hb
  subst ha
  subst hb
  exact ⟨⟨a, b⟩, rfl, wa, wb⟩
theorem wins_open {a : Option Addr} {len cap : Nat} {d : DataW H} {p : List MemPlace} (h : DataW.Trod enc Try.prog W 0 (fun _ => true) true 35 (.slice a len cap) d p) :
    len ≤ cap ∧ cap ≤ maxLen ∧ ListData d cap ∧ ∃ l : List Win, Wins W W.heap.size a len l ∧ ∀ x ∈ l, (Lit.int .i64 x.fr).wf = true ∧ (Lit.int .i64 x.to).wf = true := by
  obtain ⟨fuel, hf⟩ := h
  rcases open_slice_pairs Try.underlying35 Try.underlying23 cellsWin rfl rfl cellsInt cellsInt hf with ⟨hcs, hx⟩ | ⟨x, l, c, m, n, V0, V1, D0, D1, P0, P1, hcs, _, hl, hm, hmm, hx, hcell⟩
  · simp [Value.cells] at hcs
    obtain ⟨rfl, rfl, rfl⟩ := hcs
    simp only [Prod.mk.injEq] at hx
    exact ⟨Nat.le_refl _, Nat.zero_le _, .inl ⟨hx.1, rfl⟩, [], Recs.none_, by simp⟩
  · simp [Value.cells] at hcs
    obtain ⟨rfl, rfl, rfl⟩ := hcs
    simp only [Prod.mk.injEq] at hx
    simp only [if_true] at hmm
    subst hmm
    have each : ∀ i, i < m → ∃ y : Win, W.cell? (x.add (i * 2)) = some (.int .i64 y.fr) ∧ W.cell? (x.add (i * 2 + 1)) = some (.int .i64 y.to) ∧ (Lit.int .i64 y.fr).wf = true ∧ (Lit.int .i64 y.to).wf = true := by
      intro i hi
      obtain ⟨h0, h1, t0, t1⟩ := hcell i hi
      obtain ⟨a, ha, _, wa⟩ := DataW.trod_int Try.underlying3 t0
      obtain ⟨b, hb, _, wb⟩ := DataW.trod_int Try.underlying3 t1
      injection ha with ha
      injection hb with hb
      rw [ha] at h0
      rw [hb] at h1
      exact ⟨⟨a, b⟩, h0, h1, wa, wb⟩
    have pick : ∀ k, k ≤ m → ∃ ys : List Win, ys.length = k ∧ ∀ i y, ys[i]? = some y → W.cell? (x.add (i * 2)) = some (.int .i64 y.fr) ∧ W.cell? (x.add (i * 2 + 1)) = some (.int .i64 y.to) ∧ (Lit.int .i64 y.fr).wf = true ∧ (Lit.int .i64 y.to).wf = true := by
      intro k
      induction k with
      | zero => intro _; exact ⟨[], rfl, fun i y hy => by simp at hy⟩
      | succ k ih =>
        intro hk
        obtain ⟨ys, hy, hys⟩ := ih (by omega)
        obtain ⟨z, hz⟩ := each k (by omega)
        refine ⟨ys ++ [z], by simp [hy], fun i y hi => ?_⟩
        rcases Nat.lt_or_ge i ys.length with h' | h'
        · rw [List.getElem?_append_left h'] at hi
          exact hys i y hi
        · rw [List.getElem?_append_right h'] at hi
          have hi0 : i - ys.length = 0 := by
            rcases Nat.eq_zero_or_pos (i - ys.length) with h0 | h0
            · exact h0
            · rw [List.getElem?_eq_none (by simp; omega)] at hi; cases hi
          rw [hi0] at hi
          simp at hi
          subst hi
          have : i = k := by omega
          subst this
          exact hz
    obtain ⟨ys, hyl, hys⟩ := pick len (by omega)
    refine ⟨hl, hm, .inr ⟨_, _, hx.1, by simp; omega⟩, ys, ⟨by rw [winsV_len, hyl], by omega, fun hp => ?_⟩, fun y hy => ?_⟩
    · obtain ⟨b, off, spot⟩ := x
      obtain ⟨y0, hy0⟩ : ∃ y, ys[0]? = some y := ⟨_, List.getElem?_eq_getElem (by omega)⟩
      have hc := (hys 0 y0 hy0).1
      have hspot : spot = none := by simpa [Addr.add] using World.cell?_spot hc
      subst hspot
      refine ⟨b, off, rfl, ?_, fun j u hu => ?_⟩
      · have := World.block_lt_of_cell? _ _ hc
        simpa [Addr.add] using this
      · have hj : j < ys.length * 2 := by
          rw [← winsV_len]
          exact (List.getElem?_eq_some_iff.1 hu).1
        obtain ⟨y, hy⟩ : ∃ y, ys[j / 2]? = some y := ⟨_, List.getElem?_eq_getElem (by omega)⟩
        obtain ⟨e0, e1⟩ := winsV_at hy
        obtain ⟨g0, g1, _⟩ := hys _ y hy
        rw [add_at] at g0 g1
        rcases (show j % 2 = 0 ∨ j % 2 = 1 by omega) with hr | hr
        · have ej : j = j / 2 * 2 + 0 := by omega
          rw [ej, e0] at hu
          injection hu with hu
          rw [← hu, ej]
          exact g0
        · have ej : j = j / 2 * 2 + 1 := by omega
          rw [ej, e1] at hu
          injection hu with hu
          rw [← hu, ej]
          exact g1
    · obtain ⟨i, hi⟩ := List.getElem?_of_mem hy
      exact (hys i y hi).2.2
theorem wins_reach {ts : List TypeId} {ds : List (DataW H)} (h : (DataW.weightsEach Try.prog ts ds).all (· ≤ reachBytes) = true) {j : Nat} {d : DataW H} {cap : Nat}
    (ht : ts[j]? = some 35) (hd : ds[j]? = some d) (hi : ListData d cap) : cap * 16 ≤ 140737488351232 := by
  rcases hi with ⟨_, rfl⟩ | ⟨l, m, rfl, e⟩
  · omega
  · have := sized_slice h ht hd Try.underlying35
    rw [bytesWin, e] at this
    simpa [reachBytes] using this
end
#print axioms wins_open
#print axioms win_open
end Go.Proofs.Ytglkphngddnieaa.Frames
