/-
  What the frames of the proofs share: a slice of ints that came in, opened; what the form's reach, or the bound of an Upto statement, says of its length.
-/
import Derived.Test.YtjkahookgoecpaaMemInts
import Derived.SizedLaws
import Derived.ChangeOld
import Derived.ShutString
import Derived.JoinedCond
namespace Go.Proofs.Ytjkahookgoecpaa.Frames
open Go.ChangeShapes Go.WideShapes Go.ChangeAt Go.RowKit Go.Proofs.Ytjkahookgoecpaa.Mem

theorem own : ownKnob Try.prog.godebug = none := by kernel_rfl
theorem laidOut : laidOutB Try.prog = true := by kernel_rfl
theorem cellsInt : Try.prog.cellsOf 3 = 1 := by kernel_rfl
theorem bytesInt : Try.prog.bytesOf 3 = 8 := by kernel_rfl

theorem lits_length {H : Type} (k : IntKind) (l : List Int) : (lits (H := H) k l).length = l.length := by simp [lits]

/-- what a slice of ints reads as -/
def IntsData {H : Type} (d : DataW H) (cap : Nat) : Prop := d = .nil ∧ cap = 0 ∨ ∃ l m : List Int, d = .slice (lits .i64 l) (lits .i64 m) ∧ l.length + m.length = cap

theorem ints_open {H : Type} {enc : TypeId × Value → H} {W : World} {a : Option Addr} {len cap : Nat} {d : DataW H} {p : List MemPlace}
    (h : DataW.Trod enc Try.prog W 0 (fun _ => true) true 47 (.slice a len cap) d p) :
    len ≤ cap ∧ cap ≤ maxLen ∧ IntsData d cap ∧ ∃ zs : List Int, zs.length = len ∧ Ints W W.heap.size a len zs ∧ ∀ z ∈ zs, (Lit.int .i64 z).wf = true := by
  obtain ⟨fuel, hf⟩ := h
  rcases open_ints Try.underlying47 Try.underlying3 cellsInt hf with ⟨hcs, hx⟩ | ⟨x, l, c, zs, hcs, _, hl, hm, hz, hx, hcell, hwz⟩
  · simp [Value.cells] at hcs
    obtain ⟨rfl, rfl, rfl⟩ := hcs
    simp only [Prod.mk.injEq] at hx
    exact ⟨Nat.le_refl _, Nat.zero_le _, .inl ⟨hx.1, rfl⟩, [], rfl, Reads.none_, by simp⟩
  · simp [Value.cells] at hcs
    obtain ⟨rfl, rfl, rfl⟩ := hcs
    simp only [Prod.mk.injEq] at hx
    simp only [if_true] at hz
    have e : (zs.take len).length = len := by rw [List.length_take]; omega
    refine ⟨hl, hm, .inr ⟨zs.take len, zs.drop len, hx.1, by rw [List.length_take, List.length_drop]; omega⟩, zs.take len, e, ?_, fun n hn => hwz n (List.mem_of_mem_take hn)⟩
    refine ⟨by rw [intsV_len]; exact e, by omega, fun hp => ?_⟩
    obtain ⟨b, off, spot⟩ := x
    have hc := hcell 0 (by omega)
    have hspot : spot = none := by simpa [Addr.add] using World.cell?_spot hc
    subst hspot
    refine ⟨b, off, rfl, ?_, fun j u hu => ?_⟩
    · have := World.block_lt_of_cell? _ _ hc
      simpa [Addr.add] using this
    · obtain ⟨z, hz', rfl⟩ := intsV_get hu
      have hj : j < len := by
        rcases Nat.lt_or_ge j len with h | h
        · exact h
        · rw [List.getElem?_eq_none (by omega)] at hz'; cases hz'
      have hg := hcell j (by omega)
      have hu' : zs[j]? = some z := by rw [List.getElem?_take] at hz'; simpa [hj] using hz'
      have he : zs.getD j 0 = z := by simp [List.getD, hu']
      rw [he] at hg
      rw [add_at] at hg
      exact hg

theorem ints_reach {H : Type} {ts : List TypeId} {ds : List (DataW H)} (h : (DataW.weightsEach Try.prog ts ds).all (· ≤ reachBytes) = true) {j : Nat} {d : DataW H} {cap : Nat}
    (ht : ts[j]? = some 47) (hd : ds[j]? = some d) (hi : IntsData d cap) : cap * 8 ≤ 140737488351232 := by
  rcases hi with ⟨_, rfl⟩ | ⟨l, m, rfl, e⟩
  · omega
  · have := sized_slice h ht hd Try.underlying47
    rw [bytesInt, lits_length, lits_length, e] at this
    simpa [reachBytes] using this

theorem one_le {H : Type} (d : DataW H) : 1 ≤ Rows.uptoBulk d := by
  cases d with
  | lit l => cases l <;> simp [Rows.uptoBulk]
  | _ => simp [Rows.uptoBulk]
theorem length_le {H : Type} (l : List (DataW H)) : l.length ≤ Rows.uptoBulkAll l := by
  induction l with
  | nil => simp [Rows.uptoBulkAll]
  | cons x r ih => have := one_le x; simp only [Rows.uptoBulkAll, List.length_cons]; omega
theorem ints_bulk {H : Type} {d : DataW H} {cap : Nat} (hi : IntsData d cap) : cap ≤ Rows.uptoBulk d := by
  rcases hi with ⟨_, rfl⟩ | ⟨l, m, rfl, e⟩
  · exact Nat.zero_le _
  · have h1 := length_le (lits (H := H) .i64 l)
    have h2 := length_le (lits (H := H) .i64 m)
    rw [lits_length] at h1 h2
    simp only [Rows.uptoBulk]
    omega
theorem bulk_bound {H : Type} {l : List (DataW H)} (hk : Rows.uptoSmall H l = true) : Rows.uptoBulkAll l ≤ 1048576 := of_decide_eq_true hk

#print axioms ints_open
end Go.Proofs.Ytjkahookgoecpaa.Frames
