/-
  What the frames of the proofs share: a slice of bytes that came in, opened; what the form's reach, or the bound of an Upto statement, says of its length.
-/
import Derived.Test.YtbnhbbjmocclmaaFrames
namespace Go.Proofs.Ytbnhbbjmocclmaa.Frames
open Go.ChangeShapes Go.WideShapes Go.ChangeAt Go.RowKit Go.Proofs.Ytbnhbbjmocclmaa.Mem

theorem cellsByte : Try.prog.cellsOf 5 = 1 := by kernel_rfl
theorem bytesByte : Try.prog.bytesOf 5 = 1 := by kernel_rfl

/-- what a slice of bytes reads as -/
def BytesData {H : Type} (d : DataW H) (cap : Nat) : Prop := d = .nil ∧ cap = 0 ∨ ∃ l m : List Int, d = .slice (lits .u8 l) (lits .u8 m) ∧ l.length + m.length = cap

theorem byte_back {z : Int} (h : (Lit.int .u8 z).wf = true) : ((UInt8.ofNat z.toNat).toNat : Int) = z := by
  have hb : 0 ≤ z ∧ z ≤ 255 := by
    have h' := h
    simp [Lit.wf, IntKind.min, IntKind.max, IntKind.signed, IntKind.bits] at h'
    omega
  rw [UInt8.toNat_ofNat']
  omega
theorem nums_bytes {zs : List Int} (h : ∀ z ∈ zs, (Lit.int .u8 z).wf = true) : bytesV (zs.map fun z => UInt8.ofNat z.toNat) = zs.map fun z => Value.int .u8 z := by
  unfold bytesV
  rw [List.map_map]
  apply List.map_congr_left
  intro z hz
  show Value.int .u8 _ = _
  rw [byte_back (h z hz)]

theorem bytes_open {H : Type} {enc : TypeId × Value → H} {W : World} {a : Option Addr} {len cap : Nat} {d : DataW H} {p : List MemPlace}
    (h : DataW.Trod enc Try.prog W 0 (fun _ => true) true 44 (.slice a len cap) d p) :
    len ≤ cap ∧ cap ≤ maxLen ∧ BytesData d cap ∧ ∃ zs : List UInt8, zs.length = len ∧ Bytes W W.heap.size a len zs := by
  obtain ⟨fuel, hf⟩ := h
  rcases open_ints Try.underlying44 Try.underlying5 cellsByte hf with ⟨hcs, hx⟩ | ⟨x, l, c, zs, hcs, _, hl, hm, hz, hx, hcell, hwz⟩
  · simp [Value.cells] at hcs
    obtain ⟨rfl, rfl, rfl⟩ := hcs
    simp only [Prod.mk.injEq] at hx
    exact ⟨Nat.le_refl _, Nat.zero_le _, .inl ⟨hx.1, rfl⟩, [], rfl, Reads.none_⟩
  · simp [Value.cells] at hcs
    obtain ⟨rfl, rfl, rfl⟩ := hcs
    simp only [Prod.mk.injEq] at hx
    simp only [if_true] at hz
    have e : (zs.take len).length = len := by rw [List.length_take]; omega
    refine ⟨hl, hm, .inr ⟨zs.take len, zs.drop len, hx.1, by rw [List.length_take, List.length_drop]; omega⟩, (zs.take len).map fun z => UInt8.ofNat z.toNat, by rw [List.length_map]; exact e, ?_⟩
    show Reads W W.heap.size (some x) len (bytesV _)
    rw [nums_bytes fun z hz' => hwz z (List.mem_of_mem_take hz')]
    refine ⟨by rw [List.length_map]; exact e, by omega, fun hp => ?_⟩
    obtain ⟨b, off, spot⟩ := x
    have hc := hcell 0 (by omega)
    have hspot : spot = none := by simpa [Addr.add] using World.cell?_spot hc
    subst hspot
    refine ⟨b, off, rfl, ?_, fun j u hu => ?_⟩
    · have := World.block_lt_of_cell? _ _ hc
      simpa [Addr.add] using this
    · simp only [List.getElem?_map, Option.map_eq_some_iff] at hu
      obtain ⟨z, hz', rfl⟩ := hu
      have hj : j < len := by
        rcases Nat.lt_or_ge j len with h | h
        · exact h
        · rw [List.getElem?_eq_none (by omega)] at hz'; cases hz'
      have hg := hcell j (by omega)
      have hu' : zs[j]? = some z := by rw [List.getElem?_take] at hz'; simpa [hj] using hz'
      have he : zs.getD j 0 = z := by simp [List.getD, hu']
      rw [he] at hg
      rw [add_at] at hg
      exact hg

theorem bytes_reach {H : Type} {ts : List TypeId} {ds : List (DataW H)} (h : (DataW.weightsEach Try.prog ts ds).all (· ≤ reachBytes) = true) {j : Nat} {d : DataW H} {cap : Nat}
    (ht : ts[j]? = some 44) (hd : ds[j]? = some d) (hi : BytesData d cap) : cap ≤ 140737488351232 := by
  rcases hi with ⟨_, rfl⟩ | ⟨l, m, rfl, e⟩
  · omega
  · have := sized_slice h ht hd Try.underlying44
    rw [bytesByte, lits_length, lits_length, e] at this
    simpa [reachBytes] using this

theorem bytes_bulk {H : Type} {d : DataW H} {cap : Nat} (hi : BytesData d cap) : cap ≤ Rows.uptoBulk d := by
  rcases hi with ⟨_, rfl⟩ | ⟨l, m, rfl, e⟩
  · exact Nat.zero_le _
  · have h1 := length_le (lits (H := H) .u8 l)
    have h2 := length_le (lits (H := H) .u8 m)
    rw [lits_length] at h1 h2
    simp only [Rows.uptoBulk]
    omega
#print axioms bytes_open
end Go.Proofs.Ytbnhbbjmocclmaa.Frames
