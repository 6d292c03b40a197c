/-
  Sealing and opening: the contracts.
-/
import Derived.Test.YtgbnclaflhoabaaSumRefs
import Derived.Test.YtgbnclaflhoabaaMemApp
namespace Go.Proofs.Ytgbnclaflhoabaa.SumWalks
open Go.ChangeShapes Go.WideShapes Go.ChangeAt Go.RowKit Go.Proofs.Ytgbnclaflhoabaa.SumMath Go.Proofs.Ytgbnclaflhoabaa.Mem

/-- one slice handed to Of -/
theorem of1 (W : World) (g : Nat) (A : Option Addr) (n c : Nat) (xs : List UInt8) (B : Nat) (y : Int) (h0 : W.cell? ⟨g, 0, none⟩ = some (.slice A n c)) (h : Bytes W B A n xs) (hy : ((crc 0#32 xs).toNat : Int) = y) :
    Calls Try.prog 9 #[.slice (some ⟨g, 0, none⟩) 1 1] W fun e w' => e = .returned (.int .u32 y) ∧ W = w' := by
  have := of_any (some ⟨g, 0, none⟩) 1 1 [.slice A n c] [xs] (g + 1) B W ⟨rfl, by unfold maxLen; omega, fun _ => ⟨g, 0, rfl, by omega, fun j u hu => by
    match j, hu with
    | 0, hu => simp at hu; subst hu; exact h0⟩⟩ ⟨⟨A, n, c, rfl, h⟩, trivial⟩
  rw [← hy]
  simpa using this

theorem tail_nums {c : BitVec 32} {y : Int} (hy : (c.toNat : Int) = y) : [Value.int IntKind.u8 (y % 256), Value.int IntKind.u8 (y / 256 % 256), Value.int IntKind.u8 (y / 65536 % 256), Value.int IntKind.u8 (y / 16777216)] = bytesV (tail c) := by
  have hc := c.isLt
  have e0 : y % 256 = ((byteAt c 0).toNat : Int) := by rw [byteAt_nat]; simp only [Nat.mul_zero, Nat.pow_zero, Nat.div_one]; omega
  have e1 : y / 256 % 256 = ((byteAt c 1).toNat : Int) := by rw [byteAt_nat]; simp only [Nat.mul_one, show 2 ^ 8 = 256 from rfl]; omega
  have e2 : y / 65536 % 256 = ((byteAt c 2).toNat : Int) := by rw [byteAt_nat]; simp only [show 2 ^ (8 * 2) = 65536 from rfl]; omega
  have e3 : y / 16777216 = ((byteAt c 3).toNat : Int) := by rw [byteAt_nat]; simp only [show 2 ^ (8 * 3) = 16777216 from rfl]; omega
  rw [e0, e1, e2, e3]
  rfl

theorem seal_any (A : Option Addr) (n c : Nat) (xs : List UInt8) (w : World) (h : Bytes w w.heap.size A n xs) (hr : n + 4 ≤ 140737488355328) :
    Calls Try.prog 10 #[.slice A n c] w (Makes w 5 (n + 4) (bytesV (sealed xs))) := by
  obtain ⟨i0, hi, hz0, hz1, hz2⟩ := info_parts infoByte
  have hmk : ∀ u : World, (Instr.makeSlice 24 (.int .i64 0) (.int .i64 ((n : Int) + 4))).run Try.prog u =
      .ok (.slice (some ⟨u.heap.size, 0, none⟩) 0 (n + 4)) (u.alloc (.cells (madeCells #[.int .u8 0] (n + 4)) 5)) := fun u => by
    have h := run_make (P := Try.prog) u 24 5 i0 (.int .u8 0) Try.underlying24 hi hz0 .i64 .i64 0 ((n : Int) + 4) (by omega) (by omega) (by rw [hz2]; omega) (by omega)
    have e : ((n : Int) + 4).toNat = n + 4 := by omega
    rw [e] at h
    simpa [hz1, Value.cells] using h
  have H := Lib.hid h
  clear h hi hz0 hz1 hz2
  go_enter Try.func10, Try.ntmps10
  go_wp2_with fail
  obtain ⟨y, hy⟩ : ∃ y : Int, ((crc 0#32 xs).toNat : Int) = y := ⟨_, rfl⟩
  have hyb : 0 ≤ y ∧ y ≤ 4294967295 := by rw [← hy]; exact lt32 _
  obtain ⟨hy0, hy1⟩ := hyb
  have HY := Lib.hid hy
  clear hy
  refine (of1 _ _ A n c xs _ y (by go_simp) (H.out.alloc (Nat.le_refl _) _) HY.out).mono ?_
  rintro e w' ⟨rfl, rfl⟩
  obtain ⟨wm, hwm⟩ : ∃ wm, wm = (w.alloc (Obj.cells #[Value.slice A n c] 24)).alloc (Obj.cells (madeCells #[Value.int IntKind.u8 0] (n + 4)) 5) := ⟨_, rfl⟩
  have HA : Hid (Bytes wm w.heap.size A n xs) := by rw [hwm]; exact (H.out.alloc (Nat.le_refl _) _).alloc (by simp) _
  have HO : Hid (Own wm w.heap.size 5 (.slice (some ⟨w.heap.size + 1, 0, none⟩) 0 (n + 4)) 0 []) := by
    have := Own.made (w.alloc (Obj.cells #[Value.slice A n c] 24)) w.heap.size 5 #[Value.int IntKind.u8 0] (n + 4) (by simp) (by unfold maxLen; omega)
    rw [hwm]
    simp only [World.size_alloc] at this
    exact this
  have HB : Below w.heap.size w wm := by rw [hwm]; exact ((Below.refl _ _).alloc (Nat.le_refl _) _).alloc (by simp) _
  subst hwm
  go_wp2_with (first
    | (at_builtin; refine wpList_append_b (o := ⟨some 14, _, _, _, _, _⟩) rfl (.tmp 12) (.tmp 13) Try.underlying24 infoByte rfl rfl HO.out rfl HA.out rfl (bytesV_one xs) (by unfold maxLen; omega) (by omega) HB (by simp; omega) (by simp; omega) (Nat.le_refl _) ?_; intro v1 w1 HV HB1 HZ1 _)
    | (at_builtin; refine wpList_append_b (o := ⟨some 28, _, _, _, _, _⟩) rfl (.tmp 15) (.tmp 27) Try.underlying24 infoByte rfl rfl (HV.out.alloc _) rfl (new4 _ _ _ _ _ _) rfl ints_one (by unfold maxLen; omega) (by omega) (HB1.alloc (by have := HB1.size; omega) _) (by have := HB1.size; simp; omega) (by have := HB1.size; simp; omega) (Nat.le_refl _) ?_; intro v2 w2 HV2 HB2 HZ2 _))
  go_ret
  refine ⟨v2, rfl, HB2, ?_⟩
  have e := HV2.out
  rw [tail_nums HY.out, List.nil_append, Nat.zero_add, ← bytesV_append] at e
  exact e

theorem rseal_any (A : Option Addr) (n c : Nat) (xs : List UInt8) (w : World) (h : Bytes w w.heap.size A n xs) (hr : n + 4 ≤ 140737488355328) :
    Calls Try.prog 17 #[.slice A n c] w (Makes w 5 (n + 4) (bytesV (sealed xs))) := by
  have H := Lib.hid h
  obtain ⟨y, hy⟩ : ∃ y : Int, ((crc 0#32 xs).toNat : Int) = y := ⟨_, rfl⟩
  have hyb : 0 ≤ y ∧ y ≤ 4294967295 := by rw [← hy]; exact lt32 _
  obtain ⟨hy0, hy1⟩ := hyb
  have HY := Lib.hid hy
  have hadd := radd_any 0 0#32 rfl A n c xs _ w h
  rw [hy] at hadd
  have HADD := Lib.hid hadd
  clear hy h hadd
  have HA : Hid (Bytes (w.alloc (Obj.cells #[] 5)) w.heap.size A n xs) := H.out.alloc (Nat.le_refl _) _
  have HO : Hid (Own (w.alloc (Obj.cells #[] 5)) w.heap.size 5 (.slice (some ⟨w.heap.size, 0, none⟩) 0 0) 0 []) := Own.new w _ _ [] (Nat.le_refl _) (Nat.zero_le _)
  have HB : Below w.heap.size w (w.alloc (Obj.cells #[] 5)) := (Below.refl _ _).alloc (Nat.le_refl _) _
  go_enter Try.func17, Try.ntmps17
  go_wp2_with fail
  refine HADD.out.mono ?_
  rintro e w' ⟨rfl, rfl⟩
  go_wp2_with (first
    | (at_builtin; refine wpList_append_b (o := ⟨some 8, _, _, _, _, _⟩) rfl (.tmp 6) (.tmp 7) Try.underlying24 infoByte rfl rfl HO.out rfl HA.out rfl (bytesV_one xs) (by unfold maxLen; omega) (by omega) HB (by simp) (by simp) (Nat.le_refl _) ?_; intro v1 w1 HV HB1 HZ1 _)
    | (at_builtin; refine wpList_append_b (o := ⟨some 21, _, _, _, _, _⟩) rfl (.tmp 8) (.tmp 20) Try.underlying24 infoByte rfl rfl (HV.out.alloc _) rfl (new4 _ _ _ _ _ _) rfl ints_one (by unfold maxLen; omega) (by omega) (HB1.alloc (by have := HB1.size; omega) _) (by have := HB1.size; simp; omega) (by have := HB1.size; simp; omega) (Nat.le_refl _) ?_; intro v2 w2 HV2 HB2 HZ2 _))
  go_ret
  refine ⟨v2, rfl, HB2, ?_⟩
  have e := HV2.out
  rw [tail_nums HY.out, List.nil_append, Nat.zero_add, ← bytesV_append] at e
  exact e

#print axioms seal_any
#print axioms rseal_any
end Go.Proofs.Ytgbnclaflhoabaa.SumWalks
