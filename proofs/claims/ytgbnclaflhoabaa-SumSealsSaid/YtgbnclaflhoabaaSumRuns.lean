/-
  Chapter 2's example runs come out as the chapter says (SumRuns returns true), whatever the memory; only new memory is written.
-/
import Derived.Test.YtgbnclaflhoabaaSumOpen
import Derived.Test.YtgbnclaflhoabaaBytesSame
import Derived.Lib.SlBytesConst
namespace Go.Proofs.Ytgbnclaflhoabaa.SumWalks
open Go.ChangeShapes Go.WideShapes Go.ChangeAt Go.RowKit Go.Proofs.Ytgbnclaflhoabaa.SumMath Go.Proofs.Ytgbnclaflhoabaa.Mem

theorem of0 (W : World) : Calls Try.prog 9 #[.slice none 0 0] W fun e w' => e = .returned (.int .u32 0) ∧ W = w' := of_any none 0 0 [] [] 0 0 W Reads.none_ trivial
theorem of2 (W : World) (g : Nat) (A A' : Option Addr) (n c n' c' : Nat) (xs ys : List UInt8) (B : Nat) (y : Int) (h0 : W.cell? ⟨g, 0, none⟩ = some (.slice A n c)) (h1 : W.cell? ⟨g, 1, none⟩ = some (.slice A' n' c'))
    (h : Bytes W B A n xs) (h' : Bytes W B A' n' ys) (hy : ((crc 0#32 (xs ++ ys)).toNat : Int) = y) :
    Calls Try.prog 9 #[.slice (some ⟨g, 0, none⟩) 2 2] W fun e w' => e = .returned (.int .u32 y) ∧ W = w' := by
  have := of_any (some ⟨g, 0, none⟩) 2 2 [.slice A n c, .slice A' n' c'] [xs, ys] (g + 1) B W ⟨rfl, by unfold maxLen; omega, fun _ => ⟨g, 0, rfl, by omega, fun j u hu => by
    match j, hu with
    | 0, hu => simp at hu; subst hu; exact h0
    | 1, hu => simp at hu; subst hu; exact h1⟩⟩ ⟨⟨A, n, c, rfl, h⟩, ⟨A', n', c', rfl, h'⟩, trivial⟩
  rw [← hy]
  simpa using this

/-- opening with its answer spelled out -/
theorem open_val (A : Option Addr) (n c : Nat) (xs ys : List UInt8) (r : Bool) (w : World) (h : Bytes w w.heap.size A n xs) (hc : n ≤ c) (hn : n ≤ 64) (hr : isSealed xs = r) (hy : opened xs = ys) :
    Calls Try.prog 11 #[.slice A n c] w fun e w' => ∃ A' c', e = .returned (.tuple #[.slice A' ys.length c', .bool r]) ∧ Below w.heap.size w w' ∧ Bytes w' w'.heap.size A' ys.length ys := by
  refine (open_any A n c xs w h hc (by omega)).mono ?_
  rintro e w' ⟨v, rfl, hb, ho⟩
  rw [hy] at ho
  obtain ⟨A', c', rfl, _, hrd⟩ := ho.read
  exact ⟨A', c', by rw [hr], hb, hrd⟩
theorem seal_nil (w : World) : Calls Try.prog 10 #[.slice none 0 0] w fun e w' => ∃ A' c', e = .returned (.slice A' 4 c') ∧ 4 ≤ c' ∧ Below w.heap.size w w' ∧ Bytes w' w'.heap.size A' 4 [0, 0, 0, 0] := by
  refine (seal_any none 0 0 [] w Reads.none_ (by omega)).mono ?_
  rintro e w' ⟨v, rfl, hb, ho⟩
  obtain ⟨A', c', rfl, hc, hrd⟩ := ho.read
  have e : sealed [] = [0, 0, 0, 0] := by decide +kernel
  rw [e] at hrd
  exact ⟨A', c', rfl, hc, hb, hrd⟩

set_option maxHeartbeats 2000000 in
set_option maxRecDepth 100000 in
theorem runs_any (w : World) : Calls Try.prog 3 #[] w fun e w' => e = .returned (.bool true) ∧ Below w.heap.size w w' := by
  have kc : ∀ (u : World) (C : Array Value) (n c g : Nat), u.heap.size = g → (convert 24 24 (.slice (some ⟨g, 0, none⟩) n c)).run Try.prog (u.alloc (.cells C 5)) = .ok (.slice (some ⟨g, 0, none⟩) n c) (u.alloc (.cells C 5 (C.size, C.size + 1))) := by
    rintro u C n c g rfl
    exact Lib.run_convert_bytes_const (P := Try.prog) u 24 5 C n c Try.underlying24 Try.underlying5
  go_enter Try.func3, Try.ntmps3
  go_wp2_with fail
  refine (of1 _ _ (some ⟨w.heap.size, 0, none⟩) 9 9 [49, 50, 51, 52, 53, 54, 55, 56, 57] (w.heap.size + 1) 3421780262 (by go_simp) (by refine Lits.bytes ?_ rfl (by decide) (by omega); refine ⟨?_, ?_, ?_, ?_, ?_, ?_, ?_, ?_, ?_, trivial⟩ <;> (first | (go_simp; done) | (go_simp; exact cell_marked (by simp) rfl))) (by decide +kernel)).mono ?_
  rintro e w' ⟨rfl, rfl⟩
  go_wp2_with fail
  refine (of2 _ _ (some ⟨w.heap.size + 2, 0, none⟩) (some ⟨w.heap.size + 3, 0, none⟩) 4 4 5 5 [49, 50, 51, 52] [53, 54, 55, 56, 57] (w.heap.size + 4) 3421780262 (by go_simp) (by go_simp)
    (by refine Lits.bytes ?_ rfl (by decide) (by omega); refine ⟨?_, ?_, ?_, ?_, trivial⟩ <;> (first | (go_simp; done) | (go_simp; exact cell_marked (by simp) rfl))) (by refine Lits.bytes ?_ rfl (by decide) (by omega); refine ⟨?_, ?_, ?_, ?_, ?_, trivial⟩ <;> (first | (go_simp; done) | (go_simp; exact cell_marked (by simp) rfl))) (by decide +kernel)).mono ?_
  rintro e w' ⟨rfl, rfl⟩
  go_wp2_with fail
  refine (seal_nil _).mono ?_
  rintro e w1 ⟨A1, c1, rfl, hc1, hb1, hr1⟩
  have HB1 : Hid (Below w.heap.size w w1) := Below.trans (by repeat (first | exact Below.refl _ _ | refine Below.alloc ?_ (by simp <;> omega) _)) (hb1.mono (by simp <;> omega))
  have HR1 := Lib.hid hr1
  clear hb1 hr1
  go_wp2_with fail
  refine (open_val _ 4 c1 [0, 0, 0, 0] [] true _ HR1.out hc1 (by omega) (by decide +kernel) (by decide +kernel)).mono ?_
  rintro e w2 ⟨A2, c2, rfl, hb2, -⟩
  have HB2 : Hid (Below w1.heap.size w1 w2) := hb2
  clear hb2
  go_wp2_with fail
  refine (open_val (some ⟨w2.heap.size, 0, none⟩) 3 3 [1, 2, 3] [] false _ (by refine Lits.bytes ?_ rfl (by decide) (by simp); refine ⟨?_, ?_, ?_, trivial⟩ <;> (first | (go_simp; done) | (go_simp; exact cell_marked (by simp) rfl))) (by omega) (by omega) (by decide +kernel) (by decide +kernel)).mono ?_
  rintro e w3 ⟨A3, c3, rfl, hb3, -⟩
  have HB3 : Hid (Below w2.heap.size w2 w3) := Below.trans ((Below.refl _ _).alloc (Nat.le_refl _) _) (hb3.mono (by simp))
  clear hb3
  go_wp2_with fail
  refine (open_val (some ⟨w3.heap.size, 0, none⟩) 5 5 [97, 67, 190, 183, 232] [97] true _ (by refine Lits.bytes ?_ rfl (by decide) (by simp); refine ⟨?_, ?_, ?_, ?_, ?_, trivial⟩ <;> (first | (go_simp; done) | (go_simp; exact cell_marked (by simp) rfl))) (by omega) (by omega) (by decide +kernel) (by decide +kernel)).mono ?_
  rintro e w4 ⟨A4, c4, rfl, hb4, hr4⟩
  have HB4 : Hid (Below w3.heap.size w3 w4) := Below.trans ((Below.refl _ _).alloc (Nat.le_refl _) _) (hb4.mono (by simp))
  have HR4 := Lib.hid hr4
  clear hb4 hr4
  go_wp2_with fail
  refine (open_val (some ⟨w4.heap.size, 0, none⟩) 5 5 [97, 67, 190, 183, 233] [] false _ (by refine Lits.bytes ?_ rfl (by decide) (by simp); refine ⟨?_, ?_, ?_, ?_, ?_, trivial⟩ <;> (first | (go_simp; done) | (go_simp; exact cell_marked (by simp) rfl))) (by omega) (by omega) (by decide +kernel) (by decide +kernel)).mono ?_
  rintro e w5 ⟨A5, c5, rfl, hb5, -⟩
  have HB5 : Hid (Below w4.heap.size w4 w5) := Below.trans ((Below.refl _ _).alloc (Nat.le_refl _) _) (hb5.mono (by simp))
  clear hb5
  go_wp2_with fail
  refine (of0 _).mono ?_
  rintro e w' ⟨rfl, rfl⟩
  have HS : Hid (Bytes (w5.alloc (Obj.cells #[.int .u8 0, .int .u8 0, .int .u8 0, .int .u8 0] 5)) w1.heap.size A1 4 [0, 0, 0, 0]) := by
    have h2 : Below w1.heap.size w1 w5 := ((HB2.out.trans (HB3.out.mono HB2.out.size)).trans (HB4.out.mono (Nat.le_trans HB2.out.size HB3.out.size))).trans (HB5.out.mono (Nat.le_trans (Nat.le_trans HB2.out.size HB3.out.size) HB4.out.size))
    exact (HR1.out.keep h2).alloc h2.size _
  have HL : Hid (Bytes (w5.alloc (Obj.cells #[.int .u8 0, .int .u8 0, .int .u8 0, .int .u8 0] 5)) (w5.heap.size + 1) (some ⟨w5.heap.size, 0, none⟩) 4 [0, 0, 0, 0]) := by
    refine Lits.bytes ?_ rfl (by decide) (by omega); refine ⟨?_, ?_, ?_, ?_, trivial⟩ <;> (first | (go_simp; done) | (go_simp; exact cell_marked (by simp) rfl))
  go_wp2_with fail
  refine (same_yes _ _ _ _ _ _ [0, 0, 0, 0] _ _ _ HS.out HL.out).mono ?_
  rintro e w' ⟨rfl, d, rfl⟩
  have HS4 : Hid (Bytes (((w5.alloc (Obj.cells #[.int .u8 0, .int .u8 0, .int .u8 0, .int .u8 0] 5)).drewN d).alloc (Obj.cells #[.int .u8 97] 5 (1, 2))) w4.heap.size A4 1 [97]) := by
    have h2 : Below w4.heap.size w4 w5 := HB5.out
    exact (((HR4.out.keep h2).alloc h2.size _).drewN d).alloc (by have := h2.size; simp; omega) _
  have HL4 : Hid (Bytes (((w5.alloc (Obj.cells #[.int .u8 0, .int .u8 0, .int .u8 0, .int .u8 0] 5)).drewN d).alloc (Obj.cells #[.int .u8 97] 5 (1, 2))) (w5.heap.size + 2) (some ⟨w5.heap.size + 1, 0, none⟩) 1 [97]) := by
    refine Lits.bytes ?_ rfl (by decide) (by omega)
    exact ⟨cell_marked (by simp) rfl, trivial⟩
  go_wp2_with fail
  refine (same_yes _ _ _ _ _ _ [97] _ _ _ HS4.out HL4.out).mono ?_
  rintro e w' ⟨rfl, d', rfl⟩
  have HF : Hid (Below w.heap.size w ((((w5.alloc (Obj.cells #[.int .u8 0, .int .u8 0, .int .u8 0, .int .u8 0] 5)).drewN d).alloc (Obj.cells #[.int .u8 97] 5 (1, 2))).drewN d')) := by
    have e1 := HB1.out.size
    have e2 := HB2.out.size
    have e3 := HB3.out.size
    have e4 := HB4.out.size
    have e5 := HB5.out.size
    have h2 : Below w.heap.size w w5 := (((HB1.out.trans (HB2.out.mono e1)).trans (HB3.out.mono (by omega))).trans (HB4.out.mono (by omega))).trans (HB5.out.mono (by omega))
    exact below_drewN ((below_drewN (h2.alloc (by omega) _) d).alloc (by simp; omega) _) d'
  go_wp2_with fail
  go_ret
  exact ⟨rfl, HF.out⟩

#print axioms runs_any
end Go.Proofs.Ytgbnclaflhoabaa.SumWalks
