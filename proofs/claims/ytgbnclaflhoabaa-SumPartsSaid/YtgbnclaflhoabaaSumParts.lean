/-
  SumParts walked.
-/
import Derived.Test.YtgbnclaflhoabaaSumTells
import Derived.Deep.RegionHeld3
namespace Go.Proofs.Ytgbnclaflhoabaa.SumWalks
open Go.ChangeShapes Go.WideShapes Go.ChangeAt Go.RowKit Go.Proofs.Ytgbnclaflhoabaa.SumMath Go.Proofs.Ytgbnclaflhoabaa.Mem

theorem of4 (W : World) (g : Nat) (A0 A1 A2 A3 : Option Addr) (n0 c0 n1 c1 n2 c2 n3 c3 : Nat) (x0 x1 x2 x3 : List UInt8) (B : Nat) (y : Int) (h0 : W.cell? ⟨g, 0, none⟩ = some (.slice A0 n0 c0)) (h1 : W.cell? ⟨g, 1, none⟩ = some (.slice A1 n1 c1))
    (h2 : W.cell? ⟨g, 2, none⟩ = some (.slice A2 n2 c2)) (h3 : W.cell? ⟨g, 3, none⟩ = some (.slice A3 n3 c3))
    (r0 : Bytes W B A0 n0 x0) (r1 : Bytes W B A1 n1 x1) (r2 : Bytes W B A2 n2 x2) (r3 : Bytes W B A3 n3 x3) (hy : ((crc 0#32 (x0 ++ (x1 ++ (x2 ++ x3)))).toNat : Int) = y) :
    Calls Try.prog 9 #[.slice (some ⟨g, 0, none⟩) 4 4] W fun e w' => e = .returned (.int .u32 y) ∧ W = w' := by
  have := of_any (some ⟨g, 0, none⟩) 4 4 [.slice A0 n0 c0, .slice A1 n1 c1, .slice A2 n2 c2, .slice A3 n3 c3] [x0, x1, x2, x3] (g + 1) B W ⟨rfl, by unfold maxLen; omega, fun _ => ⟨g, 0, rfl, by omega, fun j u hu => by
    match j, hu with
    | 0, hu => simp at hu; subst hu; exact h0
    | 1, hu => simp at hu; subst hu; exact h1
    | 2, hu => simp at hu; subst hu; exact h2
    | 3, hu => simp at hu; subst hu; exact h3⟩⟩ ⟨⟨A0, n0, c0, rfl, r0⟩, ⟨A1, n1, c1, rfl, r1⟩, ⟨A2, n2, c2, rfl, r2⟩, ⟨A3, n3, c3, rfl, r3⟩, trivial⟩
  rw [← hy]
  simpa using this

set_option maxHeartbeats 4000000 in
theorem sumParts_walk (A : Option Addr) (n c : Nat) (xs : List UInt8) (a b : Int) (W : World) (hc : n ≤ c) (hr : c ≤ 140737488351232) (h : Bytes W W.heap.size A n xs) (_ : (Lit.int .i64 a).wf = true) (_ : (Lit.int .i64 b).wf = true) :
    Calls Try.prog 5 #[.slice A n c, .int .i64 a, .int .i64 b] W fun e w' => e = .returned (.bool true) ∧ Below W.heap.size W w' := by
  obtain ⟨y, hy⟩ : ∃ y : Int, ((crc 0#32 xs).toNat : Int) = y := ⟨_, rfl⟩
  have HY := Lib.hid hy
  have H := Lib.hid h
  clear h hy
  go_enter Try.func5, Try.ntmps5
  go_wp2_with fail
  refine (within_any _ _ _ _ (by omega) (by omega) (by omega)).mono ?_
  rintro e w' ⟨i, hi, rfl, rfl⟩
  go_wp2_with fail
  refine (within_any _ _ _ _ (by omega) (by omega) (by omega)).mono ?_
  rintro e w' ⟨k, hk, rfl, rfl⟩
  go_wp2_with fail
  refine (of1 _ _ A n c xs W.heap.size y (by go_simp) (by exact H.out.alloc (Nat.le_refl _) _) HY.out).mono ?_
  rintro e w' ⟨rfl, rfl⟩
  go_wp2_with fail
  obtain ⟨hi0, hi1⟩ := hi
  obtain ⟨hk0, hk1⟩ := hk
  have hi2 : (i : Int) ≤ (c : Int) := by omega
  have hk2 : (k : Int) ≤ (c : Int) := by omega
  have hk3 : (0 : Int) ≤ (k : Int) := by omega
  obtain ⟨A1, hA1⟩ : ∃ B : Option Addr, (if c = i then A else A.map (·.add i)) = B := ⟨_, rfl⟩
  obtain ⟨A3, hA3⟩ : ∃ B : Option Addr, (if c = k then A else A.map (·.add k)) = B := ⟨_, rfl⟩
  have P0 : Hid (Bytes W W.heap.size A i (xs.take i)) := H.out.front (by omega)
  have P1 : Hid (Bytes W W.heap.size A1 (k - i) ((xs.drop i).take (k - i))) := by rw [← hA1]; exact H.out.part (by omega) (by omega) hc
  have P3 : Hid (Bytes W W.heap.size A3 (n - k) ((xs.drop k).take (n - k))) := by rw [← hA3]; exact H.out.part (by omega) (by omega) hc
  have P4 : Hid (Bytes W W.heap.size A1 (n - i) ((xs.drop i).take (n - i))) := by rw [← hA1]; exact H.out.part (by omega) (by omega) hc
  have HL := Lib.hid H.out.length
  have e3 : (xs.drop k).take (n - k) = xs.drop k := List.take_of_length_le (by rw [List.length_drop, HL.out]; exact Nat.le_refl _)
  have e4 : (xs.drop i).take (n - i) = xs.drop i := List.take_of_length_le (by rw [List.length_drop, HL.out]; exact Nat.le_refl _)
  have HS : Hid (((crc 0#32 (xs.take i ++ ((xs.drop i).take (k - i) ++ ([] ++ (xs.drop k).take (n - k))))).toNat : Int) = y) := by
    rw [e3, List.nil_append, show xs.drop k = (xs.drop i).drop (k - i) by rw [List.drop_drop]; congr 1; omega, List.take_append_drop, List.take_append_drop]
    exact HY.out
  obtain ⟨z, hz⟩ : ∃ z : Int, ((crc 0#32 (xs.take i)).toNat : Int) = z := ⟨_, rfl⟩
  have HZ := Lib.hid hz
  have HZ' : Hid (z = ((crc 0#32 (xs.take i)).toNat : Int)) := hz.symm
  have HQ : Hid (((crc (crc 0#32 (xs.take i)) ((xs.drop i).take (n - i))).toNat : Int) = y) := by
    rw [e4, ← crc_append, List.take_append_drop]
    exact HY.out
  have HY' : Hid (y = ((crc 0#32 xs).toNat : Int)) := HY.out.symm
  have HE : Hid (((crc (crc 0#32 xs) []).toNat : Int) = y) := by rw [crc_nil]; exact HY.out
  clear hz e3 e4
  go_region_held3 (fun u => Below W.heap.size W u) (first | assumption | (refine Below.drew ?_; exact (Below.refl _ _).alloc (Nat.le_refl _) _) | (refine Below.drew ?_; refine Below.alloc (by assumption) (Below.size (by assumption)) _) | (refine Below.alloc (by assumption) (Below.size (by assumption)) _) | (exact Below.trans (by assumption) (Below.mono (by assumption) (Below.size (by assumption)))))
    (first
      | (go_at_call 9; (with_reducible refine (of4 _ _ A A1 none A3 i c (k - i) (c - i) 0 0 (n - k) (c - k) (xs.take i) ((xs.drop i).take (k - i)) [] ((xs.drop k).take (n - k)) W.heap.size y (by go_simp) (by go_simp) (by go_simp) (by go_simp) (by exact P0.out.keep (by assumption)) (by exact P1.out.keep (by assumption)) Reads.none_ (by exact P3.out.keep (by assumption)) HS.out).mono ?_); rintro e w' ⟨rfl, rfl⟩)
      | (go_at_call 9; (with_reducible refine (of1 _ _ A i c (xs.take i) W.heap.size z (by go_simp) (by exact P0.out.keep (by assumption)) HZ.out).mono ?_); rintro e w' ⟨rfl, rfl⟩)
      | (go_at_call 14; (with_reducible refine (add_val z _ HZ'.out A1 (n - i) (c - i) ((xs.drop i).take (n - i)) W.heap.size _ y (by exact P4.out.keep (by assumption)) HQ.out).mono ?_); rintro e w' ⟨rfl, rfl⟩)
      | (go_at_call 14; (with_reducible refine (add_val y _ HY'.out none 0 0 [] 0 _ y Reads.none_ HE.out).mono ?_); rintro e w' ⟨rfl, rfl⟩)
      | (go_at_call 3; refine (runs_any _).mono ?_; rintro e w' ⟨rfl, hb⟩))
  go_wp2_with fail
  go_ret
  exact ⟨rfl, by assumption⟩

#print axioms sumParts_walk
end Go.Proofs.Ytgbnclaflhoabaa.SumWalks
