/-
  Opening: the contracts.
-/
import Derived.Test.YtgbnclaflhoabaaSumSeal
import Derived.Deep.RegionWith
import Derived.Deep.DeepCutAuto
namespace Go.Proofs.Ytgbnclaflhoabaa.SumWalks
open Go.ChangeShapes Go.WideShapes Go.ChangeAt Go.RowKit Go.Proofs.Ytgbnclaflhoabaa.SumMath Go.Proofs.Ytgbnclaflhoabaa.Mem

/-- what opening answers -/
def opened (xs : List UInt8) : List UInt8 := if isSealed xs then xs.take (xs.length - 4) else []
def Opens (w : World) (xs : List UInt8) (en : Ending) (w' : World) : Prop := ∃ v, en = .returned (.tuple #[v, .bool (isSealed xs)]) ∧ Below w.heap.size w w' ∧ Own w' w.heap.size 5 v (opened xs).length (bytesV (opened xs))
theorem opens_no {w w' : World} {xs : List UInt8} (h : isSealed xs = false) (hb : Below w.heap.size w w') : Opens w xs (.returned (.tuple #[.slice none 0 0, .bool false])) w' := by
  refine ⟨.slice none 0 0, by rw [h], hb, ?_⟩
  have : opened xs = [] := by unfold opened; rw [h]; rfl
  rw [this]
  exact Own.nil _ _ _

set_option maxHeartbeats 4000000 in
theorem open_any (A : Option Addr) (n c : Nat) (xs : List UInt8) (w : World) (h : Bytes w w.heap.size A n xs) (hc : n ≤ c) (hr : n ≤ 140737488355328) :
    Calls Try.prog 11 #[.slice A n c] w (Opens w xs) := by
  by_cases hn : n < 4
  · have HN : Hid (isSealed xs = false) := isSealed_short xs (by rw [h.length]; exact hn)
    go_enter Try.func11, Try.ntmps11
    go_wp2
    go_ret2
    exact opens_no HN.out (Below.refl _ _)
  · obtain ⟨m, rfl⟩ : ∃ m, n = m + 4 := ⟨n - 4, by omega⟩
    obtain ⟨a0, a1, a2, a3, hx⟩ := last_four xs (by rw [h.length]; omega)
    rw [h.length, Nat.add_sub_cancel] at hx
    obtain ⟨b, off, rfl, hb, hcell⟩ := h.2.2 (by omega)
    have HF : Hid (Bytes w w.heap.size (some ⟨b, off, none⟩) m (xs.take m)) := h.front (by omega)
    have HT : Hid (Bytes w w.heap.size (some ⟨b, off + m, none⟩) 4 [a0, a1, a2, a3]) := by
      have e := h.part (l := m) (k := m + 4) (c := c) (by omega) (by omega) hc
      rw [if_neg (by omega), Option.map_some, add_at, Nat.add_sub_cancel_left, hx, List.drop_append_of_le_length (by rw [List.length_take, h.length]; omega), List.drop_of_length_le (by rw [List.length_take]; omega)] at e
      exact e
    have HX := Lib.hid hx
    have H := Lib.hid h
    have hcm : ¬ c = m := by omega
    clear hx h hcell hn
    obtain ⟨y, hy⟩ : ∃ y : Int, ((crc 0#32 (xs.take m)).toNat : Int) = y := ⟨_, rfl⟩
    have HY := Lib.hid hy
    clear hy
    obtain ⟨z, hz⟩ : ∃ z : Int, ((word a0 a1 a2 a3).toNat : Int) = z := ⟨_, rfl⟩
    have HZ := Lib.hid hz
    clear hz
    obtain ⟨i0, hi, hz0, hz1, hz2⟩ := info_parts infoByte
    have hmk : ∀ u : World, (Instr.makeSlice 24 (.int .i64 (m : Int)) (.int .i64 (m : Int))).run Try.prog u =
        .ok (.slice (some ⟨u.heap.size, 0, none⟩) m m) (u.alloc (.cells (madeCells #[.int .u8 0] m) 5)) := fun u => by
      have h := run_make (P := Try.prog) u 24 5 i0 (.int .u8 0) Try.underlying24 hi hz0 .i64 .i64 (m : Int) (m : Int) (by omega) (by omega) (by rw [hz2]; omega) (by omega)
      simpa [hz1, Value.cells] using h
    clear hi hz0 hz1 hz2
    go_enter Try.func11, Try.ntmps11
    go_upto_region 4 with fail
    go_cut [21] (fun s wx => s = .bool (y != z) ∧ Below w.heap.size w wx)
    case first =>
      go_region_with (first
        | (go_at_call 9; refine (of1 _ _ (some ⟨b, off, none⟩) m c (xs.take m) w.heap.size y (by go_simp) (by first | exact (HF.out.alloc (by simp) _).drew | exact (HF.out.drew.alloc (by simp) _) | exact ((HF.out.alloc (by simp) _).drew.drewN _) | exact ((HF.out.drew.drewN _).alloc (by simp) _)) HY.out).mono ?_; rintro e w' ⟨rfl, rfl⟩)
        | (go_at_call 23; refine (read_any (some ⟨b, off + m, none⟩) _ a0 a1 a2 a3 w.heap.size _ (by first | exact (HT.out.alloc (by simp) _).drew | exact HT.out.drew | exact HT.out)).mono ?_; rw [HZ.out]; rintro e w' ⟨rfl, d, rfl⟩))
      all_goals (go_wp2_with fail; go_meet; refine ⟨rfl, ?_⟩; repeat (first | exact Below.refl _ _ | refine Below.drew ?_ | refine below_drewN ?_ _ | refine Below.alloc ?_ (by simp) _))
    case rest =>
      obtain ⟨rfl, hb⟩ := hcut
      clear HF HT
      by_cases hyz : y = z
      · subst hyz
        have HN : Hid (isSealed xs = true) := by
          rw [HX.out, sealed_iff]
          have e : crc 0#32 (xs.take m) = word a0 a1 a2 a3 := BitVec.eq_of_toNat_eq (by have h1 := HY.out; have h2 := HZ.out; omega)
          simpa [Hid] using e
        have hne : (y != y) = false := by simp
        have HC : Hid (Bytes (wc.alloc (.cells (madeCells #[.int .u8 0] m) 5)) w.heap.size (some ⟨b, off, none⟩) m (xs.take m)) := (H.out.front (by omega)).keep (hb.alloc hb.size _)
        go_wp2_with (with_reducible refine wpList_copy_splice (o := ⟨some 26, _, _, _, _, _⟩) rfl (.tmp 24) (.tmp 25) 24 24 rfl 5 Try.underlying24 sizeByte _ _ _ _ _ _ rfl rfl wc.heap.size 0 (madeCells #[.int .u8 0] m).toList 5 (by rw [Array.toArray_toList]; exact heap_alloc_new wc _) (bytesV (xs.take m)) (by rw [Reads.len HC.out]; show m = min (m + 4) m; omega) (fun h => ⟨rfl, Reads.src HC.out h⟩) (by rw [Reads.len HC.out, Array.length_toList, size_madeCells]; omega) (bytesV_one _) w.heap.size w (hb.alloc hb.size _) hb.size ?_; intro w1 HR hB)
        go_ret2
        refine ⟨.slice (some ⟨wc.heap.size, 0, none⟩) m m, by rw [HN.out]; rfl, hB, ?_⟩
        have e : opened xs = xs.take m := by unfold opened; rw [if_pos HN.out, H.out.length, Nat.add_sub_cancel]
        have hl : (xs.take m).length = m := HC.out.length
        have hr := HR.out
        rw [splice_all _ _ _ HC.out.1] at hr
        have ho := Own.of_row (base := w.heap.size) hr hb.size (by rw [HC.out.1]; unfold maxLen; omega)
        rw [e, hl]
        rw [HC.out.1] at ho
        exact ho
      · have HN : Hid (isSealed xs = false) := by
          rw [HX.out, sealed_iff]
          have e : ¬ crc 0#32 (xs.take m) = word a0 a1 a2 a3 := fun e => hyz (by rw [← HY.out, ← HZ.out, e])
          simpa [Hid] using e
        have hne : (y != z) = true := by simpa using hyz
        clear hyz
        go_wp2
        go_ret2
        exact opens_no HN.out hb

#print axioms open_any
end Go.Proofs.Ytgbnclaflhoabaa.SumWalks
