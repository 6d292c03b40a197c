/-
  draybook for bytes: Roomy (a copy with room behind it), Intact: the contracts.
-/
import Derived.Test.YtgbnclaflhoabaaBytesSame
namespace Go.Proofs.Ytgbnclaflhoabaa.Mem
open Go.ChangeShapes Go.WideShapes Go.ChangeAt Go.RowKit

/-- Roomy's row when the marks stand up to k -/
def roomAt (xs : List UInt8) (m : UInt8) (k : Nat) : List Value := bytesV (xs ++ (List.replicate (k - xs.length) m ++ List.replicate (xs.length + 80 - k) 0))
theorem roomAt_len (xs : List UInt8) (m : UInt8) (k : Nat) (h : xs.length ≤ k) (h' : k ≤ xs.length + 80) : (roomAt xs m k).length = xs.length + 80 := by
  simp [roomAt, bytesV]; omega
theorem roomAt_set (xs : List UInt8) (m : UInt8) (k : Nat) (h : xs.length ≤ k) (h' : k < xs.length + 80) : (roomAt xs m k).set k (.int .u8 (m.toNat : Int)) = roomAt xs m (k + 1) := by
  obtain ⟨d, rfl⟩ : ∃ d, k = xs.length + d := ⟨k - xs.length, by omega⟩
  obtain ⟨c, hc⟩ : ∃ c, 80 - d = c + 1 := ⟨80 - d - 1, by omega⟩
  have e1 : xs.length + 80 - (xs.length + d) = c + 1 := by omega
  have e2 : xs.length + 80 - (xs.length + d + 1) = c := by omega
  have e3 : xs.length + d - xs.length = d := by omega
  have e4 : xs.length + d + 1 - xs.length = d + 1 := by omega
  simp only [roomAt, bytesV, e1, e2, e3, e4, List.map_append, List.map_replicate]
  rw [List.set_append_right _ _ (by simp)]
  congr 1
  rw [List.length_map, e3, List.set_append_right _ _ (by simp), List.length_replicate, Nat.sub_self, List.replicate_succ, List.set_cons_zero, List.replicate_succ' (n := d), List.append_assoc]
  rfl
theorem roomAt_end (xs : List UInt8) (m : UInt8) : roomAt xs m (xs.length + 80) = bytesV (xs ++ List.replicate 80 m) := by
  simp [roomAt, Nat.add_sub_cancel_left]
theorem roomAt_start (xs : List UInt8) (m : UInt8) : splice (madeCells #[.int .u8 0] (xs.length + 80)).toList 0 (bytesV xs) = roomAt xs m xs.length := by
  have e : (madeCells #[Value.int .u8 0] (xs.length + 80)).toList = List.replicate (xs.length + 80) (Value.int .u8 0) := by
    apply List.ext_getElem?
    intro i
    simp only [madeCells, Array.toList_map, Array.toList_range, List.getElem?_map, List.getElem?_replicate]
    by_cases h : i < xs.length + 80 <;> simp [h, Nat.mod_one]
  rw [e]
  simp [splice, roomAt, bytesV]
theorem room_round {wr : World} {g k n : Nat} {xs : List UInt8} {m : UInt8} (hx : xs.length = n) (h : Blk wr g 5 (roomAt xs m k)) (h1 : n ≤ k) (h2 : k < n + 80) :
    ∃ u, wr.cell? ⟨g, k, none⟩ = some u ∧ wr.frozen? ⟨g, k, none⟩ = false ∧ Hid (Blk (wr.setCell ⟨g, k, none⟩ (.int .u8 (m.toNat : Int))) g 5 (roomAt xs m (k + 1))) := by
  subst hx
  have hl := roomAt_len xs m k h1 (by omega)
  have hk : k < (roomAt xs m k).length := by omega
  refine ⟨_, h.cell (List.getElem?_eq_getElem hk), h.free k, ?_⟩
  have := h.put k (.int .u8 (m.toNat : Int))
  rw [roomAt_set xs m k h1 h2] at this
  exact this

set_option maxHeartbeats 400000 in
theorem roomy_any (A : Option Addr) (n c : Nat) (xs : List UInt8) (w : World) (m : UInt8) (y : Int) (hy : y = (m.toNat : Int)) (h : Bytes w w.heap.size A n xs) (hr : n ≤ 140737488351232) :
    Calls Try.prog 16 #[.slice A n c, .int .u8 y] w fun e w' => e = .returned (.slice (some ⟨w.heap.size, 0, none⟩) (n + 80) (n + 80)) ∧ Below w.heap.size w w' ∧ Blk w' w.heap.size 5 (bytesV (xs ++ List.replicate 80 m)) := by
  subst hy
  obtain ⟨i0, hi, hz0, hz1, hz2⟩ := info_parts infoByte
  have hmk : ∀ u : World, (Instr.makeSlice 24 (.int .i64 ((n : Int) + 80)) (.int .i64 ((n : Int) + 80))).run Try.prog u =
      .ok (.slice (some ⟨u.heap.size, 0, none⟩) (n + 80) (n + 80)) (u.alloc (.cells (madeCells #[.int .u8 0] (n + 80)) 5)) := fun u => by
    have h := run_make (P := Try.prog) u 24 5 i0 (.int .u8 0) Try.underlying24 hi hz0 .i64 .i64 ((n : Int) + 80) ((n : Int) + 80) (by omega) (Int.le_refl _) (by rw [hz2]; omega) (by omega)
    have e : ((n : Int) + 80).toNat = n + 80 := by omega
    rw [e] at h
    simpa [hz1, Value.cells] using h
  have HX : Hid (xs.length = n) := h.length
  have HC : Hid (Bytes (w.alloc (.cells (madeCells #[.int .u8 0] (n + 80)) 5)) w.heap.size A n xs) := h.alloc (Nat.le_refl _) _
  clear h hi hz0 hz1 hz2
  go_enter Try.func16, Try.ntmps16
  go_wp2_with (with_reducible refine wpList_copy_splice (o := ⟨some 13, _, _, _, _, _⟩) rfl (.tmp 11) (.tmp 12) 24 24 rfl 5 Try.underlying24 sizeByte _ _ _ _ _ _ rfl rfl w.heap.size 0 (madeCells #[.int .u8 0] (n + 80)).toList 5 (by rw [Array.toArray_toList]; exact heap_alloc_new w _) (bytesV xs) (by rw [Reads.len HC.out]; show n = min n (n + 80); omega) (fun h => ⟨rfl, Reads.src HC.out h⟩) (by rw [Reads.len HC.out, Array.length_toList, size_madeCells]; omega) (bytesV_one xs) w.heap.size w ((Below.refl _ _).alloc (Nat.le_refl _) _) (Nat.le_refl _) ?_; intro w1 HR hB)
  have HR1 : Hid (Blk w1 w.heap.size 5 (roomAt xs m n)) := by
    have e := roomAt_start xs m
    rw [HX.out] at e
    have := HR.out
    rw [e] at this
    exact this
  clear HR HC hmk
  go_loopw [6] (fun i wr => ∃ k : Nat, n ≤ k ∧ k ≤ n + 80 ∧ i = .int .i64 k ∧ Below w.heap.size w wr ∧ Hid (Blk wr w.heap.size 5 (roomAt xs m k))) (fun i _ => n + 80 - (intOf i).toNat)
  case atStart => exact ⟨n, Nat.le_refl _, by omega, rfl, hB, HR1⟩
  case round =>
    clear hB HR1
    obtain ⟨k, hk1, hk2, rfl, hbel, HRk⟩ := hrel
    by_cases hlt : k < n + 80
    · obtain ⟨u, hc, hf, HN⟩ := room_round HX.out HRk.out hk1 hlt
      go_wp2
      go_roundw
      case rel => exact ⟨k + 1, by omega, by omega, by go_num, hbel.setCell (Nat.le_refl _) _, HN⟩
      case measure => simp [intOf]; omega
    · obtain rfl : k = n + 80 := by omega
      go_wp2
      go_ret
      refine ⟨rfl, hbel, ?_⟩
      have := HRk.out
      rw [← HX.out, roomAt_end] at this
      exact this

theorem mark_at {xs : List UInt8} {m : UInt8} {k n : Nat} (hx : xs.length = n) (h1 : n ≤ k) (h2 : k < n + 80) : (bytesV (xs ++ List.replicate 80 m))[k]? = some (.int .u8 (m.toNat : Int)) := by
  subst hx
  apply bytesV_at
  rw [List.getElem?_append_right h1, List.getElem?_replicate, if_pos (by omega)]
theorem room_front {w : World} {g n : Nat} {xs : List UInt8} {m : UInt8} (h : Blk w g 5 (bytesV (xs ++ List.replicate 80 m))) (hx : xs.length = n) (hn : n ≤ 140737488351232) : Bytes w w.heap.size (some ⟨g, 0, none⟩) n xs := by
  have e := h.reads (n := n) (by rw [bytesV_len, List.length_append, hx]; omega) (by unfold maxLen; omega)
  rw [← bytesV_take, List.take_append_of_le_length (by omega), List.take_of_length_le (by omega)] at e
  exact e

set_option maxHeartbeats 400000 in
theorem intact_yes (A : Option Addr) (g n c : Nat) (xs : List UInt8) (B : Nat) (m : UInt8) (y : Int) (w : World) (hy : y = (m.toNat : Int)) (h : Bytes w B A n xs) (hn : n ≤ 140737488351232) (hr : Blk w g 5 (bytesV (xs ++ List.replicate 80 m))) :
    Calls Try.prog 18 #[.slice (some ⟨g, 0, none⟩) (n + 80) (n + 80), .slice A n c, .int .u8 y] w (Quietly w (.bool true)) := by
  subst hy
  have HO : Hid (Bytes w w.heap.size (some ⟨g, 0, none⟩) n xs) := room_front hr h.length hn
  have H := Lib.hid h
  have HL := Lib.hid h.length
  have HR := Lib.hid hr
  clear h hr
  go_enter Try.func18, Try.ntmps18
  go_wp2_with (go_at_call 12; refine (same_yes _ _ _ _ _ _ xs _ _ _ HO.out H.out).mono ?_; rintro e w' ⟨rfl, d, rfl⟩)
  go_loop [7] (fun i => ∃ k : Nat, n ≤ k ∧ k ≤ n + 80 ∧ i = .int .i64 k) (fun i => n + 80 - (intOf i).toNat)
  case atStart => exact ⟨n, Nat.le_refl _, by omega, rfl⟩
  case round =>
    obtain ⟨k, hk1, hk2, rfl⟩ := hrel
    by_cases hlt : k < n + 80
    · have hc : w.cell? ⟨g, k, none⟩ = some (.int .u8 (m.toNat : Int)) := HR.out.cell (mark_at HL.out hk1 hlt)
      go_wp2
      go_round
      case rel => exact ⟨k + 1, by omega, by omega, by go_num⟩
      case measure => simp [intOf]; omega
    · go_wp2
      go_ret
      exact ⟨rfl, d, rfl⟩

#print axioms roomy_any
#print axioms intact_yes
end Go.Proofs.Ytgbnclaflhoabaa.Mem
