/-
  draybook for ints: Roomy (a copy with room behind it), Intact: the contracts.
-/
import Derived.Test.YtkgdaelaidlhlaaIntsSame
namespace Go.Proofs.Ytkgdaelaidlhlaa.MemI
open Go.ChangeShapes Go.WideShapes Go.ChangeAt Go.RowKit Go.Proofs.Ytkgdaelaidlhlaa.Mem

/-- Roomy's row when the marks stand up to k -/
def roomAt (xs : List Int) (m : Int) (k : Nat) : List Value := intsV (xs ++ (List.replicate (k - xs.length) m ++ List.replicate (xs.length + 80 - k) 0))
theorem roomAt_len (xs : List Int) (m : Int) (k : Nat) (h : xs.length ≤ k) (h' : k ≤ xs.length + 80) : (roomAt xs m k).length = xs.length + 80 := by
  simp [roomAt, intsV]; omega
theorem roomAt_set (xs : List Int) (m : Int) (k : Nat) (h : xs.length ≤ k) (h' : k < xs.length + 80) : (roomAt xs m k).set k (.int .i64 m) = roomAt xs m (k + 1) := by
  obtain ⟨d, rfl⟩ : ∃ d, k = xs.length + d := ⟨k - xs.length, by omega⟩
  obtain ⟨c, hc⟩ : ∃ c, 80 - d = c + 1 := ⟨80 - d - 1, by omega⟩
  have e1 : xs.length + 80 - (xs.length + d) = c + 1 := by omega
  have e2 : xs.length + 80 - (xs.length + d + 1) = c := by omega
  have e3 : xs.length + d - xs.length = d := by omega
  have e4 : xs.length + d + 1 - xs.length = d + 1 := by omega
  simp only [roomAt, intsV, e1, e2, e3, e4, List.map_append, List.map_replicate]
  rw [List.set_append_right _ _ (by simp)]
  congr 1
  rw [List.length_map, e3, List.set_append_right _ _ (by simp), List.length_replicate, Nat.sub_self, List.replicate_succ, List.set_cons_zero, List.replicate_succ' (n := d), List.append_assoc]
  rfl
theorem roomAt_end (xs : List Int) (m : Int) : roomAt xs m (xs.length + 80) = intsV (xs ++ List.replicate 80 m) := by
  simp [roomAt, Nat.add_sub_cancel_left]
theorem roomAt_start (xs : List Int) (m : Int) : splice (madeCells #[.int .i64 0] (xs.length + 80)).toList 0 (intsV xs) = roomAt xs m xs.length := by
  have e : (madeCells #[Value.int .i64 0] (xs.length + 80)).toList = List.replicate (xs.length + 80) (Value.int .i64 0) := by
    apply List.ext_getElem?
    intro i
    simp only [madeCells, Array.toList_map, Array.toList_range, List.getElem?_map, List.getElem?_replicate]
    by_cases h : i < xs.length + 80 <;> simp [h, Nat.mod_one]
  rw [e]
  simp [splice, roomAt, intsV]
theorem room_round {wr : World} {g k n : Nat} {xs : List Int} {m : Int} (hx : xs.length = n) (h : Blk wr g 3 (roomAt xs m k)) (h1 : n ≤ k) (h2 : k < n + 80) :
    ∃ u, wr.cell? ⟨g, k, none⟩ = some u ∧ wr.frozen? ⟨g, k, none⟩ = false ∧ Hid (Blk (wr.setCell ⟨g, k, none⟩ (.int .i64 m)) g 3 (roomAt xs m (k + 1))) := by
  subst hx
  have hl := roomAt_len xs m k h1 (by omega)
  have hk : k < (roomAt xs m k).length := by omega
  refine ⟨_, h.cell (List.getElem?_eq_getElem hk), h.free k, ?_⟩
  have := h.put k (.int .i64 m)
  rw [roomAt_set xs m k h1 h2] at this
  exact this

set_option maxHeartbeats 400000 in
theorem roomy_any (A : Option Addr) (n c : Nat) (xs : List Int) (w : World) (m : Int) (h : Ints w w.heap.size A n xs) (hr : n * 8 ≤ 140737488351232) :
    Calls Try.prog 13 #[.slice A n c, .int .i64 m] w fun e w' => e = .returned (.slice (some ⟨w.heap.size, 0, none⟩) (n + 80) (n + 80)) ∧ Below w.heap.size w w' ∧ Blk w' w.heap.size 3 (intsV (xs ++ List.replicate 80 m)) := by
  obtain ⟨i0, hi, hz0, hz1, hz2⟩ := info_parts infoInt
  have hmk : ∀ u : World, (Instr.makeSlice 30 (.int .i64 ((n : Int) + 80)) (.int .i64 ((n : Int) + 80))).run Try.prog u =
      .ok (.slice (some ⟨u.heap.size, 0, none⟩) (n + 80) (n + 80)) (u.alloc (.cells (madeCells #[.int .i64 0] (n + 80)) 3)) := fun u => by
    have h := run_make (P := Try.prog) u 30 3 i0 (.int .i64 0) Try.underlying30 hi hz0 .i64 .i64 ((n : Int) + 80) ((n : Int) + 80) (by omega) (Int.le_refl _) (by rw [hz2]; omega) (by omega)
    have e : ((n : Int) + 80).toNat = n + 80 := by omega
    rw [e] at h
    simpa [hz1, Value.cells] using h
  have HX : Hid (xs.length = n) := h.length
  have HC : Hid (Ints (w.alloc (.cells (madeCells #[.int .i64 0] (n + 80)) 3)) w.heap.size A n xs) := h.alloc (Nat.le_refl _) _
  clear h hi hz0 hz1 hz2
  go_enter Try.func13, Try.ntmps13
  go_wp2_with (with_reducible refine wpList_copy_splice (o := ⟨some 13, _, _, _, _, _⟩) rfl (.tmp 11) (.tmp 12) 30 30 rfl 3 Try.underlying30 sizeInt _ _ _ _ _ _ rfl rfl w.heap.size 0 (madeCells #[.int .i64 0] (n + 80)).toList 3 (by rw [Array.toArray_toList]; exact heap_alloc_new w _) (intsV xs) (by rw [Reads.len HC.out]; show n = min n (n + 80); omega) (fun h => ⟨rfl, Reads.src HC.out h⟩) (by rw [Reads.len HC.out, Array.length_toList, size_madeCells]; omega) (intsV_one xs) w.heap.size w ((Below.refl _ _).alloc (Nat.le_refl _) _) (Nat.le_refl _) ?_; intro w1 HR hB)
  have HR1 : Hid (Blk w1 w.heap.size 3 (roomAt xs m n)) := by
    have e := roomAt_start xs m
    rw [HX.out] at e
    have := HR.out
    rw [e] at this
    exact this
  clear HR HC hmk
  go_loopw [6] (fun i wr => ∃ k : Nat, n ≤ k ∧ k ≤ n + 80 ∧ i = .int .i64 k ∧ Below w.heap.size w wr ∧ Hid (Blk wr w.heap.size 3 (roomAt xs m k))) (fun i _ => n + 80 - (intOf i).toNat)
  case atStart => exact ⟨n, Nat.le_refl _, by omega, rfl, hB, HR1⟩
  case round =>
    clear hB HR1
    obtain ⟨k, hk1, hk2, rfl, hbel, HRk⟩ := hrel
    by_cases hlt : k < n + 80
    · obtain ⟨u, hc, hf, HN⟩ := room_round HX.out HRk.out hk1 hlt
      go_wp2
      go_roundw
      case rel => exact ⟨k + 1, by omega, by omega, by go_num, hbel.setCell (Nat.le_refl _) _, HN⟩
      case measure => simp [intOf]; omega
    · obtain rfl : k = n + 80 := by omega
      go_wp2
      go_ret
      refine ⟨rfl, hbel, ?_⟩
      have := HRk.out
      rw [← HX.out, roomAt_end] at this
      exact this

theorem mark_at {xs : List Int} {m : Int} {k n : Nat} (hx : xs.length = n) (h1 : n ≤ k) (h2 : k < n + 80) : (intsV (xs ++ List.replicate 80 m))[k]? = some (.int .i64 m) := by
  subst hx
  apply intsV_at
  rw [List.getElem?_append_right h1, List.getElem?_replicate, if_pos (by omega)]
theorem room_front {w : World} {g n : Nat} {xs : List Int} {m : Int} (h : Blk w g 3 (intsV (xs ++ List.replicate 80 m))) (hx : xs.length = n) (hn : n * 8 ≤ 140737488351232) : Ints w w.heap.size (some ⟨g, 0, none⟩) n xs := by
  have e := h.reads (n := n) (by rw [intsV_len, List.length_append, hx]; omega) (by unfold maxLen; omega)
  rw [← intsV_take, List.take_append_of_le_length (by omega), List.take_of_length_le (by omega)] at e
  exact e

set_option maxHeartbeats 400000 in
theorem intact_yes (A : Option Addr) (g n c : Nat) (xs : List Int) (B : Nat) (m : Int) (w : World) (h : Ints w B A n xs) (hn : n * 8 ≤ 140737488351232) (hr : Blk w g 3 (intsV (xs ++ List.replicate 80 m))) :
    Calls Try.prog 15 #[.slice (some ⟨g, 0, none⟩) (n + 80) (n + 80), .slice A n c, .int .i64 m] w (Quietly w (.bool true)) := by
  have HO : Hid (Ints w w.heap.size (some ⟨g, 0, none⟩) n xs) := room_front hr h.length hn
  have H := Lib.hid h
  have HL := Lib.hid h.length
  have HR := Lib.hid hr
  clear h hr
  go_enter Try.func15, Try.ntmps15
  go_wp2_with (go_at_call 23; refine (same_yes _ _ _ _ _ _ xs _ _ _ HO.out H.out).mono ?_; rintro e w' ⟨rfl, d, rfl⟩)
  go_loop [7] (fun i => ∃ k : Nat, n ≤ k ∧ k ≤ n + 80 ∧ i = .int .i64 k) (fun i => n + 80 - (intOf i).toNat)
  case atStart => exact ⟨n, Nat.le_refl _, by omega, rfl⟩
  case round =>
    obtain ⟨k, hk1, hk2, rfl⟩ := hrel
    by_cases hlt : k < n + 80
    · have hc : w.cell? ⟨g, k, none⟩ = some (.int .i64 m) := HR.out.cell (mark_at HL.out hk1 hlt)
      go_wp2
      go_round
      case rel => exact ⟨k + 1, by omega, by omega, by go_num⟩
      case measure => simp [intOf]; omega
    · go_wp2
      go_ret
      exact ⟨rfl, d, rfl⟩

#print axioms roomy_any
#print axioms intact_yes
end Go.Proofs.Ytkgdaelaidlhlaa.MemI
