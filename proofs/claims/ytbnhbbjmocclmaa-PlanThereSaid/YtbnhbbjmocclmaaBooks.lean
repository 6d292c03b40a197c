/-
  IntsSame, IntsRoomy, BytesSame, BytesRoomy, QuietIn: one text.
-/
import Derived.Test.YtbnhbbjmocclmaaLibRows
import Derived.RegionTactic
import Derived.Deep.QuietTactic
import Derived.BigQuiet
/-
  draybook for ints: Same, Roomy, Intact: the contracts.
-/
namespace Go.Proofs.Ytbnhbbjmocclmaa.MemI
open Go.ChangeShapes Go.WideShapes Go.ChangeAt Go.RowKit Go.Proofs.Ytbnhbbjmocclmaa.Mem

def sameB (xs ys : List Int) : Bool := decide (xs = ys)
theorem take_more {xs ys : List Int} {k : Nat} {u : Int} (h : xs.take k = ys.take k) (hx : xs[k]? = some u) (hy : ys[k]? = some u) : xs.take (k + 1) = ys.take (k + 1) := by
  rw [List.take_add_one, List.take_add_one, h, hx, hy]
theorem differ {xs ys : List Int} {k : Nat} {u v : Int} (h : u ≠ v) (hx : xs[k]? = some u) (hy : ys[k]? = some v) : sameB xs ys = false := by
  simp only [sameB, decide_eq_false_iff_not]
  rintro rfl
  rw [hx] at hy
  exact h (Option.some.inj hy)

set_option maxHeartbeats 400000 in
theorem same_any (A A' : Option Addr) (n c n' c' : Nat) (xs ys : List Int) (B B' : Nat) (w : World) (h : Ints w B A n xs) (h' : Ints w B' A' n' ys) :
    Calls Try.prog 12 #[.slice A n c, .slice A' n' c'] w (Quietly w (.bool (sameB xs ys))) := by
  have hm := h.le
  have H := Lib.hid h
  have H' := Lib.hid h'
  have HL := Lib.hid h.length
  have HL' := Lib.hid h'.length
  clear h h'
  by_cases hn : n = n'
  · subst hn
    go_enter Try.func12, Try.ntmps12
    go_wp2
    go_loopw [5] (fun i wr => ∃ (k d : Nat), k ≤ n ∧ i = .int .i64 k ∧ wr = w.drewN d ∧ Hid (xs.take k = ys.take k)) (fun i _ => n - (intOf i).toNat)
    case atStart => exact ⟨0, 0, Nat.zero_le _, rfl, rfl, rfl⟩
    case round =>
      obtain ⟨k, d, hk, rfl, rfl, HT⟩ := hrel
      by_cases hlt : k < n
      · obtain ⟨b, off, u, rfl, hu, hc, _, _⟩ := H.out.at_ hlt
        obtain ⟨b', off', v, rfl, hv, hc', _, _⟩ := H'.out.at_ hlt
        have HU := Lib.hid hu
        have HV := Lib.hid hv
        clear hu hv
        by_cases huv : u = v
        · subst huv
          have HN : Hid (xs.take (k + 1) = ys.take (k + 1)) := take_more HT.out HU.out HV.out
          go_wp2
          go_quiet (fail)
          go_wp2
          go_roundw
          case rel => exact ⟨k + 1, _, by omega, by go_num, rfl, HN⟩
          case measure => simp [intOf]; omega
        · have HN : Hid (sameB xs ys = false) := differ huv HU.out HV.out
          have hne : (u == v) = false := by simpa using huv
          have hne' : (u != v) = true := by simpa using huv
          clear huv
          go_wp2
          go_quiet (fail)
          go_wp2
          go_ret
          exact ⟨ret_bool HN.out.symm, _, World.drewN_drewN _ _ _⟩
      · have HN : Hid (sameB xs ys = true) := by
          have := HT.out
          rw [List.take_of_length_le (by have := HL.out; omega), List.take_of_length_le (by have := HL'.out; omega)] at this
          simp [sameB, this, Hid]
        go_wp2
        go_ret
        exact ⟨ret_bool HN.out.symm, _, rfl⟩
  · have HN : Hid (sameB xs ys = false) := by
      have h1 := HL.out
      have h2 := HL'.out
      simp only [Hid, sameB, decide_eq_false_iff_not]
      rintro rfl
      omega
    have hne : (n == n') = false := by simpa using hn
    have hne2 : ((n : Int) == (n' : Int)) = false := by simp; omega
    have hne3 : ((n : Int) != (n' : Int)) = true := by simp; omega
    clear hn
    go_enter Try.func12, Try.ntmps12
    go_wp2
    go_ret
    exact ⟨ret_bool HN.out.symm, 0, rfl⟩

theorem same_val (A A' : Option Addr) (n c n' c' : Nat) (xs ys : List Int) (B B' : Nat) (w : World) (r : Bool) (h : Ints w B A n xs) (h' : Ints w B' A' n' ys) (hr : sameB xs ys = r) :
    Calls Try.prog 12 #[.slice A n c, .slice A' n' c'] w (Quietly w (.bool r)) := by
  rw [← hr]; exact same_any A A' n c n' c' xs ys B B' w h h'
theorem same_yes (A A' : Option Addr) (n c n' c' : Nat) (xs : List Int) (B B' : Nat) (w : World) (h : Ints w B A n xs) (h' : Ints w B' A' n' xs) :
    Calls Try.prog 12 #[.slice A n c, .slice A' n' c'] w (Quietly w (.bool true)) :=
  same_val A A' n c n' c' xs xs B B' w true h h' (by simp [sameB])

#print axioms same_any
end Go.Proofs.Ytbnhbbjmocclmaa.MemI

/-
  draybook for ints: Roomy (a copy with room behind it), Intact: the contracts.
-/
namespace Go.Proofs.Ytbnhbbjmocclmaa.MemI
open Go.ChangeShapes Go.WideShapes Go.ChangeAt Go.RowKit Go.Proofs.Ytbnhbbjmocclmaa.Mem

/-- Roomy's row when the marks stand up to k -/
def roomAt (xs : List Int) (m : Int) (k : Nat) : List Value := intsV (xs ++ (List.replicate (k - xs.length) m ++ List.replicate (xs.length + 80 - k) 0))
theorem roomAt_len (xs : List Int) (m : Int) (k : Nat) (h : xs.length ≤ k) (h' : k ≤ xs.length + 80) : (roomAt xs m k).length = xs.length + 80 := by
  simp [roomAt, intsV]; omega
theorem roomAt_set (xs : List Int) (m : Int) (k : Nat) (h : xs.length ≤ k) (h' : k < xs.length + 80) : (roomAt xs m k).set k (.int .i64 m) = roomAt xs m (k + 1) := by
  obtain ⟨d, rfl⟩ : ∃ d, k = xs.length + d := ⟨k - xs.length, by omega⟩
  obtain ⟨c, hc⟩ : ∃ c, 80 - d = c + 1 := ⟨80 - d - 1, by omega⟩
  have e1 : xs.length + 80 - (xs.length + d) = c + 1 := by omega
  have e2 : xs.length + 80 - (xs.length + d + 1) = c := by omega
  have e3 : xs.length + d - xs.length = d := by omega
  have e4 : xs.length + d + 1 - xs.length = d + 1 := by omega
  simp only [roomAt, intsV, e1, e2, e3, e4, List.map_append, List.map_replicate]
  rw [List.set_append_right _ _ (by simp)]
  congr 1
  rw [List.length_map, e3, List.set_append_right _ _ (by simp), List.length_replicate, Nat.sub_self, List.replicate_succ, List.set_cons_zero, List.replicate_succ' (n := d), List.append_assoc]
  rfl
theorem roomAt_end (xs : List Int) (m : Int) : roomAt xs m (xs.length + 80) = intsV (xs ++ List.replicate 80 m) := by
  simp [roomAt, Nat.add_sub_cancel_left]
theorem roomAt_start (xs : List Int) (m : Int) : splice (madeCells #[.int .i64 0] (xs.length + 80)).toList 0 (intsV xs) = roomAt xs m xs.length := by
  have e : (madeCells #[Value.int .i64 0] (xs.length + 80)).toList = List.replicate (xs.length + 80) (Value.int .i64 0) := by
    apply List.ext_getElem?
    intro i
    simp only [madeCells, Array.toList_map, Array.toList_range, List.getElem?_map, List.getElem?_replicate]
    by_cases h : i < xs.length + 80 <;> simp [h, Nat.mod_one]
  rw [e]
  simp [splice, roomAt, intsV]
theorem room_round {wr : World} {g k n : Nat} {xs : List Int} {m : Int} (hx : xs.length = n) (h : Blk wr g 3 (roomAt xs m k)) (h1 : n ≤ k) (h2 : k < n + 80) :
    ∃ u, wr.cell? ⟨g, k, none⟩ = some u ∧ wr.frozen? ⟨g, k, none⟩ = false ∧ Hid (Blk (wr.setCell ⟨g, k, none⟩ (.int .i64 m)) g 3 (roomAt xs m (k + 1))) := by
  subst hx
  have hl := roomAt_len xs m k h1 (by omega)
  have hk : k < (roomAt xs m k).length := by omega
  refine ⟨_, h.cell (List.getElem?_eq_getElem hk), h.free k, ?_⟩
  have := h.put k (.int .i64 m)
  rw [roomAt_set xs m k h1 h2] at this
  exact this

set_option maxHeartbeats 400000 in
theorem roomy_any (A : Option Addr) (n c : Nat) (xs : List Int) (w : World) (m : Int) (h : Ints w w.heap.size A n xs) (hr : n * 8 ≤ 140737488351232) :
    Calls Try.prog 26 #[.slice A n c, .int .i64 m] w fun e w' => e = .returned (.slice (some ⟨w.heap.size, 0, none⟩) (n + 80) (n + 80)) ∧ Below w.heap.size w w' ∧ Blk w' w.heap.size 3 (intsV (xs ++ List.replicate 80 m)) := by
  obtain ⟨i0, hi, hz0, hz1, hz2⟩ := info_parts infoInt
  have hmk : ∀ u : World, (Instr.makeSlice 34 (.int .i64 ((n : Int) + 80)) (.int .i64 ((n : Int) + 80))).run Try.prog u =
      .ok (.slice (some ⟨u.heap.size, 0, none⟩) (n + 80) (n + 80)) (u.alloc (.cells (madeCells #[.int .i64 0] (n + 80)) 3)) := fun u => by
    have h := run_make (P := Try.prog) u 34 3 i0 (.int .i64 0) Try.underlying34 hi hz0 .i64 .i64 ((n : Int) + 80) ((n : Int) + 80) (by omega) (Int.le_refl _) (by rw [hz2]; omega) (by omega)
    have e : ((n : Int) + 80).toNat = n + 80 := by omega
    rw [e] at h
    simpa [hz1, Value.cells] using h
  have HX : Hid (xs.length = n) := h.length
  have HC : Hid (Ints (w.alloc (.cells (madeCells #[.int .i64 0] (n + 80)) 3)) w.heap.size A n xs) := h.alloc (Nat.le_refl _) _
  clear h hi hz0 hz1 hz2
  go_enter Try.func26, Try.ntmps26
  go_wp2_with (with_reducible refine wpList_copy_splice (o := ⟨some 13, _, _, _, _, _⟩) rfl (.tmp 11) (.tmp 12) 34 34 rfl 3 Try.underlying34 sizeInt _ _ _ _ _ _ rfl rfl w.heap.size 0 (madeCells #[.int .i64 0] (n + 80)).toList 3 (by rw [Array.toArray_toList]; exact heap_alloc_new w _) (intsV xs) (by rw [Reads.len HC.out]; show n = min n (n + 80); omega) (fun h => ⟨rfl, Reads.src HC.out h⟩) (by rw [Reads.len HC.out, Array.length_toList, size_madeCells]; omega) (intsV_one xs) w.heap.size w ((Below.refl _ _).alloc (Nat.le_refl _) _) (Nat.le_refl _) ?_; intro w1 HR hB)
  have HR1 : Hid (Blk w1 w.heap.size 3 (roomAt xs m n)) := by
    have e := roomAt_start xs m
    rw [HX.out] at e
    have := HR.out
    rw [e] at this
    exact this
  clear HR HC hmk
  go_loopw [6] (fun i wr => ∃ k : Nat, n ≤ k ∧ k ≤ n + 80 ∧ i = .int .i64 k ∧ Below w.heap.size w wr ∧ Hid (Blk wr w.heap.size 3 (roomAt xs m k))) (fun i _ => n + 80 - (intOf i).toNat)
  case atStart => exact ⟨n, Nat.le_refl _, by omega, rfl, hB, HR1⟩
  case round =>
    clear hB HR1
    obtain ⟨k, hk1, hk2, rfl, hbel, HRk⟩ := hrel
    by_cases hlt : k < n + 80
    · obtain ⟨u, hc, hf, HN⟩ := room_round HX.out HRk.out hk1 hlt
      go_wp2
      go_roundw
      case rel => exact ⟨k + 1, by omega, by omega, by go_num, hbel.setCell (Nat.le_refl _) _, HN⟩
      case measure => simp [intOf]; omega
    · obtain rfl : k = n + 80 := by omega
      go_wp2
      go_ret
      refine ⟨rfl, hbel, ?_⟩
      have := HRk.out
      rw [← HX.out, roomAt_end] at this
      exact this

theorem mark_at {xs : List Int} {m : Int} {k n : Nat} (hx : xs.length = n) (h1 : n ≤ k) (h2 : k < n + 80) : (intsV (xs ++ List.replicate 80 m))[k]? = some (.int .i64 m) := by
  subst hx
  apply intsV_at
  rw [List.getElem?_append_right h1, List.getElem?_replicate, if_pos (by omega)]
theorem room_front {w : World} {g n : Nat} {xs : List Int} {m : Int} (h : Blk w g 3 (intsV (xs ++ List.replicate 80 m))) (hx : xs.length = n) (hn : n * 8 ≤ 140737488351232) : Ints w w.heap.size (some ⟨g, 0, none⟩) n xs := by
  have e := h.reads (n := n) (by rw [intsV_len, List.length_append, hx]; omega) (by unfold maxLen; omega)
  rw [← intsV_take, List.take_append_of_le_length (by omega), List.take_of_length_le (by omega)] at e
  exact e

set_option maxHeartbeats 400000 in
theorem intact_yes (A : Option Addr) (g n c : Nat) (xs : List Int) (B : Nat) (m : Int) (w : World) (h : Ints w B A n xs) (hn : n * 8 ≤ 140737488351232) (hr : Blk w g 3 (intsV (xs ++ List.replicate 80 m))) :
    Calls Try.prog 28 #[.slice (some ⟨g, 0, none⟩) (n + 80) (n + 80), .slice A n c, .int .i64 m] w (Quietly w (.bool true)) := by
  have HO : Hid (Ints w w.heap.size (some ⟨g, 0, none⟩) n xs) := room_front hr h.length hn
  have H := Lib.hid h
  have HL := Lib.hid h.length
  have HR := Lib.hid hr
  clear h hr
  go_enter Try.func28, Try.ntmps28
  go_wp2_with (go_at_call 12; refine (same_yes _ _ _ _ _ _ xs _ _ _ HO.out H.out).mono ?_; rintro e w' ⟨rfl, d, rfl⟩)
  go_loop [7] (fun i => ∃ k : Nat, n ≤ k ∧ k ≤ n + 80 ∧ i = .int .i64 k) (fun i => n + 80 - (intOf i).toNat)
  case atStart => exact ⟨n, Nat.le_refl _, by omega, rfl⟩
  case round =>
    obtain ⟨k, hk1, hk2, rfl⟩ := hrel
    by_cases hlt : k < n + 80
    · have hc : w.cell? ⟨g, k, none⟩ = some (.int .i64 m) := HR.out.cell (mark_at HL.out hk1 hlt)
      go_wp2
      go_round
      case rel => exact ⟨k + 1, by omega, by omega, by go_num⟩
      case measure => simp [intOf]; omega
    · go_wp2
      go_ret
      exact ⟨rfl, d, rfl⟩

#print axioms roomy_any
#print axioms intact_yes
end Go.Proofs.Ytbnhbbjmocclmaa.MemI

/-
  draybook for bytes: Same, Roomy, Intact: the contracts.
-/
namespace Go.Proofs.Ytbnhbbjmocclmaa.Mem
open Go.ChangeShapes Go.WideShapes Go.ChangeAt Go.RowKit

def sameB (xs ys : List UInt8) : Bool := decide (xs = ys)
theorem take_more {xs ys : List UInt8} {k : Nat} {u : UInt8} (h : xs.take k = ys.take k) (hx : xs[k]? = some u) (hy : ys[k]? = some u) : xs.take (k + 1) = ys.take (k + 1) := by
  rw [List.take_add_one, List.take_add_one, h, hx, hy]
theorem differ {xs ys : List UInt8} {k : Nat} {u v : UInt8} (h : u ≠ v) (hx : xs[k]? = some u) (hy : ys[k]? = some v) : sameB xs ys = false := by
  simp only [sameB, decide_eq_false_iff_not]
  rintro rfl
  rw [hx] at hy
  exact h (Option.some.inj hy)

set_option maxHeartbeats 400000 in
theorem same_any (A A' : Option Addr) (n c n' c' : Nat) (xs ys : List UInt8) (B B' : Nat) (w : World) (h : Bytes w B A n xs) (h' : Bytes w B' A' n' ys) :
    Calls Try.prog 20 #[.slice A n c, .slice A' n' c'] w (Quietly w (.bool (sameB xs ys))) := by
  have hm := h.le
  have H := Lib.hid h
  have H' := Lib.hid h'
  have HL := Lib.hid h.length
  have HL' := Lib.hid h'.length
  clear h h'
  by_cases hn : n = n'
  · subst hn
    go_enter Try.func20, Try.ntmps20
    go_wp2
    go_loopw [5] (fun i wr => ∃ (k d : Nat), k ≤ n ∧ i = .int .i64 k ∧ wr = w.drewN d ∧ Hid (xs.take k = ys.take k)) (fun i _ => n - (intOf i).toNat)
    case atStart => exact ⟨0, 0, Nat.zero_le _, rfl, rfl, rfl⟩
    case round =>
      obtain ⟨k, d, hk, rfl, rfl, HT⟩ := hrel
      by_cases hlt : k < n
      · obtain ⟨b, off, u, rfl, hu, hc, _, _⟩ := H.out.at_ hlt
        obtain ⟨b', off', v, rfl, hv, hc', _, _⟩ := H'.out.at_ hlt
        have HU := Lib.hid hu
        have HV := Lib.hid hv
        clear hu hv
        by_cases huv : u = v
        · subst huv
          have HN : Hid (xs.take (k + 1) = ys.take (k + 1)) := take_more HT.out HU.out HV.out
          go_wp2
          go_quiet (fail)
          go_wp2
          go_roundw
          case rel => exact ⟨k + 1, _, by omega, by go_num, rfl, HN⟩
          case measure => simp [intOf]; omega
        · have HN : Hid (sameB xs ys = false) := differ huv HU.out HV.out
          have hnn : ¬ u.toNat = v.toNat := fun e => huv (UInt8.toNat_inj.1 e)
          have hne : (u.toNat == v.toNat) = false := by simpa using hnn
          have hne' : ((u.toNat : Int) == (v.toNat : Int)) = false := by simp; omega
          have hne2 : ((u.toNat : Int) != (v.toNat : Int)) = true := by simp; omega
          clear huv hnn
          go_wp2
          go_quiet (fail)
          go_wp2
          go_ret
          exact ⟨ret_bool HN.out.symm, _, World.drewN_drewN _ _ _⟩
      · have HN : Hid (sameB xs ys = true) := by
          have := HT.out
          rw [List.take_of_length_le (by have := HL.out; omega), List.take_of_length_le (by have := HL'.out; omega)] at this
          simp [sameB, this, Hid]
        go_wp2
        go_ret
        exact ⟨ret_bool HN.out.symm, _, rfl⟩
  · have HN : Hid (sameB xs ys = false) := by
      have h1 := HL.out
      have h2 := HL'.out
      simp only [Hid, sameB, decide_eq_false_iff_not]
      rintro rfl
      omega
    have hne : (n == n') = false := by simpa using hn
    have hne2 : ((n : Int) == (n' : Int)) = false := by simp; omega
    have hne3 : ((n : Int) != (n' : Int)) = true := by simp; omega
    clear hn
    go_enter Try.func20, Try.ntmps20
    go_wp2
    go_ret
    exact ⟨ret_bool HN.out.symm, 0, rfl⟩

theorem same_val (A A' : Option Addr) (n c n' c' : Nat) (xs ys : List UInt8) (B B' : Nat) (w : World) (r : Bool) (h : Bytes w B A n xs) (h' : Bytes w B' A' n' ys) (hr : sameB xs ys = r) :
    Calls Try.prog 20 #[.slice A n c, .slice A' n' c'] w (Quietly w (.bool r)) := by
  rw [← hr]; exact same_any A A' n c n' c' xs ys B B' w h h'
theorem same_yes (A A' : Option Addr) (n c n' c' : Nat) (xs : List UInt8) (B B' : Nat) (w : World) (h : Bytes w B A n xs) (h' : Bytes w B' A' n' xs) :
    Calls Try.prog 20 #[.slice A n c, .slice A' n' c'] w (Quietly w (.bool true)) :=
  same_val A A' n c n' c' xs xs B B' w true h h' (by simp [sameB])

#print axioms same_any
end Go.Proofs.Ytbnhbbjmocclmaa.Mem

/-
  draybook for bytes: Roomy (a copy with room behind it), Intact: the contracts.
-/
namespace Go.Proofs.Ytbnhbbjmocclmaa.Mem
open Go.ChangeShapes Go.WideShapes Go.ChangeAt Go.RowKit

/-- Roomy's row when the marks stand up to k -/
def roomAt (xs : List UInt8) (m : UInt8) (k : Nat) : List Value := bytesV (xs ++ (List.replicate (k - xs.length) m ++ List.replicate (xs.length + 80 - k) 0))
theorem roomAt_len (xs : List UInt8) (m : UInt8) (k : Nat) (h : xs.length ≤ k) (h' : k ≤ xs.length + 80) : (roomAt xs m k).length = xs.length + 80 := by
  simp [roomAt, bytesV]; omega
theorem roomAt_set (xs : List UInt8) (m : UInt8) (k : Nat) (h : xs.length ≤ k) (h' : k < xs.length + 80) : (roomAt xs m k).set k (.int .u8 (m.toNat : Int)) = roomAt xs m (k + 1) := by
  obtain ⟨d, rfl⟩ : ∃ d, k = xs.length + d := ⟨k - xs.length, by omega⟩
  obtain ⟨c, hc⟩ : ∃ c, 80 - d = c + 1 := ⟨80 - d - 1, by omega⟩
  have e1 : xs.length + 80 - (xs.length + d) = c + 1 := by omega
  have e2 : xs.length + 80 - (xs.length + d + 1) = c := by omega
  have e3 : xs.length + d - xs.length = d := by omega
  have e4 : xs.length + d + 1 - xs.length = d + 1 := by omega
  simp only [roomAt, bytesV, e1, e2, e3, e4, List.map_append, List.map_replicate]
  rw [List.set_append_right _ _ (by simp)]
  congr 1
  rw [List.length_map, e3, List.set_append_right _ _ (by simp), List.length_replicate, Nat.sub_self, List.replicate_succ, List.set_cons_zero, List.replicate_succ' (n := d), List.append_assoc]
  rfl
theorem roomAt_end (xs : List UInt8) (m : UInt8) : roomAt xs m (xs.length + 80) = bytesV (xs ++ List.replicate 80 m) := by
  simp [roomAt, Nat.add_sub_cancel_left]
theorem roomAt_start (xs : List UInt8) (m : UInt8) : splice (madeCells #[.int .u8 0] (xs.length + 80)).toList 0 (bytesV xs) = roomAt xs m xs.length := by
  have e : (madeCells #[Value.int .u8 0] (xs.length + 80)).toList = List.replicate (xs.length + 80) (Value.int .u8 0) := by
    apply List.ext_getElem?
    intro i
    simp only [madeCells, Array.toList_map, Array.toList_range, List.getElem?_map, List.getElem?_replicate]
    by_cases h : i < xs.length + 80 <;> simp [h, Nat.mod_one]
  rw [e]
  simp [splice, roomAt, bytesV]
theorem room_round {wr : World} {g k n : Nat} {xs : List UInt8} {m : UInt8} (hx : xs.length = n) (h : Blk wr g 5 (roomAt xs m k)) (h1 : n ≤ k) (h2 : k < n + 80) :
    ∃ u, wr.cell? ⟨g, k, none⟩ = some u ∧ wr.frozen? ⟨g, k, none⟩ = false ∧ Hid (Blk (wr.setCell ⟨g, k, none⟩ (.int .u8 (m.toNat : Int))) g 5 (roomAt xs m (k + 1))) := by
  subst hx
  have hl := roomAt_len xs m k h1 (by omega)
  have hk : k < (roomAt xs m k).length := by omega
  refine ⟨_, h.cell (List.getElem?_eq_getElem hk), h.free k, ?_⟩
  have := h.put k (.int .u8 (m.toNat : Int))
  rw [roomAt_set xs m k h1 h2] at this
  exact this

set_option maxHeartbeats 400000 in
theorem roomy_any (A : Option Addr) (n c : Nat) (xs : List UInt8) (w : World) (m : UInt8) (y : Int) (hy : y = (m.toNat : Int)) (h : Bytes w w.heap.size A n xs) (hr : n ≤ 140737488351232) :
    Calls Try.prog 32 #[.slice A n c, .int .u8 y] w fun e w' => e = .returned (.slice (some ⟨w.heap.size, 0, none⟩) (n + 80) (n + 80)) ∧ Below w.heap.size w w' ∧ Blk w' w.heap.size 5 (bytesV (xs ++ List.replicate 80 m)) := by
  subst hy
  obtain ⟨i0, hi, hz0, hz1, hz2⟩ := info_parts infoByte
  have hmk : ∀ u : World, (Instr.makeSlice 44 (.int .i64 ((n : Int) + 80)) (.int .i64 ((n : Int) + 80))).run Try.prog u =
      .ok (.slice (some ⟨u.heap.size, 0, none⟩) (n + 80) (n + 80)) (u.alloc (.cells (madeCells #[.int .u8 0] (n + 80)) 5)) := fun u => by
    have h := run_make (P := Try.prog) u 44 5 i0 (.int .u8 0) Try.underlying44 hi hz0 .i64 .i64 ((n : Int) + 80) ((n : Int) + 80) (by omega) (Int.le_refl _) (by rw [hz2]; omega) (by omega)
    have e : ((n : Int) + 80).toNat = n + 80 := by omega
    rw [e] at h
    simpa [hz1, Value.cells] using h
  have HX : Hid (xs.length = n) := h.length
  have HC : Hid (Bytes (w.alloc (.cells (madeCells #[.int .u8 0] (n + 80)) 5)) w.heap.size A n xs) := h.alloc (Nat.le_refl _) _
  clear h hi hz0 hz1 hz2
  go_enter Try.func32, Try.ntmps32
  go_wp2_with (with_reducible refine wpList_copy_splice (o := ⟨some 13, _, _, _, _, _⟩) rfl (.tmp 11) (.tmp 12) 44 44 rfl 5 Try.underlying44 sizeByte _ _ _ _ _ _ rfl rfl w.heap.size 0 (madeCells #[.int .u8 0] (n + 80)).toList 5 (by rw [Array.toArray_toList]; exact heap_alloc_new w _) (bytesV xs) (by rw [Reads.len HC.out]; show n = min n (n + 80); omega) (fun h => ⟨rfl, Reads.src HC.out h⟩) (by rw [Reads.len HC.out, Array.length_toList, size_madeCells]; omega) (bytesV_one xs) w.heap.size w ((Below.refl _ _).alloc (Nat.le_refl _) _) (Nat.le_refl _) ?_; intro w1 HR hB)
  have HR1 : Hid (Blk w1 w.heap.size 5 (roomAt xs m n)) := by
    have e := roomAt_start xs m
    rw [HX.out] at e
    have := HR.out
    rw [e] at this
    exact this
  clear HR HC hmk
  go_loopw [6] (fun i wr => ∃ k : Nat, n ≤ k ∧ k ≤ n + 80 ∧ i = .int .i64 k ∧ Below w.heap.size w wr ∧ Hid (Blk wr w.heap.size 5 (roomAt xs m k))) (fun i _ => n + 80 - (intOf i).toNat)
  case atStart => exact ⟨n, Nat.le_refl _, by omega, rfl, hB, HR1⟩
  case round =>
    clear hB HR1
    obtain ⟨k, hk1, hk2, rfl, hbel, HRk⟩ := hrel
    by_cases hlt : k < n + 80
    · obtain ⟨u, hc, hf, HN⟩ := room_round HX.out HRk.out hk1 hlt
      go_wp2
      go_roundw
      case rel => exact ⟨k + 1, by omega, by omega, by go_num, hbel.setCell (Nat.le_refl _) _, HN⟩
      case measure => simp [intOf]; omega
    · obtain rfl : k = n + 80 := by omega
      go_wp2
      go_ret
      refine ⟨rfl, hbel, ?_⟩
      have := HRk.out
      rw [← HX.out, roomAt_end] at this
      exact this

theorem mark_at {xs : List UInt8} {m : UInt8} {k n : Nat} (hx : xs.length = n) (h1 : n ≤ k) (h2 : k < n + 80) : (bytesV (xs ++ List.replicate 80 m))[k]? = some (.int .u8 (m.toNat : Int)) := by
  subst hx
  apply bytesV_at
  rw [List.getElem?_append_right h1, List.getElem?_replicate, if_pos (by omega)]
theorem room_front {w : World} {g n : Nat} {xs : List UInt8} {m : UInt8} (h : Blk w g 5 (bytesV (xs ++ List.replicate 80 m))) (hx : xs.length = n) (hn : n ≤ 140737488351232) : Bytes w w.heap.size (some ⟨g, 0, none⟩) n xs := by
  have e := h.reads (n := n) (by rw [bytesV_len, List.length_append, hx]; omega) (by unfold maxLen; omega)
  rw [← bytesV_take, List.take_append_of_le_length (by omega), List.take_of_length_le (by omega)] at e
  exact e

set_option maxHeartbeats 400000 in
theorem intact_yes (A : Option Addr) (g n c : Nat) (xs : List UInt8) (B : Nat) (m : UInt8) (y : Int) (w : World) (hy : y = (m.toNat : Int)) (h : Bytes w B A n xs) (hn : n ≤ 140737488351232) (hr : Blk w g 5 (bytesV (xs ++ List.replicate 80 m))) :
    Calls Try.prog 34 #[.slice (some ⟨g, 0, none⟩) (n + 80) (n + 80), .slice A n c, .int .u8 y] w (Quietly w (.bool true)) := by
  subst hy
  have HO : Hid (Bytes w w.heap.size (some ⟨g, 0, none⟩) n xs) := room_front hr h.length hn
  have H := Lib.hid h
  have HL := Lib.hid h.length
  have HR := Lib.hid hr
  clear h hr
  go_enter Try.func34, Try.ntmps34
  go_wp2_with (go_at_call 20; refine (same_yes _ _ _ _ _ _ xs _ _ _ HO.out H.out).mono ?_; rintro e w' ⟨rfl, d, rfl⟩)
  go_loop [7] (fun i => ∃ k : Nat, n ≤ k ∧ k ≤ n + 80 ∧ i = .int .i64 k) (fun i => n + 80 - (intOf i).toNat)
  case atStart => exact ⟨n, Nat.le_refl _, by omega, rfl⟩
  case round =>
    obtain ⟨k, hk1, hk2, rfl⟩ := hrel
    by_cases hlt : k < n + 80
    · have hc : w.cell? ⟨g, k, none⟩ = some (.int .u8 (m.toNat : Int)) := HR.out.cell (mark_at HL.out hk1 hlt)
      go_wp2
      go_round
      case rel => exact ⟨k + 1, by omega, by omega, by go_num⟩
      case measure => simp [intOf]; omega
    · go_wp2
      go_ret
      exact ⟨rfl, d, rfl⟩

#print axioms roomy_any
#print axioms intact_yes
end Go.Proofs.Ytbnhbbjmocclmaa.Mem

/-
  A call that only draws, or does nothing, made in a world that has been drawn from: what a region that draws asks of it.
-/
namespace Go.Proofs.Ytbnhbbjmocclmaa.Mem
open Go.ChangeShapes Go.WideShapes Go.ChangeAt Go.RowKit

theorem same_q {f : FuncId} {args : Array Value} {w : World} {v : Value} (h : Calls Try.prog f args w fun e w' => e = .returned v ∧ w = w') : Calls Try.prog f args w (Quietly w v) :=
  h.mono fun _ _ ⟨he, hw⟩ => ⟨he, 0, hw.symm⟩
theorem quiet_in {f : FuncId} {args : Array Value} {w : World} {n : Nat} {v : Value} (h : Calls Try.prog f args (w.drewN n) (Quietly (w.drewN n) v)) :
    Calls Try.prog f args (w.drewN n) fun e w'' => e = .returned v ∧ ∃ m, w'' = w.drewN m := Calls.quiet_of h
end Go.Proofs.Ytbnhbbjmocclmaa.Mem
