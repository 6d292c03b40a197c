/-
  draybook's Same, Roomy and Intact over lists of api.Stop: the contracts.
-/
import Derived.Test.YtobcmlcmbnldlaaWords
import Derived.RegionTactic
import Derived.Deep.QuietTactic
import Derived.BigQuiet
namespace Go.Proofs.Ytobcmlcmbnldlaa.Rec
open Go.ChangeShapes Go.WideShapes Go.ChangeAt Go.RowKit Go.Proofs.Ytobcmlcmbnldlaa.Mem Go.Proofs.Ytobcmlcmbnldlaa.FleetMath


set_option maxRecDepth 100000 in
set_option maxHeartbeats 1000000 in
theorem sameStp (A A' : Option Addr) (n c c' : Nat) (xs : List Stp) (B B' : Nat) (w : World) (h : Stps w B A n xs) (h' : Stps w B' A' n xs) :
    Calls Try.prog 13 #[.slice A n c, .slice A' n c'] w (Quietly w (.bool true)) := by
  have hm := Recs.le h
  have H := Lib.hid h
  have H' := Lib.hid h'
  clear h h'
  go_enter Try.func13, Try.ntmps13
  go_wp2
  go_loopw [5] (fun i wr => ∃ (k d : Nat), k ≤ n ∧ i = .int .i64 k ∧ wr = w.drewN d) (fun i _ => n - (intOf i).toNat)
  case atStart => exact ⟨0, 0, Nat.zero_le _, rfl, rfl⟩
  case round =>
    obtain ⟨k, d, hk, rfl, rfl⟩ := hrel
    by_cases hlt : k < n
    · obtain ⟨b, off, x, rfl, _, hx, _, c0, c1⟩ := Stps.at_ H.out hlt
      obtain ⟨b', off', y, rfl, _, hy, _, d0, d1⟩ := Stps.at_ H'.out hlt
      rw [hx] at hy
      injection hy with hy
      subst hy
      clear hx
      go_wp2
      go_quiet (fail)
      go_wp2
      go_roundw
      case rel => exact ⟨k + 1, _, by omega, by go_num, rfl⟩
      case measure => simp [intOf]; omega
    · go_wp2
      go_ret
      exact ⟨rfl, _, rfl⟩

theorem stpsV_set (l : List Stp) (i : Nat) (x : Stp) (hi : i < l.length) : (((stpsV l).set (i * 2) (.int .i64 x.ord)).set (i * 2 + 1) (.bool x.drop)) = stpsV (l.set i x) := by
  induction l generalizing i with
  | nil => simp at hi
  | cons y r ih =>
    cases i with
    | zero => simp [stpsV]
    | succ i =>
      have := ih i (by simpa using hi)
      have e : stpsV (y :: r) = [.int .i64 y.ord, .bool y.drop] ++ stpsV r := rfl
      rw [e, List.set_cons_succ, show stpsV (y :: r.set i x) = [.int .i64 y.ord, .bool y.drop] ++ stpsV (r.set i x) from rfl, ← this]
      rw [List.set_append_right _ _ (by simp; omega), List.set_append_right _ _ (by simp; omega)]
      simp only [List.length_cons, List.length_nil]
      rw [show (i + 1) * 2 - (0 + 1 + 1) = i * 2 by omega, show (i + 1) * 2 + 1 - (0 + 1 + 1) = i * 2 + 1 by omega]
theorem putStp {wr : World} {g i : Nat} {t : TypeId} {l : List Stp} (x : Stp) (h : Blk wr g t (stpsV l)) (hi : i < l.length) : Blk ((wr.setCell ⟨g, i * 2, none⟩ (.int .i64 x.ord)).setCell ⟨g, i * 2 + 1, none⟩ (.bool x.drop)) g t (stpsV (l.set i x)) := by
  have := ((h.put (i * 2) (.int .i64 x.ord)).put (i * 2 + 1) (.bool x.drop))
  rw [stpsV_set l i x hi] at this
  exact this
def zeroStp : Stp := ⟨0, false⟩
theorem madeStp (N : Nat) : (madeCells #[.int .i64 0, .bool false] (N * 2)).toList = stpsV (List.replicate N zeroStp) := by
  apply List.ext_getElem?
  intro i
  by_cases hi : i < N * 2
  · have hx : (List.replicate N zeroStp)[i / 2]? = some zeroStp := by rw [List.getElem?_replicate, if_pos (by omega)]
    obtain ⟨h0, h1⟩ := stpsV_at hx
    have hm : (madeCells #[.int .i64 0, .bool false] (N * 2)).toList[i]? = some (#[(.int .i64 0 : Value), .bool false][i % 2]!) := by
      simp only [madeCells, Array.toList_map, Array.toList_range, List.getElem?_map, List.getElem?_range hi, Option.map_some]
      rfl
    rw [hm]
    have hr : i % 2 = 0 ∨ i % 2 = 1 := by omega
    rcases hr with hr | hr
    · rw [hr, show i = i / 2 * 2 + 0 by omega, h0]; rfl
    · rw [hr, show i = i / 2 * 2 + 1 by omega, h1]; rfl
  · rw [List.getElem?_eq_none (by rw [Array.length_toList, size_madeCells]; omega), List.getElem?_eq_none (by rw [stpsV_len, List.length_replicate]; omega)]
theorem startStp (xs : List Stp) (m : Stp) : splice (madeCells #[.int .i64 0, .bool false] ((xs.length + 80) * 2)).toList 0 (stpsV xs) = stpsV (roomL xs m zeroStp xs.length) := by
  rw [madeStp, roomL_start, stpsV_append, ← List.replicate_append_replicate, stpsV_append]
  unfold splice
  rw [List.take_zero, List.nil_append, Nat.zero_add]
  congr 1
  exact List.drop_left' (by rw [stpsV_len, stpsV_len, List.length_replicate])

/-- through Roomy's loop -/
def RoomStp (w : World) (xs : List Stp) (m : Stp) (k : Nat) (wr : World) : Prop := Below w.heap.size w wr ∧ Blk wr w.heap.size 35 [.int .i64 m.ord, .bool m.drop] ∧ Blk wr (w.heap.size + 1) 35 (stpsV (roomL xs m zeroStp k))
theorem RoomStp.put {w wr : World} {xs : List Stp} {m : Stp} {k n : Nat} (h : RoomStp w xs m k wr) (hx : xs.length = n) (h1 : n ≤ k) (h2 : k < n + 80) : (∃ u, wr.cell? ⟨w.heap.size + 1, k * 2, none⟩ = some u) ∧ wr.frozen? ⟨w.heap.size + 1, k * 2, none⟩ = false ∧ (∃ u, wr.cell? ⟨w.heap.size + 1, k * 2 + 1, none⟩ = some u) ∧ wr.frozen? ⟨w.heap.size + 1, k * 2 + 1, none⟩ = false ∧ RoomStp w xs m (k + 1) ((wr.setCell ⟨w.heap.size + 1, k * 2, none⟩ (.int .i64 m.ord)).setCell ⟨w.heap.size + 1, k * 2 + 1, none⟩ (.bool m.drop)) := by
  subst hx
  have hl := roomL_len xs m zeroStp k h1 (by omega)
  have hlen := stpsV_len (roomL xs m zeroStp k)
  have hc : ∀ j, j < 2 → ∃ u, wr.cell? ⟨w.heap.size + 1, k * 2 + j, none⟩ = some u := fun j hj => ⟨_, h.2.2.cell (List.getElem?_eq_getElem (by rw [hlen, hl]; omega))⟩
  have hb2 := putStp m h.2.2 (i := k) (by rw [hl]; omega)
  rw [roomL_set xs m zeroStp k h1 h2] at hb2
  exact ⟨hc 0 (by omega), h.2.2.free _, hc 1 (by omega), h.2.2.free _, ((h.1.setCell (Nat.le_succ _) _).setCell (Nat.le_succ _) _), ((Below.heap_setCell _ _ _ _ (by show w.heap.size ≠ w.heap.size + 1; omega)).trans ((Below.heap_setCell _ _ _ _ (by show w.heap.size ≠ w.heap.size + 1; omega)).trans h.2.1)), hb2⟩

set_option maxRecDepth 100000 in
set_option maxHeartbeats 1000000 in
theorem roomyStp (A : Option Addr) (n c : Nat) (xs : List Stp) (w : World) (m : Stp) (h : Stps w w.heap.size A n xs) (hr : n * 16 ≤ 140737488351232) :
    Calls Try.prog 16 #[.slice A n c, stpV m] w fun e w' => e = .returned (.slice (some ⟨w.heap.size + 1, 0, none⟩) (n + 80) (n + 80)) ∧ Below w.heap.size w w' ∧ Blk w' (w.heap.size + 1) 35 (stpsV (xs ++ List.replicate 80 m)) := by
  obtain ⟨i0, hi, hz0, hz1, hz2⟩ := info_parts infoStp
  have hmk : ∀ u : World, (Instr.makeSlice 41 (.int .i64 ((n : Int) + 80)) (.int .i64 ((n : Int) + 80))).run Try.prog u =
      .ok (.slice (some ⟨u.heap.size, 0, none⟩) (n + 80) (n + 80)) (u.alloc (.cells (madeCells #[.int .i64 0, .bool false] ((n + 80) * 2)) 35)) := fun u => by
    have h := run_make (P := Try.prog) u 41 35 i0 (.agg #[.int .i64 0, .bool false]) Try.underlying41 hi hz0 .i64 .i64 ((n : Int) + 80) ((n : Int) + 80) (by omega) (Int.le_refl _) (by rw [hz2]; omega) (by omega)
    have e : ((n : Int) + 80).toNat = n + 80 := by omega
    rw [e, hz1] at h
    exact h
  have hm := Recs.le h
  have HX : Hid (xs.length = n) := h.length
  have HI := Lib.hid h
  obtain ⟨w1, hcp, hR, hB, hoth⟩ : ∃ w1, (Builtin.copy_ #[41, 41] 3 #[.slice (some ⟨w.heap.size + 1, 0, none⟩) (n + 80) (n + 80), .slice A n c]).run Try.prog ((w.alloc (.cells #[.int .i64 m.ord, .bool m.drop] 35)).alloc (.cells (madeCells #[.int .i64 0, .bool false] ((n + 80) * 2)) 35)) = .ok (goInt n) w1 ∧
      Blk w1 (w.heap.size + 1) 35 (splice (madeCells #[.int .i64 0, .bool false] ((n + 80) * 2)).toList 0 (stpsV xs)) ∧ Below w.heap.size w w1 ∧ w1.heap[w.heap.size]? = (w.alloc (.cells #[.int .i64 m.ord, .bool m.drop] 35)).heap[w.heap.size]? := by
    have hg : Blk ((w.alloc (.cells #[.int .i64 m.ord, .bool m.drop] 35)).alloc (.cells (madeCells #[.int .i64 0, .bool false] ((n + 80) * 2)) 35)) (w.heap.size + 1) 35 (madeCells #[.int .i64 0, .bool false] ((n + 80) * 2)).toList := by
      have e := heap_alloc_new (w.alloc (.cells #[.int .i64 m.ord, .bool m.drop] 35)) (.cells (madeCells #[.int .i64 0, .bool false] ((n + 80) * 2)) 35)
      rw [World.size_alloc] at e
      unfold Blk
      rw [Array.toArray_toList]
      exact e
    have hrun := run_copy_k (sT := 41) (ty := 3) (dCap := n + 80) (sCap := c) Try.underlying41 sizeStp hg (show n ≤ n + 80 by omega) (Recs.alloc (Recs.alloc h (Nat.le_refl _) _) (by simp) _) (by rw [stpsV_len, h.length, Array.length_toList, size_madeCells]; omega) (stpsV_one xs)
    refine ⟨_, hrun, setRow_heap _ _ _ _ _ _ hg, below_setRow (((Below.refl _ _).alloc (Nat.le_refl _) _).alloc (by simp) _) (by omega) _, ?_⟩
    rw [setRow_other _ _ _ _ (by omega)]
    exact Below.heap_alloc _ _ _ (by simp)
  have HR := Lib.hid hR
  have HB := Lib.hid hB
  have HOTH := Lib.hid hoth
  clear h hi hz0 hz1 hz2 hR hB hoth
  go_enter Try.func16, Try.ntmps16
  go_wp2
  have HK0 : Hid (RoomStp w xs m n w1) := by
    have e := startStp xs m
    rw [HX.out] at e
    have h2 := HR.out
    rw [e] at h2
    have h1 : Blk (w.alloc (.cells #[.int .i64 m.ord, .bool m.drop] 35)) w.heap.size 35 [.int .i64 m.ord, .bool m.drop] := Blk.new w _ _
    exact ⟨HB.out, HOTH.out.trans h1, h2⟩
  clear HR HB hmk HI HOTH hcp
  go_loopw [6] (fun i wr => ∃ k : Nat, n ≤ k ∧ k ≤ n + 80 ∧ i = .int .i64 k ∧ Hid (RoomStp w xs m k wr)) (fun i _ => n + 80 - (intOf i).toNat)
  case atStart => exact ⟨n, Nat.le_refl _, by omega, rfl, HK0⟩
  case round =>
    clear HK0
    obtain ⟨k, hk1, hk2, rfl, HK⟩ := hrel
    by_cases hlt : k < n + 80
    · obtain ⟨⟨u0, c0⟩, f0, ⟨u1, c1⟩, f1, hnx⟩ := HK.out.put HX.out hk1 hlt
      have b0 := HK.out.2.1.cell (i := 0) rfl
      have b1 := HK.out.2.1.cell (i := 1) rfl
      have HN := Lib.hid hnx
      clear hnx
      go_wp2
      go_roundw
      case rel => exact ⟨k + 1, by omega, by omega, by go_num, HN⟩
      case measure => simp [intOf]; omega
    · obtain rfl : k = n + 80 := by omega
      go_wp2
      go_ret
      have h2 := HK.out.2.2
      rw [← HX.out, roomL_end] at h2
      exact ⟨rfl, HK.out.1, h2⟩

theorem frontStp {w : World} {g n : Nat} {xs : List Stp} {m : Stp} (h : Blk w g 35 (stpsV (xs ++ List.replicate 80 m))) (hx : xs.length = n) (hn : n ≤ maxLen) : Stps w w.heap.size (some ⟨g, 0, none⟩) n xs := by
  refine ⟨by rw [stpsV_len, hx], hn, fun _ => ⟨g, 0, rfl, h.lt, fun j u hu => ?_⟩⟩
  rw [Nat.zero_add]
  refine h.cell ?_
  rw [stpsV_append, List.getElem?_append_left (List.getElem?_eq_some_iff.1 hu).1]
  exact hu
theorem marksStp {w : World} {g n k : Nat} {xs : List Stp} {m : Stp} (h : Blk w g 35 (stpsV (xs ++ List.replicate 80 m))) (hx : xs.length = n) (h1 : n ≤ k) (h2 : k < n + 80) : w.cell? ⟨g, k * 2, none⟩ = some (.int .i64 m.ord) ∧ w.cell? ⟨g, k * 2 + 1, none⟩ = some (.bool m.drop) := by
  have hm : (xs ++ List.replicate 80 m)[k]? = some m := by rw [List.getElem?_append_right (by omega), List.getElem?_replicate, if_pos (by omega)]
  obtain ⟨h10, h11⟩ := stpsV_at hm
  exact ⟨h.cell h10, h.cell h11⟩

set_option maxRecDepth 100000 in
set_option maxHeartbeats 1000000 in
theorem intactStp (A : Option Addr) (g n c : Nat) (xs : List Stp) (B : Nat) (m : Stp) (w : World) (h : Stps w B A n xs) (hn : n ≤ 140737488351232) (hr : Blk w g 35 (stpsV (xs ++ List.replicate 80 m))) (hB : B ≤ w.heap.size) :
    Calls Try.prog 18 #[.slice (some ⟨g, 0, none⟩) (n + 80) (n + 80), .slice A n c, stpV m] w fun e w' => e = .returned (.bool true) ∧ Below w.heap.size w w' := by
  have HL := Lib.hid h.length
  have hb1 : Below w.heap.size w (w.alloc (.cells #[.int .i64 m.ord, .bool m.drop] 35)) := (Below.refl _ _).alloc (Nat.le_refl _) _
  have HR : Hid (Blk (w.alloc (.cells #[.int .i64 m.ord, .bool m.drop] 35)) g 35 (stpsV (xs ++ List.replicate 80 m))) := hr.below hb1 hr.lt
  have HO : Hid (Stps (w.alloc (.cells #[.int .i64 m.ord, .bool m.drop] 35)) (w.heap.size + 1) (some ⟨g, 0, none⟩) n xs) := by
    have e := frontStp HR.out h.length (by unfold maxLen; omega)
    rwa [World.size_alloc] at e
  have HI : Hid (Stps (w.alloc (.cells #[.int .i64 m.ord, .bool m.drop] 35)) B A n xs) := Recs.alloc h hB _
  have HM : Hid (Blk (w.alloc (.cells #[.int .i64 m.ord, .bool m.drop] 35)) w.heap.size 35 [.int .i64 m.ord, .bool m.drop]) := Blk.new w _ _
  have HB1 := Lib.hid hb1
  clear h hr hb1
  go_enter Try.func18, Try.ntmps18
  go_wp2_with (go_at_call 13; refine (sameStp _ _ _ _ _ xs _ _ _ HO.out HI.out).mono ?_; rintro e w' ⟨rfl, d, rfl⟩)
  go_loopw [7] (fun i wr => ∃ (k d : Nat), n ≤ k ∧ k ≤ n + 80 ∧ i = .int .i64 k ∧ wr = (w.alloc (.cells #[.int .i64 m.ord, .bool m.drop] 35)).drewN d) (fun i _ => n + 80 - (intOf i).toNat)
  case atStart => exact ⟨n, d, Nat.le_refl _, by omega, rfl, rfl⟩
  case round =>
    obtain ⟨k, d2, hk1, hk2, rfl, rfl⟩ := hrel
    by_cases hlt : k < n + 80
    · obtain ⟨c0, c1⟩ := marksStp HR.out HL.out hk1 hlt
      have b0 := HM.out.cell (i := 0) rfl
      have b1 := HM.out.cell (i := 1) rfl
      go_wp2
      go_quiet (fail)
      go_wp2
      go_roundw
      case rel => exact ⟨k + 1, _, by omega, by omega, by go_num, rfl⟩
      case measure => simp [intOf]; omega
    · go_wp2
      go_ret
      exact ⟨rfl, below_drewN HB1.out _⟩

#print axioms roomyStp
#print axioms intactStp
end Go.Proofs.Ytobcmlcmbnldlaa.Rec
