/-
  The document's own answer to chapter 9, walked: where, in, Number, Find.
-/
import Derived.Test.YtbnhbbjmocclmaaWordsRte
import Derived.Test.YtbnhbbjmocclmaaLibRows
import Derived.Test.YtbnhbbjmocclmaaRegions
namespace Go.Proofs.Ytbnhbbjmocclmaa.Plan
open Go.ChangeShapes Go.WideShapes Go.ChangeAt Go.RowKit Go.Proofs.Ytbnhbbjmocclmaa.Mem Go.Proofs.Ytbnhbbjmocclmaa.FleetMath Go.Proofs.Ytbnhbbjmocclmaa.PlanMath Go.Proofs.Ytbnhbbjmocclmaa.Rec
set_option linter.unusedVariables false

set_option maxRecDepth 100000 in
set_option maxHeartbeats 1000000 in
theorem rwhere_any (A : Option Addr) (n c : Nat) (l : List Stp) (s : Stp) (w : World) (hl : Stps w w.heap.size A n l) :
    Calls Try.prog 51 #[.slice A n c, stpV s] w (fun e w' => e = .returned (.int .i64 (idxS l s)) ∧ Below w.heap.size w w') := by
  have hm := Recs.le hl
  have HL := Lib.hid hl.length
  have HB : Hid (Below w.heap.size w (w.alloc (.cells #[.int .i64 s.ord, .bool s.drop] 23))) := (Below.refl _ _).alloc (Nat.le_refl _) _
  have HI : Hid (Stps (w.alloc (.cells #[.int .i64 s.ord, .bool s.drop] 23)) w.heap.size A n l) := Recs.keep hl HB.out
  have hbx := Blk.new w 23 [.int .i64 s.ord, .bool s.drop]
  have y0 := hbx.cell (i := 0) rfl
  have y1 := hbx.cell (i := 1) rfl
  clear hl hbx
  go_enter Try.func51, Try.ntmps51
  go_wp2
  go_loopw [5] (fun i wr => ∃ (k d : Nat), k ≤ n ∧ i = .int .i64 k ∧ wr = (w.alloc (.cells #[.int .i64 s.ord, .bool s.drop] 23)).drewN d ∧ Hid (idxFrom (l.drop k) s k = idxS l s)) (fun i _ => n - (intOf i).toNat)
  case atStart => exact ⟨0, 0, Nat.zero_le _, rfl, rfl, rfl⟩
  case round =>
    obtain ⟨k, d, hk, rfl, rfl, HK⟩ := hrel
    by_cases hlt : k < n
    · obtain ⟨b, off, x, rfl, _, hx, hdr, c0, c1⟩ := Stps.at_ HI.out hlt
      have HK1 := HK.out
      rw [hdr, idxFrom_cons] at HK1
      clear hx hdr
      by_cases he : x = s
      · rw [if_pos he] at HK1
        have HF := Lib.hid HK1.symm
        subst he
        clear HK HK1
        go_wp2
        go_quiet (fail)
        go_wp2
        go_ret
        exact ⟨ret_i (by rw [HF.out]), by first | exact below_drewN HB.out _ | exact below_drewN (below_drewN HB.out _) _⟩
      · rw [if_neg he] at HK1
        have HN := Lib.hid HK1
        clear HK HK1
        by_cases e1 : x.ord = s.ord
        · have e3 : (x.drop == s.drop) = false := by
            have : ¬ x.drop = s.drop := fun h => he (Stp.ext_iff'.2 ⟨e1, h⟩)
            simpa using this
          rw [e1] at c0
          clear he e1
          go_wp2
          go_quiet (fail)
          go_wp2
          go_roundw
          case rel => exact ⟨k + 1, _, by omega, by go_num, rfl, HN⟩
          case measure => simp [intOf]; omega
        · have e3 : (x.ord == s.ord) = false := by simpa using e1
          clear he e1
          go_wp2
          go_quiet (fail)
          go_wp2
          go_roundw
          case rel => exact ⟨k + 1, _, by omega, by go_num, rfl, HN⟩
          case measure => simp [intOf]; omega
    · have HF : Hid (idxS l s = -1) := by
        have := HK.out
        rw [List.drop_of_length_le (by have := HL.out; omega)] at this
        exact this.symm
      clear HK
      go_wp2
      go_ret
      exact ⟨ret_i (by rw [HF.out]), by first | exact below_drewN HB.out _ | exact below_drewN (below_drewN HB.out _) _⟩

set_option maxRecDepth 100000 in
set_option maxHeartbeats 1000000 in
theorem rin_any (A : Option Addr) (n c : Nat) (l : List Int) (v : Int) (w : World) (hl : Ints w w.heap.size A n l) :
    Calls Try.prog 52 #[.slice A n c, .int .i64 v] w (fun e w' => e = .returned (.bool (decide (v ∈ l))) ∧ w = w') := by
  have hm := Reads.le hl
  have HL := Lib.hid (Ints.length hl)
  have HI := Lib.hid hl
  clear hl
  go_enter Try.func52, Try.ntmps52
  go_wp2
  go_loopw [5] (fun i wr => ∃ (k : Nat), k ≤ n ∧ i = .int .i64 k ∧ w = wr ∧ Hid (decide (v ∈ l.drop k) = decide (v ∈ l))) (fun i _ => n - (intOf i).toNat)
  case atStart => exact ⟨0, Nat.zero_le _, rfl, by first | rfl | trivial, rfl⟩
  case round =>
    obtain ⟨k, hk, rfl, rfl, HK⟩ := hrel
    by_cases hlt : k < n
    · obtain ⟨b, off, x, rfl, hx, c0, _, hdr⟩ := Ints.at_ HI.out hlt
      have HK1 := HK.out
      rw [hdr] at HK1
      clear hx hdr
      by_cases he : x = v
      · have HF : Hid (decide (v ∈ l) = true) := by show _ = _; rw [← HK1]; simp [he]
        have e1 : (x == v) = true := by simpa using he
        clear HK HK1 he
        go_wp2
        go_ret
        exact ⟨ret_bool HF.out.symm, by first | rfl | trivial⟩
      · have HN : Hid (decide (v ∈ l.drop (k + 1)) = decide (v ∈ l)) := by
          show _ = _
          rw [← HK1]
          simp [Ne.symm he]
        have e1 : (x == v) = false := by simpa using he
        clear HK HK1 he
        go_wp2
        go_roundw
        case rel => exact ⟨k + 1, by omega, by go_num, by first | rfl | trivial, HN⟩
        case measure => simp [intOf]; omega
    · have HF : Hid (decide (v ∈ l) = false) := by
        have := HK.out
        rw [List.drop_of_length_le (by have := HL.out; omega)] at this
        show decide (v ∈ l) = false
        rw [← this]
        exact decide_eq_false (List.not_mem_nil)
      clear HK
      go_wp2
      go_ret
      exact ⟨ret_bool HF.out.symm, by first | rfl | trivial⟩

set_option maxRecDepth 100000 in
set_option maxHeartbeats 1000000 in
theorem rnumberp_any (A : Option Addr) (n c : Nat) (l : List RM) (v : Int) (w : World) (hl : Plns w w.heap.size A n l) :
    Calls Try.prog 54 #[.slice A n c, .int .i64 v] w (fun e w' => e = .returned (.int .i64 (numFrom (l.map (·.rt)) v 0)) ∧ w = w') := by
  have hm := Recs.le hl.rows
  have HL := Lib.hid hl.length
  have HI := Lib.hid hl
  clear hl
  go_enter Try.func54, Try.ntmps54
  go_wp2
  go_loopw [5] (fun i wr => ∃ (k : Nat), k ≤ n ∧ i = .int .i64 k ∧ w = wr ∧ Hid (numFrom ((l.drop k).map (·.rt)) v k = numFrom (l.map (·.rt)) v 0)) (fun i _ => n - (intOf i).toNat)
  case atStart => exact ⟨0, Nat.zero_le _, rfl, by first | rfl | trivial, rfl⟩
  case round =>
    obtain ⟨k, hk, rfl, rfl, HK⟩ := hrel
    by_cases hlt : k < n
    · obtain ⟨b, off, x, rfl, _, hx, hdr, c0, _, _, _, _⟩ := HI.out.at_ hlt
      have HK1 := HK.out
      rw [hdr, List.map_cons, numFrom_cons] at HK1
      clear hx hdr
      by_cases he : x.rt.drv = v
      · rw [if_pos he] at HK1
        have HF := Lib.hid HK1.symm
        have e1 : (x.rt.drv == v) = true := by simpa using he
        clear HK HK1 he
        go_wp2
        go_ret
        exact ⟨ret_i (by rw [HF.out]), by first | rfl | trivial⟩
      · rw [if_neg he] at HK1
        have HN := Lib.hid HK1
        have e1 : (x.rt.drv == v) = false := by simpa using he
        clear HK HK1 he
        go_wp2
        go_roundw
        case rel => exact ⟨k + 1, by omega, by go_num, by first | rfl | trivial, HN⟩
        case measure => simp [intOf]; omega
    · have HF : Hid (numFrom (l.map (·.rt)) v 0 = -1) := by
        have := HK.out
        rw [List.drop_of_length_le (by have := HL.out; omega)] at this
        exact this.symm
      clear HK
      go_wp2
      go_ret
      exact ⟨ret_i (by rw [HF.out]), by first | rfl | trivial⟩

#print axioms rwhere_any
#print axioms rin_any
#print axioms rnumberp_any
end Go.Proofs.Ytbnhbbjmocclmaa.Plan
