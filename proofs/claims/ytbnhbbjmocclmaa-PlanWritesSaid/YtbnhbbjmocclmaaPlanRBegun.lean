/-
  The document's own answer to chapter 9, walked: Begun.
-/
import Derived.Test.YtbnhbbjmocclmaaPlanRFind
namespace Go.Proofs.Ytbnhbbjmocclmaa.Plan
open Go.ChangeShapes Go.WideShapes Go.ChangeAt Go.RowKit Go.Proofs.Ytbnhbbjmocclmaa.Mem Go.Proofs.Ytbnhbbjmocclmaa.FleetMath Go.Proofs.Ytbnhbbjmocclmaa.PlanMath Go.Proofs.Ytbnhbbjmocclmaa.Rec
set_option linter.unusedVariables false

set_option maxRecDepth 100000 in
set_option maxHeartbeats 1000000 in
theorem rbegun_any (A : Option Addr) (n c : Nat) (l : List RM) (o : Int) (w : World) (hl : Plns w w.heap.size A n l) :
    Calls Try.prog 53 #[.slice A n c, .int .i64 o] w (fun e w' => e = .returned (.bool (begunP (l.map (·.rt)) o)) ∧ w = w') := by
  have hm := Recs.le hl.rows
  have HL := Lib.hid hl.length
  have HI := Lib.hid hl
  clear hl
  go_enter Try.func53, Try.ntmps53
  go_wp2
  go_loopw [5] (fun i wr => ∃ (k : Nat), k ≤ n ∧ i = .int .i64 k ∧ w = wr ∧ Hid (begunP ((l.drop k).map (·.rt)) o = begunP (l.map (·.rt)) o)) (fun i _ => n - (intOf i).toNat)
  case atStart => exact ⟨0, Nat.zero_le _, rfl, by first | rfl | trivial, Lib.hid rfl⟩
  case round =>
    obtain ⟨k, hk, rfl, rfl, HK⟩ := hrel
    by_cases hlt : k < n
    · obtain ⟨b, off, x, rfl, hbb, hx, hdr, c0, c1, c2, hst, hxc⟩ := HI.out.at_ hlt
      have HS := Lib.hid hst
      have hxm := Recs.le hst
      have HSL := Lib.hid hst.length
      have HK1 := HK.out
      rw [hdr, List.map_cons, begunP_cons] at HK1
      have HKK := Lib.hid HK1
      clear hx hdr HK1 HK hst c0
      obtain ⟨sv, hsv⟩ : ∃ v, x.rt.served = v := ⟨_, rfl⟩
      rw [hsv] at c1
      have HSV := Lib.hid hsv
      clear hsv
      go_wp2
      go_loopw [6] (fun i wr => ∃ (j : Nat), j ≤ x.n ∧ i = .int .i64 j ∧ w = wr ∧ Hid (((((doneR x.rt).drop j).any fun s => decide (s.ord = o)) || begunP ((l.drop (k + 1)).map (·.rt)) o) = begunP (l.map (·.rt)) o)) (fun i _ => x.n - (intOf i).toNat)
      case atStart => exact ⟨0, Nat.zero_le _, rfl, by first | rfl | trivial, HKK⟩
      case round =>
        obtain ⟨j, hj, rfl, rfl, HJ⟩ := hrel
        by_cases hlt2 : (j : Int) < sv
        · by_cases hlt3 : j < x.n
          · obtain ⟨b2, off2, s, hxa, hbb2, hs, hdr, s0, s1⟩ := Stps.at_ HS.out hlt3
            have HJ1 := HJ.out
            rw [doneR_drop hdr (by rw [HSV.out]; exact hlt2), List.any_cons] at HJ1
            rw [hxa] at c2
            clear hxa hs hdr s1
            by_cases he : s.ord = o
            · have HF : Hid (true = begunP (l.map (·.rt)) o) := by
                show _ = _
                rw [← HJ1]; simp [he]
              have e1 : (s.ord == o) = true := by simpa using he
              clear HJ1 HJ he
              go_wp2
              go_ret
              exact ⟨ret_bool HF.out, by first | rfl | trivial⟩
            · have HN : Hid (((((doneR x.rt).drop (j + 1)).any fun s => decide (s.ord = o)) || begunP ((l.drop (k + 1)).map (·.rt)) o) = begunP (l.map (·.rt)) o) := by
                show _ = _
                rw [← HJ1]; simp [he]
              have e1 : (s.ord == o) = false := by simpa using he
              clear HJ1 HJ he
              go_wp2
              go_roundw
              case rel => exact ⟨j + 1, by omega, by go_num, by first | rfl | trivial, HN⟩
              case measure => simp [intOf]; omega
          · have HN : Hid (begunP ((l.drop (k + 1)).map (·.rt)) o = begunP (l.map (·.rt)) o) := by
              have := HJ.out
              rw [doneR_end (.inr (by have := HSL.out; omega))] at this
              exact this
            clear HJ
            go_wp2
            go_roundw
            case rel => exact ⟨k + 1, by omega, by go_num, by first | rfl | trivial, HN⟩
            case measure => simp [intOf]; omega
        · have HN : Hid (begunP ((l.drop (k + 1)).map (·.rt)) o = begunP (l.map (·.rt)) o) := by
            have := HJ.out
            rw [doneR_end (.inl (by have := HSV.out; omega))] at this
            exact this
          clear HJ
          go_wp2
          go_roundw
          case rel => exact ⟨k + 1, by omega, by go_num, by first | rfl | trivial, HN⟩
          case measure => simp [intOf]; omega
    · have HF : Hid (false = begunP (l.map (·.rt)) o) := by
        have := HK.out
        rw [List.drop_of_length_le (by have := HL.out; omega)] at this
        exact this
      clear HK
      go_wp2
      go_ret
      exact ⟨ret_bool HF.out, by first | rfl | trivial⟩

#print axioms rbegun_any
end Go.Proofs.Ytbnhbbjmocclmaa.Plan
