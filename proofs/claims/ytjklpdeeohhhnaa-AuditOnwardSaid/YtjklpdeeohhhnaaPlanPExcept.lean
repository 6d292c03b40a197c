/-
  The program's plan.except, walked.
-/
import Derived.Test.YtjklpdeeohhhnaaPlanPSmalls
import Derived.Test.YtjklpdeeohhhnaaPlanSmalls
namespace Go.Proofs.Ytjklpdeeohhhnaa.Plan
open Go.ChangeShapes Go.WideShapes Go.ChangeAt Go.RowKit Go.Proofs.Ytjklpdeeohhhnaa.Mem Go.Proofs.Ytjklpdeeohhhnaa.FleetMath Go.Proofs.Ytjklpdeeohhhnaa.PlanMath Go.Proofs.Ytjklpdeeohhhnaa.Rec
set_option linter.unusedVariables false

set_option maxRecDepth 100000 in
set_option maxHeartbeats 2000000 in
theorem pexcept_any (A : Option Addr) (n c : Nat) (l : List Stp) (b m : Nat) (p : Int → Bool) (w : World) (hl : Stps w w.heap.size A n l) (hs : SetI w b m p) (hwf : ∀ s ∈ l, (Lit.int .i64 s.ord).wf = true) (hfit : n * 16 ≤ 140737488351232) :
    Calls Try.prog 50 #[.slice A n c, .map (some b)] w (fun e w' => ∃ v, e = .returned v ∧ ES w w' v (l.filter fun s => !p s.ord)) := by
  have hm := Recs.le hl
  have HL := Lib.hid hl.length
  have HI := Lib.hid hl
  have HS := Lib.hid hs
  have HW := Lib.hid hwf
  clear hl hs hwf
  go_enter Try.func50, Try.ntmps50
  go_wp2
  go_loopw [5, 12] (fun v i wr => ∃ (k : Nat), k ≤ n ∧ i = .int .i64 k ∧ Hid (ES w wr v ((l.take k).filter fun s => !p s.ord))) (fun _ i _ => n - (intOf i).toNat)
  case atStart => exact ⟨0, Nat.zero_le _, rfl, Lib.hid (by rw [List.take_zero]; exact ES.nil w)⟩
  case round =>
    obtain ⟨k, hk, rfl, HE⟩ := hrel
    by_cases hlt : k < n
    · obtain ⟨ba, off, s, rfl, hbb, hsx, hdr, s0, s1⟩ := Stps.at_ (Recs.keep HI.out HE.out.old) hlt
      have HSW : Hid ((Lit.int .i64 s.ord).wf = true) := HW.out s (List.mem_of_getElem? hsx)
      have HT := Lib.hid (take_keep (fun s => !p s.ord) hsx)
      obtain ⟨f, hf⟩ : ∃ f, (l.take k).filter (fun s => !p s.ord) = f := ⟨_, rfl⟩
      have hfl : f.length ≤ k := by rw [← hf]; exact Nat.le_trans (List.length_filter_le _ _) (by simp; omega)
      rw [hf] at HE HT
      obtain ⟨r, hr⟩ : ∃ r, p s.ord = r := ⟨_, rfl⟩
      have HP := Lib.hid hr
      have HS1 : Hid (SetI (wr.alloc (.cells #[.int .i64 s.ord, .bool s.drop] 36)) b m p) := HS.out.below (HE.out.old.alloc HE.out.old.size _) HS.out.lt
      have HE1 : Hid (ES w (wr.alloc (.cells #[.int .i64 s.ord, .bool s.drop] 36)) u5 f) := HE.out.keep ((Below.refl _ _).alloc (Nat.le_refl _) _)
      have HQ : Hid (Blk (wr.alloc (.cells #[.int .i64 s.ord, .bool s.drop] 36)) wr.heap.size 36 [.int .i64 s.ord, .bool s.drop]) := Blk.new _ _ _
      have HE2 : Hid (ES w ((wr.alloc (.cells #[.int .i64 s.ord, .bool s.drop] 36)).alloc (.cells #[] 101)) u5 f) := HE1.out.keep ((Below.refl _ _).alloc (Nat.le_refl _) _)
      clear hsx hdr hf hr HE hbb
      cases r with
      | true =>
        have HF : Hid ((l.take (k + 1)).filter (fun s => !p s.ord) = f) := by
          have h := HT.out
          rw [HP.out] at h
          simp only [Bool.not_true, Bool.false_eq_true, if_false, List.append_nil] at h
          exact h
        clear HT
        go_wp2_with (at_lookup; refine look_val rfl _ _ rfl s.ord true HP.out HS1.out HSW.out rfl rfl ?_)
        go_roundw
        case rel => exact ⟨k + 1, by omega, by go_num, Lib.hid (by rw [HF.out]; exact HE2.out)⟩
        case measure => simp [intOf]; omega
      | false =>
        have HF : Hid ((l.take (k + 1)).filter (fun s => !p s.ord) = f ++ [s]) := by
          have h := HT.out
          rw [HP.out] at h
          simp only [Bool.not_false, if_true] at h
          exact h
        have HQ2 : Hid (Blk ((wr.alloc (.cells #[.int .i64 s.ord, .bool s.drop] 36)).alloc (.cells #[] 101)) wr.heap.size 36 [.int .i64 s.ord, .bool s.drop]) := HQ.out.below ((Below.refl _ _).alloc (Nat.le_refl _) _) HQ.out.lt
        have q0 := HQ2.out.cell (i := 0) rfl
        have q1 := HQ2.out.cell (i := 1) rfl
        have HE3 : Hid (ES w (((wr.alloc (.cells #[.int .i64 s.ord, .bool s.drop] 36)).alloc (.cells #[] 101)).alloc (.cells #[.int .i64 s.ord, .bool s.drop] 36)) u5 f) := HE2.out.keep ((Below.refl _ _).alloc (Nat.le_refl _) _)
        have HB3 : Hid (Blk (((wr.alloc (.cells #[.int .i64 s.ord, .bool s.drop] 36)).alloc (.cells #[] 101)).alloc (.cells #[.int .i64 s.ord, .bool s.drop] 36)) (wr.heap.size + 1 + 1) 36 [.int .i64 s.ord, .bool s.drop]) := by
          have h := Blk.new ((wr.alloc (.cells #[.int .i64 s.ord, .bool s.drop] 36)).alloc (.cells #[] 101)) 36 [.int .i64 s.ord, .bool s.drop]
          have e : ((wr.alloc (.cells #[.int .i64 s.ord, .bool s.drop] 36)).alloc (.cells #[] 101)).heap.size = wr.heap.size + 1 + 1 := by simp
          rw [e] at h
          exact h
        clear HT
        go_wp2_with (first | (at_lookup; refine look_val rfl _ _ rfl s.ord false HP.out HS1.out HSW.out rfl rfl ?_) | (at_builtin; refine wpList_append_ko (o := ⟨some 28, _, _, _, _, _⟩) rfl (.tmp 25) (.tmp 27) Try.underlying38 infoStp rfl (by decide) rfl HE3.out.own rfl HB3.out rfl rfl (stp_one' s) (by unfold maxLen; omega) (by omega) HE3.out.old.size ?_; intro vB wB HO2 HG2 HN2; have HQ3 := Lib.hid (HE3.out.grow (x := s) HO2.out HG2.out); clear HO2 HG2 HN2))
        go_roundw
        case rel => exact ⟨k + 1, by omega, by go_num, Lib.hid (by rw [HF.out]; exact HQ3.out)⟩
        case measure => simp [intOf]; omega
    · have hke : k = n := by omega
      subst hke
      have HF : Hid (ES w wr u5 (l.filter fun s => !p s.ord)) := by
        have h := HE.out
        rw [List.take_of_length_le (by rw [HL.out]; exact Nat.le_refl _)] at h
        exact h
      clear HE
      go_wp2
      go_ret
      exact ⟨_, rfl, HF.out⟩
#print axioms pexcept_any
end Go.Proofs.Ytjklpdeeohhhnaa.Plan
