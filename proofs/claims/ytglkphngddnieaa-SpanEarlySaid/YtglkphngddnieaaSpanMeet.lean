/-
  Lists of windows in memory; the document's own Meet, walked.
-/
import Derived.Test.YtglkphngddnieaaSpanRRight
import Derived.Test.YtglkphngddnieaaWordsWin
import Derived.Laws.ResultCell
import Derived.Deep.QuietTactic
import Derived.BigQuiet
namespace Go.Proofs.Ytglkphngddnieaa.Span
open Go.ChangeShapes Go.WideShapes Go.ChangeAt Go.RowKit Go.Proofs.Ytglkphngddnieaa.Mem Go.Proofs.Ytglkphngddnieaa.FleetMath Go.Proofs.Ytglkphngddnieaa.Rec

/-- a window and whether there is one -/
def optW : Option Win → Value
  | none => .tuple #[winV ⟨0, 0⟩, .bool false]
  | some x => .tuple #[winV x, .bool true]

/-- on the way: the answer's own window (zero so far), the window that is met so far -/
def MeetAt (w : World) (m : Win) (u : World) : Prop := Below w.heap.size w u ∧ Blk u w.heap.size 23 [.int .i64 0, .int .i64 0] ∧ Blk u (w.heap.size + 1) 23 [.int .i64 m.fr, .int .i64 m.to]
section
variable {w u u' : World} {m : Win}
theorem MeetAt.keep (h : MeetAt w m u) (hb : Below u.heap.size u u') : MeetAt w m u' := ⟨h.1.trans (hb.mono h.1.size), h.2.1.below hb h.2.1.lt, h.2.2.below hb h.2.2.lt⟩
theorem MeetAt.drewN (h : MeetAt w m u) (d : Nat) : MeetAt w m (u.drewN d) := ⟨below_drewN h.1 d, h.2.1, h.2.2⟩
theorem MeetAt.drew (h : MeetAt w m u) : MeetAt w m u.drew := ⟨h.1.drew, h.2.1, h.2.2⟩
theorem MeetAt.fr (h : MeetAt w m u) (x : Int) : MeetAt w ⟨x, m.to⟩ (u.setCell ⟨w.heap.size + 1, 0, none⟩ (.int .i64 x)) :=
  ⟨h.1.setCell (Nat.le_succ _) _, (Below.heap_setCell u _ _ _ (by show w.heap.size ≠ w.heap.size + 1; omega)).trans h.2.1, h.2.2.put 0 _⟩
theorem MeetAt.to (h : MeetAt w m u) (x : Int) : MeetAt w ⟨m.fr, x⟩ (u.setCell ⟨w.heap.size + 1, 1, none⟩ (.int .i64 x)) :=
  ⟨h.1.setCell (Nat.le_succ _) _, (Below.heap_setCell u _ _ _ (by show w.heap.size ≠ w.heap.size + 1; omega)).trans h.2.1, h.2.2.put 1 _⟩
end

theorem meet_start (w : World) : MeetAt w ⟨0, 1000000⟩ ((w.alloc (Obj.cells #[.int .i64 0, .int .i64 0] 23)).alloc (Obj.cells #[.int .i64 0, .int .i64 1000000] 23)) := by
  have h1 : Blk (w.alloc (Obj.cells #[.int .i64 0, .int .i64 0] 23)) w.heap.size 23 [.int .i64 0, .int .i64 0] := Blk.new w _ _
  have h2 := Blk.new (w.alloc (Obj.cells #[.int .i64 0, .int .i64 0] 23)) 23 [.int .i64 0, .int .i64 1000000]
  rw [World.size_alloc] at h2
  exact ⟨((Below.refl _ _).alloc (Nat.le_refl _) _).alloc (by simp) _, h1.below ((Below.refl _ _).alloc (Nat.le_refl _) _) (by simp), h2⟩
theorem ends_win {o o' : Option Win} {w w' : World} {v : Value} (h : o = o') (hv : v = optW o) (hb : Below w.heap.size w w') : Gives w (optW o') (.returned v) w' := ⟨by rw [← h, hv], hb⟩

set_option maxRecDepth 100000 in
set_option maxHeartbeats 1000000 in
theorem rmeet_any (A : Option Addr) (n c : Nat) (l : List Win) (w : World) (h : Wins w w.heap.size A n l) :
    Calls Try.prog 21 #[.slice A n c] w (Gives w (optW (meet l))) := by
  have hm := Recs.le h
  have HI := Lib.hid h
  clear h
  go_enter Try.func21, Try.ntmps21
  go_wp2
  go_loopw [5] (fun i wr => ∃ (j : Nat) (m : Win), j ≤ n ∧ i = .int .i64 j ∧ Hid (MeetAt w m wr) ∧ Hid (meetGo m (l.drop j) = meet l)) (fun i _ => n - (intOf i).toNat)
  case atStart =>
    exact ⟨0, ⟨0, 1000000⟩, Nat.zero_le _, rfl, meet_start w, rfl⟩
  case round =>
    obtain ⟨j, m, hj, rfl, HM, HG⟩ := hrel
    obtain ⟨p, q⟩ := m
    have m0 := HM.out.2.2.cell (i := 0) rfl
    have m1 := HM.out.2.2.cell (i := 1) rfl
    have mf0 := HM.out.2.2.free 0
    have mf1 := HM.out.2.2.free 1
    have r0 := HM.out.2.1.cell (i := 0) rfl
    have r1 := HM.out.2.1.cell (i := 1) rfl
    have rf0 := HM.out.2.1.free 0
    have rf1 := HM.out.2.1.free 1
    by_cases hlt : j < n
    · obtain ⟨b, off, x, rfl, hb, hx, hd, c0, c1⟩ := Wins.at_ (Recs.keep HI.out HM.out.1) hlt
      obtain ⟨xf, xt⟩ := x
      obtain ⟨r, hr⟩ : ∃ r, right ⟨xf, xt⟩ = r := ⟨_, rfl⟩
      have HR := Lib.hid hr
      have HD := Lib.hid hd
      clear hr hx hd
      go_wp2_with fail
      refine (rright_val ⟨xf, xt⟩ r _ HR.out).mono ?_
      rintro e w2 ⟨rfl, hb2⟩
      have HM2 := Lib.hid (HM.out.keep hb2)
      have hbw : b < wr.heap.size := Nat.lt_of_lt_of_le hb HM.out.1.size
      have c0' := (hb2.cell (p := ⟨b, off + j * 2, none⟩) hbw).trans c0
      have c1' := (hb2.cell (p := ⟨b, off + j * 2 + 1, none⟩) hbw).trans c1
      have m0' := HM2.out.2.2.cell (i := 0) rfl
      have m1' := HM2.out.2.2.cell (i := 1) rfl
      have mf0' := HM2.out.2.2.free 0
      have mf1' := HM2.out.2.2.free 1
      have r0' := HM2.out.2.1.cell (i := 0) rfl
      have r1' := HM2.out.2.1.cell (i := 1) rfl
      have rf0' := HM2.out.2.1.free 0
      have rf1' := HM2.out.2.1.free 1
      clear hb2 c0 c1 m0 m1 mf0 mf1 r0 r1 rf0 rf1 HM
      cases r
      · have HN : Hid (none = meet l) := by
          rw [← HG.out, HD.out, meetGo_cons, if_pos HR.out]
          exact rfl
        go_wp2
        (try simp only [Exit.inBlock, Exit.then])
        refine bodyPost_ret (v := optW none) ?_ rfl (ends_win HN.out rfl ?_)
        · rw [results_cell_tmp rfl]; go_simp; rfl
        · exact (HM2.out.1.setCell (Nat.le_refl _) _).setCell (Nat.le_refl _) _
      · have HN : Hid (meetGo ⟨if p < xf then xf else p, if xt < q then xt else q⟩ (l.drop (j + 1)) = meet l) := by
          have hg := HG.out
          rw [HD.out, meetGo_cons, if_neg (by rw [HR.out]; simp)] at hg
          exact hg
        by_cases h1 : p < xf
        · by_cases h2 : xt < q
          · rw [if_pos h1, if_pos h2] at HN
            go_wp2
            go_quiet (fail)
            go_wp2
            go_quiet (fail)
            go_wp2
            go_roundw
            case rel => exact ⟨j + 1, ⟨xf, xt⟩, by omega, by go_num, (((HM2.out.drewN _).fr xf).drewN _).to xt, HN⟩
            case measure => simp [intOf]; omega
          · rw [if_pos h1, if_neg h2] at HN
            go_wp2
            go_quiet (fail)
            go_wp2
            go_quiet (fail)
            go_wp2
            go_roundw
            case rel => exact ⟨j + 1, ⟨xf, q⟩, by omega, by go_num, ((HM2.out.drewN _).fr xf).drewN _, HN⟩
            case measure => simp [intOf]; omega
        · by_cases h2 : xt < q
          · have HM4 := Lib.hid (HM2.out.to xt)
            rw [if_neg h1, if_pos h2] at HN
            go_wp2
            go_quiet (fail)
            go_wp2
            go_quiet (fail)
            go_wp2
            go_roundw
            case rel => exact ⟨j + 1, ⟨p, xt⟩, by omega, by go_num, by first | exact HM4.out.drewN _ | exact HM4.out.drew, HN⟩
            case measure => simp [intOf]; omega
          · rw [if_neg h1, if_neg h2] at HN
            go_wp2
            go_quiet (fail)
            go_wp2
            go_quiet (fail)
            go_wp2
            go_roundw
            case rel => exact ⟨j + 1, ⟨p, q⟩, by omega, by go_num, by first | exact HM2.out.drewN _ | exact HM2.out.drew, HN⟩
            case measure => simp [intOf]; omega
    · have HE : Hid (meetGo ⟨p, q⟩ [] = meet l) := by
        have := HG.out
        rw [List.drop_of_length_le (by have := HI.out.length; omega)] at this
        exact this
      by_cases h1 : q < p
      · have HN : Hid (none = meet l) := by rw [← HE.out, meetGo_nil, if_pos h1]; exact rfl
        go_wp2
        (try simp only [Exit.inBlock, Exit.then])
        refine bodyPost_ret (v := optW none) ?_ rfl (ends_win HN.out rfl ?_)
        · rw [results_cell_tmp rfl]; go_simp; rfl
        · exact (HM.out.1.setCell (Nat.le_refl _) _).setCell (Nat.le_refl _) _
      · have HN : Hid (some ⟨p, q⟩ = meet l) := by rw [← HE.out, meetGo_nil, if_neg h1]; exact rfl
        go_wp2
        (try simp only [Exit.inBlock, Exit.then])
        refine bodyPost_ret (v := optW (some ⟨p, q⟩)) ?_ rfl (ends_win HN.out rfl ?_)
        · rw [results_cell_tmp rfl]; go_simp; rfl
        · exact (HM.out.1.setCell (Nat.le_refl _) _).setCell (Nat.le_refl _) _

#print axioms rmeet_any
end Go.Proofs.Ytglkphngddnieaa.Span
