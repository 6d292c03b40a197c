/-
  The program's own chapter 5, walked: Right, Has, Begin, Last, Meet answer as the document says.
-/
import Derived.Test.YtglkphngddnieaaSpanMeet
import Derived.Lib.MinMax
namespace Go.Proofs.Ytglkphngddnieaa.Span
open Go.ChangeShapes Go.WideShapes Go.ChangeAt Go.RowKit Go.Proofs.Ytglkphngddnieaa.Mem Go.Proofs.Ytglkphngddnieaa.FleetMath Go.Proofs.Ytglkphngddnieaa.Rec

theorem pwf_bounds {v : Int} (h : (Lit.int .i64 v).wf = true) : -9223372036854775808 ≤ v ∧ v ≤ 9223372036854775807 := by
  simp [Lit.wf, IntKind.min, IntKind.max, IntKind.signed, IntKind.bits] at h; omega
theorem gright_any (x : Win) (w : World) : Calls Try.prog 16 #[winV x] w (Gives w (.bool (right x))) := by
  obtain ⟨a, b⟩ := x
  go_enter Try.func16, Try.ntmps16
  go_wp2
  all_goals
    go_ret
    refine gives_bool ?_ ((Below.refl _ _).alloc (Nat.le_refl _) _)
    first
      | (simp_all [right]; done)
      | (simp_all [right]; omega)

theorem pright_val (x : Win) (r : Bool) (w : World) (h : right x = r) : Calls Try.prog 16 #[winV x] w (Gives w (.bool r)) := by
  rw [← h]; exact gright_any x w

theorem ghas_any (x : Win) (t : Int) (w : World) : Calls Try.prog 18 #[winV x, .int .i64 t] w (Gives w (.bool (has x t))) := by
  obtain ⟨a, b⟩ := x
  obtain ⟨r, hr⟩ : ∃ r, right ⟨a, b⟩ = r := ⟨_, rfl⟩
  have HR := Lib.hid hr
  clear hr
  go_enter Try.func18, Try.ntmps18
  go_wp2_with fail
  refine (pright_val ⟨a, b⟩ r _ HR.out).mono ?_
  rintro e w1 ⟨rfl, hb⟩
  rw [World.size_alloc] at hb
  obtain ⟨c0, c1⟩ := box_cells hb
  have HB : Hid (Below w.heap.size w w1) := ((Below.refl _ _).alloc (Nat.le_refl _) _).trans (hb.mono (by omega))
  clear hb
  cases r
  all_goals
    go_wp2
    all_goals
      go_ret
      refine gives_bool ?_ HB.out
      have hr := HR.out
      clear HR HB c0 c1
      first
        | (simp_all [has]; done)
        | (simp_all [has]; omega)

theorem gbegin_any (x : Win) (t : Int) (w : World) : Calls Try.prog 12 #[winV x, .int .i64 t] w (Gives w (optV (beginT x t))) := by
  obtain ⟨a, b⟩ := x
  obtain ⟨r, hr⟩ : ∃ r, right ⟨a, b⟩ = r := ⟨_, rfl⟩
  have HR := Lib.hid hr
  clear hr
  go_enter Try.func12, Try.ntmps12
  go_wp2_with fail
  refine (pright_val ⟨a, b⟩ r _ HR.out).mono ?_
  rintro e w1 ⟨rfl, hb⟩
  rw [World.size_alloc] at hb
  obtain ⟨c0, c1⟩ := box_cells hb
  have HB : Hid (Below w.heap.size w w1) := ((Below.refl _ _).alloc (Nat.le_refl _) _).trans (hb.mono (by omega))
  clear hb
  cases r
  · have HN : Hid (beginT ⟨a, b⟩ t = none) := by unfold beginT; exact if_pos (.inl HR.out)
    go_wp2
    go_ret2
    exact gives_opt HN.out.symm rfl HB.out
  · by_cases h1 : b < t
    · have HN : Hid (beginT ⟨a, b⟩ t = none) := by unfold beginT; exact if_pos (.inr h1)
      go_wp2
      go_ret2
      exact gives_opt HN.out.symm rfl HB.out
    · have HN : Hid (beginT ⟨a, b⟩ t = some (max a t)) := beginT_some.2 ⟨HR.out, by simpa using h1, by simp only; omega⟩
      go_wp2
      go_ret2
      exact gives_opt HN.out.symm rfl HB.out

set_option maxHeartbeats 400000 in
theorem glast_any (x : Win) (s u : Int) (w : World) (hs : (Lit.int .i64 s).wf = true) (hu : (Lit.int .i64 u).wf = true) : Calls Try.prog 14 #[winV x, .int .i64 s, .int .i64 u] w (Gives w (optV (lastT x s u))) := by
  have hs1 := pwf_bounds hs
  have hu1 := pwf_bounds hu
  clear hs hu
  obtain ⟨a, b⟩ := x
  obtain ⟨r, hr⟩ : ∃ r, right ⟨a, b⟩ = r := ⟨_, rfl⟩
  have HR := Lib.hid hr
  clear hr
  go_enter Try.func14, Try.ntmps14
  go_wp2_with fail
  refine (pright_val ⟨a, b⟩ r _ HR.out).mono ?_
  rintro e w1 ⟨rfl, hb⟩
  rw [World.size_alloc] at hb
  obtain ⟨c0, c1⟩ := box_cells hb
  have HB : Hid (Below w.heap.size w w1) := ((Below.refl _ _).alloc (Nat.le_refl _) _).trans (hb.mono (by omega))
  clear hb
  cases r
  · have HN : Hid (lastT ⟨a, b⟩ s u = none) := by unfold lastT; exact if_pos (.inl HR.out)
    go_wp2
    go_ret2
    exact gives_opt HN.out.symm rfl HB.out
  by_cases h1 : s < 0
  · have HN : Hid (lastT ⟨a, b⟩ s u = none) := by unfold lastT; exact if_pos (.inr (.inl h1))
    go_wp2
    go_ret2
    exact gives_opt HN.out.symm rfl HB.out
  by_cases h2 : u < s
  · have HN : Hid (lastT ⟨a, b⟩ s u = none) := by unfold lastT; exact if_pos (.inr (.inr h2))
    go_wp2
    go_ret2
    exact gives_opt HN.out.symm rfl HB.out
  obtain ⟨m, hm⟩ : ∃ m, min b (u - s) = m := ⟨_, rfl⟩
  have HL : Hid (lastT ⟨a, b⟩ s u = if m < a then none else some m) := by
    unfold lastT
    have hm' : (if b < u - s then b else u - s) = m := by omega
    simp only [hm']
    refine if_neg ?_
    rw [HR.out]
    simp only [Bool.true_eq_false, false_or]
    omega
  by_cases h4 : m < a
  · have HN : Hid (lastT ⟨a, b⟩ s u = none) := by rw [HL.out, if_pos h4]; rfl
    go_wp2
    go_ret2
    exact gives_opt HN.out.symm rfl HB.out
  · have HN : Hid (lastT ⟨a, b⟩ s u = some m) := by rw [HL.out, if_neg h4]; rfl
    go_wp2
    go_ret2
    exact gives_opt HN.out.symm rfl HB.out

set_option maxRecDepth 100000 in
set_option maxHeartbeats 1000000 in
theorem gmeet_any (A : Option Addr) (n c : Nat) (l : List Win) (w : World) (h : Wins w w.heap.size A n l) : Calls Try.prog 9 #[.slice A n c] w (Gives w (optW (meet l))) := by
  have hm := Recs.le h
  have HI := Lib.hid h
  clear h
  go_enter Try.func9, Try.ntmps9
  go_wp2
  go_loopw [10] (fun i wr => ∃ (j : Nat) (m : Win), j ≤ n ∧ i = .int .i64 j ∧ Hid (MeetAt w m wr) ∧ Hid (meetGo m (l.drop j) = meet l)) (fun i _ => n - (intOf i).toNat)
  case atStart =>
    exact ⟨0, ⟨0, 1000000⟩, Nat.zero_le _, rfl, meet_start w, rfl⟩
  case round =>
    obtain ⟨j, m, hj, rfl, HM, HG⟩ := hrel
    obtain ⟨p, q⟩ := m
    have m0 := HM.out.2.2.cell (i := 0) rfl
    have m1 := HM.out.2.2.cell (i := 1) rfl
    have mf0 := HM.out.2.2.free 0
    have mf1 := HM.out.2.2.free 1
    have r0 := HM.out.2.1.cell (i := 0) rfl
    have r1 := HM.out.2.1.cell (i := 1) rfl
    have rf0 := HM.out.2.1.free 0
    have rf1 := HM.out.2.1.free 1
    by_cases hlt : j < n
    · obtain ⟨b, off, x, rfl, hb, hx, hd, c0, c1⟩ := Wins.at_ (Recs.keep HI.out HM.out.1) hlt
      obtain ⟨xf, xt⟩ := x
      obtain ⟨r, hr⟩ : ∃ r, right ⟨xf, xt⟩ = r := ⟨_, rfl⟩
      have HR := Lib.hid hr
      have HD := Lib.hid hd
      clear hr hx hd
      go_wp2_with fail
      refine (pright_val ⟨xf, xt⟩ r _ HR.out).mono ?_
      rintro e w2 ⟨rfl, hb2⟩
      rw [World.size_alloc] at hb2
      obtain ⟨c0', c1'⟩ := box_cells hb2
      have HM2 := Lib.hid (HM.out.keep (((Below.refl _ _).alloc (Nat.le_refl _) _).trans (hb2.mono (by omega))))
      have hne : w.heap.size + 1 < wr.heap.size := HM.out.2.2.lt
      have hne1 : wr.heap.size ≠ w.heap.size + 1 := by omega
      have m0' := HM2.out.2.2.cell (i := 0) rfl
      have m1' := HM2.out.2.2.cell (i := 1) rfl
      have mf0' := HM2.out.2.2.free 0
      have mf1' := HM2.out.2.2.free 1
      have r0' := HM2.out.2.1.cell (i := 0) rfl
      have r1' := HM2.out.2.1.cell (i := 1) rfl
      have rf0' := HM2.out.2.1.free 0
      have rf1' := HM2.out.2.1.free 1
      clear hb2 c0 c1 m0 m1 mf0 mf1 r0 r1 rf0 rf1 HM
      cases r
      · have HN : Hid (none = meet l) := by
          rw [← HG.out, HD.out, meetGo_cons, if_pos HR.out]
          exact rfl
        go_wp2
        (try simp only [Exit.inBlock, Exit.then])
        refine bodyPost_ret (v := optW none) ?_ rfl (ends_win HN.out rfl ?_)
        · rw [results_cell_tmp rfl]; go_simp; rfl
        · exact (HM2.out.1.setCell (Nat.le_refl _) _).setCell (Nat.le_refl _) _
      · have HN : Hid (meetGo ⟨max p xf, min q xt⟩ (l.drop (j + 1)) = meet l) := by
          have hg := HG.out
          rw [HD.out, meetGo_cons, if_neg (by rw [HR.out]; simp)] at hg
          rw [← hg]
          have e1 : (if p < xf then xf else p) = max p xf := by omega
          have e2 : (if xt < q then xt else q) = min q xt := by omega
          show meetGo _ _ = meetGo ⟨_, _⟩ _
          rw [e1, e2]
        obtain ⟨p', hp⟩ : ∃ x, max p xf = x := ⟨_, rfl⟩
        obtain ⟨q', hq⟩ : ∃ x, min q xt = x := ⟨_, rfl⟩
        rw [hp, hq] at HN
        go_wp2
        go_roundw
        case rel => exact ⟨j + 1, ⟨p', q'⟩, by omega, by go_num, (HM2.out.fr p').to q', HN⟩
        case measure => simp [intOf]; omega
    · have HE : Hid (meetGo ⟨p, q⟩ [] = meet l) := by
        have := HG.out
        rw [List.drop_of_length_le (by have := HI.out.length; omega)] at this
        exact this
      by_cases h1 : q < p
      · have HN : Hid (none = meet l) := by rw [← HE.out, meetGo_nil, if_pos h1]; exact rfl
        go_wp2
        (try simp only [Exit.inBlock, Exit.then])
        refine bodyPost_ret (v := optW none) ?_ rfl (ends_win HN.out rfl ?_)
        · rw [results_cell_tmp rfl]; go_simp; rfl
        · exact (HM.out.1.setCell (Nat.le_refl _) _).setCell (Nat.le_refl _) _
      · have HN : Hid (some ⟨p, q⟩ = meet l) := by rw [← HE.out, meetGo_nil, if_neg h1]; exact rfl
        go_wp2
        (try simp only [Exit.inBlock, Exit.then])
        refine bodyPost_ret (v := optW (some ⟨p, q⟩)) ?_ rfl (ends_win HN.out rfl ?_)
        · rw [results_cell_tmp rfl]; go_simp; rfl
        · exact (HM.out.1.setCell (Nat.le_refl _) _).setCell (Nat.le_refl _) _

#print axioms gmeet_any
end Go.Proofs.Ytglkphngddnieaa.Span
