/-
  An order that is put in is found there, and the plan is right; taken out again it leaves the plan as it was: PlanThere, walked.
-/
import Derived.Test.YtbnhbbjmocclmaaPlanUse
namespace Go.Proofs.Ytbnhbbjmocclmaa.Plan
open Go.ChangeShapes Go.WideShapes Go.ChangeAt Go.RowKit Go.Proofs.Ytbnhbbjmocclmaa.Mem Go.Proofs.Ytbnhbbjmocclmaa.MemI Go.Proofs.Ytbnhbbjmocclmaa.FleetMath Go.Proofs.Ytbnhbbjmocclmaa.PlanMath Go.Proofs.Ytbnhbbjmocclmaa.Rec Go.Proofs.Ytbnhbbjmocclmaa.Frames
set_option linter.unusedVariables false
set_option linter.unusedSimpArgs false

set_option maxRecDepth 100000 in
set_option maxHeartbeats 4000000 in
theorem planThere_w (A : Option Addr) (n c : Nat) (l : List RM) (o : Int) (x : Spt × Int) (W : World) (fp : PlnOk W A n c l) (wo : wfI o) (fx : wfI x.1.drv ∧ wfI x.1.pick ∧ wfI x.1.drop ∧ wfI x.2) :
    Calls Try.prog 10 #[.slice A n c, .int .i64 o, .agg #[.int .i64 x.1.drv, .int .i64 x.1.pick, .int .i64 x.1.drop, .int .i64 x.2]] W (fun e w' => e = .returned (.bool true) ∧ Below W.heap.size W w') := by
  obtain ⟨s, y⟩ := x
  simp only
  clear fx
  have HP := Lib.hid fp.plns
  have hn40 : n * 40 ≤ 140737488351232 := by have := fp.le; have := fp.few; omega
  clear fp
  have hb0 : Below W.heap.size W (W.alloc (.cells #[.int .i64 s.drv, .int .i64 s.pick, .int .i64 s.drop, .int .i64 y] 30)) := (Below.refl _ _).alloc (Nat.le_refl _) _
  have H0 := Lib.hid hb0
  have S0 := Lib.hid (Blk.new W 30 [.int .i64 s.drv, .int .i64 s.pick, .int .i64 s.drop, .int .i64 y])
  clear hb0
  obtain ⟨r, hr⟩ : ∃ r, withP (l.map (·.rt)) o s = r := ⟨_, rfl⟩
  go_enter Try.func10, Try.ntmps10
  go_wp2_with fail
  refine (use_copy W _ A n c l (by exact (HP.out.keep H0.out).more H0.out.size) hn40 (by exact H0.out)).mono ?_
  rintro e w1 ⟨B1, k1, l1, rfl, hb1, hw1, hp1, hl1⟩
  have H1 := Lib.hid hw1
  have C1 := Lib.hid hp1
  have S1 := Lib.hid (S0.out.below hb1 S0.out.lt)
  have E1 := Lib.hid hl1
  clear hb1 hw1 hp1 hl1 H0 S0
  have q0 := S1.out.cell (i := 0) rfl
  have q1 := S1.out.cell (i := 1) rfl
  have q2 := S1.out.cell (i := 2) rfl
  have q3 := S1.out.cell (i := 3) rfl
  cases r with
  | none =>
    have HR := Lib.hid hr
    clear hr
    go_wp2_with fail
    refine (use_with_no W _ A n c l o s y (by exact (HP.out.keep H1.out).more H1.out.size) (by exact H1.out) HR.out).mono ?_
    rintro e w2 ⟨rfl, hb2, hw2⟩
    have H2 := Lib.hid hw2
    clear hb2 hw2 H1 C1 S1 q0 q1 q2 q3
    go_wp2_with fail
    refine (use_runs W _ (by exact H2.out)).mono ?_
    rintro e w9 ⟨rfl, hw9⟩
    have H9 := Lib.hid hw9
    clear hw9 H2
    go_wp2
    go_ret
    exact ⟨rfl, H9.out⟩
  | some p =>
    have HR := Lib.hid hr
    clear hr
    obtain ⟨i, x, hat, hset⟩ := PlanMath.withP_some HR.out
    have hpl : p.length = n := by rw [hset, List.length_set, List.length_map]; exact HP.out.length
    have hdrop : 0 ≤ s.drop ∧ s.drop ≤ 78 := by have := hat.served; have := hat.le; have := hat.len; have := hat.few; omega
    have hright : rightP p = true := by rw [hset]; exact hat.right'
    have hfew : n ≤ 8 := by rw [← hpl]; exact rightP_few hright
    have F1 : Hid (spotV (findP p o) = .tuple #[.agg #[.int .i64 s.drv, .int .i64 s.pick, .int .i64 (s.drop + 1), .int .i64 0], .bool true]) := by rw [hset, hat.found]; exact rfl
    have F2 : Hid (spotV (findP (l.map (·.rt)) o) = .tuple #[.agg #[.int .i64 0, .int .i64 0, .int .i64 0, .int .i64 0], .bool false]) := by rw [findP_none.2 hat.new]; exact rfl
    have F3 : Hid (withoutP p [o] = l.map (·.rt)) := by rw [hset]; exact hat.back
    have F4 := Lib.hid hright
    have F5 := Lib.hid hat.right
    have hlen : (ordersM p).length = (ordersM (l.map (·.rt))).length + 1 := by
      rw [hset]
      exact ordersM_more hat.fresh hat.allMem
    obtain ⟨mo, hmo⟩ : ∃ k, (ordersM (l.map (·.rt))).length = k := ⟨_, rfl⟩
    rw [hmo] at hlen
    have F6 := Lib.hid hmo
    have F7 := Lib.hid hlen
    have hmo2 : mo ≤ 1000000 := by
      have h1 := right_all hat.right
      have h2 : ∀ q : List Rte, rightP q = true → (ordersM q).length ≤ 1000000 := by
        intro q hq
        have h3 := all_few (l := q) fun r hr => boundR_len (rightP_bound hq hr)
        have h4 := rightP_few hq
        have h5 : (ordersM q).length ≤ (allS q).length := by
          unfold ordersM
          refine Nat.le_trans (Lib.compact_length_le _) ?_
          rw [List.length_mergeSort, List.length_map]
          exact Nat.le_refl _
        omega
      rw [← hmo]
      exact h2 _ hat.right
    have HN := Lib.hid hpl
    clear hset hat hlen hmo hpl hright
    go_wp2_with fail
    refine (use_with W _ A n c l o s y p (by exact (HP.out.keep H1.out).more H1.out.size) (by exact H1.out) HR.out).mono ?_
    rintro e w2 ⟨B2, k2, l2, rfl, hb2, hw2, hp2, hl2, _, _⟩
    rw [HN.out] at hp2 ⊢
    have H2 := Lib.hid hw2
    have C2 := Lib.hid (C1.out.next hb2)
    have D2 := Lib.hid hp2
    have E2 := Lib.hid hl2
    have S2 := Lib.hid (S1.out.below hb2 S1.out.lt)
    clear hb2 hw2 hp2 hl2 H1 C1 S1 q0 q1 q2 q3
    go_wp2_with fail
    refine (use_find W _ B2 n k2 l2 o (.tuple #[.agg #[.int .i64 s.drv, .int .i64 s.pick, .int .i64 (s.drop + 1), .int .i64 0], .bool true]) (by exact D2.out) (by exact H2.out) (by rw [E2.out]; exact F1.out)).mono ?_
    rintro e w3 ⟨rfl, hb3, hw3⟩
    have hb3' := hb3.trans (((Below.refl w3.heap.size w3).alloc (Nat.le_refl _) (.cells #[.int .i64 s.drv, .int .i64 s.pick, .int .i64 (s.drop + 1), .int .i64 0] 30)).mono hb3.size)
    have H3 := Lib.hid (Below.then H2.out hb3')
    have C3 := Lib.hid (C2.out.next hb3')
    have D3 := Lib.hid (D2.out.next hb3')
    have S3 := Lib.hid (S2.out.below hb3' S2.out.lt)
    have T3 := Lib.hid (Blk.new w3 30 [.int .i64 s.drv, .int .i64 s.pick, .int .i64 (s.drop + 1), .int .i64 0])
    clear hb3 hw3 hb3' H2 C2 D2 S2
    go_wp2_with fail
    refine (use_find W _ A n c l o (.tuple #[.agg #[.int .i64 0, .int .i64 0, .int .i64 0, .int .i64 0], .bool false]) (by exact (HP.out.keep H3.out).more H3.out.size) (by exact H3.out) F2.out).mono ?_
    rintro e w4 ⟨rfl, hb4, hw4⟩
    have hb4a := hb4.trans (((Below.refl w4.heap.size w4).alloc (Nat.le_refl _) (.cells #[.int .i64 0, .int .i64 0, .int .i64 0, .int .i64 0] 30)).mono hb4.size)
    have hb4' := hb4a.trans (((Below.refl (w4.alloc (.cells #[.int .i64 0, .int .i64 0, .int .i64 0, .int .i64 0] 30)).heap.size (w4.alloc (.cells #[.int .i64 0, .int .i64 0, .int .i64 0, .int .i64 0] 30))).alloc (Nat.le_refl _) (.cells #[.int .i64 o] 3)).mono hb4a.size)
    have H4 := Lib.hid (Below.then H3.out hb4')
    have C4 := Lib.hid (C3.out.next hb4')
    have D4 := Lib.hid (D3.out.next hb4')
    have S4 := Lib.hid (S3.out.below hb4' S3.out.lt)
    have T4 := Lib.hid (T3.out.below hb4' T3.out.lt)
    have I4 := Lib.hid (ints_blk (l := [o]) (n := 1) (Blk.new (w4.alloc (.cells #[.int .i64 0, .int .i64 0, .int .i64 0, .int .i64 0] 30)) 3 [.int .i64 o]) rfl (by decide))
    clear hb4 hw4 hb4a hb4' H3 C3 D3 S3 T3
    simp only [World.size_alloc] at I4
    go_wp2_with fail
    refine (use_without W _ B2 n k2 l2 _ 1 1 [o] (l.map (·.rt)) (by exact D4.out) hn40 (by exact Reads.more I4.out (by simp)) (fun r hr s hs => wf_small (wf_ord F4.out _ (by rw [← E2.out]; exact List.mem_map.2 ⟨r, hr, rfl⟩) s hs)) (by simpa using wo) (by exact H4.out) (by rw [E2.out]; exact F3.out)).mono ?_
    rintro e w5 ⟨B5, k5, l5, rfl, hb5, hw5, hp5, hl5, _, _⟩
    rw [List.length_map, HP.out.length] at hp5 ⊢
    have H5 := Lib.hid hw5
    have C5 := Lib.hid (C4.out.next hb5)
    have D5 := Lib.hid (D4.out.next hb5)
    have S5 := Lib.hid (S4.out.below hb5 S4.out.lt)
    have T5 := Lib.hid (T4.out.below hb5 T4.out.lt)
    have P5 := Lib.hid hp5
    have E5 := Lib.hid hl5
    clear hb5 hw5 hp5 hl5 H4 C4 D4 S4 T4 I4
    have q0 := S5.out.cell (i := 0) rfl
    have q1 := S5.out.cell (i := 1) rfl
    have q2 := S5.out.cell (i := 2) rfl
    have q3 := S5.out.cell (i := 3) rfl
    have r0 := T5.out.cell (i := 0) rfl
    have r1 := T5.out.cell (i := 1) rfl
    have r2 := T5.out.cell (i := 2) rfl
    have r3 := T5.out.cell (i := 3) rfl
    go_wp2_with fail
    refine (use_right W _ B2 n k2 l2 true (by exact D5.out) (by exact H5.out) (by rw [E2.out]; exact F4.out)).mono ?_
    rintro e w6 ⟨rfl, hb6, hw6⟩
    have H6 := Lib.hid hw6
    have C6 := Lib.hid (C5.out.next hb6)
    have D6 := Lib.hid (D5.out.next hb6)
    have P6 := Lib.hid (P5.out.next hb6)
    clear hb6 hw6 H5 C5 D5 P5 S5 T5 q0 q1 q2 q3 r0 r1 r2 r3
    go_wp2_with fail
    refine (use_routes W _ B5 B1 n k5 k1 l5 l1 _ _ (by exact P6.out) (by exact C6.out) (by rw [E5.out, E1.out]) (by exact H6.out)).mono ?_
    rintro e w7 ⟨rfl, hb7, hw7⟩
    have H7 := Lib.hid hw7
    have D7 := Lib.hid (D6.out.next hb7)
    clear hb7 hw7 H6 C6 D6 P6
    go_wp2_with fail
    refine (use_orders W _ B2 n k2 l2 (ordersM p) (mo + 1) (by exact D7.out) (by rw [E2.out]; exact right_all F4.out) (by exact H7.out) (congrArg ordersM E2.out) F7.out).mono ?_
    rintro e w8 ⟨B8, k8, rfl, hb8, hw8, _⟩
    have H8 := Lib.hid hw8
    clear hb8 hw8 H7 D7
    go_wp2_with fail
    refine (use_orders W _ A n c l (ordersM (l.map (·.rt))) mo (by exact (HP.out.keep H8.out).more H8.out.size) (right_all F5.out) (by exact H8.out) rfl F6.out).mono ?_
    rintro e w9 ⟨B9, k9, rfl, hb9, hw9, _⟩
    have H9 := Lib.hid hw9
    clear hb9 hw9 H8
    go_wp2_with fail
    refine (use_runs W _ (by exact H9.out)).mono ?_
    rintro e wa ⟨rfl, hwa⟩
    have Ha := Lib.hid hwa
    clear hwa H9
    go_wp2
    go_ret
    exact ⟨rfl, Ha.out⟩
#print axioms planThere_w
end Go.Proofs.Ytbnhbbjmocclmaa.Plan
