/-
  The program's plan.read, walked.
-/
import Derived.Test.YtbnhbbjmocclmaaPlanCodec
import Derived.Test.YtbnhbbjmocclmaaPlanPWithout
import Derived.Test.YtbnhbbjmocclmaaWirePRead2
namespace Go.Proofs.Ytbnhbbjmocclmaa.Plan
open Go.ChangeShapes Go.WideShapes Go.ChangeAt Go.RowKit Go.Proofs.Ytbnhbbjmocclmaa.Mem Go.Proofs.Ytbnhbbjmocclmaa.FleetMath Go.Proofs.Ytbnhbbjmocclmaa.PlanMath Go.Proofs.Ytbnhbbjmocclmaa.Rec Go.Proofs.Ytbnhbbjmocclmaa.WireMath Go.Proofs.Ytbnhbbjmocclmaa.Wire
set_option linter.unusedVariables false

theorem _root_.Go.Proofs.Ytbnhbbjmocclmaa.Mem.Save.new {g b i : Nat} {w u : World} {x : Value} (h : Save g w u) (hb : w.heap.size ≤ b) (hg : g ≤ b) : Save g w (u.setCell ⟨b, i, none⟩ x) :=
  ⟨h.below.setCell hg _, by simpa using h.size, fun q hq hn => (Below.heap_setCell u _ _ _ (by show q ≠ b; omega)).trans (h.other q hq hn)⟩
theorem _root_.Go.Proofs.Ytbnhbbjmocclmaa.Mem.Save.blk {g b : Nat} {w u : World} {t : TypeId} {vs : List Value} (h : Save g w u) (hb : Blk w b t vs) (hn : b ≠ g) : Blk u b t vs := (h.other b hb.lt hn).trans hb
def zeroS : Stp := ⟨0, false⟩
theorem madeStps (n : Nat) : (madeCells #[.int .i64 0, .bool false] (n * 2)).toList = stpsV (List.replicate n zeroS) := by
  induction n with
  | zero => simp [madeCells, stpsV]
  | succ n ih =>
    rw [show (n + 1) * 2 = n * 2 + 1 + 1 by omega]
    have e : madeCells #[.int .i64 0, .bool false] (n * 2 + 1 + 1) = ((madeCells #[.int .i64 0, .bool false] (n * 2)).push (.int .i64 0)).push (.bool false) := by
      unfold madeCells
      rw [Array.range_succ, Array.range_succ]
      have e0 : (n * 2) % 2 = 0 := by omega
      have e1 : (n * 2 + 1) % 2 = 1 := by omega
      simp [e0, e1]
    rw [e, Array.toList_push, Array.toList_push, ih, List.replicate_succ', stpsV_append, List.append_assoc]
    rfl
theorem stpsV_put (l : List Stp) (z r : Stp) (t : List Stp) : ((stpsV (l ++ z :: t)).set (l.length * 2) (.int .i64 r.ord)).set (l.length * 2 + 1) (.bool r.drop) = stpsV (l ++ r :: t) := by
  rw [stpsV_append, stpsV_append]
  have e : (stpsV l).length = l.length * 2 := stpsV_len l
  have e1 : stpsV (z :: t) = .int .i64 z.ord :: .bool z.drop :: stpsV t := rfl
  have e2 : stpsV (r :: t) = .int .i64 r.ord :: .bool r.drop :: stpsV t := rfl
  rw [e1, e2, ← e, List.set_append_right _ _ (Nat.le_refl _), Nat.sub_self, List.set_append_right _ _ (by omega), Nat.add_sub_cancel_left]
  rfl
/-- read's state: the reader in block g, the result in block q, the stops in block s -/
structure RS2 (w wr : World) (g q s : Nat) (xs : List UInt8) (r : Rd) (cs : List Value) : Prop where
  save : Save g w wr
  rd : RProg wr g xs r
  res : Blk wr q 26 [.int .i64 0, .int .i64 0, .slice none 0 0]
  row : Blk wr s 23 cs
  far : g < w.heap.size ∧ w.heap.size ≤ q ∧ q < s
theorem RS2.step {w wr w' : World} {g q s : Nat} {xs : List UInt8} {r r' : Rd} {cs : List Value} {i : Nat} {x : Value} (h : RS2 w wr g q s xs r cs) (hs : Save g wr w') (hr : RProg w' g xs r') : RS2 w (w'.setCell ⟨s, i, none⟩ x) g q s xs r' (cs.set i x) := by
  obtain ⟨h1, h2, h3⟩ := h.far
  have hrow := hs.blk h.row (by omega)
  refine ⟨(h.save.trans hs).new (by omega) (by omega), ?_, ?_, hrow.put i x, h.far⟩
  · obtain ⟨⟨A, c, b1, b2, b3⟩, b4, b5⟩ := hr
    exact ⟨⟨A, c, (Below.heap_setCell _ _ _ _ (by show g ≠ s; omega)).trans b1, Reads.keep b2 ((Below.refl g w').setCell (by show g ≤ s; omega) _), b3⟩, b4, b5⟩
  · exact (Below.heap_setCell _ _ _ _ (by show q ≠ s; omega)).trans (hs.blk h.res (by omega))
theorem RS2.cell {w wr : World} {g q s : Nat} {xs : List UInt8} {r : Rd} {cs : List Value} {i : Nat} (h : RS2 w wr g q s xs r cs) (hi : i < cs.length) : (∃ u, wr.cell? ⟨s, i, none⟩ = some u) ∧ wr.frozen? ⟨s, i, none⟩ = false :=
  ⟨⟨_, h.row.cell (List.getElem?_eq_getElem hi)⟩, h.row.free _⟩
theorem RS2.after {w wr w' : World} {g q s : Nat} {xs : List UInt8} {r r' : Rd} {cs : List Value} (h : RS2 w wr g q s xs r cs) (hs : Save g wr w') (hr : RProg w' g xs r') : RS2 w w' g q s xs r' cs := by
  obtain ⟨h1, h2, h3⟩ := h.far
  exact ⟨h.save.trans hs, hr, hs.blk h.res (by omega), hs.blk h.row (by omega), h.far⟩

set_option maxRecDepth 100000 in
set_option maxHeartbeats 4000000 in
theorem pread1_any (g : Nat) (xs : List UInt8) (r : Rd) (w : World) (h : RProg w g xs r) :
    Calls Try.prog 46 #[.pointer (some ⟨g, 0, none⟩)] w (fun e w' => ∃ s n, e = .returned (.agg #[.int .i64 (rdRte xs r).1.drv, .int .i64 (rdRte xs r).1.served, .slice (some ⟨s, 0, none⟩) n n]) ∧ w.heap.size ≤ s ∧ n ≤ 80 ∧ (rdRte xs r).1.stops.length = n ∧ Blk w' s 23 (stpsV (rdRte xs r).1.stops) ∧ RProg w' g xs (rdRte xs r).2 ∧ Save g w w') := by
  have HGL := Lib.hid h.lt
  have HB0 : Hid (Below w.heap.size w (w.alloc (.cells #[.int .i64 0, .int .i64 0, .slice none 0 0] 26))) := (Below.refl _ _).alloc (Nat.le_refl _) _
  have HQ0 : Hid (Blk (w.alloc (.cells #[.int .i64 0, .int .i64 0, .slice none 0 0] 26)) w.heap.size 26 [.int .i64 0, .int .i64 0, .slice none 0 0]) := Blk.new _ _ _
  have HR0 := Lib.hid (h.below HB0.out)
  obtain ⟨v1, r1, h1⟩ : ∃ v r1, rdNum xs r = (v, r1) := ⟨_, _, rfl⟩
  obtain ⟨v2, r2, h2⟩ : ∃ v r2, rdCount xs 80 r1 = (v, r2) := ⟨_, _, rfl⟩
  obtain ⟨v3, r3, h3⟩ : ∃ v r3, rdNum xs r2 = (v, r3) := ⟨_, _, rfl⟩
  have hin := rdCount_in xs (most := 80) (by omega) r1
  rw [h2] at hin
  obtain ⟨n, rfl⟩ : ∃ n : Nat, v2 = (n : Int) := ⟨v2.toNat, by have := hin.1; simp only at this; omega⟩
  have hn80 : n ≤ 80 := by have := hin.2; simp only at this; omega
  have HRT : Hid (rdRte xs r = (⟨v1, v3, (rdStops xs n r3).1⟩, (rdStops xs n r3).2)) := by
    show _ = _
    unfold rdRte
    rw [h1, h2, h3]
    rfl
  have H1 := Lib.hid h1
  have H2 := Lib.hid h2
  have H3 := Lib.hid h3
  have hmk : ∀ u : World, (Instr.makeSlice 24 (.int .i64 (n : Int)) (.int .i64 (n : Int))).run Try.prog u = .ok (.slice (some ⟨u.heap.size, 0, none⟩) n n) (u.alloc (.cells (madeCells #[.int .i64 0, .bool false] (n * 2)) 23)) := fun u => by
    obtain ⟨i0, hi, hz0, hz1, hz2⟩ := info_parts infoStp
    have h := run_make (P := Try.prog) u 24 23 i0 (.agg #[.int .i64 0, .bool false]) Try.underlying24 hi hz0 .i64 .i64 (n : Int) (n : Int) (by omega) (Int.le_refl _) (by rw [hz2]; omega) (by omega)
    rw [Int.toNat_natCast, hz1] at h
    exact h
  clear h h1 h2 h3 hin
  go_enter Try.func46, Try.ntmps46
  go_wp2_with fail
  refine (pnumr_any g xs r _ (by exact HR0.out)).mono ?_
  rintro e w1 ⟨rfl, hr1, hs1⟩
  rw [H1.out] at hr1 ⊢
  have HR1 := Lib.hid hr1
  have HS1 := Lib.hid ((Save.of HB0.out (Nat.le_of_lt HGL.out)).trans hs1)
  have HQ1 := Lib.hid (hs1.blk HQ0.out (Nat.ne_of_gt HGL.out))
  clear hr1 hs1 HR0 HQ0 HB0
  go_wp2_with fail
  refine (pcount_any g xs r1 80 _ (by exact HR1.out)).mono ?_
  rintro e w2 ⟨rfl, hr2, hs2⟩
  rw [H2.out] at hr2 ⊢
  have HB2 : Hid (Below w2.heap.size w2 (w2.alloc (.cells (madeCells #[.int .i64 0, .bool false] (n * 2)) 23))) := (Below.refl _ _).alloc (Nat.le_refl _) _
  have HR2 := Lib.hid (hr2.below HB2.out)
  have HS2 := Lib.hid ((HS1.out.trans hs2).next HB2.out (Nat.le_of_lt hr2.lt))
  have HQ2 := Lib.hid ((hs2.blk HQ1.out (Nat.ne_of_gt HGL.out)).below HB2.out (hs2.blk HQ1.out (Nat.ne_of_gt HGL.out)).lt)
  have HW2 : Hid (Blk (w2.alloc (.cells (madeCells #[.int .i64 0, .bool false] (n * 2)) 23)) w2.heap.size 23 (stpsV (List.replicate n zeroS))) := by
    show Blk _ _ _ _
    rw [← madeStps]
    unfold Blk
    rw [Array.toArray_toList]
    exact heap_alloc_new w2 _
  have HFAR : Hid (g < w.heap.size ∧ w.heap.size ≤ w.heap.size ∧ w.heap.size < w2.heap.size) := ⟨HGL.out, Nat.le_refl _, (hs2.blk HQ1.out (Nat.ne_of_gt HGL.out)).lt⟩
  clear hr2 hs2 HS1 HQ1 HR1 HB2
  go_wp2_with fail
  refine (pnumr_any g xs r2 _ (by exact HR2.out)).mono ?_
  rintro e w3 ⟨rfl, hr3, hs3⟩
  rw [H3.out] at hr3 ⊢
  have HST : Hid (RS2 w w3 g w.heap.size w2.heap.size xs (rdStops xs 0 r3).2 (stpsV ((rdStops xs 0 r3).1 ++ List.replicate (n - 0) zeroS))) :=
    (RS2.mk HS2.out HR2.out HQ2.out HW2.out HFAR.out).after hs3 hr3
  clear hr3 hs3 HS2 HR2 HQ2 HW2 HFAR hmk
  go_wp2_with fail
  go_loopw [16] (fun i wr => ∃ (j : Nat), j ≤ n ∧ i = .int .i64 j ∧ Hid (RS2 w wr g w.heap.size w2.heap.size xs (rdStops xs j r3).2 (stpsV ((rdStops xs j r3).1 ++ List.replicate (n - j) zeroS)))) (fun i _ => n - (intOf i).toNat)
  case atStart => exact ⟨0, Nat.zero_le _, rfl, HST⟩
  case round =>
    clear HST
    obtain ⟨j, hj, rfl, HS⟩ := hrel
    by_cases hlt : j < n
    · have HLJ := Lib.hid (rdStops_len xs j r3)
      have HRS := Lib.hid (rdStops_succ xs j r3)
      obtain ⟨l0, q0, hq⟩ : ∃ l q, rdStops xs j r3 = (l, q) := ⟨_, _, rfl⟩
      rw [hq] at HS HLJ HRS
      obtain ⟨o, q1, hq1⟩ : ∃ o q1, rdNum xs q0 = (o, q1) := ⟨_, _, rfl⟩
      obtain ⟨d, q2, hq2⟩ : ∃ d q2, rdFlag xs q1 = (d, q2) := ⟨_, _, rfl⟩
      simp only [hq1, hq2] at HRS HLJ HS
      have HQA := Lib.hid hq1
      have HQB := Lib.hid hq2
      have hcl : (stpsV (l0 ++ List.replicate (n - j) zeroS)).length = n * 2 := by
        rw [stpsV_len, List.length_append, HLJ.out, List.length_replicate]
        congr 1
        omega
      have HCL := Lib.hid hcl
      clear hq hq1 hq2 hcl
      go_wp2_with fail
      refine (pnumr_any g xs q0 _ (by exact HS.out.rd)).mono ?_
      rintro e w4 ⟨rfl, hr4, hs4⟩
      rw [HQA.out] at hr4 ⊢
      have HS4 := Lib.hid (HS.out.after hs4 hr4)
      obtain ⟨⟨z4, c4⟩, f4⟩ := HS4.out.cell (i := j * 2) (by rw [HCL.out]; omega)
      have HS5 := Lib.hid (HS.out.step (i := j * 2) (x := .int .i64 o) hs4 hr4)
      clear hr4 hs4 HS HS4
      go_wp2_with fail
      refine (pflagr_any g xs q1 _ (by exact HS5.out.rd)).mono ?_
      rintro e w6 ⟨rfl, hr6, hs6⟩
      rw [HQB.out] at hr6 ⊢
      have HS6 := Lib.hid (HS5.out.after hs6 hr6)
      obtain ⟨⟨z6, c6⟩, f6⟩ := HS6.out.cell (i := j * 2 + 1) (by rw [List.length_set, HCL.out]; omega)
      have HS7 : Hid (RS2 w (w6.setCell ⟨w2.heap.size, j * 2 + 1, none⟩ (.bool d)) g w.heap.size w2.heap.size xs (rdStops xs (j + 1) r3).2 (stpsV ((rdStops xs (j + 1) r3).1 ++ List.replicate (n - (j + 1)) zeroS))) := by
        have h := HS5.out.step (i := j * 2 + 1) (x := .bool d) hs6 hr6
        have e : List.replicate (n - j) zeroS = zeroS :: List.replicate (n - (j + 1)) zeroS := by rw [show n - j = (n - (j + 1)) + 1 by omega, List.replicate_succ]
        have e2 := stpsV_put l0 zeroS ⟨o, d⟩ (List.replicate (n - (j + 1)) zeroS)
        rw [HLJ.out] at e2
        rw [e, e2] at h
        rw [HRS.out]
        simp only [List.append_assoc, List.singleton_append]
        exact h
      clear hr6 hs6 HS5 HS6 c4 f4
      go_wp2_with fail
      go_roundw
      case rel => exact ⟨j + 1, by omega, by go_num, HS7⟩
      case measure => simp [intOf]; omega
    · have hje : j = n := by omega
      subst hje
      have HE : Hid (RS2 w wr g w.heap.size w2.heap.size xs (rdStops xs j r3).2 (stpsV (rdStops xs j r3).1)) := by
        have h := HS.out
        rw [Nat.sub_self, List.replicate_zero, List.append_nil] at h
        exact h
      have HLJ := Lib.hid (rdStops_len xs j r3)
      have m0 := HE.out.res.cell (i := 0) rfl
      have m1 := HE.out.res.cell (i := 1) rfl
      have m2 := HE.out.res.cell (i := 2) rfl
      have f0 := HE.out.res.free 0
      have f1 := HE.out.res.free 1
      have f2 := HE.out.res.free 2
      clear HS
      go_wp2_with fail
      (try simp only [Exit.inBlock, Exit.then])
      refine bodyPost_ret (v := .agg #[.int .i64 v1, .int .i64 v3, .slice (some ⟨w2.heap.size, 0, none⟩) j j]) ?_ rfl ?_
      · first | (rw [results_cell rfl]; go_simp; rfl) | (simp [results, Try.results46, go_sem, m0, m1, m2])
      · refine ⟨w2.heap.size, j, by rw [HRT.out], HE.out.far.2.2 |> Nat.le_of_lt, hn80, by rw [HRT.out]; exact HLJ.out, ?_, ?_, ?_⟩
        · rw [HRT.out]
          exact (Below.heap_setCell _ _ _ _ (Nat.ne_of_gt HE.out.far.2.2)).trans ((Below.heap_setCell _ _ _ _ (Nat.ne_of_gt HE.out.far.2.2)).trans ((Below.heap_setCell _ _ _ _ (Nat.ne_of_gt HE.out.far.2.2)).trans HE.out.row))
        · rw [HRT.out]
          obtain ⟨⟨A, c, b1, b2, b3⟩, b4, b5⟩ := HE.out.rd
          have hne : g ≠ w.heap.size := Nat.ne_of_lt HGL.out
          exact ⟨⟨A, c, (Below.heap_setCell _ _ _ _ hne).trans ((Below.heap_setCell _ _ _ _ hne).trans ((Below.heap_setCell _ _ _ _ hne).trans b1)), Reads.keep b2 ((((Below.refl g wr).setCell (Nat.le_of_lt HGL.out) _).setCell (Nat.le_of_lt HGL.out) _).setCell (Nat.le_of_lt HGL.out) _), b3⟩, b4, b5⟩
        · exact ((HE.out.save.new (Nat.le_refl _) (Nat.le_of_lt HGL.out)).new (Nat.le_refl _) (Nat.le_of_lt HGL.out)).new (Nat.le_refl _) (Nat.le_of_lt HGL.out)
#print axioms pread1_any
end Go.Proofs.Ytbnhbbjmocclmaa.Plan
