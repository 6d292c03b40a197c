/-
  GeoWays walked.
-/
import Derived.Test.YtkgdaelaidlhlaaGeoLeast
namespace Go.Proofs.Ytkgdaelaidlhlaa.Geo
open Go.ChangeShapes Go.WideShapes Go.ChangeAt Go.RowKit Go.Proofs.Ytkgdaelaidlhlaa.Mem Go.Proofs.Ytkgdaelaidlhlaa.MemI Go.Proofs.Ytkgdaelaidlhlaa.GeoMath
set_option linter.unusedVariables false

/-- what stays while a way is gone -/
def Goes (W : World) (bg bc b b2 n : Nat) (xs l2 : List Int) (u : World) : Prop := Below W.heap.size W u ∧ MapAt u 56 bg b n xs ∧ MapAt u 56 bc b2 n l2
theorem Goes.drewN {W u : World} {bg bc b b2 n : Nat} {xs l2 : List Int} (h : Goes W bg bc b b2 n xs l2 u) (d : Nat) : Goes W bg bc b b2 n xs l2 (u.drewN d) := ⟨below_drewN h.1 d, h.2.1.drewN d, h.2.2.drewN d⟩

set_option maxRecDepth 100000 in
set_option maxHeartbeats 2000000 in
theorem geoWays_walk (nn : Int) (A : Option Addr) (k c : Nat) (xs : List Int) (A2 : Option Addr) (m c2 : Nat) (ws : List Int) (W : World) (hw : (Lit.int .i64 nn).wf = true) (hc : k ≤ c) (hr : c * 8 ≤ 140737488351232) (h : Ints W W.heap.size A k xs) (hx : ∀ x ∈ xs, (Lit.int .i64 x).wf = true)
    (hc2 : m ≤ c2) (hr2 : c2 * 8 ≤ 140737488351232) (h2 : Ints W W.heap.size A2 m ws) (hx2 : ∀ x ∈ ws, (Lit.int .i64 x).wf = true) :
    Calls Try.prog 7 #[.int .i64 nn, .slice A k c, .slice A2 m c2] W fun e w' => e = .returned (.bool true) ∧ Below W.heap.size W w' := by
  have HI := Lib.hid h
  have HJ := Lib.hid h2
  have hm := Reads.le h2
  clear h h2 hw hx hr hc hc2 hr2 hx2
  by_cases h0 : newE nn xs = 0
  · obtain ⟨n, rfl⟩ := newE_nat h0
    obtain ⟨hn1, hn, hmap⟩ := newE_bounds h0
    have HMAP := Lib.hid hmap
    have HE := Lib.hid h0
    clear h0 hmap
    go_enter Try.func7, Try.ntmps7
    go_wp2_with fail
    refine (gnew_ok n A k c xs _ HI.out HE.out).mono ?_
    rintro e w1 ⟨b, rfl, hb1, hm1⟩
    have HB1 := Lib.hid hb1
    have HM1 := Lib.hid hm1
    clear hb1 hm1
    by_cases hm2 : m < 2
    · go_wp2_with fail
      refine (runs_any _).mono ?_
      rintro e w2 ⟨rfl, hb2⟩
      have HB2 : Hid (Below W.heap.size W w2) := HB1.out.trans (hb2.mono HB1.out.size)
      clear hb2
      go_wp2_with fail
      go_ret
      exact ⟨rfl, HB2.out⟩
    · go_wp2_with fail
      refine (geo_closed _ b n xs _ HM1.out hn hn1 HMAP.out).mono ?_
      rintro e w2 ⟨b2, l2, rfl, hb2, hmm2, hl2⟩
      have HL := Lib.hid hl2
      have HG : Hid (Goes W W.heap.size w1.heap.size b b2 n xs l2 w2) := ⟨HB1.out.trans (hb2.mono HB1.out.size), HM1.out.keep hb2 (Nat.le_refl _), hmm2⟩
      clear hb2 hmm2 hl2 HB1 HM1
      obtain ⟨g, off, u0, rfl, hu0, hcu0, hg, _⟩ := Ints.at_ HJ.out (show 0 < m by omega)
      have HCW : Hid (∀ u, Below W.heap.size W u → Ints u W.heap.size (some ⟨g, off, none⟩) m ws) := fun u hu => Reads.keep HJ.out hu
      have hcw0 : w2.cell? ⟨g, off, none⟩ = some (.int .i64 u0) := (HG.out.1.cell (p := ⟨g, off, none⟩) hg).trans hcu0
      clear hu0 hcu0
      have hnm : (0 : Int) ≤ (n : Int) - 1 := by omega
      go_wp2_with fail
      refine (within_any u0 0 ((n : Int) - 1) _ (Int.le_refl _) hnm (by omega)).mono ?_
      rintro e w' ⟨f, ⟨_, hf⟩, rfl, rfl⟩
      have hf : f < n := by omega
      go_wp2_with fail
      have HT0 : Hid (T n l2 f f ≤ 0) := by have := HL.out.good.map.diag f hf; show _ ≤ _; omega
      go_loopw [10, 12, 13] (fun lv av iv wr => ∃ (s : Int) (a j : Nat), 1 ≤ j ∧ j ≤ 60 ∧ a < n ∧ 0 ≤ s ∧ s ≤ (j : Int) * 1000000 ∧ lv = .int .i64 s ∧ av = .int .i64 a ∧ iv = .int .i64 j ∧ Hid (Goes W W.heap.size w1.heap.size b b2 n xs l2 wr) ∧ Hid (T n l2 f a ≤ s)) (fun _ _ i _ => 60 - (intOf i).toNat)
      case atStart => exact ⟨0, f, 1, by omega, by omega, hf, by omega, by omega, rfl, rfl, rfl, HG, HT0⟩
      case round =>
        clear HG HT0 hcw0
        obtain ⟨s, a, j, hj1, hj60, ha, hs0, hs1, rfl, rfl, rfl, HG, HT⟩ := hrel
        by_cases hgo : j < m ∧ j < 60
        · obtain ⟨hgo1, hgo2⟩ := hgo
          obtain ⟨g', off', u, e1, hu, hcu, _, _⟩ := Ints.at_ (HCW.out _ HG.out.1) hgo1
          injection e1 with e1; injection e1 with e1 e1'
          subst e1; subst e1'
          clear hu
          go_wp2_with fail
          refine (within_any u 0 ((n : Int) - 1) _ (Int.le_refl _) hnm (by omega)).mono ?_
          rintro e w' ⟨t, ⟨_, ht⟩, rfl, rfl⟩
          have ht : t < n := by omega
          obtain ⟨hv1, hv2⟩ := place_yes (n := n) (l := xs) ha ht
          have l1 := HMAP.out.T_lo ha ht
          have l2' := HMAP.out.T_hi ha ht
          have HTN := Lib.hid (HL.out.way hf ha ht HT.out)
          obtain ⟨x, hx⟩ : ∃ x, T n xs a t = x := ⟨_, rfl⟩
          rw [hx] at l1 l2' hv1 HTN
          have HX1 := Lib.hid hv1
          have HX2 := Lib.hid hv2
          clear hx hv1 hv2
          go_wp2_with fail
          refine (gtime_val _ b n xs a t x true _ HG.out.2.1 hn HX1.out.symm HX2.out.symm).mono ?_
          rintro e w3 ⟨rfl, d, rfl⟩
          go_wp2_with fail
          go_roundw
          case rel => exact ⟨s + x, t, j + 1, by omega, by omega, ht, by omega, by omega, by go_num, rfl, by go_num, HG.out.drewN _, HTN⟩
          case measure => simp [intOf]; omega
        · obtain ⟨hv1, hv2⟩ := place_yes (n := n) (l := l2) hf ha
          have hle := HT.out
          obtain ⟨x, hx⟩ : ∃ x, T n l2 f a = x := ⟨_, rfl⟩
          rw [hx] at hv1 hle
          have HX1 := Lib.hid hv1
          have HX2 := Lib.hid hv2
          clear hx hv1 hv2
          by_cases hjm : j < m
          · have hj6 : ¬ j < 60 := fun e => hgo ⟨hjm, e⟩
            clear hgo
            go_wp2_with fail
            refine (gtime_val _ b2 n l2 f a x true _ HG.out.2.2 hn HX1.out.symm HX2.out.symm).mono ?_
            rintro e w3 ⟨rfl, d, hw3⟩
            have HB3 : Hid (Below W.heap.size W w3) := by rw [hw3]; exact below_drewN HG.out.1 _
            clear hw3
            go_wp2_with fail
            refine (runs_any _).mono ?_
            rintro e w4 ⟨rfl, hb4⟩
            have HB4 : Hid (Below W.heap.size W w4) := HB3.out.trans (hb4.mono HB3.out.size)
            clear hb4
            go_wp2_with fail
            go_ret
            exact ⟨rfl, HB4.out⟩
          · clear hgo
            go_wp2_with fail
            refine (gtime_val _ b2 n l2 f a x true _ HG.out.2.2 hn HX1.out.symm HX2.out.symm).mono ?_
            rintro e w3 ⟨rfl, d, hw3⟩
            have HB3 : Hid (Below W.heap.size W w3) := by rw [hw3]; exact below_drewN HG.out.1 _
            clear hw3
            go_wp2_with fail
            refine (runs_any _).mono ?_
            rintro e w4 ⟨rfl, hb4⟩
            have HB4 : Hid (Below W.heap.size W w4) := HB3.out.trans (hb4.mono HB3.out.size)
            clear hb4
            go_wp2_with fail
            go_ret
            exact ⟨rfl, HB4.out⟩
  · obtain ⟨v, hv⟩ : ∃ v, newE nn xs = v := ⟨_, rfl⟩
    have hv0 : v ≠ 0 := by rw [← hv]; exact h0
    obtain ⟨hv1, hv2⟩ := bad_num hv0
    have HV0 := Lib.hid hv0
    have HV := Lib.hid hv
    clear h0 hv hv0
    go_enter Try.func7, Try.ntmps7
    go_wp2_with fail
    refine (gnew_bad nn v A k c xs _ HI.out HV.out HV0.out).mono ?_
    rintro e w1 ⟨rfl, hb1⟩
    have HB1 := Lib.hid hb1
    clear hb1
    go_wp2_with fail
    refine (runs_any _).mono ?_
    rintro e w2 ⟨rfl, hb2⟩
    have HB2 : Hid (Below W.heap.size W w2) := HB1.out.trans (hb2.mono HB1.out.size)
    clear hb2
    go_wp2_with fail
    go_ret
    exact ⟨rfl, HB2.out⟩

#print axioms geoWays_walk
end Go.Proofs.Ytkgdaelaidlhlaa.Geo
