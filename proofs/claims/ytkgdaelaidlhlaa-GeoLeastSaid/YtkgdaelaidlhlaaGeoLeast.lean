/-
  GeoLeast and GeoWays walked.
-/
import Derived.Test.YtkgdaelaidlhlaaGeoMakes
import Derived.Test.YtkgdaelaidlhlaaWithin
namespace Go.Proofs.Ytkgdaelaidlhlaa.Geo
open Go.ChangeShapes Go.WideShapes Go.ChangeAt Go.RowKit Go.Proofs.Ytkgdaelaidlhlaa.Mem Go.Proofs.Ytkgdaelaidlhlaa.MemI Go.Proofs.Ytkgdaelaidlhlaa.GeoMath
set_option linter.unusedVariables false

theorem bad_num {v : Int} (h : v ≠ 0) : (v == 0) = false ∧ (v != 0) = true := by simp [h]

set_option maxRecDepth 100000 in
set_option maxHeartbeats 2000000 in
theorem geoLeast_walk (nn : Int) (A : Option Addr) (k c : Nat) (xs : List Int) (W : World) (hw : (Lit.int .i64 nn).wf = true) (hc : k ≤ c) (hr : c * 8 ≤ 140737488351232) (h : Ints W W.heap.size A k xs) (hx : ∀ x ∈ xs, (Lit.int .i64 x).wf = true) :
    Calls Try.prog 6 #[.int .i64 nn, .slice A k c] W fun e w' => e = .returned (.bool true) ∧ Below W.heap.size W w' := by
  have HI := Lib.hid h
  clear h hw hx hr hc
  by_cases h0 : newE nn xs = 0
  · obtain ⟨n, rfl⟩ := newE_nat h0
    obtain ⟨hn1, hn, hmap⟩ := newE_bounds h0
    have hsq : n * n ≤ 144 := by
      have : n * n ≤ 12 * 12 := Nat.mul_le_mul hn hn
      omega
    have HMAP := Lib.hid hmap
    have HE := Lib.hid h0
    clear h0 hmap
    go_enter Try.func6, Try.ntmps6
    go_wp2_with fail
    refine (gnew_ok n A k c xs _ HI.out HE.out).mono ?_
    rintro e w1 ⟨b, rfl, hb1, hm1⟩
    have HB1 := Lib.hid hb1
    have HM1 := Lib.hid hm1
    clear hb1 hm1
    go_wp2_with fail
    refine (geo_closed _ b n xs _ HM1.out hn hn1 HMAP.out).mono ?_
    rintro e w2 ⟨b2, l2, rfl, hb2, hm2, hl2⟩
    have HL := Lib.hid hl2
    have HLL : Hid (Least n l2 l2) := Least.self hl2.good.map hl2.tri
    have HB2 : Hid (Below W.heap.size W w2) := HB1.out.trans (hb2.mono HB1.out.size)
    have HC2 := Lib.hid hm2
    have HM2 : Hid (MapAt w2 56 _ b n xs) := HM1.out.keep hb2 (Nat.le_refl _)
    clear hb2 hm2 hl2 HB1 HM1
    go_wp2_with fail
    refine (gclosed_val _ b2 n l2 l2 _ HC2.out hn hn1 HL.out.good.map HLL.out).mono ?_
    rintro e w3 ⟨b3, rfl, hb3, _⟩
    have HB3 : Hid (Below W.heap.size W w3) := HB2.out.trans (hb3.mono HB2.out.size)
    have HC3 : Hid (MapAt w3 56 _ b2 n l2) := HC2.out.keep hb3 (Nat.le_refl _)
    have HM3 : Hid (MapAt w3 56 _ b n xs) := HM2.out.keep hb3 (Nat.le_refl _)
    clear hb3 HB2 HC2 HM2
    go_wp2_with fail
    refine (gtimes_row _ b n xs _ HM3.out hn hn1).mono ?_
    rintro e w4 ⟨ga, ca, rfl, hca, hb4, ho4⟩
    have HB4 : Hid (Below W.heap.size W w4) := HB3.out.trans (hb4.mono HB3.out.size)
    have HC4 : Hid (MapAt w4 56 _ b2 n l2) := HC3.out.keep hb4 (Nat.le_refl _)
    have HM4 : Hid (MapAt w4 56 _ b n xs) := HM3.out.keep hb4 (Nat.le_refl _)
    have HA4 : Hid (Ints w4 w4.heap.size (some ⟨ga, 0, none⟩) (n * n) xs) := ho4.reads
    clear hb4 ho4 HB3 HC3 HM3
    go_wp2_with fail
    refine (gtimes_row _ b2 n l2 _ HC4.out hn hn1).mono ?_
    rintro e w5 ⟨gb, cb, rfl, hcb, hb5, ho5⟩
    have HB5 : Hid (Below W.heap.size W w5) := HB4.out.trans (hb5.mono HB4.out.size)
    have HC5 : Hid (MapAt w5 56 _ b2 n l2) := HC4.out.keep hb5 (Nat.le_refl _)
    have HM5 : Hid (MapAt w5 56 _ b n xs) := HM4.out.keep hb5 (Nat.le_refl _)
    have HA5 : Hid (Ints w5 w5.heap.size (some ⟨ga, 0, none⟩) (n * n) xs) := (Reads.keep HA4.out hb5).more hb5.size
    have HD5 : Hid (Ints w5 w5.heap.size (some ⟨gb, 0, none⟩) (n * n) l2) := ho5.reads
    clear hb5 ho5 HB4 HC4 HM4 HA4
    go_wp2_with fail
    go_loopw [10] (fun i wr => ∃ (j d : Nat), j ≤ n * n ∧ i = .int .i64 j ∧ wr = w5.drewN d) (fun i _ => n * n - (intOf i).toNat)
    case atStart => exact ⟨0, 0, Nat.zero_le _, rfl, rfl⟩
    case round =>
      obtain ⟨j, d, hj, rfl, rfl⟩ := hrel
      by_cases hlt : j < n * n
      · obtain ⟨g1, o1, u, e1, hu, hcu, _, _⟩ := Ints.at_ HA5.out hlt
        obtain ⟨g2, o2, v, e2, hv, hcv, _, _⟩ := Ints.at_ HD5.out hlt
        injection e1 with e1; injection e1 with e1 e1'
        injection e2 with e2; injection e2 with e2 e2'
        subst e1; subst e1'; subst e2; subst e2'
        rw [Nat.zero_add] at hcu hcv
        have hle : v ≤ u := by
          have := HL.out.good.le j hlt
          rwa [getD_at hu, getD_at hv] at this
        have hlt' : (j : Int) < (n : Int) * (n : Int) := by rw [← Int.natCast_mul]; omega
        clear hu hv
        go_wp2
        go_quiet (fail)
        go_wp2
        go_roundw
        case rel => exact ⟨j + 1, _, by omega, by go_num, rfl⟩
        case measure => simp [intOf]; omega
      · have hge : ¬ (j : Int) < (n : Int) * (n : Int) := by rw [← Int.natCast_mul]; omega
        have HBd : Hid (Below W.heap.size W (w5.drewN d)) := below_drewN HB5.out _
        have HC6 : Hid (MapAt (w5.drewN d) 56 _ b2 n l2) := HC5.out.drewN d
        have HM6 : Hid (MapAt (w5.drewN d) 56 _ b n xs) := HM5.out.drewN d
        have HA6 : Hid (Ints (w5.drewN d) w5.heap.size (some ⟨ga, 0, none⟩) (n * n) xs) := Reads.drewN HA5.out d
        have HD6 : Hid (Ints (w5.drewN d) w5.heap.size (some ⟨gb, 0, none⟩) (n * n) l2) := Reads.drewN HD5.out d
        have hs6 : (w5.drewN d).heap.size = w5.heap.size := rfl
        generalize hw6 : w5.drewN d = w6 at *
        clear hw6 HB5 HC5 HM5 HA5 HD5
        obtain ⟨t, ht⟩ : ∃ t, evenB n xs = t := ⟨_, rfl⟩
        have HT := Lib.hid ht
        have HS : Hid (sameB xs l2 = t) := by
          have := HL.out.turns HMAP.out
          rw [HT.out] at this
          exact this
        clear ht
        go_wp2_with fail
        refine (geven_val _ b2 n l2 true _ HC6.out hn hn1 HL.out.good.map HL.out.even).mono ?_
        rintro e w' ⟨rfl, d1, rfl⟩
        go_wp2_with fail
        refine (gclosed_val _ b2 n l2 l2 _ (by exact HC6.out.drewN _) hn hn1 HL.out.good.map HLL.out).mono ?_
        rintro e w7 ⟨b7, rfl, hb7, hm7⟩
        have hs7 : w5.heap.size ≤ w7.heap.size := by have := hb7.size; simp only [World.drewN] at this; omega
        have HB7 : Hid (Below W.heap.size W w7) := (below_drewN HBd.out _).trans (hb7.mono HBd.out.size)
        have HM7 : Hid (MapAt w7 56 _ b n xs) := (HM6.out.drewN _).keep hb7 (Nat.le_refl _)
        have HA7 : Hid (Ints w7 w5.heap.size (some ⟨ga, 0, none⟩) (n * n) xs) := Reads.keep (Reads.drewN HA6.out _) (hb7.mono (by show w5.heap.size ≤ w6.heap.size; omega))
        have HD7 : Hid (Ints w7 w5.heap.size (some ⟨gb, 0, none⟩) (n * n) l2) := Reads.keep (Reads.drewN HD6.out _) (hb7.mono (by show w5.heap.size ≤ w6.heap.size; omega))
        have HE7 := Lib.hid hm7
        clear hb7 hm7 HBd HM6 HA6 HD6 HC6
        go_wp2_with fail
        refine (gtimes_row _ b7 n l2 _ HE7.out hn hn1).mono ?_
        rintro e w8 ⟨gc, cc, rfl, hcc, hb8, ho8⟩
        have HB8 : Hid (Below W.heap.size W w8) := HB7.out.trans (hb8.mono HB7.out.size)
        have HM8 : Hid (MapAt w8 56 _ b n xs) := HM7.out.keep hb8 (Nat.le_refl _)
        have HA8 : Hid (Ints w8 w5.heap.size (some ⟨ga, 0, none⟩) (n * n) xs) := Reads.keep HA7.out (hb8.mono hs7)
        have HD8 : Hid (Ints w8 w5.heap.size (some ⟨gb, 0, none⟩) (n * n) l2) := Reads.keep HD7.out (hb8.mono hs7)
        have HF8 : Hid (Ints w8 w8.heap.size (some ⟨gc, 0, none⟩) (n * n) l2) := ho8.reads
        clear hb8 ho8 HB7 HM7 HA7 HD7 HE7
        go_wp2_with fail
        refine (same_yes _ _ _ _ _ _ l2 _ _ _ HF8.out HD8.out).mono ?_
        rintro e w' ⟨rfl, d2, rfl⟩
        go_wp2_with fail
        refine (same_val _ _ _ _ _ _ xs l2 w5.heap.size w5.heap.size _ t (by exact Reads.drewN HA8.out _) (by exact Reads.drewN HD8.out _) HS.out).mono ?_
        rintro e w' ⟨rfl, d3, rfl⟩
        go_wp2_with fail
        refine (geven_val _ b n xs t _ (by exact HM8.out.drewN _) hn hn1 HMAP.out HT.out).mono ?_
        rintro e w9 ⟨rfl, d4, hw9⟩
        have HB9 : Hid (Below W.heap.size W w9) := by rw [hw9]; exact below_drewN (below_drewN HB8.out _) _
        clear hw9 HB8 HM8 HA8 HD8 HF8
        go_wp2_with fail
        refine (runs_any _).mono ?_
        rintro e w10 ⟨rfl, hb10⟩
        have HB10 : Hid (Below W.heap.size W w10) := HB9.out.trans (hb10.mono HB9.out.size)
        clear hb10
        go_wp2_with fail
        go_ret
        exact ⟨rfl, HB10.out⟩
  · obtain ⟨v, hv⟩ : ∃ v, newE nn xs = v := ⟨_, rfl⟩
    have hv0 : v ≠ 0 := by rw [← hv]; exact h0
    obtain ⟨hv1, hv2⟩ := bad_num hv0
    have HV0 := Lib.hid hv0
    have HV := Lib.hid hv
    clear h0 hv hv0
    go_enter Try.func6, Try.ntmps6
    go_wp2_with fail
    refine (gnew_bad nn v A k c xs _ HI.out HV.out HV0.out).mono ?_
    rintro e w1 ⟨rfl, hb1⟩
    have HB1 := Lib.hid hb1
    clear hb1
    go_wp2_with fail
    refine (runs_any _).mono ?_
    rintro e w2 ⟨rfl, hb2⟩
    have HB2 : Hid (Below W.heap.size W w2) := HB1.out.trans (hb2.mono HB1.out.size)
    clear hb2
    go_wp2_with fail
    go_ret
    exact ⟨rfl, HB2.out⟩

#print axioms geoLeast_walk
end Go.Proofs.Ytkgdaelaidlhlaa.Geo
