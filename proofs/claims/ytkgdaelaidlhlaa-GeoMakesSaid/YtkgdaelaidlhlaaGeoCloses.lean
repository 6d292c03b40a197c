/-
  GeoCloses walked.
-/
import Derived.Test.YtkgdaelaidlhlaaGeoAlike
namespace Go.Proofs.Ytkgdaelaidlhlaa.Geo
open Go.ChangeShapes Go.WideShapes Go.ChangeAt Go.RowKit Go.Proofs.Ytkgdaelaidlhlaa.Mem Go.Proofs.Ytkgdaelaidlhlaa.MemI Go.Proofs.Ytkgdaelaidlhlaa.GeoMath
set_option linter.unusedVariables false

theorem newE_bounds {n : Nat} {xs : List Int} (h : newE n xs = 0) : 1 ≤ n ∧ n ≤ 12 ∧ IsMap n xs := newE_ok h
theorem geo_closed (base b n : Nat) (l : List Int) (w : World) (h : MapAt w 56 base b n l) (hn : n ≤ 12) (hn1 : 1 ≤ n) (hm : IsMap n l) :
    Calls Try.prog 11 #[.pointer (some ⟨b, 0, none⟩)] w fun e w' => ∃ b' l', e = .returned (.pointer (some ⟨b', 0, none⟩)) ∧ Below w.heap.size w w' ∧ MapAt w' 56 w.heap.size b' n l' ∧ Least n l l' := by
  refine (gclosed_any base b n l w h hn hn1 hm).mono ?_
  rintro e w' ⟨hb, b', l', rfl, h1, h2⟩
  exact ⟨b', l', rfl, hb, h1, h2⟩
theorem ref_closed (base b n : Nat) (l l' : List Int) (w : World) (h : MapAt w 60 base b n l) (hn : n ≤ 12) (hn1 : 1 ≤ n) (hm : IsMap n l) (hl : Least n l l') :
    Calls Try.prog 21 #[.pointer (some ⟨b, 0, none⟩)] w fun e w' => ∃ b', e = .returned (.pointer (some ⟨b', 0, none⟩)) ∧ Below w.heap.size w w' ∧ MapAt w' 60 w.heap.size b' n l' := by
  refine (rclosed_any base b n l w h hn hn1 hm).mono ?_
  rintro e w' ⟨hb, b', l2, rfl, h1, h2⟩
  rw [h2.unique hl] at h1
  exact ⟨b', rfl, hb, h1⟩

theorem reven_val (base b n : Nat) (l : List Int) (r : Bool) (w : World) (h : MapAt w 60 base b n l) (hn : n ≤ 12) (hn1 : 1 ≤ n) (hm : IsMap n l) (hr : evenB n l = r) :
    Calls Try.prog 22 #[.pointer (some ⟨b, 0, none⟩)] w (Quietly w (.bool r)) := by
  rw [← hr]; exact reven_any base b n l w h hn hm

set_option maxRecDepth 100000 in
set_option maxHeartbeats 2000000 in
theorem geoCloses_walk (nn : Int) (A : Option Addr) (k c : Nat) (xs : List Int) (W : World) (hw : (Lit.int .i64 nn).wf = true) (hc : k ≤ c) (hr : c * 8 ≤ 140737488351232) (h : Ints W W.heap.size A k xs) (hx : ∀ x ∈ xs, (Lit.int .i64 x).wf = true) :
    Calls Try.prog 5 #[.int .i64 nn, .slice A k c] W fun e w' => e = .returned (.bool true) ∧ Below W.heap.size W w' := by
  have HI := Lib.hid h
  clear h hw hx hr hc
  go_enter Try.func5, Try.ntmps5
  go_wp2_with fail
  refine (both_any nn A k c xs _ HI.out).mono ?_
  rintro e w1 ⟨hb1, ⟨_, rfl⟩ | ⟨he, b, r, n, rfl, rfl, hm1, hr1⟩⟩
  · have HB1 := Lib.hid hb1
    clear hb1
    go_wp2_with fail
    refine (runs_any _).mono ?_
    rintro e w2 ⟨rfl, hb2⟩
    have HB2 : Hid (Below W.heap.size W w2) := HB1.out.trans (hb2.mono HB1.out.size)
    clear hb2
    go_wp2_with fail
    go_ret
    exact ⟨rfl, HB2.out⟩
  · obtain ⟨hn1, hn, hmap⟩ := newE_bounds he
    have HMAP := Lib.hid hmap
    have HB1 := Lib.hid hb1
    have HM1 := Lib.hid hm1
    have HR1 := Lib.hid hr1
    clear hb1 hm1 hr1 he hmap
    go_wp2_with fail
    refine (geo_closed _ b n xs _ HM1.out hn hn1 HMAP.out).mono ?_
    rintro e w2 ⟨b2, l2, rfl, hb2, hm2, hl2⟩
    have HL := Lib.hid hl2
    have HB2 : Hid (Below W.heap.size W w2) := HB1.out.trans (hb2.mono HB1.out.size)
    have HC2 := Lib.hid hm2
    have HM2 : Hid (MapAt w2 56 _ b n xs) := HM1.out.keep hb2 (Nat.le_refl _)
    have HR2 : Hid (MapAt w2 60 _ r n xs) := HR1.out.keep hb2 (Nat.le_refl _)
    clear hb2 hm2 hl2 HB1 HM1 HR1
    go_wp2_with fail
    refine (ref_closed _ r n xs l2 _ HR2.out hn hn1 HMAP.out HL.out).mono ?_
    rintro e w3 ⟨r3, rfl, hb3, hr3⟩
    have HB3 : Hid (Below W.heap.size W w3) := HB2.out.trans (hb3.mono HB2.out.size)
    have HD3 := Lib.hid hr3
    have HC3 : Hid (MapAt w3 56 _ b2 n l2) := HC2.out.keep hb3 (Nat.le_refl _)
    have HM3 : Hid (MapAt w3 56 _ b n xs) := HM2.out.keep hb3 (Nat.le_refl _)
    have HR3 : Hid (MapAt w3 60 _ r n xs) := HR2.out.keep hb3 (Nat.le_refl _)
    clear hb3 hr3 HB2 HC2 HM2 HR2
    go_wp2_with fail
    refine (alike_yes _ _ b2 r3 n l2 _ HC3.out HD3.out hn hn1).mono ?_
    rintro e w4 ⟨rfl, hb4⟩
    have HB4 : Hid (Below W.heap.size W w4) := HB3.out.trans (hb4.mono HB3.out.size)
    have HC4 : Hid (MapAt w4 56 _ b2 n l2) := HC3.out.keep hb4 (Nat.le_refl _)
    have HM4 : Hid (MapAt w4 56 _ b n xs) := HM3.out.keep hb4 (Nat.le_refl _)
    have HR4 : Hid (MapAt w4 60 _ r n xs) := HR3.out.keep hb4 (Nat.le_refl _)
    clear hb4 HB3 HC3 HM3 HR3 HD3
    go_wp2_with fail
    refine (alike_yes _ _ b r n xs _ HM4.out HR4.out hn hn1).mono ?_
    rintro e w5 ⟨rfl, hb5⟩
    have HB5 : Hid (Below W.heap.size W w5) := HB4.out.trans (hb5.mono HB4.out.size)
    have HC5 : Hid (MapAt w5 56 _ b2 n l2) := HC4.out.keep hb5 (Nat.le_refl _)
    have HM5 : Hid (MapAt w5 56 _ b n xs) := HM4.out.keep hb5 (Nat.le_refl _)
    have HR5 : Hid (MapAt w5 60 _ r n xs) := HR4.out.keep hb5 (Nat.le_refl _)
    clear hb5 HB4 HC4 HM4 HR4
    obtain ⟨t, ht⟩ : ∃ t, evenB n xs = t := ⟨_, rfl⟩
    have HT := Lib.hid ht
    clear ht
    go_wp2_with fail
    refine (geven_val _ b n xs t _ HM5.out hn hn1 HMAP.out HT.out).mono ?_
    rintro e w' ⟨rfl, d1, rfl⟩
    go_wp2_with fail
    refine (reven_val _ r n xs t _ (by exact HR5.out.drewN _) hn hn1 HMAP.out HT.out).mono ?_
    rintro e w' ⟨rfl, d2, rfl⟩
    go_wp2_with fail
    refine (geven_val _ b2 n l2 true _ (by exact HC5.out.drewN _) hn hn1 HL.out.good.map HL.out.even).mono ?_
    rintro e w6 ⟨rfl, d3, hw6⟩
    have HB6 : Hid (Below W.heap.size W w6) := by rw [hw6]; exact below_drewN (below_drewN HB5.out _) _
    clear hw6 HB5 HC5 HM5 HR5
    go_wp2_with fail
    refine (runs_any _).mono ?_
    rintro e w7 ⟨rfl, hb7⟩
    have HB7 : Hid (Below W.heap.size W w7) := HB6.out.trans (hb7.mono HB6.out.size)
    clear hb7
    go_wp2_with fail
    go_ret
    exact ⟨rfl, HB7.out⟩

#print axioms geoCloses_walk
end Go.Proofs.Ytkgdaelaidlhlaa.Geo
