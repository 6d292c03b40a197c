/-
  GeoMakes walked.
-/
import Derived.Test.YtkgdaelaidlhlaaGeoCloses
import Derived.Test.YtkgdaelaidlhlaaIntsRoomy
namespace Go.Proofs.Ytkgdaelaidlhlaa.Geo
open Go.ChangeShapes Go.WideShapes Go.ChangeAt Go.RowKit Go.Proofs.Ytkgdaelaidlhlaa.Mem Go.Proofs.Ytkgdaelaidlhlaa.MemI Go.Proofs.Ytkgdaelaidlhlaa.GeoMath
set_option linter.unusedVariables false

/-- a row of the call's own that is written over, whatever it holds -/
def Fill (W : World) (g m : Nat) (wr : World) : Prop := Below W.heap.size W wr ∧ ∃ cur, Blk wr g 3 cur ∧ cur.length = m
theorem Fill.put {W wr : World} {g m j : Nat} (h : Fill W g m wr) (hg : W.heap.size ≤ g) (hj : j < m) (v : Value) :
    ∃ u, wr.cell? ⟨g, j, none⟩ = some u ∧ wr.frozen? ⟨g, j, none⟩ = false ∧ Fill W g m (wr.setCell ⟨g, j, none⟩ v) := by
  obtain ⟨h1, cur, h2, h3⟩ := h
  exact ⟨_, h2.cell (List.getElem?_eq_getElem (by omega)), h2.free j, h1.setCell hg _, _, h2.put j v, by rw [List.length_set]; exact h3⟩
theorem MapAt.away {w : World} {t : TypeId} {base b n g j : Nat} {l : List Int} {v : Value} (h : MapAt w t base b n l) (hg : g < base) : MapAt (w.setCell ⟨g, j, none⟩ v) t base b n l :=
  h.same fun k hk _ => Below.heap_setCell w _ v k (by show k ≠ g; omega)
theorem rtime_val (base b n : Nat) (l : List Int) (a c v : Int) (r : Bool) (w : World) (h : MapAt w 60 base b n l) (hn : n ≤ 12) (hv : timeV n l a c = v) (hr : (placeB n a && placeB n c) = r) :
    Calls Try.prog 18 #[.pointer (some ⟨b, 0, none⟩), .int .i64 a, .int .i64 c] w (Quietly w (.tuple #[.int .i64 v, .bool r])) := by
  rw [← hv, ← hr]; exact rtime_any base b n l a c w h hn
theorem gtimes_none (w : World) : Calls Try.prog 17 #[.pointer none] w fun e w' => ∃ A c, e = .returned (.slice A 0 c) ∧ Below w.heap.size w w' := by
  refine (gtimes_nil w).mono ?_
  rintro e w' ⟨v, rfl, hb, ho⟩
  obtain ⟨A, c, rfl, _, _⟩ := ho.read
  exact ⟨A, c, rfl, hb⟩

set_option maxRecDepth 100000 in
set_option maxHeartbeats 2000000 in
theorem geoMakes_walk (nn : Int) (A : Option Addr) (k c : Nat) (xs : List Int) (a b : Int) (W : World) (hw : (Lit.int .i64 nn).wf = true) (hc : k ≤ c) (hr : c * 8 ≤ 140737488351232) (h : Ints W W.heap.size A k xs) (hx : ∀ x ∈ xs, (Lit.int .i64 x).wf = true)
    (hwa : (Lit.int .i64 a).wf = true) (hwb : (Lit.int .i64 b).wf = true) :
    Calls Try.prog 4 #[.int .i64 nn, .slice A k c, .int .i64 a, .int .i64 b] W fun e w' => e = .returned (.bool true) ∧ Below W.heap.size W w' := by
  have HI := Lib.hid h
  have HL := Lib.hid h.length
  have hk : k * 8 ≤ 140737488351232 := by omega
  clear h hw hx hr hc hwa hwb
  go_enter Try.func4, Try.ntmps4
  go_wp2_with fail
  refine (roomy_any A k c xs W (-5) HI.out hk).mono ?_
  rintro e w1 ⟨rfl, hb1, hf1⟩
  have HB1 := Lib.hid hb1
  have HF1 := Lib.hid hf1
  have HI1 : Hid (Ints w1 W.heap.size A k xs) := Reads.keep HI.out hb1
  have hs1 : W.heap.size < w1.heap.size := hf1.lt
  have HO1 : Hid (Ints w1 w1.heap.size (some ⟨W.heap.size, 0, none⟩) k xs) := room_front hf1 HL.out hk
  clear hb1 hf1
  by_cases h0 : newE nn xs = 0
  · obtain ⟨n, rfl⟩ := newE_nat h0
    obtain ⟨hn1, hn, hmap⟩ := newE_bounds h0
    have HE := Lib.hid h0
    clear h0 hmap
    go_wp2_with fail
    refine (gnew_ok n _ k (k + 80) xs _ HO1.out HE.out).mono ?_
    rintro e w2 ⟨p, rfl, hb2, hm2⟩
    have HB2 : Hid (Below W.heap.size W w2) := HB1.out.trans (hb2.mono HB1.out.size)
    have hs2 := hb2.size
    have HM2 := Lib.hid hm2
    have HI2 : Hid (Ints w2 W.heap.size A k xs) := Reads.keep HI1.out (hb2.mono HB1.out.size)
    have HF2 : Hid (Blk w2 W.heap.size 3 (intsV (xs ++ List.replicate 80 (-5)))) := HF1.out.below hb2 hs1
    clear hb2 hm2 HB1 HI1 HF1 HO1
    go_wp2_with fail
    refine (rnew_ok n A k c xs _ (Reads.more HI2.out HB2.out.size) HE.out).mono ?_
    rintro e w3 ⟨q, rfl, hb3, hm3⟩
    have HB3 : Hid (Below W.heap.size W w3) := HB2.out.trans (hb3.mono HB2.out.size)
    have hs3 := hb3.size
    have HM3 : Hid (MapAt w3 56 w1.heap.size p n xs) := HM2.out.keep hb3 (Nat.le_refl _)
    have HR3 : Hid (MapAt w3 60 w1.heap.size q n xs) := hm3.lower hs2
    have HI3 : Hid (Ints w3 W.heap.size A k xs) := Reads.keep HI2.out (hb3.mono HB2.out.size)
    have HF3 : Hid (Blk w3 W.heap.size 3 (intsV (xs ++ List.replicate 80 (-5)))) := HF2.out.below hb3 (by omega)
    clear hb3 hm3 HB2 HM2 HI2 HF2
    go_wp2_with fail
    refine (intact_yes A W.heap.size k c xs W.heap.size (-5) _ HI3.out hk HF3.out).mono ?_
    rintro e w4 ⟨rfl, d, hw4⟩
    have HM4 : Hid (MapAt w4 56 w1.heap.size p n xs) := by rw [hw4]; exact HM3.out.drewN _
    have HR4 : Hid (MapAt w4 60 w1.heap.size q n xs) := by rw [hw4]; exact HR3.out.drewN _
    have HF4 : Hid (Fill W W.heap.size (k + 80) w4) := by
      rw [hw4]
      exact ⟨below_drewN HB3.out _, _, HF3.out, by rw [intsV_len, List.length_append, List.length_replicate, HL.out]⟩
    clear hw4 HB3 HM3 HR3 HI3 HF3
    go_wp2_with fail
    go_loopw [14] (fun i wr => ∃ j : Nat, j ≤ k + 80 ∧ i = .int .i64 j ∧ Hid (Fill W W.heap.size (k + 80) wr) ∧ Hid (MapAt wr 56 w1.heap.size p n xs) ∧ Hid (MapAt wr 60 w1.heap.size q n xs)) (fun i _ => k + 80 - (intOf i).toNat)
    case atStart => exact ⟨0, by omega, rfl, HF4, HM4, HR4⟩
    case round =>
      clear HF4 HM4 HR4
      obtain ⟨j, hj, rfl, HF, HM, HR⟩ := hrel
      by_cases hlt : j < k + 80
      · obtain ⟨u, hcu, hfu, hnu⟩ := HF.out.put (Nat.le_refl _) hlt (.int .i64 (-9))
        have HN := Lib.hid hnu
        clear hnu
        go_wp2
        go_roundw
        case rel => exact ⟨j + 1, by omega, by go_num, HN, HM.out.away hs1, HR.out.away hs1⟩
        case measure => simp [intOf]; omega
      · have HB := Lib.hid HF.out.1
        clear HF
        obtain ⟨v, hv⟩ : ∃ v, timeV n xs a b = v := ⟨_, rfl⟩
        obtain ⟨t, ht⟩ : ∃ t, (placeB n a && placeB n b) = t := ⟨_, rfl⟩
        have HV := Lib.hid hv
        have HT := Lib.hid ht
        clear hv ht
        go_wp2_with fail
        refine (gtime_val _ p n xs a b v t _ HM.out hn HV.out HT.out).mono ?_
        rintro e w' ⟨rfl, d1, rfl⟩
        go_wp2_with fail
        refine (rtime_val _ q n xs a b v t _ (by exact HR.out.drewN _) hn HV.out HT.out).mono ?_
        rintro e w5 ⟨rfl, d2, hw5⟩
        have HM5 : Hid (MapAt w5 56 w1.heap.size p n xs) := by rw [hw5]; exact (HM.out.drewN _).drewN _
        have HR5 : Hid (MapAt w5 60 w1.heap.size q n xs) := by rw [hw5]; exact (HR.out.drewN _).drewN _
        have HB5 : Hid (Below W.heap.size W w5) := by rw [hw5]; exact below_drewN (below_drewN HB.out _) _
        clear hw5 HM HR HB
        go_wp2_with fail
        refine (alike_yes _ _ p q n xs _ HM5.out HR5.out hn hn1).mono ?_
        rintro e w6 ⟨rfl, hb6⟩
        have HB6 : Hid (Below W.heap.size W w6) := HB5.out.trans (hb6.mono HB5.out.size)
        clear hb6 HB5 HM5 HR5
        go_wp2_with fail
        refine (runs_any _).mono ?_
        rintro e w7 ⟨rfl, hb7⟩
        have HB7 : Hid (Below W.heap.size W w7) := HB6.out.trans (hb7.mono HB6.out.size)
        clear hb7
        go_wp2_with fail
        go_ret
        exact ⟨rfl, HB7.out⟩
  · obtain ⟨v, hv⟩ : ∃ v, newE nn xs = v := ⟨_, rfl⟩
    have HV0 : Hid (v ≠ 0) := by rw [← hv]; exact h0
    have HV := Lib.hid hv
    clear h0 hv
    go_wp2_with fail
    refine (gnew_bad nn v _ k (k + 80) xs _ HO1.out HV.out HV0.out).mono ?_
    rintro e w2 ⟨rfl, hb2⟩
    have HB2 : Hid (Below W.heap.size W w2) := HB1.out.trans (hb2.mono HB1.out.size)
    have hs2 := hb2.size
    have HI2 : Hid (Ints w2 W.heap.size A k xs) := Reads.keep HI1.out (hb2.mono HB1.out.size)
    have HF2 : Hid (Blk w2 W.heap.size 3 (intsV (xs ++ List.replicate 80 (-5)))) := HF1.out.below hb2 hs1
    clear hb2 HB1 HI1 HF1 HO1
    go_wp2_with fail
    refine (rnew_bad nn v A k c xs _ (Reads.more HI2.out HB2.out.size) HV.out HV0.out).mono ?_
    rintro e w3 ⟨rfl, hb3⟩
    have HB3 : Hid (Below W.heap.size W w3) := HB2.out.trans (hb3.mono HB2.out.size)
    have HI3 : Hid (Ints w3 W.heap.size A k xs) := Reads.keep HI2.out (hb3.mono HB2.out.size)
    have HF3 : Hid (Blk w3 W.heap.size 3 (intsV (xs ++ List.replicate 80 (-5)))) := HF2.out.below hb3 (by omega)
    clear hb3 HB2 HI2 HF2
    go_wp2_with fail
    refine (intact_yes A W.heap.size k c xs W.heap.size (-5) _ HI3.out hk HF3.out).mono ?_
    rintro e w4 ⟨rfl, d, hw4⟩
    have HF4 : Hid (Fill W W.heap.size (k + 80) w4) := by
      rw [hw4]
      exact ⟨below_drewN HB3.out _, _, HF3.out, by rw [intsV_len, List.length_append, List.length_replicate, HL.out]⟩
    clear hw4 HB3 HI3 HF3
    go_wp2_with fail
    go_loopw [14] (fun i wr => ∃ j : Nat, j ≤ k + 80 ∧ i = .int .i64 j ∧ Hid (Fill W W.heap.size (k + 80) wr)) (fun i _ => k + 80 - (intOf i).toNat)
    case atStart => exact ⟨0, by omega, rfl, HF4⟩
    case round =>
      clear HF4
      obtain ⟨j, hj, rfl, HF⟩ := hrel
      by_cases hlt : j < k + 80
      · obtain ⟨u, hcu, hfu, hnu⟩ := HF.out.put (Nat.le_refl _) hlt (.int .i64 (-9))
        have HN := Lib.hid hnu
        clear hnu
        go_wp2
        go_roundw
        case rel => exact ⟨j + 1, by omega, by go_num, HN⟩
        case measure => simp [intOf]; omega
      · have HB := Lib.hid HF.out.1
        clear HF
        go_wp2_with fail
        refine (gtime_nil a b _).mono ?_
        rintro e w' ⟨rfl, d1, rfl⟩
        go_wp2_with fail
        refine (gplaces_nil _).mono ?_
        rintro e w5 ⟨rfl, d2, hw5⟩
        have HB5 : Hid (Below W.heap.size W w5) := by rw [hw5]; exact below_drewN (below_drewN HB.out _) _
        clear hw5 HB
        go_wp2_with fail
        refine (gtimes_none _).mono ?_
        rintro e w6 ⟨A6, c6, rfl, hb6⟩
        have HB6 : Hid (Below W.heap.size W w6) := HB5.out.trans (hb6.mono HB5.out.size)
        clear hb6 HB5
        go_wp2_with fail
        refine (gclosed_nil _).mono ?_
        rintro e w' ⟨rfl, d3, rfl⟩
        go_wp2_with fail
        refine (geven_nil _).mono ?_
        rintro e w7 ⟨rfl, d4, hw7⟩
        have HB7 : Hid (Below W.heap.size W w7) := by rw [hw7]; exact below_drewN (below_drewN HB6.out _) _
        clear hw7 HB6
        go_wp2_with fail
        refine (runs_any _).mono ?_
        rintro e w8 ⟨rfl, hb8⟩
        have HB8 : Hid (Below W.heap.size W w8) := HB7.out.trans (hb8.mono HB7.out.size)
        clear hb8
        go_wp2_with fail
        go_ret
        exact ⟨rfl, HB8.out⟩

#print axioms geoMakes_walk
end Go.Proofs.Ytkgdaelaidlhlaa.Geo
