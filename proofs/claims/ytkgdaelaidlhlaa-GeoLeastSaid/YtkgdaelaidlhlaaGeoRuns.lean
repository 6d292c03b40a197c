/-
  Chapter 4's example runs come out as the chapter says (GeoRuns returns true), whatever the memory; only new memory is written.
-/
import Derived.Test.YtkgdaelaidlhlaaGeoProg
namespace Go.Proofs.Ytkgdaelaidlhlaa.Geo
open Go.ChangeShapes Go.WideShapes Go.ChangeAt Go.RowKit Go.Proofs.Ytkgdaelaidlhlaa.Mem Go.Proofs.Ytkgdaelaidlhlaa.MemI Go.Proofs.Ytkgdaelaidlhlaa.GeoMath

theorem gnew_ok (n : Nat) (A : Option Addr) (k c : Nat) (xs : List Int) (w : World) (h : Ints w w.heap.size A k xs) (h0 : newE n xs = 0) :
    Calls Try.prog 9 #[.int .i64 n, .slice A k c] w fun e w' => ∃ b, e = .returned (.tuple #[.pointer (some ⟨b, 0, none⟩), .int .i64 0]) ∧ Below w.heap.size w w' ∧ MapAt w' 56 w.heap.size b n xs := by
  refine (gnew_any n A k c xs w h).mono ?_
  rintro e w' ⟨hb, ⟨h1, _⟩ | ⟨_, b, n', e1, rfl, hm⟩⟩
  · exact absurd h0 h1
  · have e2 : n' = n := by omega
    subst e2
    exact ⟨b, rfl, hb, hm⟩
theorem gnew_bad (nn v : Int) (A : Option Addr) (k c : Nat) (xs : List Int) (w : World) (h : Ints w w.heap.size A k xs) (hv : newE nn xs = v) (h0 : v ≠ 0) :
    Calls Try.prog 9 #[.int .i64 nn, .slice A k c] w fun e w' => e = .returned (.tuple #[.pointer none, .int .i64 v]) ∧ Below w.heap.size w w' := by
  refine (gnew_any nn A k c xs w h).mono ?_
  rintro e w' ⟨hb, ⟨_, rfl⟩ | ⟨h1, _⟩⟩
  · exact ⟨by rw [hv], hb⟩
  · rw [hv] at h1; exact absurd h1 h0
theorem gtime_val (base b n : Nat) (l : List Int) (a c v : Int) (r : Bool) (w : World) (h : MapAt w 56 base b n l) (hn : n ≤ 12) (hv : timeV n l a c = v) (hr : (placeB n a && placeB n c) = r) :
    Calls Try.prog 10 #[.pointer (some ⟨b, 0, none⟩), .int .i64 a, .int .i64 c] w (Quietly w (.tuple #[.int .i64 v, .bool r])) := by
  rw [← hv, ← hr]; exact gtime_any base b n l a c w h hn
theorem geven_val (base b n : Nat) (l : List Int) (r : Bool) (w : World) (h : MapAt w 56 base b n l) (hn : n ≤ 12) (hn1 : 1 ≤ n) (hm : IsMap n l) (hr : evenB n l = r) :
    Calls Try.prog 12 #[.pointer (some ⟨b, 0, none⟩)] w (Quietly w (.bool r)) := by
  rw [← hr]; exact geven_any base b n l w h hn hn1 hm
theorem gclosed_val (base b n : Nat) (l l' : List Int) (w : World) (h : MapAt w 56 base b n l) (hn : n ≤ 12) (hn1 : 1 ≤ n) (hm : IsMap n l) (hl : Least n l l') :
    Calls Try.prog 11 #[.pointer (some ⟨b, 0, none⟩)] w fun e w' => ∃ b', e = .returned (.pointer (some ⟨b', 0, none⟩)) ∧ Below w.heap.size w w' ∧ MapAt w' 56 w.heap.size b' n l' := by
  refine (gclosed_any base b n l w h hn hn1 hm).mono ?_
  rintro e w' ⟨hb, b', l2, rfl, hm2, hl2⟩
  rw [hl2.unique hl] at hm2
  exact ⟨b', rfl, hb, hm2⟩
/-- the map of the last run, and its closing -/
theorem run_map : IsMap 3 [0, 9, 2, 9, 0, 9, 9, 3, 0] := (newE_ok (n := 3) (by decide)).2.2
theorem run_least : Least 3 [0, 9, 2, 9, 0, 9, 9, 3, 0] [0, 5, 2, 9, 0, 9, 9, 3, 0] := by
  refine ⟨?_, by decide⟩
  have h := (OnWay.refl run_map).step (n := 3) (a := 0) (k := 2) (b := 1) (v := 5) (by decide) (by decide) (by decide) (by decide) (by decide)
  exact h

set_option maxHeartbeats 2000000 in
set_option maxRecDepth 100000 in
theorem runs_any (w : World) : Calls Try.prog 3 #[] w fun e w' => e = .returned (.bool true) ∧ Below w.heap.size w w' := by
  go_enter Try.func3, Try.ntmps3
  go_wp2_with fail
  refine (gnew_ok 2 _ 4 4 [0, 5, 7, 0] _ (by refine LitsI.ints (by refine ⟨?_, ?_, ?_, ?_, trivial⟩ <;> go_simp) rfl (by decide) (by simp)) (by decide)).mono ?_
  rintro e w1 ⟨b1, rfl, hb1, hm1⟩
  have HB1 : Hid (Below w.heap.size w w1) := ((Below.refl _ _).alloc (Nat.le_refl _) _).trans (hb1.mono (by simp))
  have HM1 := Lib.hid hm1
  clear hb1 hm1
  go_wp2_with fail
  refine (gtime_val _ b1 2 _ 0 1 5 true _ HM1.out (by omega) (by decide) (by decide)).mono ?_
  rintro e w' ⟨rfl, d1, rfl⟩
  go_wp2_with fail
  refine (gtime_val _ b1 2 _ 1 0 7 true _ (by exact HM1.out.drewN _) (by omega) (by decide) (by decide)).mono ?_
  rintro e w' ⟨rfl, d2, rfl⟩
  go_wp2_with fail
  refine (gtime_val _ b1 2 _ 2 0 0 false _ (by exact HM1.out.drewN _) (by omega) (by decide) (by decide)).mono ?_
  rintro e w2 ⟨rfl, d3, hw2⟩
  have HB2 : Hid (Below w.heap.size w w2) := by rw [hw2]; exact below_drewN (below_drewN HB1.out _) _
  clear hw2 HM1 HB1
  go_wp2_with fail
  refine (gnew_bad 0 1 none 0 0 [] _ Reads.none_ (by decide) (by decide)).mono ?_
  rintro e w3 ⟨rfl, hb3⟩
  have HB3 : Hid (Below w.heap.size w w3) := HB2.out.trans (hb3.mono HB2.out.size)
  clear hb3 HB2
  go_wp2_with fail
  refine (gnew_bad 2 2 _ 1 1 [0] _ (by refine LitsI.ints (by refine ⟨?_, trivial⟩ <;> go_simp) rfl (by decide) (by simp)) (by decide) (by decide)).mono ?_
  rintro e w4 ⟨rfl, hb4⟩
  have HB4 : Hid (Below w.heap.size w w4) := (HB3.out.alloc HB3.out.size _).trans (hb4.mono (by have := HB3.out.size; simp; omega))
  clear hb4 HB3
  go_wp2_with fail
  refine (gnew_bad 1 4 _ 1 1 [1] _ (by refine LitsI.ints (by refine ⟨?_, trivial⟩ <;> go_simp) rfl (by decide) (by simp)) (by decide) (by decide)).mono ?_
  rintro e w5 ⟨rfl, hb5⟩
  have HB5 : Hid (Below w.heap.size w w5) := (HB4.out.alloc HB4.out.size _).trans (hb5.mono (by have := HB4.out.size; simp; omega))
  clear hb5 HB4
  go_wp2_with fail
  refine (gnew_bad 1 7 _ 1 1 [-1] _ (by refine LitsI.ints (by refine ⟨?_, trivial⟩ <;> go_simp) rfl (by decide) (by simp)) (by decide) (by decide)).mono ?_
  rintro e w6 ⟨rfl, hb6⟩
  have HB6 : Hid (Below w.heap.size w w6) := (HB5.out.alloc HB5.out.size _).trans (hb6.mono (by have := HB5.out.size; simp; omega))
  clear hb6 HB5
  go_wp2_with fail
  refine (gnew_bad 13 1 none 0 0 [] _ Reads.none_ (by decide) (by decide)).mono ?_
  rintro e w7 ⟨rfl, hb7⟩
  have HB7 : Hid (Below w.heap.size w w7) := HB6.out.trans (hb7.mono HB6.out.size)
  clear hb7 HB6
  go_wp2_with fail
  refine (gnew_ok 3 _ 9 9 [0, 9, 2, 9, 0, 9, 9, 3, 0] _ (by refine LitsI.ints (by refine ⟨?_, ?_, ?_, ?_, ?_, ?_, ?_, ?_, ?_, trivial⟩ <;> go_simp) rfl (by decide) (by simp)) (by decide)).mono ?_
  rintro e w8 ⟨b8, rfl, hb8, hm8⟩
  have HB8 : Hid (Below w.heap.size w w8) := (HB7.out.alloc HB7.out.size _).trans (hb8.mono (by have := HB7.out.size; simp; omega))
  have HM8 := Lib.hid hm8
  clear hb8 HB7 hm8
  go_wp2_with fail
  refine (gclosed_val _ b8 3 _ _ _ HM8.out (by omega) (by omega) run_map run_least).mono ?_
  rintro e w9 ⟨b9, rfl, hb9, hm9⟩
  have HB9 : Hid (Below w.heap.size w w9) := HB8.out.trans (hb9.mono HB8.out.size)
  have HM9 := Lib.hid hm9
  have HN9 : Hid (MapAt w9 56 _ b8 3 [0, 9, 2, 9, 0, 9, 9, 3, 0]) := HM8.out.keep hb9 (Nat.le_refl _)
  clear hb9 hm9 HB8 HM8
  go_wp2_with fail
  refine (gtime_val _ b9 3 _ 0 1 5 true _ HM9.out (by omega) (by decide) (by decide)).mono ?_
  rintro e w' ⟨rfl, d4, rfl⟩
  go_wp2_with fail
  refine (geven_val _ b8 3 _ false _ (by exact HN9.out.drewN _) (by omega) (by omega) run_map (by decide)).mono ?_
  rintro e w' ⟨rfl, d5, rfl⟩
  go_wp2_with fail
  refine (gclosed_val _ b8 3 _ _ _ (by exact HN9.out.drewN _) (by omega) (by omega) run_map run_least).mono ?_
  rintro e w10 ⟨b10, rfl, hb10, hm10⟩
  have HB10 : Hid (Below w.heap.size w w10) := (below_drewN HB9.out _).trans (hb10.mono HB9.out.size)
  have HM10 := Lib.hid hm10
  clear hb10 hm10
  go_wp2_with fail
  refine (geven_val _ b10 3 _ true _ HM10.out (by omega) (by omega) run_least.good.map run_least.even).mono ?_
  rintro e w' ⟨rfl, d6, rfl⟩
  go_wp2_with fail
  go_ret
  exact ⟨rfl, below_drewN HB10.out _⟩

#print axioms runs_any
end Go.Proofs.Ytkgdaelaidlhlaa.Geo
