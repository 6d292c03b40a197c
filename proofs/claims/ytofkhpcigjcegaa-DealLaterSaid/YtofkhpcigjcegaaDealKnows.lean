/-
  DealKnows walked.
-/
import Derived.Test.YtofkhpcigjcegaaDealTells
import Derived.Test.YtofkhpcigjcegaaRecOrd
namespace Go.Proofs.Ytofkhpcigjcegaa.Deal
open Go.ChangeShapes Go.WideShapes Go.ChangeAt Go.RowKit Go.Proofs.Ytofkhpcigjcegaa.Mem Go.Proofs.Ytofkhpcigjcegaa.GeoMath Go.Proofs.Ytofkhpcigjcegaa.FleetMath Go.Proofs.Ytofkhpcigjcegaa.Rec Go.Proofs.Ytofkhpcigjcegaa.Geo Go.Proofs.Ytofkhpcigjcegaa.Span Go.Proofs.Ytofkhpcigjcegaa.Keep
set_option linter.unusedVariables false

/-- what stays through DealKnows: the maps, the world, its orders, and their copy with marks behind -/
def KB (W : World) (q r : Option Addr) (m : Option Mp) (x : Wd) (os : List FleetMath.Ord) (gl : Nat) (mk : FleetMath.Ord) (u : World) : Prop :=
  Below W.heap.size W u ∧ MapP u 65 W.heap.size (.pointer q) m ∧ MapP u 82 W.heap.size (.pointer r) m ∧ WBox u W.heap.size x ∧ Ords u W.heap.size x.os.a x.os.n os ∧ Blk u gl 31 (ordsV (os ++ List.replicate 80 mk))
theorem KB.below {W u u' : World} {q r : Option Addr} {m : Option Mp} {x : Wd} {os : List FleetMath.Ord} {gl : Nat} {mk : FleetMath.Ord} (h : KB W q r m x os gl mk u) (hb : Below u.heap.size u u') : KB W q r m x os gl mk u' :=
  ⟨h.1.trans (hb.mono h.1.size), h.2.1.keep hb, h.2.2.1.keep hb, h.2.2.2.1.below hb, Recs.keep h.2.2.2.2.1 (hb.mono h.1.size), h.2.2.2.2.2.below hb h.2.2.2.2.2.lt⟩
theorem KB.drew {W u : World} {q r : Option Addr} {m : Option Mp} {x : Wd} {os : List FleetMath.Ord} {gl : Nat} {mk : FleetMath.Ord} (h : KB W q r m x os gl mk u) : KB W q r m x os gl mk u.drew := h.below (Below.refl _ _).drew
theorem KB.cells {W u : World} {q r : Option Addr} {m : Option Mp} {x : Wd} {os : List FleetMath.Ord} {gl : Nat} {mk : FleetMath.Ord} (h : KB W q r m x os gl mk u) : u.cell? ⟨W.heap.size, 3, none⟩ = some (.slice x.os.a x.os.n x.os.c) ∧ KB W q r m x os gl mk u := ⟨h.2.2.2.1.cells.2.2.2.1, h⟩
section
variable (W : World) (q r : Option Addr) (m : Option Mp) (x : Wd) (os : List FleetMath.Ord) (gl : Nat) (mk : FleetMath.Ord) (u : World) (h : KB W q r m x os gl mk u)
include h
theorem gknown_kb (b : Bool) (hb : known m os = b) (hn : x.os.n ≤ maxLen) : Calls Try.prog 18 #[.pointer q, .slice (some ⟨gl, 0, none⟩) x.os.n (x.os.n + 80)] u fun e w' => e = .returned (.bool b) ∧ KB W q r m x os gl mk w' := by
  subst hb
  exact (gknown_any W.heap.size _ m _ _ _ os u (by omega) h.2.1 (frontOrd h.2.2.2.2.2 (Ords.length h.2.2.2.2.1) hn)).mono fun e w' ⟨h1, h2⟩ => ⟨h1, h.below h2⟩
theorem rknown_kb (b : Bool) (hb : known m os = b) : Calls Try.prog 19 #[.pointer r, .slice x.os.a x.os.n x.os.c] u fun e w' => e = .returned (.bool b) ∧ KB W q r m x os gl mk w' := by
  subst hb
  exact (rknown_any W.heap.size _ m _ _ _ os u h.2.2.1 (Recs.more h.2.2.2.2.1 h.1.size)).mono fun e w' ⟨h1, h2⟩ => ⟨h1, h.below h2⟩
theorem intact_kb (hn : x.os.n ≤ 140737488351232) : Calls Try.prog 20 #[.slice (some ⟨gl, 0, none⟩) (x.os.n + 80) (x.os.n + 80), .slice x.os.a x.os.n x.os.c, ordV mk] u fun e w' => e = .returned (.bool true) ∧ KB W q r m x os gl mk w' :=
  (intactOrd x.os.a gl x.os.n x.os.c os W.heap.size mk u h.2.2.2.2.1 hn h.2.2.2.2.2 h.1.size).mono fun e w' ⟨h1, h2⟩ => ⟨h1, h.below h2⟩
theorem runs_kb : Calls Try.prog 3 #[] u fun e w' => e = .returned (.bool true) ∧ KB W q r m x os gl mk w' := (runs_any u).mono fun e w' ⟨h1, h2⟩ => ⟨h1, h.below h2⟩
end

set_option maxRecDepth 100000 in
set_option maxHeartbeats 4000000 in
theorem dealKnows_walk (x : Wd) (ts : List Int) (os : List FleetMath.Ord) (W : World) (hts : Ints W W.heap.size x.ts.a x.ts.n ts) (hos : Ords W W.heap.size x.os.a x.os.n os) (hr : x.os.n * 80 ≤ 140737488351232) :
    Calls Try.prog 5 #[wdV x] W fun e w' => e = .returned (.bool true) ∧ Below W.heap.size W w' := by
  have HTS := Lib.hid hts
  have HOS := Lib.hid hos
  clear hts hos
  obtain ⟨m, hm⟩ : ∃ m, mapOf x.n ts = m := ⟨_, rfl⟩
  have HM := Lib.hid hm
  obtain ⟨b1, hb1⟩ : ∃ v, known m os = v := ⟨_, rfl⟩
  have V1 := Lib.hid hb1
  clear hm hb1
  have HB0 : Hid (Below W.heap.size W (W.alloc (.cells #[.int .i64 x.n, x.ts.v, x.ds.v, x.os.v, x.pl.v] 47))) := (Below.refl _ _).alloc (Nat.le_refl _) _
  have HW0 := Lib.hid (WBox.new W x)
  have hnm : x.os.n ≤ 9223372036854775807 := by omega
  go_enter Try.func5, Try.ntmps5
  go_wp2_with fail
  refine (kmaps_any x ts _ (by exact Reads.more (Reads.keep HTS.out HB0.out) HB0.out.size)).mono ?_
  rintro e w1 ⟨hb1, q, r, rfl, hq, hr1⟩
  have HB1 : Hid (Below W.heap.size W w1) := HB0.out.trans (hb1.mono HB0.out.size)
  have HQ1 : Hid (MapP w1 65 W.heap.size (.pointer q) m) := by
    have HM' := HM.out
    rw [HM'] at hq
    exact hq.lower HB0.out.size
  have HR1 : Hid (MapP w1 82 W.heap.size (.pointer r) m) := by
    have HM' := HM.out
    rw [HM'] at hr1
    exact hr1.lower HB0.out.size
  have HW1 := Lib.hid (HW0.out.below hb1)
  have HO1 : Hid (Ords w1 W.heap.size x.os.a x.os.n os) := Recs.keep HOS.out HB1.out
  clear hb1 hq hr1 HB0 HW0 HTS
  obtain ⟨c0, c1, c2, c3, c4⟩ := HW1.out.cells
  go_wp2_with fail
  refine (roomyOrd x.os.a x.os.n x.os.c os w1 ⟨-3, 0, ⟨0, ⟨0, 0⟩, 0⟩, ⟨0, ⟨0, 0⟩, 0⟩⟩ (Recs.more HO1.out HB1.out.size) hr).mono ?_
  rintro e w2 ⟨rfl, hb2, hf2⟩
  have K2 : Hid (KB W q r m x os (w1.heap.size + 1) ⟨-3, 0, ⟨0, ⟨0, 0⟩, 0⟩, ⟨0, ⟨0, 0⟩, 0⟩⟩ w2) :=
    ⟨HB1.out.trans (hb2.mono HB1.out.size), HQ1.out.keep hb2, HR1.out.keep hb2, HW1.out.below hb2, Recs.keep HO1.out (hb2.mono HB1.out.size), hf2⟩
  obtain ⟨gl, hgl⟩ : ∃ g, w1.heap.size + 1 = g := ⟨_, rfl⟩
  rw [hgl] at K2 ⊢
  clear hb2 hf2 hgl HB1 HQ1 HR1 HW1 HO1 c0 c1 c2 c3 c4 HOS
  have hi0 : (0 : Int) ≤ (x.os.n : Int) := by omega
  have hi1 : (x.os.n : Int) ≤ (x.os.n : Int) + 80 := by omega
  have hmx : x.os.n ≤ maxLen := by unfold maxLen; omega
  have HMX := Lib.hid hmx
  clear hmx
  go_upto_region 3 with fail
  go_region_held3 (fun u => u.cell? ⟨W.heap.size, 3, none⟩ = some (.slice x.os.a x.os.n x.os.c) ∧ KB W q r m x os gl ⟨-3, 0, ⟨0, ⟨0, 0⟩, 0⟩, ⟨0, ⟨0, 0⟩, 0⟩⟩ u)
    (first
      | exact K2.out.drew.cells
      | exact KB.cells (by assumption)
      | exact KB.cells (KB.drew (by assumption)))
    (first
      | (go_at_call 18; (refine (gknown_kb W q r m x os gl ⟨-3, 0, ⟨0, ⟨0, 0⟩, 0⟩, ⟨0, ⟨0, 0⟩, 0⟩⟩ _ (by first | assumption | exact K2.out.drew) b1 V1.out HMX.out).mono ?_); rintro e w' ⟨rfl, hbx⟩)
      | (go_at_call 19; (refine (rknown_kb W q r m x os gl ⟨-3, 0, ⟨0, ⟨0, 0⟩, 0⟩, ⟨0, ⟨0, 0⟩, 0⟩⟩ _ (by first | assumption | exact K2.out.drew) b1 V1.out).mono ?_); rintro e w' ⟨rfl, hbx⟩)
      | (go_at_call 20; (refine (intact_kb W q r m x os gl ⟨-3, 0, ⟨0, ⟨0, 0⟩, 0⟩, ⟨0, ⟨0, 0⟩, 0⟩⟩ _ (by first | assumption | exact K2.out.drew) (by omega)).mono ?_); rintro e w' ⟨rfl, hbx⟩)
      | (go_at_call 3; (refine (runs_kb W q r m x os gl ⟨-3, 0, ⟨0, ⟨0, 0⟩, 0⟩, ⟨0, ⟨0, 0⟩, 0⟩⟩ _ (by first | assumption | exact K2.out.drew)).mono ?_); rintro e w' ⟨rfl, hbx⟩))
  all_goals
    go_wp2_with fail
    go_ret
    exact ⟨rfl, (show KB W q r m x os gl ⟨-3, 0, ⟨0, ⟨0, 0⟩, 0⟩, ⟨0, ⟨0, 0⟩, 0⟩⟩ _ by assumption).1⟩

#print axioms dealKnows_walk
end Go.Proofs.Ytofkhpcigjcegaa.Deal
