import Derived.Test.YtilggpkmdmelmaaGreatGeoNews
import Derived.Test.YtilggpkmdmelmaaGreatDealRs
namespace Go.Proofs.YtilggpkmdmelmaaGreat.Keep
open Go.ChangeShapes Go.WideShapes Go.ChangeAt Go.RowKit Go.Proofs.YtilggpkmdmelmaaGreat.Mem Go.Proofs.YtilggpkmdmelmaaGreat.GeoMath Go.Proofs.YtilggpkmdmelmaaGreat.FleetMath Go.Proofs.YtilggpkmdmelmaaGreat.Rec Go.Proofs.YtilggpkmdmelmaaGreat.Geo Go.Proofs.YtilggpkmdmelmaaGreat.Deal
structure Sl where
  a : Option Addr
  n : Nat
  c : Nat
  h : n ≤ c
abbrev Sl.v (s : Sl) : Value := .slice s.a s.n s.c
structure Wd where
  n : Int
  ts : Sl
  ds : Sl
  os : Sl
  pl : Sl
abbrev wdV (x : Wd) : Value := .agg #[.int .i64 x.n, x.ts.v, x.ds.v, x.os.v, x.pl.v]
def WBox (u : World) (g : Nat) (x : Wd) : Prop := Blk u g 54 [.int .i64 x.n, x.ts.v, x.ds.v, x.os.v, x.pl.v]
theorem WBox.new (u : World) (x : Wd) : WBox (u.alloc (.cells #[.int .i64 x.n, x.ts.v, x.ds.v, x.os.v, x.pl.v] 54)) u.heap.size x := Blk.new u _ _
theorem WBox.below {u u' : World} {g : Nat} {x : Wd} (h : WBox u g x) (hb : Below u.heap.size u u') : WBox u' g x := Blk.below h hb (Blk.lt h)
theorem WBox.cells {u : World} {g : Nat} {x : Wd} (h : WBox u g x) : u.cell? ⟨g, 0, none⟩ = some (.int .i64 x.n) ∧ u.cell? ⟨g, 1, none⟩ = some x.ts.v ∧ u.cell? ⟨g, 2, none⟩ = some x.ds.v ∧ u.cell? ⟨g, 3, none⟩ = some x.os.v ∧ u.cell? ⟨g, 4, none⟩ = some x.pl.v :=
  ⟨Blk.cell h rfl, Blk.cell h rfl, Blk.cell h rfl, Blk.cell h rfl, Blk.cell h rfl⟩
def mapOf (nn : Int) (ts : List Int) : Option Mp := if newE nn ts = 0 then some ⟨nn.toNat, ts⟩ else none
theorem kgnew (nn v : Int) (A : Option Addr) (k c : Nat) (xs : List Int) (w : World) (h : Ints w w.heap.size A k xs) (hv : newE nn xs = v) :
    Calls Tryz.prog 8 #[.int .i64 nn, .slice A k c] w fun e w' => ∃ q, e = .returned (.tuple #[.pointer q, .int .i64 v]) ∧ q.isNone = (v != 0) ∧ Below w.heap.size w w' ∧ MapP w' 74 w.heap.size (.pointer q) (mapOf nn xs) := by
  refine (gnew_any nn A k c xs w h).mono ?_
  subst hv
  rintro e w' ⟨hb, ⟨h1, rfl⟩ | ⟨h1, b, n', e1, rfl, hm⟩⟩
  · exact ⟨none, rfl, by simpa using h1, hb, .inl ⟨rfl, by simp [mapOf, h1]⟩⟩
  · subst e1
    have h2 := newE_ok h1
    exact ⟨some ⟨b, 0, none⟩, by rw [h1], by simp [h1], hb, .inr ⟨b, n', xs, rfl, by simp [mapOf, h1], hm, h2⟩⟩
theorem krnew (nn v : Int) (A : Option Addr) (k c : Nat) (xs : List Int) (w : World) (h : Ints w w.heap.size A k xs) (hv : newE nn xs = v) :
    Calls Tryz.prog 29 #[.int .i64 nn, .slice A k c] w fun e w' => ∃ q, e = .returned (.tuple #[.pointer q, .int .i64 v]) ∧ q.isNone = (v != 0) ∧ Below w.heap.size w w' ∧ MapP w' 110 w.heap.size (.pointer q) (mapOf nn xs) := by
  refine (rnew_any nn A k c xs w h).mono ?_
  subst hv
  rintro e w' ⟨hb, ⟨h1, rfl⟩ | ⟨h1, b, n', e1, rfl, hm⟩⟩
  · exact ⟨none, rfl, by simpa using h1, hb, .inl ⟨rfl, by simp [mapOf, h1]⟩⟩
  · subst e1
    have h2 := newE_ok h1
    exact ⟨some ⟨b, 0, none⟩, by rw [h1], by simp [h1], hb, .inr ⟨b, n', xs, rfl, by simp [mapOf, h1], hm, h2⟩⟩
def MapsOk (w : World) (m : Option Mp) (e : Ending) (w' : World) : Prop :=
  Below w.heap.size w w' ∧ ∃ q r, e = .returned (.tuple #[.pointer q, .pointer r, .bool true]) ∧ MapP w' 74 w.heap.size (.pointer q) m ∧ MapP w' 110 w.heap.size (.pointer r) m
theorem kmaps_any (x : Wd) (ts : List Int) (w : World) (h : Ints w w.heap.size x.ts.a x.ts.n ts) :
    Calls Tryz.prog 14 #[wdV x] w (MapsOk w (mapOf x.n ts)) := by
  obtain ⟨v, hv⟩ : ∃ v, newE x.n ts = v := ⟨_, rfl⟩
  have HV := Lib.hid hv
  have HB0 : Hid (Below w.heap.size w (w.alloc (.cells #[.int .i64 x.n, x.ts.v, x.ds.v, x.os.v, x.pl.v] 54))) := (Below.refl _ _).alloc (Nat.le_refl _) _
  have HI0 : Hid (Ints (w.alloc (.cells #[.int .i64 x.n, x.ts.v, x.ds.v, x.os.v, x.pl.v] 54)) w.heap.size x.ts.a x.ts.n ts) := Reads.keep h HB0.out
  have HX0 := Lib.hid (WBox.new w x)
  clear h hv
  go_enter Tryz.func14, Tryz.ntmps14
  go_wp2_with fail
  refine (kgnew x.n v x.ts.a x.ts.n x.ts.c ts _ (Reads.more HI0.out HB0.out.size) HV.out).mono ?_
  rintro e w1 ⟨q, rfl, hq, hb1, hm1⟩
  have HB1 : Hid (Below w.heap.size w w1) := HB0.out.trans (hb1.mono HB0.out.size)
  have HM1 := Lib.hid (hm1.lower HB0.out.size)
  have HX1 := Lib.hid (HX0.out.below hb1)
  have HI1 : Hid (Ints w1 w.heap.size x.ts.a x.ts.n ts) := Reads.keep HI0.out (hb1.mono HB0.out.size)
  obtain ⟨c0, c1, c2, c3, c4⟩ := HX1.out.cells
  clear hb1 hm1 HB0 HI0 HX0
  have HQ := Lib.hid hq
  clear hq
  go_wp2_with fail
  refine (krnew x.n v x.ts.a x.ts.n x.ts.c ts _ (Reads.more HI1.out HB1.out.size) HV.out).mono ?_
  rintro e w2 ⟨r, rfl, hr, hb2, hm2⟩
  have HF : Hid (MapsOk w (mapOf x.n ts) (.returned (.tuple #[.pointer q, .pointer r, .bool true])) w2) :=
    ⟨HB1.out.trans (hb2.mono HB1.out.size), q, r, rfl, HM1.out.keep hb2, hm2.lower HB1.out.size⟩
  have hqr : q.isNone = r.isNone := HQ.out.trans hr.symm
  clear hb2 hm2 hr HB1 HM1 HX1 HI1 HQ HV c0 c1 c2 c3 c4
  cases q with
  | none =>
    cases r with
    | none =>
      clear hqr
      go_wp2_with fail
      go_ret3
      exact HF.out
    | some y => cases hqr
  | some z =>
    cases r with
    | none => cases hqr
    | some y =>
      clear hqr
      go_wp2_with fail
      go_ret3
      exact HF.out
end Go.Proofs.YtilggpkmdmelmaaGreat.Keep
