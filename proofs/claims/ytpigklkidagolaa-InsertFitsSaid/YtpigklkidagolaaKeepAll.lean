/-
  KeepMaps, KeepDriver: one text.
-/
import Derived.Test.YtpigklkidagolaaGeoNews
import Derived.Test.YtpigklkidagolaaDealRs
import Derived.Test.YtpigklkidagolaaWithin
import Derived.Deep.RegionLaw
import Derived.Deep.DeepCutAuto
/-
  Worlds that are handed in (draykeep.World) as values, boxed; the two maps that are made of one (Maps).
-/
namespace Go.Proofs.Ytpigklkidagolaa.Keep
open Go.ChangeShapes Go.WideShapes Go.ChangeAt Go.RowKit Go.Proofs.Ytpigklkidagolaa.Mem Go.Proofs.Ytpigklkidagolaa.GeoMath Go.Proofs.Ytpigklkidagolaa.FleetMath Go.Proofs.Ytpigklkidagolaa.Rec Go.Proofs.Ytpigklkidagolaa.Geo Go.Proofs.Ytpigklkidagolaa.Deal

/-- a slice's three numbers -/
structure Sl where
  a : Option Addr
  n : Nat
  c : Nat
  h : n ≤ c
abbrev Sl.v (s : Sl) : Value := .slice s.a s.n s.c
/-- a world's cells: places; times, drivers, orders, plan -/
structure Wd where
  n : Int
  ts : Sl
  ds : Sl
  os : Sl
  pl : Sl
abbrev wdV (x : Wd) : Value := .agg #[.int .i64 x.n, x.ts.v, x.ds.v, x.os.v, x.pl.v]
/-- a world in a block of its own -/
def WBox (u : World) (g : Nat) (x : Wd) : Prop := Blk u g 51 [.int .i64 x.n, x.ts.v, x.ds.v, x.os.v, x.pl.v]
theorem WBox.new (u : World) (x : Wd) : WBox (u.alloc (.cells #[.int .i64 x.n, x.ts.v, x.ds.v, x.os.v, x.pl.v] 51)) u.heap.size x := Blk.new u _ _
theorem WBox.below {u u' : World} {g : Nat} {x : Wd} (h : WBox u g x) (hb : Below u.heap.size u u') : WBox u' g x := Blk.below h hb (Blk.lt h)
theorem WBox.cells {u : World} {g : Nat} {x : Wd} (h : WBox u g x) : u.cell? ⟨g, 0, none⟩ = some (.int .i64 x.n) ∧ u.cell? ⟨g, 1, none⟩ = some x.ts.v ∧ u.cell? ⟨g, 2, none⟩ = some x.ds.v ∧ u.cell? ⟨g, 3, none⟩ = some x.os.v ∧ u.cell? ⟨g, 4, none⟩ = some x.pl.v :=
  ⟨Blk.cell h rfl, Blk.cell h rfl, Blk.cell h rfl, Blk.cell h rfl, Blk.cell h rfl⟩

/-- the map that a number of places and some times make -/
def mapOf (nn : Int) (ts : List Int) : Option Mp := if newE nn ts = 0 then some ⟨nn.toNat, ts⟩ else none
theorem kgnew (nn v : Int) (A : Option Addr) (k c : Nat) (xs : List Int) (w : World) (h : Ints w w.heap.size A k xs) (hv : newE nn xs = v) :
    Calls Try.prog 10 #[.int .i64 nn, .slice A k c] w fun e w' => ∃ q, e = .returned (.tuple #[.pointer q, .int .i64 v]) ∧ q.isNone = (v != 0) ∧ Below w.heap.size w w' ∧ MapP w' 82 w.heap.size (.pointer q) (mapOf nn xs) := by
  refine (gnew_any nn A k c xs w h).mono ?_
  subst hv
  rintro e w' ⟨hb, ⟨h1, rfl⟩ | ⟨h1, b, n', e1, rfl, hm⟩⟩
  · exact ⟨none, rfl, by simpa using h1, hb, .inl ⟨rfl, by simp [mapOf, h1]⟩⟩
  · subst e1
    have h2 := newE_ok h1
    exact ⟨some ⟨b, 0, none⟩, by rw [h1], by simp [h1], hb, .inr ⟨b, n', xs, rfl, by simp [mapOf, h1], hm, h2⟩⟩
theorem krnew (nn v : Int) (A : Option Addr) (k c : Nat) (xs : List Int) (w : World) (h : Ints w w.heap.size A k xs) (hv : newE nn xs = v) :
    Calls Try.prog 33 #[.int .i64 nn, .slice A k c] w fun e w' => ∃ q, e = .returned (.tuple #[.pointer q, .int .i64 v]) ∧ q.isNone = (v != 0) ∧ Below w.heap.size w w' ∧ MapP w' 130 w.heap.size (.pointer q) (mapOf nn xs) := by
  refine (rnew_any nn A k c xs w h).mono ?_
  subst hv
  rintro e w' ⟨hb, ⟨h1, rfl⟩ | ⟨h1, b, n', e1, rfl, hm⟩⟩
  · exact ⟨none, rfl, by simpa using h1, hb, .inl ⟨rfl, by simp [mapOf, h1]⟩⟩
  · subst e1
    have h2 := newE_ok h1
    exact ⟨some ⟨b, 0, none⟩, by rw [h1], by simp [h1], hb, .inr ⟨b, n', xs, rfl, by simp [mapOf, h1], hm, h2⟩⟩
/-- what Maps leaves: the two maps, both there or both not -/
def MapsOk (w : World) (m : Option Mp) (e : Ending) (w' : World) : Prop :=
  Below w.heap.size w w' ∧ ∃ q r, e = .returned (.tuple #[.pointer q, .pointer r, .bool true]) ∧ MapP w' 82 w.heap.size (.pointer q) m ∧ MapP w' 130 w.heap.size (.pointer r) m
theorem kmaps_any (x : Wd) (ts : List Int) (w : World) (h : Ints w w.heap.size x.ts.a x.ts.n ts) :
    Calls Try.prog 13 #[wdV x] w (MapsOk w (mapOf x.n ts)) := by
  obtain ⟨v, hv⟩ : ∃ v, newE x.n ts = v := ⟨_, rfl⟩
  have HV := Lib.hid hv
  have HB0 : Hid (Below w.heap.size w (w.alloc (.cells #[.int .i64 x.n, x.ts.v, x.ds.v, x.os.v, x.pl.v] 51))) := (Below.refl _ _).alloc (Nat.le_refl _) _
  have HI0 : Hid (Ints (w.alloc (.cells #[.int .i64 x.n, x.ts.v, x.ds.v, x.os.v, x.pl.v] 51)) w.heap.size x.ts.a x.ts.n ts) := Reads.keep h HB0.out
  have HX0 := Lib.hid (WBox.new w x)
  clear h hv
  go_enter Try.func13, Try.ntmps13
  go_wp2_with fail
  refine (kgnew x.n v x.ts.a x.ts.n x.ts.c ts _ (Reads.more HI0.out HB0.out.size) HV.out).mono ?_
  rintro e w1 ⟨q, rfl, hq, hb1, hm1⟩
  have HB1 : Hid (Below w.heap.size w w1) := HB0.out.trans (hb1.mono HB0.out.size)
  have HM1 := Lib.hid (hm1.lower HB0.out.size)
  have HX1 := Lib.hid (HX0.out.below hb1)
  have HI1 : Hid (Ints w1 w.heap.size x.ts.a x.ts.n ts) := Reads.keep HI0.out (hb1.mono HB0.out.size)
  obtain ⟨c0, c1, c2, c3, c4⟩ := HX1.out.cells
  clear hb1 hm1 HB0 HI0 HX0
  have HQ := Lib.hid hq
  clear hq
  go_wp2_with fail
  refine (krnew x.n v x.ts.a x.ts.n x.ts.c ts _ (Reads.more HI1.out HB1.out.size) HV.out).mono ?_
  rintro e w2 ⟨r, rfl, hr, hb2, hm2⟩
  have HF : Hid (MapsOk w (mapOf x.n ts) (.returned (.tuple #[.pointer q, .pointer r, .bool true])) w2) :=
    ⟨HB1.out.trans (hb2.mono HB1.out.size), q, r, rfl, HM1.out.keep hb2, hm2.lower HB1.out.size⟩
  have hqr : q.isNone = r.isNone := HQ.out.trans hr.symm
  clear hb2 hm2 hr HB1 HM1 HX1 HI1 HQ HV c0 c1 c2 c3 c4
  cases q with
  | none =>
    cases r with
    | none =>
      clear hqr
      go_wp2_with fail
      go_ret3
      exact HF.out
    | some y => cases hqr
  | some z =>
    cases r with
    | none => cases hqr
    | some y =>
      clear hqr
      go_wp2_with fail
      go_ret3
      exact HF.out

#print axioms kmaps_any
end Go.Proofs.Ytpigklkidagolaa.Keep

/-
  Worlds that are handed in: one of the drivers (Driver).
-/
namespace Go.Proofs.Ytpigklkidagolaa.Keep
open Go.ChangeShapes Go.WideShapes Go.ChangeAt Go.RowKit Go.Proofs.Ytpigklkidagolaa.Mem Go.Proofs.Ytpigklkidagolaa.GeoMath Go.Proofs.Ytpigklkidagolaa.FleetMath Go.Proofs.Ytpigklkidagolaa.Rec Go.Proofs.Ytpigklkidagolaa.Geo Go.Proofs.Ytpigklkidagolaa.Deal

def zeroDrv : Drv := ⟨0, 0, 0, ⟨0, 0⟩, false⟩
/-- one of the list, or the zero one where there is none -/
def DrvIn (ds : List Drv) (d : Drv) : Prop := d ∈ ds ∨ (ds = [] ∧ d = zeroDrv)
def DriverOk (w : World) (ds : List Drv) (e : Ending) (w' : World) : Prop := ∃ d, DrvIn ds d ∧ e = .returned (drvV d) ∧ Below w.heap.size w w'

set_option maxRecDepth 100000 in
set_option maxHeartbeats 1000000 in
theorem kdriver_any (x : Wd) (ds : List Drv) (at_ : Int) (w : World) (h : Drvs w w.heap.size x.ds.a x.ds.n ds) (hn : x.ds.n ≤ 1125899906842624) :
    Calls Try.prog 16 #[wdV x, .int .i64 at_] w (DriverOk w ds) := by
  obtain ⟨nn, ⟨ta, tn, tc⟩, ⟨a, n, c⟩, ⟨oa, on, oc⟩, ⟨pa, pn, pc⟩⟩ := x
  simp only [wdV, Sl.v] at h hn ⊢
  have HL := Lib.hid h.length
  have HB : Hid (Below w.heap.size w ((w.alloc (.cells #[.int .i64 nn, .slice ta tn tc, .slice a n c, .slice oa on oc, .slice pa pn pc] 51)).alloc (.cells #[.int .i64 0, .int .i64 0, .int .i64 0, .int .i64 0, .int .i64 0, .bool false] 33))) := ((Below.refl _ _).alloc (Nat.le_refl _) _).alloc (by simp) _
  rcases Nat.eq_zero_or_pos n with h0 | h0
  · subst h0
    have HN : Hid (ds = []) := List.eq_nil_of_length_eq_zero HL.out
    clear h hn
    go_enter Try.func16, Try.ntmps16
    go_wp2
    refine bodyPost_ret (v := drvV zeroDrv) ?_ rfl ⟨zeroDrv, .inr ⟨HN.out, rfl⟩, rfl, ?_⟩
    · simp [results, Try.results16, go_sem, zeroDrv]
    · exact HB.out
  · obtain ⟨b, off, e, hb, hc⟩ := h.2.2 h0
    subst e
    have HC : Hid (∀ k : Nat, k < n → ∃ y : Drv, y ∈ ds ∧ ∀ u, Below w.heap.size w u → u.cell? ⟨b, off + k * 6, none⟩ = some (.int .i64 y.id) ∧ u.cell? ⟨b, off + k * 6 + 1, none⟩ = some (.int .i64 y.room) ∧ u.cell? ⟨b, off + k * 6 + 2, none⟩ = some (.int .i64 y.home) ∧ u.cell? ⟨b, off + k * 6 + 3, none⟩ = some (.int .i64 y.win.fr) ∧ u.cell? ⟨b, off + k * 6 + 4, none⟩ = some (.int .i64 y.win.to) ∧ u.cell? ⟨b, off + k * 6 + 5, none⟩ = some (.bool y.retired)) := fun k hk => by
      obtain ⟨y, hy⟩ : ∃ y, ds[k]? = some y := ⟨_, List.getElem?_eq_getElem (by have := HL.out; omega)⟩
      refine ⟨y, List.mem_of_getElem? hy, fun u hu => ?_⟩
      obtain ⟨b', off', y', e', _, hy', _, g0, g1, g2, g3, g4, g5⟩ := Drvs.at_ (Recs.keep h hu) hk
      injection e' with e'
      injection e' with e1 e2
      subst e1
      subst e2
      rw [hy] at hy'
      injection hy' with hy'
      subst hy'
      exact ⟨g0, g1, g2, g3, g4, g5⟩
    clear h hc
    go_enter Try.func16, Try.ntmps16
    go_wp2
    have hi16 : IntKind.i64.wrap ((n : Int) - 1) = (n : Int) - 1 := IntWalk.i64_in _ (by omega)
    go_region_law (go_simp; go_at_call 34; refine (within_any at_ 0 ((n : Int) - 1) _ (by omega) (by omega) (by omega)).mono ?_; rintro e w' ⟨k, hk, rfl, rfl⟩; obtain ⟨y, hy, hcs⟩ := HC.out k (by omega); have HY := Lib.hid hy; obtain ⟨g0, g1, g2, g3, g4, g5⟩ := hcs _ HB.out; clear hy hcs; have hkn : (k : Int) < (n : Int) := by omega)
    all_goals
      go_wp2_with fail
      refine bodyPost_ret (v := drvV y) ?_ rfl ⟨y, .inl HY.out, rfl, ?_⟩
      · simp [results, Try.results16, go_sem]
      · exact (((Below.refl _ _).alloc (Nat.le_refl _) _).alloc (by simp) _).drew

#print axioms kdriver_any
end Go.Proofs.Ytpigklkidagolaa.Keep
