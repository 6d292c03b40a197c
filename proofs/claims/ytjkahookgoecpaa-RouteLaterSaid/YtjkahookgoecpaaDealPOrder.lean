/-
  The program's deal.Order, walked.
-/
import Derived.Test.YtjkahookgoecpaaDealPSmall
namespace Go.Proofs.Ytjkahookgoecpaa.Deal
open Go.ChangeShapes Go.WideShapes Go.ChangeAt Go.RowKit Go.Proofs.Ytjkahookgoecpaa.Mem Go.Proofs.Ytjkahookgoecpaa.GeoMath Go.Proofs.Ytjkahookgoecpaa.FleetMath Go.Proofs.Ytjkahookgoecpaa.Rec Go.Proofs.Ytjkahookgoecpaa.Geo Go.Proofs.Ytjkahookgoecpaa.Span

set_option maxRecDepth 100000 in
set_option maxHeartbeats 4000000 in
theorem gorder_any (base : Nat) (pv : Value) (m : Option Mp) (o : FleetMath.Ord) (w : World) (h : MapP w 74 base pv m) :
    Calls Try.prog 45 #[pv, ordV o] w (Gives w (.int .i64 (ordE m o))) := by
  rcases h with ⟨rfl, rfl⟩ | ⟨b, n, l, rfl, rfl, hm, hn1, hn, hmap⟩
  · go_enter Try.func45, Try.ntmps45
    go_wp2
    go_ret
    exact ⟨rfl, (Below.refl _ _).alloc (Nat.le_refl _) _⟩
  have HM := Lib.hid hm
  clear hm hmap
  obtain ⟨v, hv⟩ : ∃ v, ordE (some ⟨n, l⟩) o = v := ⟨_, rfl⟩
  have hv' := hv
  rw [ordE_by] at hv'
  rw [hv]
  have HB0 : Hid (Below w.heap.size w (w.alloc (.cells #[.int .i64 o.id, .int .i64 o.size, .int .i64 o.pick.place, .int .i64 o.pick.win.fr, .int .i64 o.pick.win.to, .int .i64 o.pick.serv, .int .i64 o.drop.place, .int .i64 o.drop.win.fr, .int .i64 o.drop.win.to, .int .i64 o.drop.serv] 31))) := (Below.refl _ _).alloc (Nat.le_refl _) _
  have HX0 : Hid (OBox (w.alloc (.cells #[.int .i64 o.id, .int .i64 o.size, .int .i64 o.pick.place, .int .i64 o.pick.win.fr, .int .i64 o.pick.win.to, .int .i64 o.pick.serv, .int .i64 o.drop.place, .int .i64 o.drop.win.fr, .int .i64 o.drop.win.to, .int .i64 o.drop.serv] 31)) w.heap.size o) := Blk.new w _ _
  have HM0 : Hid (MapAt (w.alloc (.cells #[.int .i64 o.id, .int .i64 o.size, .int .i64 o.pick.place, .int .i64 o.pick.win.fr, .int .i64 o.pick.win.to, .int .i64 o.pick.serv, .int .i64 o.drop.place, .int .i64 o.drop.win.fr, .int .i64 o.drop.win.to, .int .i64 o.drop.serv] 31)) 74 base b n l) := HM.out.keep HB0.out (Nat.le_refl _)
  obtain ⟨ra, hra⟩ : ∃ r, inR 1 1000000 o.id = r := ⟨_, rfl⟩
  obtain ⟨rb, hrb⟩ : ∃ r, inR 1 1000 o.size = r := ⟨_, rfl⟩
  obtain ⟨r1, hr1⟩ : ∃ r, isPlace ⟨n, l⟩ o.pick.place = r := ⟨_, rfl⟩
  obtain ⟨r2, hr2⟩ : ∃ r, isPlace ⟨n, l⟩ o.drop.place = r := ⟨_, rfl⟩
  obtain ⟨r3, hr3⟩ : ∃ r, right o.pick.win = r := ⟨_, rfl⟩
  obtain ⟨r4, hr4⟩ : ∃ r, right o.drop.win = r := ⟨_, rfl⟩
  obtain ⟨r5, hr5⟩ : ∃ r, inR 0 1000000 o.pick.serv = r := ⟨_, rfl⟩
  obtain ⟨r6, hr6⟩ : ∃ r, inR 0 1000000 o.drop.serv = r := ⟨_, rfl⟩
  rw [hra, hrb, hr1, hr2, hr3, hr4, hr5, hr6] at hv'
  have RA := Lib.hid hra
  have RB := Lib.hid hrb
  have R1 := Lib.hid hr1
  have R2 := Lib.hid hr2
  have R3 := Lib.hid hr3
  have R4 := Lib.hid hr4
  have R5 := Lib.hid hr5
  have R6 := Lib.hid hr6
  have HV := Lib.hid hv'
  clear hra hrb hr1 hr2 hr3 hr4 hr5 hr6 hv hv' HM
  go_enter Try.func45, Try.ntmps45
  go_wp2_with fail
  refine (pnumbered_val _ ra _ RA.out).mono ?_
  rintro e w' ⟨rfl, rfl⟩
  cases ra with
  | false =>
    have e : v = 1 := by have := HV.out; simpa using this.symm
    subst e
    go_wp2_with fail
    go_ret
    exact ⟨rfl, HB0.out⟩
  | true =>
  go_wp2_with fail
  refine (psized_val _ rb _ RB.out).mono ?_
  rintro e w' ⟨rfl, rfl⟩
  cases rb with
  | false =>
    have e : v = 14 := by have := HV.out; simpa using this.symm
    subst e
    go_wp2_with fail
    go_ret
    exact ⟨rfl, HB0.out⟩
  | true =>
  go_wp2_with fail
  refine (pplaced_val _ b n l _ r1 _ (by exact HM0.out) R1.out).mono ?_
  rintro e w' ⟨rfl, rfl⟩
  cases r1 with
  | false =>
    have e : v = 12 := by have := HV.out; simpa using this.symm
    subst e
    go_wp2_with fail
    go_ret
    exact ⟨rfl, HB0.out⟩
  | true =>
  go_wp2_with fail
  refine (pplaced_val _ b n l _ r2 _ (by exact HM0.out) R2.out).mono ?_
  rintro e w' ⟨rfl, rfl⟩
  cases r2 with
  | false =>
    have e : v = 12 := by have := HV.out; simpa using this.symm
    subst e
    go_wp2_with fail
    go_ret
    exact ⟨rfl, HB0.out⟩
  | true =>
  go_wp2_with fail
  refine (pright_val o.pick.win r3 _ R3.out).mono ?_
  rintro e w3 ⟨rfl, hb3⟩
  have HX3 := Lib.hid (HX0.out.below hb3)
  have HB3 : Hid (Below w.heap.size w w3) := HB0.out.trans (hb3.mono HB0.out.size)
  obtain ⟨c0, c1, c2, c3, c4, c5, c6, c7, c8, c9⟩ := HX3.out.cells
  clear hb3 HX0 HB0 HM0
  cases r3 with
  | false =>
    have e : v = 13 := by have := HV.out; simpa using this.symm
    subst e
    go_wp2_with fail
    go_ret
    exact ⟨rfl, HB3.out⟩
  | true =>
  go_wp2_with fail
  refine (pright_val o.drop.win r4 _ R4.out).mono ?_
  rintro e w4 ⟨rfl, hb4⟩
  have HX4 := Lib.hid (HX3.out.below hb4)
  have HB4 : Hid (Below w.heap.size w w4) := HB3.out.trans (hb4.mono HB3.out.size)
  clear c0 c1 c2 c3 c4 c5 c6 c7 c8 c9
  obtain ⟨c0, c1, c2, c3, c4, c5, c6, c7, c8, c9⟩ := HX4.out.cells
  clear hb4 HX3 HB3
  cases r4 with
  | false =>
    have e : v = 13 := by have := HV.out; simpa using this.symm
    subst e
    go_wp2_with fail
    go_ret
    exact ⟨rfl, HB4.out⟩
  | true =>
  go_wp2_with fail
  refine (ptimed_val _ r5 _ R5.out).mono ?_
  rintro e w' ⟨rfl, rfl⟩
  cases r5 with
  | false =>
    have e : v = 7 := by have := HV.out; simpa using this.symm
    subst e
    go_wp2_with fail
    go_ret
    exact ⟨rfl, HB4.out⟩
  | true =>
  go_wp2_with fail
  refine (ptimed_val _ r6 _ R6.out).mono ?_
  rintro e w' ⟨rfl, rfl⟩
  cases r6 with
  | false =>
    have e : v = 7 := by have := HV.out; simpa using this.symm
    subst e
    go_wp2_with fail
    go_ret
    exact ⟨rfl, HB4.out⟩
  | true =>
    have e : v = 0 := by have := HV.out; simpa using this.symm
    subst e
    go_wp2_with fail
    go_ret
    exact ⟨rfl, HB4.out⟩

#print axioms gorder_any
end Go.Proofs.Ytjkahookgoecpaa.Deal
