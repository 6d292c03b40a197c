/-
  The program's deal.Driver, walked.
-/
import Derived.Test.YtjklpdeeohhhnaaDealSmall
namespace Go.Proofs.Ytjklpdeeohhhnaa.Deal
open Go.ChangeShapes Go.WideShapes Go.ChangeAt Go.RowKit Go.Proofs.Ytjklpdeeohhhnaa.Mem Go.Proofs.Ytjklpdeeohhhnaa.GeoMath Go.Proofs.Ytjklpdeeohhhnaa.FleetMath Go.Proofs.Ytjklpdeeohhhnaa.Rec Go.Proofs.Ytjklpdeeohhhnaa.Geo Go.Proofs.Ytjklpdeeohhhnaa.Span

set_option maxRecDepth 100000 in
set_option maxHeartbeats 4000000 in
theorem gdriver_any (base : Nat) (pv : Value) (m : Option Mp) (d : Drv) (w : World) (h : MapP w 77 base pv m) :
    Calls Try.prog 86 #[pv, drvV d] w (Gives w (.int .i64 (drvE m d))) := by
  rcases h with ⟨rfl, rfl⟩ | ⟨b, n, l, rfl, rfl, hm, hn1, hn, hmap⟩
  · go_enter Try.func86, Try.ntmps86
    go_wp2
    go_ret
    exact ⟨rfl, (Below.refl _ _).alloc (Nat.le_refl _) _⟩
  have HM := Lib.hid hm
  clear hm hmap
  obtain ⟨v, hv⟩ : ∃ v, drvE (some ⟨n, l⟩) d = v := ⟨_, rfl⟩
  have hv' := hv
  rw [drvE_by] at hv'
  rw [hv]
  have HB0 : Hid (Below w.heap.size w (w.alloc (.cells #[.int .i64 d.id, .int .i64 d.room, .int .i64 d.home, .int .i64 d.win.fr, .int .i64 d.win.to, .bool d.retired] 33))) := (Below.refl _ _).alloc (Nat.le_refl _) _
  have HM0 : Hid (MapAt (w.alloc (.cells #[.int .i64 d.id, .int .i64 d.room, .int .i64 d.home, .int .i64 d.win.fr, .int .i64 d.win.to, .bool d.retired] 33)) 77 base b n l) := HM.out.keep HB0.out (Nat.le_refl _)
  obtain ⟨ra, hra⟩ : ∃ r, inR 1 1000000 d.id = r := ⟨_, rfl⟩
  obtain ⟨rb, hrb⟩ : ∃ r, inR 1 1000 d.room = r := ⟨_, rfl⟩
  obtain ⟨r1, hr1⟩ : ∃ r, isPlace ⟨n, l⟩ d.home = r := ⟨_, rfl⟩
  obtain ⟨r3, hr3⟩ : ∃ r, right d.win = r := ⟨_, rfl⟩
  rw [hra, hrb, hr1, hr3] at hv'
  have RA := Lib.hid hra
  have RB := Lib.hid hrb
  have R1 := Lib.hid hr1
  have R3 := Lib.hid hr3
  have HV := Lib.hid hv'
  clear hra hrb hr1 hr3 hv hv' HM
  go_enter Try.func86, Try.ntmps86
  go_wp2_with fail
  refine (pnumbered_val _ ra _ RA.out).mono ?_
  rintro e w' ⟨rfl, rfl⟩
  cases ra with
  | false =>
    have e : v = 1 := by have := HV.out; simpa using this.symm
    subst e
    go_wp2_with fail
    go_ret
    exact ⟨rfl, HB0.out⟩
  | true =>
  go_wp2_with fail
  refine (psized_val _ rb _ RB.out).mono ?_
  rintro e w' ⟨rfl, rfl⟩
  cases rb with
  | false =>
    have e : v = 14 := by have := HV.out; simpa using this.symm
    subst e
    go_wp2_with fail
    go_ret
    exact ⟨rfl, HB0.out⟩
  | true =>
  go_wp2_with fail
  refine (pplaced_val _ b n l _ r1 _ (by exact HM0.out) R1.out).mono ?_
  rintro e w' ⟨rfl, rfl⟩
  cases r1 with
  | false =>
    have e : v = 12 := by have := HV.out; simpa using this.symm
    subst e
    go_wp2_with fail
    go_ret
    exact ⟨rfl, HB0.out⟩
  | true =>
  go_wp2_with fail
  refine (pright_val d.win r3 _ R3.out).mono ?_
  rintro e w3 ⟨rfl, hb3⟩
  have HB3 : Hid (Below w.heap.size w w3) := HB0.out.trans (hb3.mono HB0.out.size)
  clear hb3 HB0 HM0
  cases r3 with
  | false =>
    have e : v = 13 := by have := HV.out; simpa using this.symm
    subst e
    go_wp2_with fail
    go_ret
    exact ⟨rfl, HB3.out⟩
  | true =>
    have e : v = 0 := by have := HV.out; simpa using this.symm
    subst e
    go_wp2_with fail
    go_ret
    exact ⟨rfl, HB3.out⟩

#print axioms gdriver_any
end Go.Proofs.Ytjklpdeeohhhnaa.Deal
