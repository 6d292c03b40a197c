/-
  The program's geo, walked: Places, at, has, Time.
-/
import Derived.Test.YtobcmlcmbnldlaaGeoMem
namespace Go.Proofs.Ytobcmlcmbnldlaa.Geo
open Go.ChangeShapes Go.WideShapes Go.ChangeAt Go.RowKit Go.Proofs.Ytobcmlcmbnldlaa.Mem Go.Proofs.Ytobcmlcmbnldlaa.MemI Go.Proofs.Ytobcmlcmbnldlaa.GeoMath

theorem same_q {f : FuncId} {args : Array Value} {w : World} {v : Value} (h : Calls Try.prog f args w fun e w' => e = .returned v ∧ w = w') : Calls Try.prog f args w (Quietly w v) :=
  h.mono fun _ _ ⟨he, hw⟩ => ⟨he, 0, hw.symm⟩
theorem quiet_in {f : FuncId} {args : Array Value} {w : World} {n : Nat} {v : Value} (h : Calls Try.prog f args (w.drewN n) (Quietly (w.drewN n) v)) :
    Calls Try.prog f args (w.drewN n) fun e w'' => e = .returned v ∧ ∃ m, w'' = w.drewN m := Calls.quiet_of h
theorem same_in {f : FuncId} {args : Array Value} {w : World} {n : Nat} {v : Value} (h : Calls Try.prog f args (w.drewN n) fun e w' => e = .returned v ∧ w.drewN n = w') :
    Calls Try.prog f args (w.drewN n) fun e w'' => e = .returned v ∧ ∃ m, w'' = w.drewN m := h.mono fun _ _ ⟨he, hw⟩ => ⟨he, n, hw.symm⟩

theorem gplaces_c (b n : Nat) (w : World) (z0 : w.cell? ⟨b, 0, none⟩ = some (.int .i64 n)) :
    Calls Try.prog 62 #[.pointer (some ⟨b, 0, none⟩)] w fun e w' => e = .returned (.int .i64 n) ∧ w = w' := by
  go_enter Try.func62, Try.ntmps62
  go_wp2
  go_ret
  exact ⟨rfl, rfl⟩
theorem gplaces_n (w : World) : Calls Try.prog 62 #[.pointer none] w fun e w' => e = .returned (.int .i64 0) ∧ w = w' := by
  go_enter Try.func62, Try.ntmps62
  go_wp2
  go_ret
  exact ⟨rfl, rfl⟩
theorem gplaces_any (base b n : Nat) (l : List Int) (w : World) (h : MapAt w 77 base b n l) :
    Calls Try.prog 62 #[.pointer (some ⟨b, 0, none⟩)] w (Quietly w (.int .i64 n)) := by
  obtain ⟨g0, cp, hb, _, _⟩ := h.open_
  exact same_q (gplaces_c b n w (hb.cell (i := 0) rfl))
theorem gplaces_nil (w : World) : Calls Try.prog 62 #[.pointer none] w (Quietly w (.int .i64 0)) := same_q (gplaces_n w)

/-- where a time lies -/
theorem gat_c (b n x y q i : Nat) (w : World) (z0 : w.cell? ⟨b, 0, none⟩ = some (.int .i64 n)) (hq : (x : Int) * (n : Int) = (q : Int)) (hi : (q : Int) + (y : Int) = (i : Int)) (hq1 : q ≤ 132) (hi1 : i ≤ 143) :
    Calls Try.prog 46 #[.pointer (some ⟨b, 0, none⟩), .int .i64 x, .int .i64 y] w fun e w' => e = .returned (.int .i64 i) ∧ w = w' := by
  go_enter Try.func46, Try.ntmps46
  go_wp2
  go_ret
  exact ⟨rfl, rfl⟩

theorem ghas_no (b n : Nat) (a : Int) (w : World) (z0 : w.cell? ⟨b, 0, none⟩ = some (.int .i64 n)) (h : a < 0 ∨ (n : Int) ≤ a) :
    Calls Try.prog 45 #[.pointer (some ⟨b, 0, none⟩), .int .i64 a] w fun e w' => e = .returned (.bool false) ∧ w = w' := by
  by_cases h1 : a < 0
  · have h2 : decide (0 ≤ a) = false := by simpa using h1
    clear h
    go_enter Try.func45, Try.ntmps45
    go_wp2
    go_ret
    exact ⟨rfl, rfl⟩
  · have h2 : (n : Int) ≤ a := by omega
    have h3 : decide (0 ≤ a) = true := by simpa using h1
    have h4 : decide (a < (n : Int)) = false := by simpa using h2
    clear h h1
    go_enter Try.func45, Try.ntmps45
    go_wp2_with (go_at_call 62; refine (gplaces_c _ n _ z0).mono ?_; rintro e w' ⟨rfl, rfl⟩)
    go_ret
    exact ⟨rfl, rfl⟩
theorem ghas_yes (b n x : Nat) (w : World) (z0 : w.cell? ⟨b, 0, none⟩ = some (.int .i64 n)) (h : x < n) :
    Calls Try.prog 45 #[.pointer (some ⟨b, 0, none⟩), .int .i64 x] w fun e w' => e = .returned (.bool true) ∧ w = w' := by
  go_enter Try.func45, Try.ntmps45
  go_wp2_with (go_at_call 62; refine (gplaces_c _ n _ z0).mono ?_; rintro e w' ⟨rfl, rfl⟩)
  go_ret
  exact ⟨rfl, rfl⟩
theorem ghas_nil (a : Int) (w : World) :
    Calls Try.prog 45 #[.pointer none, .int .i64 a] w fun e w' => e = .returned (.bool false) ∧ w = w' := by
  by_cases h1 : a < 0
  · have h2 : decide (0 ≤ a) = false := by simpa using h1
    go_enter Try.func45, Try.ntmps45
    go_wp2
    go_ret
    exact ⟨rfl, rfl⟩
  · have h3 : decide (0 ≤ a) = true := by simpa using h1
    have h4 : decide (a < 0) = false := by simpa using h1
    go_enter Try.func45, Try.ntmps45
    go_wp2_with (go_at_call 62; refine (gplaces_n _).mono ?_; rintro e w' ⟨rfl, rfl⟩)
    go_ret
    exact ⟨rfl, rfl⟩

set_option maxHeartbeats 400000 in
theorem gtime_any (base b n : Nat) (l : List Int) (a c : Int) (w : World) (h : MapAt w 77 base b n l) (hn : n ≤ 12) :
    Calls Try.prog 29 #[.pointer (some ⟨b, 0, none⟩), .int .i64 a, .int .i64 c] w (Quietly w (.tuple #[.int .i64 (timeV n l a c), .bool (placeB n a && placeB n c)])) := by
  obtain ⟨g0, cp, hb, hi, hcap⟩ := h.open_
  have z0 := hb.cell (i := 0) rfl
  have z1 := hb.cell (i := 1) rfl
  have HI := Lib.hid hi
  clear h hb hi
  by_cases ha : a < 0 ∨ (n : Int) ≤ a
  · have HN := Lib.hid (place_no (n := n) (a := a) (b := c) (l := l) (by omega))
    have HA := Lib.hid ha
    clear ha
    go_enter Try.func29, Try.ntmps29
    go_wp2_with (go_at_call 45; refine (ghas_no _ n _ _ z0 HA.out).mono ?_; rintro e w' ⟨rfl, rfl⟩)
    go_ret2
    exact ⟨ret_pair HN.out.1 HN.out.2, 0, rfl⟩
  obtain ⟨x, rfl⟩ : ∃ x : Nat, a = x := ⟨a.toNat, by omega⟩
  have hx : x < n := by omega
  clear ha
  by_cases hc : c < 0 ∨ (n : Int) ≤ c
  · have HN := Lib.hid (place_no (n := n) (a := x) (b := c) (l := l) (by omega))
    have HC := Lib.hid hc
    clear hc
    go_enter Try.func29, Try.ntmps29
    go_wp2_with fail
    go_at_call 45
    refine (ghas_yes _ n _ _ z0 hx).mono ?_
    rintro e w' ⟨rfl, rfl⟩
    go_wp2_with fail
    go_at_call 45
    refine (ghas_no _ n _ _ z0 HC.out).mono ?_
    rintro e w' ⟨rfl, rfl⟩
    go_wp2
    go_ret2
    exact ⟨ret_pair HN.out.1 HN.out.2, 0, rfl⟩
  · obtain ⟨y, rfl⟩ : ∃ y : Nat, c = y := ⟨c.toNat, by omega⟩
    have hy : y < n := by omega
    clear hc
    have HN := Lib.hid (place_yes (l := l) hx hy)
    obtain ⟨hc, hg⟩ := Ints.T_at0 HI.out hx hy
    obtain ⟨q, i, hq, hqi, hq0, hq1, hi0, hi1, hi2⟩ := idx_facts hn hx hy
    rw [← hi2] at hc
    clear hi2
    have HQ := Lib.hid hq
    have HQI := Lib.hid hqi
    clear hq hqi
    go_enter Try.func29, Try.ntmps29
    go_wp2_with fail
    go_at_call 45
    refine (ghas_yes _ n _ _ z0 hx).mono ?_
    rintro e w' ⟨rfl, rfl⟩
    go_wp2_with fail
    go_at_call 45
    refine (ghas_yes _ n _ _ z0 hy).mono ?_
    rintro e w' ⟨rfl, rfl⟩
    go_wp2_with fail
    go_quiet ((go_at_call 46; exact same_in (gat_c _ n _ _ q i _ (by exact z0) HQ.out HQI.out hq0 hq1)))
    go_wp2
    go_ret2
    exact ⟨ret_pair HN.out.1 HN.out.2, _, rfl⟩
theorem gtime_nil (a c : Int) (w : World) : Calls Try.prog 29 #[.pointer none, .int .i64 a, .int .i64 c] w (Quietly w (.tuple #[.int .i64 0, .bool false])) := by
  go_enter Try.func29, Try.ntmps29
  go_wp2_with (go_at_call 45; refine (ghas_nil _ _).mono ?_; rintro e w' ⟨rfl, rfl⟩)
  go_ret2
  exact ⟨rfl, 0, rfl⟩

#print axioms gtime_any
end Go.Proofs.Ytobcmlcmbnldlaa.Geo
