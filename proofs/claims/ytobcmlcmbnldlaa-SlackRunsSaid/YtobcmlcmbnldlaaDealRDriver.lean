/-
  The document's own answer to chapter 6, walked: Driver, served.
-/
import Derived.Test.YtobcmlcmbnldlaaDealRefs
namespace Go.Proofs.Ytobcmlcmbnldlaa.Deal
open Go.ChangeShapes Go.WideShapes Go.ChangeAt Go.RowKit Go.Proofs.Ytobcmlcmbnldlaa.Mem Go.Proofs.Ytobcmlcmbnldlaa.GeoMath Go.Proofs.Ytobcmlcmbnldlaa.FleetMath Go.Proofs.Ytobcmlcmbnldlaa.Rec Go.Proofs.Ytobcmlcmbnldlaa.Geo Go.Proofs.Ytobcmlcmbnldlaa.Span

/-- a driver in a block of its own -/
def DBox (u : World) (g : Nat) (d : Drv) : Prop := Blk u g 33 [.int .i64 d.id, .int .i64 d.room, .int .i64 d.home, .int .i64 d.win.fr, .int .i64 d.win.to, .bool d.retired]
theorem DBox.below {u u' : World} {g : Nat} {d : Drv} (h : DBox u g d) (hb : Below u.heap.size u u') : DBox u' g d := Blk.below h hb (Blk.lt h)
theorem DBox.cells {u : World} {g : Nat} {d : Drv} (h : DBox u g d) : u.cell? ⟨g, 0, none⟩ = some (.int .i64 d.id) ∧ u.cell? ⟨g, 1, none⟩ = some (.int .i64 d.room) ∧ u.cell? ⟨g, 2, none⟩ = some (.int .i64 d.home) ∧ u.cell? ⟨g, 3, none⟩ = some (.int .i64 d.win.fr) ∧ u.cell? ⟨g, 4, none⟩ = some (.int .i64 d.win.to) ∧ u.cell? ⟨g, 5, none⟩ = some (.bool d.retired) :=
  ⟨Blk.cell h rfl, Blk.cell h rfl, Blk.cell h rfl, Blk.cell h rfl, Blk.cell h rfl, Blk.cell h rfl⟩

set_option maxRecDepth 100000 in
set_option maxHeartbeats 4000000 in
theorem rdriver_any (base : Nat) (pv : Value) (m : Option Mp) (d : Drv) (w : World) (h : MapP w 106 base pv m) :
    Calls Try.prog 49 #[pv, drvV d] w (Gives w (.int .i64 (drvE m d))) := by
  rcases h with ⟨rfl, rfl⟩ | ⟨b, n, l, rfl, rfl, hm, hn1, hn, hmap⟩
  · go_enter Try.func49, Try.ntmps49
    go_wp2
    go_ret
    exact ⟨rfl, (Below.refl _ _).alloc (Nat.le_refl _) _⟩
  · have HM := Lib.hid hm
    clear hm hmap
    obtain ⟨v, hv⟩ : ∃ v, drvE (some ⟨n, l⟩) d = v := ⟨_, rfl⟩
    have hv' := hv
    rw [drvE_some] at hv'
    rw [hv]
    have HB0 : Hid (Below w.heap.size w (w.alloc (.cells #[.int .i64 d.id, .int .i64 d.room, .int .i64 d.home, .int .i64 d.win.fr, .int .i64 d.win.to, .bool d.retired] 33))) := (Below.refl _ _).alloc (Nat.le_refl _) _
    have HX0 : Hid (DBox (w.alloc (.cells #[.int .i64 d.id, .int .i64 d.room, .int .i64 d.home, .int .i64 d.win.fr, .int .i64 d.win.to, .bool d.retired] 33)) w.heap.size d) := Blk.new w _ _
    have HM0 : Hid (MapAt (w.alloc (.cells #[.int .i64 d.id, .int .i64 d.room, .int .i64 d.home, .int .i64 d.win.fr, .int .i64 d.win.to, .bool d.retired] 33)) 106 base b n l) := HM.out.keep HB0.out (Nat.le_refl _)
    by_cases h1 : d.id < 1 ∨ 1000000 < d.id
    · rw [if_pos h1] at hv'
      subst hv'
      rcases h1 with h1 | h1
      all_goals
        go_enter Try.func49, Try.ntmps49
        go_wp2
        go_ret
        exact ⟨rfl, HB0.out⟩
    rw [if_neg h1] at hv'
    have h1a : ¬ d.id < 1 := fun h => h1 (.inl h)
    have h1b : ¬ 1000000 < d.id := fun h => h1 (.inr h)
    clear h1
    by_cases h2 : d.room < 1 ∨ 1000 < d.room
    · rw [if_pos h2] at hv'
      subst hv'
      rcases h2 with h2 | h2
      all_goals
        go_enter Try.func49, Try.ntmps49
        go_wp2
        go_ret
        exact ⟨rfl, HB0.out⟩
    rw [if_neg h2] at hv'
    have h2a : ¬ d.room < 1 := fun h => h2 (.inl h)
    have h2b : ¬ 1000 < d.room := fun h => h2 (.inr h)
    clear h2
    obtain ⟨r1, hr1⟩ : ∃ r, isPlace ⟨n, l⟩ d.home = r := ⟨_, rfl⟩
    obtain ⟨r3, hr3⟩ : ∃ r, right d.win = r := ⟨_, rfl⟩
    rw [hr1, hr3] at hv'
    have R1 := Lib.hid hr1
    have R3 := Lib.hid hr3
    have HV := Lib.hid hv'
    clear hr1 hr3 hv hv' HM
    go_enter Try.func49, Try.ntmps49
    go_wp2_with fail
    refine (rplace_val _ b n l _ r1 _ (by exact HM0.out) R1.out).mono ?_
    rintro e w1 ⟨rfl, d1, hw1⟩
    have HX1 : Hid (DBox w1 w.heap.size d) := by rw [hw1]; exact HX0.out
    have HB1 : Hid (Below w.heap.size w w1) := by rw [hw1]; exact below_drewN HB0.out _
    obtain ⟨c0, c1, c2, c3, c4, c5⟩ := HX1.out.cells
    clear hw1 HM0 HX0 HB0
    cases r1 with
    | false =>
      have e : v = 12 := by have := HV.out; simpa using this.symm
      subst e
      go_wp2_with fail
      go_ret
      exact ⟨rfl, HB1.out⟩
    | true =>
      go_wp2_with fail
      refine (rright_val d.win r3 _ R3.out).mono ?_
      rintro e w3 ⟨rfl, hb3⟩
      have HB3 : Hid (Below w.heap.size w w3) := HB1.out.trans (hb3.mono HB1.out.size)
      clear hb3 c0 c1 c2 c3 c4 c5
      cases r3 with
      | false =>
        have e : v = 13 := by have := HV.out; simpa using this.symm
        subst e
        go_wp2_with fail
        go_ret
        exact ⟨rfl, HB3.out⟩
      | true =>
        have e : v = 0 := by have := HV.out; simpa using this.symm
        subst e
        go_wp2_with fail
        go_ret
        exact ⟨rfl, HB3.out⟩

/-- when a site is begun and left -/
def twoV : Option (Int × Int) → Value
  | none => .tuple #[.int .i64 0, .int .i64 0, .bool false]
  | some (b, v) => .tuple #[.int .i64 b, .int .i64 v, .bool true]
abbrev siteV (s : Site) : Value := .agg #[.int .i64 s.place, .int .i64 s.win.fr, .int .i64 s.win.to, .int .i64 s.serv]
theorem timeV_time {n : Nat} {l : List Int} {a b : Int} : timeV n l a b = time ⟨n, l⟩ a b ∧ (placeB n a && placeB n b) = (isPlace ⟨n, l⟩ a && isPlace ⟨n, l⟩ b) := by
  have h : ∀ x, placeB n x = isPlace ⟨n, l⟩ x := fun x => rfl
  refine ⟨?_, by rw [h, h]⟩
  unfold timeV time
  rw [h, h]
  by_cases h1 : isPlace ⟨n, l⟩ a = true <;> by_cases h2 : isPlace ⟨n, l⟩ b = true <;> simp [h1, h2]
theorem time_bounds {n : Nat} {l : List Int} (h : IsMap n l) (a b : Int) : 0 ≤ time ⟨n, l⟩ a b ∧ time ⟨n, l⟩ a b ≤ 1000000 := by
  unfold time
  split
  · rename_i hp
    simp only [isPlace, decide_eq_true_eq] at hp
    exact ⟨h.T_lo (by omega) (by omega), h.T_hi (by omega) (by omega)⟩
  · omega

/-- a site in a block of its own -/
def SBox (u : World) (g : Nat) (s : Site) : Prop := Blk u g 29 [.int .i64 s.place, .int .i64 s.win.fr, .int .i64 s.win.to, .int .i64 s.serv]
theorem SBox.below {u u' : World} {g : Nat} {s : Site} (h : SBox u g s) (hb : Below u.heap.size u u') : SBox u' g s := Blk.below h hb (Blk.lt h)
theorem SBox.cells {u : World} {g : Nat} {s : Site} (h : SBox u g s) : u.cell? ⟨g, 0, none⟩ = some (.int .i64 s.place) ∧ u.cell? ⟨g, 1, none⟩ = some (.int .i64 s.win.fr) ∧ u.cell? ⟨g, 2, none⟩ = some (.int .i64 s.win.to) ∧ u.cell? ⟨g, 3, none⟩ = some (.int .i64 s.serv) :=
  ⟨Blk.cell h rfl, Blk.cell h rfl, Blk.cell h rfl, Blk.cell h rfl⟩
theorem rtime_val' (base b n : Nat) (l : List Int) (a c v : Int) (w : World) (h : MapAt w 106 base b n l) (hn : n ≤ 12) (hv : time ⟨n, l⟩ a c = v) :
    Calls Try.prog 37 #[.pointer (some ⟨b, 0, none⟩), .int .i64 a, .int .i64 c] w fun e w' => ∃ r d, e = .returned (.tuple #[.int .i64 v, .bool r]) ∧ w' = w.drewN d := by
  refine (rtime_any base b n l a c w h hn).mono ?_
  rintro e w' ⟨rfl, d, rfl⟩
  exact ⟨_, d, by rw [timeV_time.1, hv], rfl⟩
theorem rbegin_val' (x : Win) (t v : Int) (r : Bool) (w : World) (h : optV (beginT x t) = .tuple #[.int .i64 v, .bool r]) : Calls Try.prog 65 #[winV x, .int .i64 t] w (Gives w (.tuple #[.int .i64 v, .bool r])) := by rw [← h]; exact rbegin_any x t w
theorem twoV_of {o o' : Option (Int × Int)} {w w' : World} {v : Value} (h : o = o') (hv : v = twoV o) (hb : Below w.heap.size w w') : Gives w (twoV o') (.returned v) w' := ⟨by rw [← h, hv], hb⟩

set_option maxRecDepth 100000 in
set_option maxHeartbeats 4000000 in
theorem rserved_any (base b n : Nat) (l : List Int) (f t0 : Int) (s : Site) (u : Int) (w : World) (h : MapAt w 106 base b n l) (hn : n ≤ 12) (hm : IsMap n l) (ht0 : -1000000000 ≤ t0) (ht1 : t0 ≤ 1000000000) (hs0 : 0 ≤ s.serv) (hs1 : s.serv ≤ 1000000) :
    Calls Try.prog 52 #[.pointer (some ⟨b, 0, none⟩), .int .i64 f, .int .i64 t0, siteV s, .int .i64 u] w (Gives w (twoV (FleetMath.served ⟨n, l⟩ f t0 s u))) := by
  obtain ⟨hl0, hl1⟩ := time_bounds hm f s.place
  obtain ⟨t, htv⟩ : ∃ t, time ⟨n, l⟩ f s.place = t := ⟨_, rfl⟩
  rw [htv] at hl0 hl1
  have HT := Lib.hid htv
  have HB0 : Hid (Below w.heap.size w (w.alloc (.cells #[.int .i64 s.place, .int .i64 s.win.fr, .int .i64 s.win.to, .int .i64 s.serv] 29))) := (Below.refl _ _).alloc (Nat.le_refl _) _
  have HX0 : Hid (SBox (w.alloc (.cells #[.int .i64 s.place, .int .i64 s.win.fr, .int .i64 s.win.to, .int .i64 s.serv] 29)) w.heap.size s) := Blk.new w _ _
  have HM0 : Hid (MapAt (w.alloc (.cells #[.int .i64 s.place, .int .i64 s.win.fr, .int .i64 s.win.to, .int .i64 s.serv] 29)) 106 base b n l) := h.keep HB0.out (Nat.le_refl _)
  obtain ⟨o, ho⟩ : ∃ o, FleetMath.served ⟨n, l⟩ f t0 s u = o := ⟨_, rfl⟩
  rw [ho]
  have ho' : o = match beginT s.win (t0 + t) with | none => none | some b => if u < b + s.serv then none else some (b, b + s.serv) := by
    rw [← ho, ← htv]; rfl
  have HO := Lib.hid ho'
  clear h hm htv ho ho'
  go_enter Try.func52, Try.ntmps52
  go_wp2_with fail
  refine (rtime_val' base b n l f s.place t _ (by exact HM0.out) hn HT.out).mono ?_
  rintro e w1 ⟨r1, d1, rfl, hw1⟩
  have HX1 : Hid (SBox w1 w.heap.size s) := by rw [hw1]; exact HX0.out
  have HB1 : Hid (Below w.heap.size w w1) := by rw [hw1]; exact below_drewN HB0.out _
  obtain ⟨c0, c1, c2, c3⟩ := HX1.out.cells
  clear hw1 HM0 HX0 HB0 HT
  cases hq : beginT s.win (t0 + t) with
  | none =>
    have HQ : Hid (optV (beginT s.win (t0 + t)) = .tuple #[.int .i64 0, .bool false]) := by rw [hq]; rfl
    have ho' := HO.out
    rw [hq] at ho'
    simp only at ho'
    subst ho'
    clear hq HO
    go_wp2_with fail
    refine (rbegin_val' s.win (t0 + t) 0 false _ HQ.out).mono ?_
    rintro e w2 ⟨rfl, hb2⟩
    have HB2 : Hid (Below w.heap.size w w2) := HB1.out.trans (hb2.mono HB1.out.size)
    clear hb2 c0 c1 c2 c3
    go_wp2_with fail
    go_ret3
    exact twoV_of rfl rfl HB2.out
  | some v =>
    have HQ : Hid (optV (beginT s.win (t0 + t)) = .tuple #[.int .i64 v, .bool true]) := by rw [hq]; rfl
    obtain ⟨q1, q2, q3, q4, q5⟩ := beginT_in hq
    have q6 := right_iff.1 (has_iff.1 q1).1
    have q7 : v ≤ 1000000 := by omega
    have q8 : 0 ≤ v := by omega
    have ho2 := HO.out
    rw [hq] at ho2
    simp only at ho2
    have HO2 := Lib.hid ho2
    clear hq q1 q2 q3 q4 q5 q6 HO ho2
    go_wp2_with fail
    refine (rbegin_val' s.win (t0 + t) v true _ HQ.out).mono ?_
    rintro e w2 ⟨rfl, hb2⟩
    have HX2 := Lib.hid (HX1.out.below hb2)
    have HB2 : Hid (Below w.heap.size w w2) := HB1.out.trans (hb2.mono HB1.out.size)
    clear hb2 c0 c1 c2 c3
    obtain ⟨c0, c1, c2, c3⟩ := HX2.out.cells
    by_cases hlt : u < v + s.serv
    · have ho' := HO2.out
      rw [if_pos hlt] at ho'
      subst ho'
      clear HO2
      go_wp2_with fail
      go_ret3
      exact twoV_of rfl rfl HB2.out
    · have ho' := HO2.out
      rw [if_neg hlt] at ho'
      subst ho'
      clear HO2
      go_wp2_with fail
      go_quiet (fail)
      go_wp2_with fail
      go_ret3
      exact twoV_of rfl rfl (below_drewN HB2.out _)

#print axioms rserved_any
#print axioms rdriver_any
end Go.Proofs.Ytobcmlcmbnldlaa.Deal
