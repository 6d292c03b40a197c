/-
  DealRefs, DealRDriver, DealRKnown: one text.
-/
import Derived.Test.YtilggpkmdmelmaaGreatGeoSmalls
import Derived.Test.YtilggpkmdmelmaaGreatSpanAll
import Derived.Test.YtilggpkmdmelmaaGreatWords
import Derived.Test.YtilggpkmdmelmaaGreatMaths
namespace Go.Proofs.YtilggpkmdmelmaaGreat.Deal
open Go.ChangeShapes Go.WideShapes Go.ChangeAt Go.RowKit Go.Proofs.YtilggpkmdmelmaaGreat.Mem Go.Proofs.YtilggpkmdmelmaaGreat.GeoMath Go.Proofs.YtilggpkmdmelmaaGreat.FleetMath Go.Proofs.YtilggpkmdmelmaaGreat.Rec Go.Proofs.YtilggpkmdmelmaaGreat.Geo Go.Proofs.YtilggpkmdmelmaaGreat.Span
def MapP (w : World) (t : TypeId) (base : Nat) (pv : Value) (m : Option Mp) : Prop :=
  (pv = .pointer none ∧ m = none) ∨ ∃ b n l, pv = .pointer (some ⟨b, 0, none⟩) ∧ m = some ⟨n, l⟩ ∧ MapAt w t base b n l ∧ 1 ≤ n ∧ n ≤ 12 ∧ IsMap n l
theorem MapP.keep {w w' : World} {t : TypeId} {base : Nat} {pv : Value} {m : Option Mp} (h : MapP w t base pv m) (hb : Below w.heap.size w w') : MapP w' t base pv m := by
  rcases h with h | ⟨b, n, l, h1, h2, h3, h4⟩
  · exact .inl h
  · exact .inr ⟨b, n, l, h1, h2, h3.keep hb (Nat.le_refl _), h4⟩
theorem MapP.lower {w : World} {t : TypeId} {base base' : Nat} {pv : Value} {m : Option Mp} (h : MapP w t base pv m) (hb : base' ≤ base) : MapP w t base' pv m := by
  rcases h with h | ⟨b, n, l, h1, h2, h3, h4⟩
  · exact .inl h
  · exact .inr ⟨b, n, l, h1, h2, h3.lower hb, h4⟩
theorem rplace_any (base b n : Nat) (l : List Int) (p : Int) (w : World) (h : MapAt w 110 base b n l) :
    Calls Tryz.prog 121 #[.pointer (some ⟨b, 0, none⟩), .int .i64 p] w (Quietly w (.bool (isPlace ⟨n, l⟩ p))) := by
  obtain ⟨g, c, hb, _, _⟩ := h.open_
  have z0 := hb.cell (i := 0) rfl
  clear hb h
  go_enter Tryz.func121, Tryz.ntmps121
  go_wp2
  all_goals
    go_ret
    refine ⟨ret_bool ?_, 0, rfl⟩
    first
      | (simp_all [isPlace]; done)
      | (simp_all [isPlace]; omega)
theorem rplace_val (base b n : Nat) (l : List Int) (p : Int) (r : Bool) (w : World) (h : MapAt w 110 base b n l) (hr : isPlace ⟨n, l⟩ p = r) :
    Calls Tryz.prog 121 #[.pointer (some ⟨b, 0, none⟩), .int .i64 p] w (Quietly w (.bool r)) := by rw [← hr]; exact rplace_any base b n l p w h
def OBox (u : World) (g : Nat) (o : FleetMath.Ord) : Prop := Blk u g 31 [.int .i64 o.id, .int .i64 o.size, .int .i64 o.pick.place, .int .i64 o.pick.win.fr, .int .i64 o.pick.win.to, .int .i64 o.pick.serv, .int .i64 o.drop.place, .int .i64 o.drop.win.fr, .int .i64 o.drop.win.to, .int .i64 o.drop.serv]
theorem OBox.below {u u' : World} {g : Nat} {o : FleetMath.Ord} (h : OBox u g o) (hb : Below u.heap.size u u') : OBox u' g o := Blk.below h hb (Blk.lt h)
theorem OBox.cells {u : World} {g : Nat} {o : FleetMath.Ord} (h : OBox u g o) : u.cell? ⟨g, 0, none⟩ = some (.int .i64 o.id) ∧ u.cell? ⟨g, 1, none⟩ = some (.int .i64 o.size) ∧ u.cell? ⟨g, 2, none⟩ = some (.int .i64 o.pick.place) ∧ u.cell? ⟨g, 3, none⟩ = some (.int .i64 o.pick.win.fr) ∧ u.cell? ⟨g, 4, none⟩ = some (.int .i64 o.pick.win.to) ∧ u.cell? ⟨g, 5, none⟩ = some (.int .i64 o.pick.serv) ∧
    u.cell? ⟨g, 6, none⟩ = some (.int .i64 o.drop.place) ∧ u.cell? ⟨g, 7, none⟩ = some (.int .i64 o.drop.win.fr) ∧ u.cell? ⟨g, 8, none⟩ = some (.int .i64 o.drop.win.to) ∧ u.cell? ⟨g, 9, none⟩ = some (.int .i64 o.drop.serv) :=
  ⟨Blk.cell h rfl, Blk.cell h rfl, Blk.cell h rfl, Blk.cell h rfl, Blk.cell h rfl, Blk.cell h rfl, Blk.cell h rfl, Blk.cell h rfl, Blk.cell h rfl, Blk.cell h rfl⟩
set_option maxRecDepth 100000 in
set_option maxHeartbeats 4000000 in
theorem rorder_any (base : Nat) (pv : Value) (m : Option Mp) (o : FleetMath.Ord) (w : World) (h : MapP w 110 base pv m) :
    Calls Tryz.prog 120 #[pv, ordV o] w (Gives w (.int .i64 (ordE m o))) := by
  rcases h with ⟨rfl, rfl⟩ | ⟨b, n, l, rfl, rfl, hm, hn1, hn, hmap⟩
  · go_enter Tryz.func120, Tryz.ntmps120
    go_wp2
    go_ret
    exact ⟨rfl, (Below.refl _ _).alloc (Nat.le_refl _) _⟩
  · have HM := Lib.hid hm
    clear hm hmap
    obtain ⟨v, hv⟩ : ∃ v, ordE (some ⟨n, l⟩) o = v := ⟨_, rfl⟩
    have hv' := hv
    rw [ordE_some] at hv'
    rw [hv]
    have HB0 : Hid (Below w.heap.size w (w.alloc (.cells #[.int .i64 o.id, .int .i64 o.size, .int .i64 o.pick.place, .int .i64 o.pick.win.fr, .int .i64 o.pick.win.to, .int .i64 o.pick.serv, .int .i64 o.drop.place, .int .i64 o.drop.win.fr, .int .i64 o.drop.win.to, .int .i64 o.drop.serv] 31))) := (Below.refl _ _).alloc (Nat.le_refl _) _
    have HX0 : Hid (OBox (w.alloc (.cells #[.int .i64 o.id, .int .i64 o.size, .int .i64 o.pick.place, .int .i64 o.pick.win.fr, .int .i64 o.pick.win.to, .int .i64 o.pick.serv, .int .i64 o.drop.place, .int .i64 o.drop.win.fr, .int .i64 o.drop.win.to, .int .i64 o.drop.serv] 31)) w.heap.size o) := Blk.new w _ _
    have HM0 : Hid (MapAt (w.alloc (.cells #[.int .i64 o.id, .int .i64 o.size, .int .i64 o.pick.place, .int .i64 o.pick.win.fr, .int .i64 o.pick.win.to, .int .i64 o.pick.serv, .int .i64 o.drop.place, .int .i64 o.drop.win.fr, .int .i64 o.drop.win.to, .int .i64 o.drop.serv] 31)) 110 base b n l) := HM.out.keep HB0.out (Nat.le_refl _)
    by_cases h1 : o.id < 1 ∨ 1000000 < o.id
    · rw [if_pos h1] at hv'
      subst hv'
      rcases h1 with h1 | h1
      all_goals
        go_enter Tryz.func120, Tryz.ntmps120
        go_wp2
        go_ret
        exact ⟨rfl, HB0.out⟩
    rw [if_neg h1] at hv'
    have h1a : ¬ o.id < 1 := fun h => h1 (.inl h)
    have h1b : ¬ 1000000 < o.id := fun h => h1 (.inr h)
    clear h1
    by_cases h2 : o.size < 1 ∨ 1000 < o.size
    · rw [if_pos h2] at hv'
      subst hv'
      rcases h2 with h2 | h2
      all_goals
        go_enter Tryz.func120, Tryz.ntmps120
        go_wp2
        go_ret
        exact ⟨rfl, HB0.out⟩
    rw [if_neg h2] at hv'
    have h2a : ¬ o.size < 1 := fun h => h2 (.inl h)
    have h2b : ¬ 1000 < o.size := fun h => h2 (.inr h)
    clear h2
    obtain ⟨r1, hr1⟩ : ∃ r, isPlace ⟨n, l⟩ o.pick.place = r := ⟨_, rfl⟩
    obtain ⟨r2, hr2⟩ : ∃ r, isPlace ⟨n, l⟩ o.drop.place = r := ⟨_, rfl⟩
    obtain ⟨r3, hr3⟩ : ∃ r, right o.pick.win = r := ⟨_, rfl⟩
    obtain ⟨r4, hr4⟩ : ∃ r, right o.drop.win = r := ⟨_, rfl⟩
    rw [hr1, hr2, hr3, hr4] at hv'
    have R1 := Lib.hid hr1
    have R2 := Lib.hid hr2
    have R3 := Lib.hid hr3
    have R4 := Lib.hid hr4
    have HV := Lib.hid hv'
    clear hr1 hr2 hr3 hr4 hv hv' HM
    go_enter Tryz.func120, Tryz.ntmps120
    go_wp2_with fail
    refine (rplace_val _ b n l _ r1 _ (by exact HM0.out) R1.out).mono ?_
    rintro e w1 ⟨rfl, d1, hw1⟩
    have HM1 : Hid (MapAt w1 110 base b n l) := by rw [hw1]; exact HM0.out.drewN _
    have HX1 : Hid (OBox w1 w.heap.size o) := by rw [hw1]; exact HX0.out
    have HB1 : Hid (Below w.heap.size w w1) := by rw [hw1]; exact below_drewN HB0.out _
    obtain ⟨c0, c1, c2, c3, c4, c5, c6, c7, c8, c9⟩ := HX1.out.cells
    clear hw1 HM0 HX0 HB0
    cases r1 with
    | false =>
      have e : v = 12 := by have := HV.out; simpa using this.symm
      subst e
      go_wp2_with fail
      go_ret
      exact ⟨rfl, HB1.out⟩
    | true =>
      go_wp2_with fail
      refine (rplace_val _ b n l _ r2 _ HM1.out R2.out).mono ?_
      rintro e w2 ⟨rfl, d2, hw2⟩
      have HX2 : Hid (OBox w2 w.heap.size o) := by rw [hw2]; exact HX1.out
      have HB2 : Hid (Below w.heap.size w w2) := by rw [hw2]; exact below_drewN HB1.out _
      clear c0 c1 c2 c3 c4 c5 c6 c7 c8 c9
      obtain ⟨c0, c1, c2, c3, c4, c5, c6, c7, c8, c9⟩ := HX2.out.cells
      clear hw2 HM1 HX1 HB1
      cases r2 with
      | false =>
        have e : v = 12 := by have := HV.out; simpa using this.symm
        subst e
        go_wp2_with fail
        go_ret
        exact ⟨rfl, HB2.out⟩
      | true =>
        go_wp2_with fail
        refine (rright_val o.pick.win r3 _ R3.out).mono ?_
        rintro e w3 ⟨rfl, hb3⟩
        have HX3 := Lib.hid (HX2.out.below hb3)
        have HB3 : Hid (Below w.heap.size w w3) := HB2.out.trans (hb3.mono HB2.out.size)
        clear c0 c1 c2 c3 c4 c5 c6 c7 c8 c9
        obtain ⟨c0, c1, c2, c3, c4, c5, c6, c7, c8, c9⟩ := HX3.out.cells
        clear hb3 HX2 HB2
        cases r3 with
        | false =>
          have e : v = 13 := by have := HV.out; simpa using this.symm
          subst e
          go_wp2_with fail
          go_ret
          exact ⟨rfl, HB3.out⟩
        | true =>
          go_wp2_with fail
          refine (rright_val o.drop.win r4 _ R4.out).mono ?_
          rintro e w4 ⟨rfl, hb4⟩
          have HX4 := Lib.hid (HX3.out.below hb4)
          have HB4 : Hid (Below w.heap.size w w4) := HB3.out.trans (hb4.mono HB3.out.size)
          clear c0 c1 c2 c3 c4 c5 c6 c7 c8 c9
          obtain ⟨c0, c1, c2, c3, c4, c5, c6, c7, c8, c9⟩ := HX4.out.cells
          clear hb4 HX3 HB3
          cases r4 with
          | false =>
            have e : v = 13 := by have := HV.out; simpa using this.symm
            subst e
            go_wp2_with fail
            go_ret
            exact ⟨rfl, HB4.out⟩
          | true =>
            have hv2 := HV.out
            simp only [Bool.true_eq_false, or_self, if_false] at hv2
            clear HV
            by_cases h5 : o.pick.serv < 0 ∨ 1000000 < o.pick.serv ∨ o.drop.serv < 0 ∨ 1000000 < o.drop.serv
            · rw [if_pos h5] at hv2
              subst hv2
              go_wp2
              all_goals first
                | (go_ret; exact ⟨rfl, HB4.out⟩)
                | (exfalso; omega)
            · rw [if_neg h5] at hv2
              subst hv2
              have s1 : ¬ o.pick.serv < 0 := fun h => h5 (.inl h)
              have s2 : ¬ 1000000 < o.pick.serv := fun h => h5 (.inr (.inl h))
              have s3 : ¬ o.drop.serv < 0 := fun h => h5 (.inr (.inr (.inl h)))
              have s4 : ¬ 1000000 < o.drop.serv := fun h => h5 (.inr (.inr (.inr h)))
              clear h5
              go_wp2
              go_ret
              exact ⟨rfl, HB4.out⟩
end Go.Proofs.YtilggpkmdmelmaaGreat.Deal

namespace Go.Proofs.YtilggpkmdmelmaaGreat.Deal
open Go.ChangeShapes Go.WideShapes Go.ChangeAt Go.RowKit Go.Proofs.YtilggpkmdmelmaaGreat.Mem Go.Proofs.YtilggpkmdmelmaaGreat.GeoMath Go.Proofs.YtilggpkmdmelmaaGreat.FleetMath Go.Proofs.YtilggpkmdmelmaaGreat.Rec Go.Proofs.YtilggpkmdmelmaaGreat.Geo Go.Proofs.YtilggpkmdmelmaaGreat.Span
def DBox (u : World) (g : Nat) (d : Drv) : Prop := Blk u g 33 [.int .i64 d.id, .int .i64 d.room, .int .i64 d.home, .int .i64 d.win.fr, .int .i64 d.win.to, .bool d.retired]
theorem DBox.below {u u' : World} {g : Nat} {d : Drv} (h : DBox u g d) (hb : Below u.heap.size u u') : DBox u' g d := Blk.below h hb (Blk.lt h)
theorem DBox.cells {u : World} {g : Nat} {d : Drv} (h : DBox u g d) : u.cell? ⟨g, 0, none⟩ = some (.int .i64 d.id) ∧ u.cell? ⟨g, 1, none⟩ = some (.int .i64 d.room) ∧ u.cell? ⟨g, 2, none⟩ = some (.int .i64 d.home) ∧ u.cell? ⟨g, 3, none⟩ = some (.int .i64 d.win.fr) ∧ u.cell? ⟨g, 4, none⟩ = some (.int .i64 d.win.to) ∧ u.cell? ⟨g, 5, none⟩ = some (.bool d.retired) :=
  ⟨Blk.cell h rfl, Blk.cell h rfl, Blk.cell h rfl, Blk.cell h rfl, Blk.cell h rfl, Blk.cell h rfl⟩
set_option maxRecDepth 100000 in
set_option maxHeartbeats 4000000 in
theorem rdriver_any (base : Nat) (pv : Value) (m : Option Mp) (d : Drv) (w : World) (h : MapP w 110 base pv m) :
    Calls Tryz.prog 79 #[pv, drvV d] w (Gives w (.int .i64 (drvE m d))) := by
  rcases h with ⟨rfl, rfl⟩ | ⟨b, n, l, rfl, rfl, hm, hn1, hn, hmap⟩
  · go_enter Tryz.func79, Tryz.ntmps79
    go_wp2
    go_ret
    exact ⟨rfl, (Below.refl _ _).alloc (Nat.le_refl _) _⟩
  · have HM := Lib.hid hm
    clear hm hmap
    obtain ⟨v, hv⟩ : ∃ v, drvE (some ⟨n, l⟩) d = v := ⟨_, rfl⟩
    have hv' := hv
    rw [drvE_some] at hv'
    rw [hv]
    have HB0 : Hid (Below w.heap.size w (w.alloc (.cells #[.int .i64 d.id, .int .i64 d.room, .int .i64 d.home, .int .i64 d.win.fr, .int .i64 d.win.to, .bool d.retired] 33))) := (Below.refl _ _).alloc (Nat.le_refl _) _
    have HX0 : Hid (DBox (w.alloc (.cells #[.int .i64 d.id, .int .i64 d.room, .int .i64 d.home, .int .i64 d.win.fr, .int .i64 d.win.to, .bool d.retired] 33)) w.heap.size d) := Blk.new w _ _
    have HM0 : Hid (MapAt (w.alloc (.cells #[.int .i64 d.id, .int .i64 d.room, .int .i64 d.home, .int .i64 d.win.fr, .int .i64 d.win.to, .bool d.retired] 33)) 110 base b n l) := HM.out.keep HB0.out (Nat.le_refl _)
    by_cases h1 : d.id < 1 ∨ 1000000 < d.id
    · rw [if_pos h1] at hv'
      subst hv'
      rcases h1 with h1 | h1
      all_goals
        go_enter Tryz.func79, Tryz.ntmps79
        go_wp2
        go_ret
        exact ⟨rfl, HB0.out⟩
    rw [if_neg h1] at hv'
    have h1a : ¬ d.id < 1 := fun h => h1 (.inl h)
    have h1b : ¬ 1000000 < d.id := fun h => h1 (.inr h)
    clear h1
    by_cases h2 : d.room < 1 ∨ 1000 < d.room
    · rw [if_pos h2] at hv'
      subst hv'
      rcases h2 with h2 | h2
      all_goals
        go_enter Tryz.func79, Tryz.ntmps79
        go_wp2
        go_ret
        exact ⟨rfl, HB0.out⟩
    rw [if_neg h2] at hv'
    have h2a : ¬ d.room < 1 := fun h => h2 (.inl h)
    have h2b : ¬ 1000 < d.room := fun h => h2 (.inr h)
    clear h2
    obtain ⟨r1, hr1⟩ : ∃ r, isPlace ⟨n, l⟩ d.home = r := ⟨_, rfl⟩
    obtain ⟨r3, hr3⟩ : ∃ r, right d.win = r := ⟨_, rfl⟩
    rw [hr1, hr3] at hv'
    have R1 := Lib.hid hr1
    have R3 := Lib.hid hr3
    have HV := Lib.hid hv'
    clear hr1 hr3 hv hv' HM
    go_enter Tryz.func79, Tryz.ntmps79
    go_wp2_with fail
    refine (rplace_val _ b n l _ r1 _ (by exact HM0.out) R1.out).mono ?_
    rintro e w1 ⟨rfl, d1, hw1⟩
    have HX1 : Hid (DBox w1 w.heap.size d) := by rw [hw1]; exact HX0.out
    have HB1 : Hid (Below w.heap.size w w1) := by rw [hw1]; exact below_drewN HB0.out _
    obtain ⟨c0, c1, c2, c3, c4, c5⟩ := HX1.out.cells
    clear hw1 HM0 HX0 HB0
    cases r1 with
    | false =>
      have e : v = 12 := by have := HV.out; simpa using this.symm
      subst e
      go_wp2_with fail
      go_ret
      exact ⟨rfl, HB1.out⟩
    | true =>
      go_wp2_with fail
      refine (rright_val d.win r3 _ R3.out).mono ?_
      rintro e w3 ⟨rfl, hb3⟩
      have HB3 : Hid (Below w.heap.size w w3) := HB1.out.trans (hb3.mono HB1.out.size)
      clear hb3 c0 c1 c2 c3 c4 c5
      cases r3 with
      | false =>
        have e : v = 13 := by have := HV.out; simpa using this.symm
        subst e
        go_wp2_with fail
        go_ret
        exact ⟨rfl, HB3.out⟩
      | true =>
        have e : v = 0 := by have := HV.out; simpa using this.symm
        subst e
        go_wp2_with fail
        go_ret
        exact ⟨rfl, HB3.out⟩
def twoV : Option (Int × Int) → Value
  | none => .tuple #[.int .i64 0, .int .i64 0, .bool false]
  | some (b, v) => .tuple #[.int .i64 b, .int .i64 v, .bool true]
abbrev siteV (s : Site) : Value := .agg #[.int .i64 s.place, .int .i64 s.win.fr, .int .i64 s.win.to, .int .i64 s.serv]
theorem timeV_time {n : Nat} {l : List Int} {a b : Int} : timeV n l a b = time ⟨n, l⟩ a b ∧ (placeB n a && placeB n b) = (isPlace ⟨n, l⟩ a && isPlace ⟨n, l⟩ b) := by
  have h : ∀ x, placeB n x = isPlace ⟨n, l⟩ x := fun x => rfl
  refine ⟨?_, by rw [h, h]⟩
  unfold timeV time
  rw [h, h]
  by_cases h1 : isPlace ⟨n, l⟩ a = true <;> by_cases h2 : isPlace ⟨n, l⟩ b = true <;> simp [h1, h2]
theorem time_bounds {n : Nat} {l : List Int} (h : IsMap n l) (a b : Int) : 0 ≤ time ⟨n, l⟩ a b ∧ time ⟨n, l⟩ a b ≤ 1000000 := by
  unfold time
  split
  · rename_i hp
    simp only [isPlace, decide_eq_true_eq] at hp
    exact ⟨h.T_lo (by omega) (by omega), h.T_hi (by omega) (by omega)⟩
  · omega
def SBox (u : World) (g : Nat) (s : Site) : Prop := Blk u g 29 [.int .i64 s.place, .int .i64 s.win.fr, .int .i64 s.win.to, .int .i64 s.serv]
theorem SBox.below {u u' : World} {g : Nat} {s : Site} (h : SBox u g s) (hb : Below u.heap.size u u') : SBox u' g s := Blk.below h hb (Blk.lt h)
theorem SBox.cells {u : World} {g : Nat} {s : Site} (h : SBox u g s) : u.cell? ⟨g, 0, none⟩ = some (.int .i64 s.place) ∧ u.cell? ⟨g, 1, none⟩ = some (.int .i64 s.win.fr) ∧ u.cell? ⟨g, 2, none⟩ = some (.int .i64 s.win.to) ∧ u.cell? ⟨g, 3, none⟩ = some (.int .i64 s.serv) :=
  ⟨Blk.cell h rfl, Blk.cell h rfl, Blk.cell h rfl, Blk.cell h rfl⟩
theorem rtime_val' (base b n : Nat) (l : List Int) (a c v : Int) (w : World) (h : MapAt w 110 base b n l) (hn : n ≤ 12) (hv : time ⟨n, l⟩ a c = v) :
    Calls Tryz.prog 52 #[.pointer (some ⟨b, 0, none⟩), .int .i64 a, .int .i64 c] w fun e w' => ∃ r d, e = .returned (.tuple #[.int .i64 v, .bool r]) ∧ w' = w.drewN d := by
  refine (rtime_any base b n l a c w h hn).mono ?_
  rintro e w' ⟨rfl, d, rfl⟩
  exact ⟨_, d, by rw [timeV_time.1, hv], rfl⟩
theorem twoV_of {o o' : Option (Int × Int)} {w w' : World} {v : Value} (h : o = o') (hv : v = twoV o) (hb : Below w.heap.size w w') : Gives w (twoV o') (.returned v) w' := ⟨by rw [← h, hv], hb⟩
end Go.Proofs.YtilggpkmdmelmaaGreat.Deal

namespace Go.Proofs.YtilggpkmdmelmaaGreat.Deal
open Go.ChangeShapes Go.WideShapes Go.ChangeAt Go.RowKit Go.Proofs.YtilggpkmdmelmaaGreat.Mem Go.Proofs.YtilggpkmdmelmaaGreat.GeoMath Go.Proofs.YtilggpkmdmelmaaGreat.FleetMath Go.Proofs.YtilggpkmdmelmaaGreat.Rec Go.Proofs.YtilggpkmdmelmaaGreat.Geo Go.Proofs.YtilggpkmdmelmaaGreat.Span
def KnownTo (m : Option Mp) (os : List FleetMath.Ord) (k : Nat) : Prop := (∀ o ∈ os.take k, ordE m o = 0) ∧ Dist (os.take k)
theorem KnownTo.next {m : Option Mp} {os : List FleetMath.Ord} {k : Nat} {o : FleetMath.Ord} (h : KnownTo m os k) (ho : os[k]? = some o) (h0 : ordE m o = 0) (hd : ∀ j p, j < k → os[j]? = some p → p.id ≠ o.id) : KnownTo m os (k + 1) := by
  unfold KnownTo
  rw [List.take_add_one, ho]
  refine ⟨fun x hx => ?_, ?_⟩
  · rcases List.mem_append.1 hx with hx | hx
    · exact h.1 x hx
    · simp at hx; rw [hx]; exact h0
  · refine List.pairwise_append.2 ⟨h.2, by simp, fun x hx y hy => ?_⟩
    simp at hy
    subst hy
    obtain ⟨j, hj⟩ := List.getElem?_of_mem hx
    rw [List.getElem?_take] at hj
    split at hj
    · rename_i hlt; exact hd j x hlt hj
    · cases hj
theorem KnownTo.all {m : Option Mp} {os : List FleetMath.Ord} (h : KnownTo m os os.length) (hl : os.length ≤ 40) : known m os = true := by
  unfold KnownTo at h
  rw [List.take_length] at h
  exact known_iff.2 ⟨hl, h.1, h.2⟩
theorem known_wrong {m : Option Mp} {os : List FleetMath.Ord} {k : Nat} {o : FleetMath.Ord} (ho : os[k]? = some o) (h0 : ordE m o ≠ 0) : known m os = false := by
  cases h : known m os
  · rfl
  · exact absurd ((known_iff.1 h).2.1 o (List.mem_of_getElem? ho)) h0
theorem known_twice {m : Option Mp} {os : List FleetMath.Ord} {j k : Nat} {o p : FleetMath.Ord} (hjk : j < k) (hp : os[j]? = some p) (ho : os[k]? = some o) (he : p.id = o.id) : known m os = false := by
  cases h : known m os
  · rfl
  · have hd := (known_iff.1 h).2.2
    have hlj := (List.getElem?_eq_some_iff.1 hp).1
    have hlk := (List.getElem?_eq_some_iff.1 ho).1
    have := List.pairwise_iff_getElem.1 hd j k hlj hlk hjk
    rw [(List.getElem?_eq_some_iff.1 hp).2, (List.getElem?_eq_some_iff.1 ho).2] at this
    exact absurd he this
theorem rorder_val (base : Nat) (pv : Value) (m : Option Mp) (o : FleetMath.Ord) (v : Int) (w : World) (h : MapP w 110 base pv m) (hv : ordE m o = v) :
    Calls Tryz.prog 120 #[pv, ordV o] w (Gives w (.int .i64 v)) := by rw [← hv]; exact rorder_any base pv m o w h
set_option maxRecDepth 100000 in
set_option maxHeartbeats 4000000 in
theorem rknown_any (base : Nat) (pv : Value) (m : Option Mp) (A : Option Addr) (n c : Nat) (os : List FleetMath.Ord) (w : World) (h : MapP w 110 base pv m) (hl : Ords w w.heap.size A n os) :
    Calls Tryz.prog 77 #[pv, .slice A n c] w (Gives w (.bool (known m os))) := by
  have hm := Recs.le hl
  have HI := Lib.hid hl
  have HL := Lib.hid hl.length
  have HP := Lib.hid h
  obtain ⟨q, hq⟩ : ∃ q, pv = .pointer q := by
    rcases h with ⟨rfl, _⟩ | ⟨b, _, _, rfl, _⟩
    · exact ⟨_, rfl⟩
    · exact ⟨_, rfl⟩
  subst hq
  clear hl h
  by_cases h40 : 40 < n
  · have HN : Hid (known m os = false) := by
      cases hk : known m os
      · exact rfl
      · have := (known_iff.1 hk).1; have := HL.out; omega
    go_enter Tryz.func77, Tryz.ntmps77
    go_wp2
    go_ret
    exact gives_bool HN.out.symm (Below.refl _ _)
  · go_enter Tryz.func77, Tryz.ntmps77
    go_wp2
    go_loopw [5] (fun i wr => ∃ k : Nat, k ≤ n ∧ i = .int .i64 k ∧ Hid (Below w.heap.size w wr) ∧ Hid (KnownTo m os k)) (fun i _ => n - (intOf i).toNat)
    case atStart => exact ⟨0, Nat.zero_le _, rfl, Below.refl _ _, by simp, by simp [Dist]⟩
    case round =>
      obtain ⟨k, hk, rfl, HB, HK⟩ := hrel
      by_cases hlt : k < n
      · obtain ⟨b, off, o, rfl, hb, ho, _, c0, c1, c2, c3, c4, c5, c6, c7, c8, c9⟩ := Ords.at_ (Recs.keep HI.out HB.out) hlt
        obtain ⟨v, hv⟩ : ∃ v, ordE m o = v := ⟨_, rfl⟩
        have HV := Lib.hid hv
        have HO := Lib.hid ho
        have hbw : b < wr.heap.size := Nat.lt_of_lt_of_le hb HB.out.size
        clear hv ho
        go_wp2_with fail
        refine (rorder_val base _ m o v _ (by
          rcases HP.out with h | ⟨b', n', l', h1, h2, h3, h4⟩
          · exact .inl h
          · exact .inr ⟨b', n', l', h1, h2, h3.keep HB.out (Nat.le_refl _), h4⟩) HV.out).mono ?_
        rintro e w1 ⟨rfl, hb1⟩
        have HB1 : Hid (Below w.heap.size w w1) := HB.out.trans (hb1.mono HB.out.size)
        clear hb1 c0 c1 c2 c3 c4 c5 c6 c7 c8 c9
        by_cases hv0 : v = 0
        · subst hv0
          go_wp2_with fail
          go_loopw [6] (fun i wi => ∃ (j d : Nat), j ≤ k ∧ i = .int .i64 j ∧ wi = w1.drewN d ∧ Hid (∀ t p, t < j → os[t]? = some p → p.id ≠ o.id)) (fun i _ => k - (intOf i).toNat)
          case atStart => exact ⟨0, 0, Nat.zero_le _, rfl, rfl, fun t p ht => absurd ht (by omega)⟩
          case round =>
            obtain ⟨j, d, hj, rfl, rfl, HJ⟩ := hrel
            by_cases hlt2 : j < k
            · obtain ⟨b2, off2, p, e2, _, hp, _, e0, _⟩ := Ords.at_ (Recs.keep HI.out HB1.out) (show j < n by omega)
              obtain ⟨b3, off3, o3, e3, _, ho3, _, f0, _⟩ := Ords.at_ (Recs.keep HI.out HB1.out) hlt
              injection e2 with e2; injection e2 with e2 e2'
              injection e3 with e3; injection e3 with e3 e3'
              subst e2; subst e2'; subst e3; subst e3'
              rw [HO.out] at ho3
              injection ho3 with ho3
              subst ho3
              have HP2 := Lib.hid hp
              have hjn : (j : Int) < (n : Int) := by omega
              clear hp
              by_cases hid : p.id = o.id
              · have HN : Hid (known m os = false) := known_twice hlt2 HP2.out HO.out hid
                obtain ⟨x, hx⟩ : ∃ x, p.id = x := ⟨_, rfl⟩
                rw [hx] at hid e0
                rw [← hid] at f0
                clear hx hid
                go_wp2
                go_quiet (fail)
                go_wp2
                go_ret
                exact gives_bool HN.out.symm (below_drewN (below_drewN HB1.out _) _)
              · have HJ2 : Hid (∀ t p, t < j + 1 → os[t]? = some p → p.id ≠ o.id) := fun t p' ht hp' => by
                  by_cases htj : t = j
                  · subst htj
                    rw [HP2.out] at hp'
                    injection hp' with hp'
                    rw [← hp']; exact hid
                  · exact HJ.out t p' (by omega) hp'
                obtain ⟨n1, n2⟩ : (p.id == o.id) = false ∧ (p.id != o.id) = true := by simp [hid]
                go_wp2
                go_quiet (fail)
                go_wp2
                go_roundw
                case rel => exact ⟨j + 1, _, by omega, by go_num, rfl, HJ2⟩
                case measure => simp [intOf]; omega
            · have HN : Hid (KnownTo m os (k + 1)) := HK.out.next HO.out HV.out fun t p ht hp => HJ.out t p (by omega) hp
              go_wp2
              go_roundw
              case rel => exact ⟨k + 1, by omega, by go_num, below_drewN HB1.out _, HN⟩
              case measure => simp [intOf]; omega
        · have HN : Hid (known m os = false) := known_wrong HO.out (by rw [HV.out]; exact hv0)
          obtain ⟨n1, n2⟩ : (v == 0) = false ∧ (v != 0) = true := by simp [hv0]
          clear hv0
          go_wp2_with fail
          go_ret
          exact gives_bool HN.out.symm HB1.out
      · have HN : Hid (known m os = true) := by
          have e : k = os.length := by have := HL.out; omega
          have := HK.out
          rw [e] at this
          exact this.all (by have := HL.out; omega)
        go_wp2
        go_ret
        exact gives_bool HN.out.symm HB.out
end Go.Proofs.YtilggpkmdmelmaaGreat.Deal
