/-
  The document's own answer to chapter 6, walked: place, Order, Driver.
-/
import Derived.Test.YtobcmlcmbnldlaaGeoRTime
import Derived.Test.YtobcmlcmbnldlaaSpanAll
import Derived.Test.YtobcmlcmbnldlaaWords
namespace Go.Proofs.Ytobcmlcmbnldlaa.Deal
open Go.ChangeShapes Go.WideShapes Go.ChangeAt Go.RowKit Go.Proofs.Ytobcmlcmbnldlaa.Mem Go.Proofs.Ytobcmlcmbnldlaa.GeoMath Go.Proofs.Ytobcmlcmbnldlaa.FleetMath Go.Proofs.Ytobcmlcmbnldlaa.Rec Go.Proofs.Ytobcmlcmbnldlaa.Geo Go.Proofs.Ytobcmlcmbnldlaa.Span

/-- a pointer to a map, nil let in -/
def MapP (w : World) (t : TypeId) (base : Nat) (pv : Value) (m : Option Mp) : Prop :=
  (pv = .pointer none ∧ m = none) ∨ ∃ b n l, pv = .pointer (some ⟨b, 0, none⟩) ∧ m = some ⟨n, l⟩ ∧ MapAt w t base b n l ∧ 1 ≤ n ∧ n ≤ 12 ∧ IsMap n l
theorem MapP.keep {w w' : World} {t : TypeId} {base : Nat} {pv : Value} {m : Option Mp} (h : MapP w t base pv m) (hb : Below w.heap.size w w') : MapP w' t base pv m := by
  rcases h with h | ⟨b, n, l, h1, h2, h3, h4⟩
  · exact .inl h
  · exact .inr ⟨b, n, l, h1, h2, h3.keep hb (Nat.le_refl _), h4⟩

theorem MapP.lower {w : World} {t : TypeId} {base base' : Nat} {pv : Value} {m : Option Mp} (h : MapP w t base pv m) (hb : base' ≤ base) : MapP w t base' pv m := by
  rcases h with h | ⟨b, n, l, h1, h2, h3, h4⟩
  · exact .inl h
  · exact .inr ⟨b, n, l, h1, h2, h3.lower hb, h4⟩

theorem rplace_any (base b n : Nat) (l : List Int) (p : Int) (w : World) (h : MapAt w 106 base b n l) :
    Calls Try.prog 63 #[.pointer (some ⟨b, 0, none⟩), .int .i64 p] w (Quietly w (.bool (isPlace ⟨n, l⟩ p))) := by
  obtain ⟨g, c, hb, _, _⟩ := h.open_
  have z0 := hb.cell (i := 0) rfl
  clear hb h
  go_enter Try.func63, Try.ntmps63
  go_wp2
  all_goals
    go_ret
    refine ⟨ret_bool ?_, 0, rfl⟩
    first
      | (simp_all [isPlace]; done)
      | (simp_all [isPlace]; omega)
theorem rplace_val (base b n : Nat) (l : List Int) (p : Int) (r : Bool) (w : World) (h : MapAt w 106 base b n l) (hr : isPlace ⟨n, l⟩ p = r) :
    Calls Try.prog 63 #[.pointer (some ⟨b, 0, none⟩), .int .i64 p] w (Quietly w (.bool r)) := by rw [← hr]; exact rplace_any base b n l p w h

/-- an order in a block of its own -/
def OBox (u : World) (g : Nat) (o : FleetMath.Ord) : Prop := Blk u g 31 [.int .i64 o.id, .int .i64 o.size, .int .i64 o.pick.place, .int .i64 o.pick.win.fr, .int .i64 o.pick.win.to, .int .i64 o.pick.serv, .int .i64 o.drop.place, .int .i64 o.drop.win.fr, .int .i64 o.drop.win.to, .int .i64 o.drop.serv]
theorem OBox.below {u u' : World} {g : Nat} {o : FleetMath.Ord} (h : OBox u g o) (hb : Below u.heap.size u u') : OBox u' g o := Blk.below h hb (Blk.lt h)
theorem OBox.cells {u : World} {g : Nat} {o : FleetMath.Ord} (h : OBox u g o) : u.cell? ⟨g, 0, none⟩ = some (.int .i64 o.id) ∧ u.cell? ⟨g, 1, none⟩ = some (.int .i64 o.size) ∧ u.cell? ⟨g, 2, none⟩ = some (.int .i64 o.pick.place) ∧ u.cell? ⟨g, 3, none⟩ = some (.int .i64 o.pick.win.fr) ∧ u.cell? ⟨g, 4, none⟩ = some (.int .i64 o.pick.win.to) ∧ u.cell? ⟨g, 5, none⟩ = some (.int .i64 o.pick.serv) ∧
    u.cell? ⟨g, 6, none⟩ = some (.int .i64 o.drop.place) ∧ u.cell? ⟨g, 7, none⟩ = some (.int .i64 o.drop.win.fr) ∧ u.cell? ⟨g, 8, none⟩ = some (.int .i64 o.drop.win.to) ∧ u.cell? ⟨g, 9, none⟩ = some (.int .i64 o.drop.serv) :=
  ⟨Blk.cell h rfl, Blk.cell h rfl, Blk.cell h rfl, Blk.cell h rfl, Blk.cell h rfl, Blk.cell h rfl, Blk.cell h rfl, Blk.cell h rfl, Blk.cell h rfl, Blk.cell h rfl⟩

set_option maxRecDepth 100000 in
set_option maxHeartbeats 4000000 in
theorem rorder_any (base : Nat) (pv : Value) (m : Option Mp) (o : FleetMath.Ord) (w : World) (h : MapP w 106 base pv m) :
    Calls Try.prog 64 #[pv, ordV o] w (Gives w (.int .i64 (ordE m o))) := by
  rcases h with ⟨rfl, rfl⟩ | ⟨b, n, l, rfl, rfl, hm, hn1, hn, hmap⟩
  · go_enter Try.func64, Try.ntmps64
    go_wp2
    go_ret
    exact ⟨rfl, (Below.refl _ _).alloc (Nat.le_refl _) _⟩
  · have HM := Lib.hid hm
    clear hm hmap
    obtain ⟨v, hv⟩ : ∃ v, ordE (some ⟨n, l⟩) o = v := ⟨_, rfl⟩
    have hv' := hv
    rw [ordE_some] at hv'
    rw [hv]
    have HB0 : Hid (Below w.heap.size w (w.alloc (.cells #[.int .i64 o.id, .int .i64 o.size, .int .i64 o.pick.place, .int .i64 o.pick.win.fr, .int .i64 o.pick.win.to, .int .i64 o.pick.serv, .int .i64 o.drop.place, .int .i64 o.drop.win.fr, .int .i64 o.drop.win.to, .int .i64 o.drop.serv] 31))) := (Below.refl _ _).alloc (Nat.le_refl _) _
    have HX0 : Hid (OBox (w.alloc (.cells #[.int .i64 o.id, .int .i64 o.size, .int .i64 o.pick.place, .int .i64 o.pick.win.fr, .int .i64 o.pick.win.to, .int .i64 o.pick.serv, .int .i64 o.drop.place, .int .i64 o.drop.win.fr, .int .i64 o.drop.win.to, .int .i64 o.drop.serv] 31)) w.heap.size o) := Blk.new w _ _
    have HM0 : Hid (MapAt (w.alloc (.cells #[.int .i64 o.id, .int .i64 o.size, .int .i64 o.pick.place, .int .i64 o.pick.win.fr, .int .i64 o.pick.win.to, .int .i64 o.pick.serv, .int .i64 o.drop.place, .int .i64 o.drop.win.fr, .int .i64 o.drop.win.to, .int .i64 o.drop.serv] 31)) 106 base b n l) := HM.out.keep HB0.out (Nat.le_refl _)
    by_cases h1 : o.id < 1 ∨ 1000000 < o.id
    · rw [if_pos h1] at hv'
      subst hv'
      rcases h1 with h1 | h1
      all_goals
        go_enter Try.func64, Try.ntmps64
        go_wp2
        go_ret
        exact ⟨rfl, HB0.out⟩
    rw [if_neg h1] at hv'
    have h1a : ¬ o.id < 1 := fun h => h1 (.inl h)
    have h1b : ¬ 1000000 < o.id := fun h => h1 (.inr h)
    clear h1
    by_cases h2 : o.size < 1 ∨ 1000 < o.size
    · rw [if_pos h2] at hv'
      subst hv'
      rcases h2 with h2 | h2
      all_goals
        go_enter Try.func64, Try.ntmps64
        go_wp2
        go_ret
        exact ⟨rfl, HB0.out⟩
    rw [if_neg h2] at hv'
    have h2a : ¬ o.size < 1 := fun h => h2 (.inl h)
    have h2b : ¬ 1000 < o.size := fun h => h2 (.inr h)
    clear h2
    obtain ⟨r1, hr1⟩ : ∃ r, isPlace ⟨n, l⟩ o.pick.place = r := ⟨_, rfl⟩
    obtain ⟨r2, hr2⟩ : ∃ r, isPlace ⟨n, l⟩ o.drop.place = r := ⟨_, rfl⟩
    obtain ⟨r3, hr3⟩ : ∃ r, right o.pick.win = r := ⟨_, rfl⟩
    obtain ⟨r4, hr4⟩ : ∃ r, right o.drop.win = r := ⟨_, rfl⟩
    rw [hr1, hr2, hr3, hr4] at hv'
    have R1 := Lib.hid hr1
    have R2 := Lib.hid hr2
    have R3 := Lib.hid hr3
    have R4 := Lib.hid hr4
    have HV := Lib.hid hv'
    clear hr1 hr2 hr3 hr4 hv hv' HM
    go_enter Try.func64, Try.ntmps64
    go_wp2_with fail
    refine (rplace_val _ b n l _ r1 _ (by exact HM0.out) R1.out).mono ?_
    rintro e w1 ⟨rfl, d1, hw1⟩
    have HM1 : Hid (MapAt w1 106 base b n l) := by rw [hw1]; exact HM0.out.drewN _
    have HX1 : Hid (OBox w1 w.heap.size o) := by rw [hw1]; exact HX0.out
    have HB1 : Hid (Below w.heap.size w w1) := by rw [hw1]; exact below_drewN HB0.out _
    obtain ⟨c0, c1, c2, c3, c4, c5, c6, c7, c8, c9⟩ := HX1.out.cells
    clear hw1 HM0 HX0 HB0
    cases r1 with
    | false =>
      have e : v = 12 := by have := HV.out; simpa using this.symm
      subst e
      go_wp2_with fail
      go_ret
      exact ⟨rfl, HB1.out⟩
    | true =>
      go_wp2_with fail
      refine (rplace_val _ b n l _ r2 _ HM1.out R2.out).mono ?_
      rintro e w2 ⟨rfl, d2, hw2⟩
      have HX2 : Hid (OBox w2 w.heap.size o) := by rw [hw2]; exact HX1.out
      have HB2 : Hid (Below w.heap.size w w2) := by rw [hw2]; exact below_drewN HB1.out _
      clear c0 c1 c2 c3 c4 c5 c6 c7 c8 c9
      obtain ⟨c0, c1, c2, c3, c4, c5, c6, c7, c8, c9⟩ := HX2.out.cells
      clear hw2 HM1 HX1 HB1
      cases r2 with
      | false =>
        have e : v = 12 := by have := HV.out; simpa using this.symm
        subst e
        go_wp2_with fail
        go_ret
        exact ⟨rfl, HB2.out⟩
      | true =>
        go_wp2_with fail
        refine (rright_val o.pick.win r3 _ R3.out).mono ?_
        rintro e w3 ⟨rfl, hb3⟩
        have HX3 := Lib.hid (HX2.out.below hb3)
        have HB3 : Hid (Below w.heap.size w w3) := HB2.out.trans (hb3.mono HB2.out.size)
        clear c0 c1 c2 c3 c4 c5 c6 c7 c8 c9
        obtain ⟨c0, c1, c2, c3, c4, c5, c6, c7, c8, c9⟩ := HX3.out.cells
        clear hb3 HX2 HB2
        cases r3 with
        | false =>
          have e : v = 13 := by have := HV.out; simpa using this.symm
          subst e
          go_wp2_with fail
          go_ret
          exact ⟨rfl, HB3.out⟩
        | true =>
          go_wp2_with fail
          refine (rright_val o.drop.win r4 _ R4.out).mono ?_
          rintro e w4 ⟨rfl, hb4⟩
          have HX4 := Lib.hid (HX3.out.below hb4)
          have HB4 : Hid (Below w.heap.size w w4) := HB3.out.trans (hb4.mono HB3.out.size)
          clear c0 c1 c2 c3 c4 c5 c6 c7 c8 c9
          obtain ⟨c0, c1, c2, c3, c4, c5, c6, c7, c8, c9⟩ := HX4.out.cells
          clear hb4 HX3 HB3
          cases r4 with
          | false =>
            have e : v = 13 := by have := HV.out; simpa using this.symm
            subst e
            go_wp2_with fail
            go_ret
            exact ⟨rfl, HB4.out⟩
          | true =>
            have hv2 := HV.out
            simp only [Bool.true_eq_false, or_self, if_false] at hv2
            clear HV
            by_cases h5 : o.pick.serv < 0 ∨ 1000000 < o.pick.serv ∨ o.drop.serv < 0 ∨ 1000000 < o.drop.serv
            · rw [if_pos h5] at hv2
              subst hv2
              go_wp2
              all_goals first
                | (go_ret; exact ⟨rfl, HB4.out⟩)
                | (exfalso; omega)
            · rw [if_neg h5] at hv2
              subst hv2
              have s1 : ¬ o.pick.serv < 0 := fun h => h5 (.inl h)
              have s2 : ¬ 1000000 < o.pick.serv := fun h => h5 (.inr (.inl h))
              have s3 : ¬ o.drop.serv < 0 := fun h => h5 (.inr (.inr (.inl h)))
              have s4 : ¬ 1000000 < o.drop.serv := fun h => h5 (.inr (.inr (.inr h)))
              clear h5
              go_wp2
              go_ret
              exact ⟨rfl, HB4.out⟩

#print axioms rplace_any
#print axioms rorder_any
end Go.Proofs.Ytobcmlcmbnldlaa.Deal
