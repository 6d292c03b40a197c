/-
  The document's own answer to chapter 6, walked: Alone.
-/
import Derived.Test.YtofkhpcigjcegaaDealRDriver
import Derived.Test.YtofkhpcigjcegaaDealRKnown
namespace Go.Proofs.Ytofkhpcigjcegaa.Deal
open Go.ChangeShapes Go.WideShapes Go.ChangeAt Go.RowKit Go.Proofs.Ytofkhpcigjcegaa.Mem Go.Proofs.Ytofkhpcigjcegaa.GeoMath Go.Proofs.Ytofkhpcigjcegaa.FleetMath Go.Proofs.Ytofkhpcigjcegaa.Rec Go.Proofs.Ytofkhpcigjcegaa.Geo Go.Proofs.Ytofkhpcigjcegaa.Span

theorem rdriver_val (base : Nat) (pv : Value) (m : Option Mp) (d : Drv) (v : Int) (w : World) (h : MapP w 82 base pv m) (hv : drvE m d = v) :
    Calls Try.prog 16 #[pv, drvV d] w (Gives w (.int .i64 v)) := by rw [← hv]; exact rdriver_any base pv m d w h
theorem rserved_val (base b n : Nat) (l : List Int) (f t0 : Int) (s : Site) (u : Int) (o : Option (Int × Int)) (w : World) (h : MapAt w 82 base b n l) (hn : n ≤ 12) (hm : IsMap n l) (ht0 : -1000000000 ≤ t0) (ht1 : t0 ≤ 1000000000) (hs0 : 0 ≤ s.serv) (hs1 : s.serv ≤ 1000000) (ho : FleetMath.served ⟨n, l⟩ f t0 s u = o) :
    Calls Try.prog 31 #[.pointer (some ⟨b, 0, none⟩), .int .i64 f, .int .i64 t0, siteV s, .int .i64 u] w (Gives w (twoV o)) := by rw [← ho]; exact rserved_any base b n l f t0 s u w h hn hm ht0 ht1 hs0 hs1
/-- what stays through Alone -/
def AB (w : World) (base : Nat) (pv : Value) (m : Option Mp) (d : Drv) (o : FleetMath.Ord) (u : World) : Prop := Below w.heap.size w u ∧ MapP u 82 base pv m ∧ DBox u w.heap.size d ∧ OBox u (w.heap.size + 1) o
theorem AB.below {w u u' : World} {base : Nat} {pv : Value} {m : Option Mp} {d : Drv} {o : FleetMath.Ord} (h : AB w base pv m d o u) (hb : Below u.heap.size u u') : AB w base pv m d o u' :=
  ⟨h.1.trans (hb.mono h.1.size), h.2.1.keep hb, h.2.2.1.below hb, h.2.2.2.below hb⟩
theorem AB.new {w : World} {base : Nat} {pv : Value} {m : Option Mp} {d : Drv} {o : FleetMath.Ord} (h : MapP w 82 base pv m) :
    AB w base pv m d o ((w.alloc (.cells #[.int .i64 d.id, .int .i64 d.room, .int .i64 d.home, .int .i64 d.win.fr, .int .i64 d.win.to, .bool d.retired] 33)).alloc (.cells #[.int .i64 o.id, .int .i64 o.size, .int .i64 o.pick.place, .int .i64 o.pick.win.fr, .int .i64 o.pick.win.to, .int .i64 o.pick.serv, .int .i64 o.drop.place, .int .i64 o.drop.win.fr, .int .i64 o.drop.win.to, .int .i64 o.drop.serv] 31)) := by
  have h1 : DBox (w.alloc (.cells #[.int .i64 d.id, .int .i64 d.room, .int .i64 d.home, .int .i64 d.win.fr, .int .i64 d.win.to, .bool d.retired] 33)) w.heap.size d := Blk.new w _ _
  have h2 := Blk.new (w.alloc (.cells #[.int .i64 d.id, .int .i64 d.room, .int .i64 d.home, .int .i64 d.win.fr, .int .i64 d.win.to, .bool d.retired] 33)) 31 [.int .i64 o.id, .int .i64 o.size, .int .i64 o.pick.place, .int .i64 o.pick.win.fr, .int .i64 o.pick.win.to, .int .i64 o.pick.serv, .int .i64 o.drop.place, .int .i64 o.drop.win.fr, .int .i64 o.drop.win.to, .int .i64 o.drop.serv]
  rw [World.size_alloc] at h2
  have b1 : Below w.heap.size w (w.alloc (.cells #[.int .i64 d.id, .int .i64 d.room, .int .i64 d.home, .int .i64 d.win.fr, .int .i64 d.win.to, .bool d.retired] 33)) := (Below.refl _ _).alloc (Nat.le_refl _) _
  have b2 := b1.alloc b1.size (.cells #[.int .i64 o.id, .int .i64 o.size, .int .i64 o.pick.place, .int .i64 o.pick.win.fr, .int .i64 o.pick.win.to, .int .i64 o.pick.serv, .int .i64 o.drop.place, .int .i64 o.drop.win.fr, .int .i64 o.drop.win.to, .int .i64 o.drop.serv] 31)
  exact ⟨b2, h.keep b2, h1.below ((Below.refl _ _).alloc (Nat.le_refl _) _), h2⟩

theorem served_left {m : Mp} {f t0 u b v : Int} {s : Site} (h : FleetMath.served m f t0 s u = some (b, v)) (hs : 0 ≤ s.serv) (hs1 : s.serv ≤ 1000000) : 0 ≤ v ∧ v ≤ 2000000 := by
  obtain ⟨h1, h2, _⟩ := served_some.1 h
  have h3 := beginT_in h1
  have h4 := right_iff.1 (has_iff.1 h3.1).1
  omega

set_option maxRecDepth 100000 in
set_option maxHeartbeats 4000000 in
theorem ralone_any (base : Nat) (pv : Value) (m : Option Mp) (d : Drv) (o : FleetMath.Ord) (w : World) (h : MapP w 82 base pv m) :
    Calls Try.prog 14 #[pv, drvV d, ordV o] w (Gives w (optV (alone m d o))) := by
  have A0 := Lib.hid (AB.new (d := d) (o := o) h)
  obtain ⟨q, hq⟩ : ∃ q, pv = .pointer q := by
    rcases h with ⟨rfl, _⟩ | ⟨b, _, _, rfl, _⟩
    · exact ⟨_, rfl⟩
    · exact ⟨_, rfl⟩
  subst hq
  clear h
  obtain ⟨v1, hv1⟩ : ∃ v, ordE m o = v := ⟨_, rfl⟩
  obtain ⟨v2, hv2⟩ : ∃ v, drvE m d = v := ⟨_, rfl⟩
  have V1 := Lib.hid hv1
  have V2 := Lib.hid hv2
  have HNO : Hid ((v1 ≠ 0 ∨ v2 ≠ 0 ∨ d.room < o.size) → alone m d o = none) := fun h => by
    unfold alone
    split
    · rfl
    · rename_i m'
      exact if_pos (by rw [hv1, hv2]; exact h)
  clear hv1 hv2
  go_enter Try.func14, Try.ntmps14
  go_wp2_with fail
  refine (rorder_val base _ m o v1 _ (by exact A0.out.2.1) V1.out).mono ?_
  rintro e w1 ⟨rfl, hb⟩
  have A1 := Lib.hid (A0.out.below hb)
  clear hb A0
  by_cases h1 : v1 ≠ 0
  · have HN := Lib.hid (HNO.out (.inl h1))
    obtain ⟨n1, n2⟩ : (v1 == 0) = false ∧ (v1 != 0) = true := by simp [h1]
    clear h1
    go_wp2_with fail
    go_ret2
    exact gives_opt HN.out.symm rfl A1.out.1
  replace h1 : v1 = 0 := Decidable.not_not.1 h1
  subst h1
  obtain ⟨d0, d1, d2, d3, d4, d5⟩ := A1.out.2.2.1.cells
  obtain ⟨o0, o1, o2, o3, o4, o5, o6, o7, o8, o9⟩ := A1.out.2.2.2.cells
  go_wp2_with fail
  refine (rdriver_val base _ m d v2 _ A1.out.2.1 V2.out).mono ?_
  rintro e w2 ⟨rfl, hb⟩
  have A2 := Lib.hid (A1.out.below hb)
  clear hb A1 d0 d1 d2 d3 d4 d5 o0 o1 o2 o3 o4 o5 o6 o7 o8 o9
  by_cases h2 : v2 ≠ 0
  · have HN := Lib.hid (HNO.out (.inr (.inl h2)))
    obtain ⟨n1, n2⟩ : (v2 == 0) = false ∧ (v2 != 0) = true := by simp [h2]
    clear h2
    go_wp2_with fail
    go_ret2
    exact gives_opt HN.out.symm rfl A2.out.1
  replace h2 : v2 = 0 := Decidable.not_not.1 h2
  subst h2
  obtain ⟨d0, d1, d2, d3, d4, d5⟩ := A2.out.2.2.1.cells
  obtain ⟨o0, o1, o2, o3, o4, o5, o6, o7, o8, o9⟩ := A2.out.2.2.2.cells
  by_cases h3 : d.room < o.size
  · have HN := Lib.hid (HNO.out (.inr (.inr h3)))
    go_wp2_with fail
    go_ret2
    exact gives_opt HN.out.symm rfl A2.out.1
  clear HNO
  obtain ⟨m', hm', hok⟩ := ordE_ok.1 V1.out
  obtain ⟨m2, hm2, hdk⟩ := drvE_ok.1 V2.out
  subst hm'
  injection hm2 with hm2
  subst hm2
  obtain ⟨n, l⟩ := m'
  have HAL : Hid (alone (some ⟨n, l⟩) d o = match FleetMath.served ⟨n, l⟩ d.home d.win.fr o.pick d.win.to with
      | none => none
      | some (_, t) => match FleetMath.served ⟨n, l⟩ o.pick.place t o.drop d.win.to with
        | none => none
        | some (_, v) => some v) := by
    unfold alone
    simp only
    rw [if_neg]
    · exact rfl
    · rw [V1.out, V2.out]; rintro (h | h | h)
      · exact h rfl
      · exact h rfl
      · exact h3 h
  obtain ⟨b, hqb, hmb, hn1, hn, hmap⟩ : ∃ b, q = some ⟨b, 0, none⟩ ∧ (∀ u, MapP u 82 base (.pointer q) (some ⟨n, l⟩) → MapAt u 82 base b n l) ∧ 1 ≤ n ∧ n ≤ 12 ∧ IsMap n l := by
    rcases A2.out.2.1 with ⟨_, h⟩ | ⟨b, n', l', h1, h2, h3, h4, h5, h6⟩
    · cases h
    · injection h1 with h1
      injection h2 with h2
      injection h2 with h2 h2'
      subst h2; subst h2'
      refine ⟨b, h1, fun u hu => ?_, h4, h5, h6⟩
      rcases hu with ⟨_, h⟩ | ⟨b', n', l', g1, g2, g3, _⟩
      · cases h
      · injection g1 with g1
        rw [h1] at g1
        injection g1 with g1
        injection g1 with g1
        injection g2 with g2
        injection g2 with g2 g2'
        subst g1; subst g2; subst g2'
        exact g3
  subst hqb
  have HMB := Lib.hid hmb
  have HMAP := Lib.hid hmap
  have hw := right_iff.1 hdk.win
  obtain ⟨hw1, hw2, hw3⟩ := hw
  obtain ⟨s1, s2⟩ := hok.pickS
  obtain ⟨s3, s4⟩ := hok.dropS
  clear hmb hmap hok hdk
  obtain ⟨r1, hr1⟩ : ∃ r, FleetMath.served ⟨n, l⟩ d.home d.win.fr o.pick d.win.to = r := ⟨_, rfl⟩
  have hal := HAL.out
  rw [hr1] at hal
  have R1 := Lib.hid hr1
  have HAL1 := Lib.hid hal
  clear hr1 hal HAL
  have h3' : ¬ d.room < o.size := h3
  go_wp2_with fail
  refine (rserved_val base b n l d.home d.win.fr o.pick d.win.to r1 _ (HMB.out _ A2.out.2.1) hn HMAP.out (by omega) (by omega) s1 s2 R1.out).mono ?_
  rintro e w3 ⟨rfl, hb⟩
  have A3 := Lib.hid (A2.out.below hb)
  clear hb A2 d0 d1 d2 d3 d4 d5 o0 o1 o2 o3 o4 o5 o6 o7 o8 o9
  cases r1 with
  | none =>
    have HN : Hid (alone (some ⟨n, l⟩) d o = none) := HAL1.out
    clear HAL1
    simp only [twoV]
    go_wp2_with fail
    go_ret2
    exact gives_opt HN.out.symm rfl A3.out.1
  | some p =>
    obtain ⟨x, t⟩ := p
    obtain ⟨k1, k2⟩ := served_left R1.out s1 s2
    obtain ⟨r2, hr2⟩ : ∃ r, FleetMath.served ⟨n, l⟩ o.pick.place t o.drop d.win.to = r := ⟨_, rfl⟩
    have hal := HAL1.out
    simp only at hal
    rw [hr2] at hal
    have R2 := Lib.hid hr2
    have HAL2 := Lib.hid hal
    clear hr2 hal HAL1
    obtain ⟨d0, d1, d2, d3, d4, d5⟩ := A3.out.2.2.1.cells
    obtain ⟨o0, o1, o2, o3, o4, o5, o6, o7, o8, o9⟩ := A3.out.2.2.2.cells
    simp only [twoV]
    go_wp2_with fail
    refine (rserved_val base b n l o.pick.place t o.drop d.win.to r2 _ (HMB.out _ A3.out.2.1) hn HMAP.out (by omega) (by omega) s3 s4 R2.out).mono ?_
    rintro e w4 ⟨rfl, hb⟩
    have A4 := Lib.hid (A3.out.below hb)
    clear hb A3 d0 d1 d2 d3 d4 d5 o0 o1 o2 o3 o4 o5 o6 o7 o8 o9
    cases r2 with
    | none =>
      have HN : Hid (alone (some ⟨n, l⟩) d o = none) := HAL2.out
      clear HAL2
      simp only [twoV]
      go_wp2_with fail
      go_ret2
      exact gives_opt HN.out.symm rfl A4.out.1
    | some p2 =>
      obtain ⟨x2, v⟩ := p2
      have HN : Hid (alone (some ⟨n, l⟩) d o = some v) := HAL2.out
      clear HAL2
      simp only [twoV]
      go_wp2_with fail
      go_ret2
      exact gives_opt HN.out.symm rfl A4.out.1

#print axioms ralone_any
end Go.Proofs.Ytofkhpcigjcegaa.Deal
