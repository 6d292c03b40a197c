import Derived.Test.YtilggpkmdmelmaaGreatDealRs
import Derived.Test.YtilggpkmdmelmaaGreatSpanAll
namespace Go.Proofs.YtilggpkmdmelmaaGreat.Deal
open Go.ChangeShapes Go.WideShapes Go.ChangeAt Go.RowKit Go.Proofs.YtilggpkmdmelmaaGreat.Mem Go.Proofs.YtilggpkmdmelmaaGreat.GeoMath Go.Proofs.YtilggpkmdmelmaaGreat.FleetMath Go.Proofs.YtilggpkmdmelmaaGreat.Rec Go.Proofs.YtilggpkmdmelmaaGreat.Geo Go.Proofs.YtilggpkmdmelmaaGreat.Span
theorem rbegin_val' (x : Win) (t v : Int) (r : Bool) (w : World) (h : optV (beginT x t) = .tuple #[.int .i64 v, .bool r]) : Calls Tryz.prog 123 #[winV x, .int .i64 t] w (Gives w (.tuple #[.int .i64 v, .bool r])) := by rw [← h]; exact rbegin_any x t w
set_option maxRecDepth 100000 in
set_option maxHeartbeats 4000000 in
theorem rserved_any (base b n : Nat) (l : List Int) (f t0 : Int) (s : Site) (u : Int) (w : World) (h : MapAt w 110 base b n l) (hn : n ≤ 12) (hm : IsMap n l) (ht0 : -1000000000 ≤ t0) (ht1 : t0 ≤ 1000000000) (hs0 : 0 ≤ s.serv) (hs1 : s.serv ≤ 1000000) :
    Calls Tryz.prog 81 #[.pointer (some ⟨b, 0, none⟩), .int .i64 f, .int .i64 t0, siteV s, .int .i64 u] w (Gives w (twoV (FleetMath.served ⟨n, l⟩ f t0 s u))) := by
  obtain ⟨hl0, hl1⟩ := time_bounds hm f s.place
  obtain ⟨t, htv⟩ : ∃ t, time ⟨n, l⟩ f s.place = t := ⟨_, rfl⟩
  rw [htv] at hl0 hl1
  have HT := Lib.hid htv
  have HB0 : Hid (Below w.heap.size w (w.alloc (.cells #[.int .i64 s.place, .int .i64 s.win.fr, .int .i64 s.win.to, .int .i64 s.serv] 29))) := (Below.refl _ _).alloc (Nat.le_refl _) _
  have HX0 : Hid (SBox (w.alloc (.cells #[.int .i64 s.place, .int .i64 s.win.fr, .int .i64 s.win.to, .int .i64 s.serv] 29)) w.heap.size s) := Blk.new w _ _
  have HM0 : Hid (MapAt (w.alloc (.cells #[.int .i64 s.place, .int .i64 s.win.fr, .int .i64 s.win.to, .int .i64 s.serv] 29)) 110 base b n l) := h.keep HB0.out (Nat.le_refl _)
  obtain ⟨o, ho⟩ : ∃ o, FleetMath.served ⟨n, l⟩ f t0 s u = o := ⟨_, rfl⟩
  rw [ho]
  have ho' : o = match beginT s.win (t0 + t) with | none => none | some b => if u < b + s.serv then none else some (b, b + s.serv) := by
    rw [← ho, ← htv]; rfl
  have HO := Lib.hid ho'
  clear h hm htv ho ho'
  go_enter Tryz.func81, Tryz.ntmps81
  go_wp2_with fail
  refine (rtime_val' base b n l f s.place t _ (by exact HM0.out) hn HT.out).mono ?_
  rintro e w1 ⟨r1, d1, rfl, hw1⟩
  have HX1 : Hid (SBox w1 w.heap.size s) := by rw [hw1]; exact HX0.out
  have HB1 : Hid (Below w.heap.size w w1) := by rw [hw1]; exact below_drewN HB0.out _
  obtain ⟨c0, c1, c2, c3⟩ := HX1.out.cells
  clear hw1 HM0 HX0 HB0 HT
  cases hq : beginT s.win (t0 + t) with
  | none =>
    have HQ : Hid (optV (beginT s.win (t0 + t)) = .tuple #[.int .i64 0, .bool false]) := by rw [hq]; rfl
    have ho' := HO.out
    rw [hq] at ho'
    simp only at ho'
    subst ho'
    clear hq HO
    go_wp2_with fail
    refine (rbegin_val' s.win (t0 + t) 0 false _ HQ.out).mono ?_
    rintro e w2 ⟨rfl, hb2⟩
    have HB2 : Hid (Below w.heap.size w w2) := HB1.out.trans (hb2.mono HB1.out.size)
    clear hb2 c0 c1 c2 c3
    go_wp2_with fail
    go_ret3
    exact twoV_of rfl rfl HB2.out
  | some v =>
    have HQ : Hid (optV (beginT s.win (t0 + t)) = .tuple #[.int .i64 v, .bool true]) := by rw [hq]; rfl
    obtain ⟨q1, q2, q3, q4, q5⟩ := beginT_in hq
    have q6 := right_iff.1 (has_iff.1 q1).1
    have q7 : v ≤ 1000000 := by omega
    have q8 : 0 ≤ v := by omega
    have ho2 := HO.out
    rw [hq] at ho2
    simp only at ho2
    have HO2 := Lib.hid ho2
    clear hq q1 q2 q3 q4 q5 q6 HO ho2
    go_wp2_with fail
    refine (rbegin_val' s.win (t0 + t) v true _ HQ.out).mono ?_
    rintro e w2 ⟨rfl, hb2⟩
    have HX2 := Lib.hid (HX1.out.below hb2)
    have HB2 : Hid (Below w.heap.size w w2) := HB1.out.trans (hb2.mono HB1.out.size)
    clear hb2 c0 c1 c2 c3
    obtain ⟨c0, c1, c2, c3⟩ := HX2.out.cells
    by_cases hlt : u < v + s.serv
    · have ho' := HO2.out
      rw [if_pos hlt] at ho'
      subst ho'
      clear HO2
      go_wp2_with fail
      go_ret3
      exact twoV_of rfl rfl HB2.out
    · have ho' := HO2.out
      rw [if_neg hlt] at ho'
      subst ho'
      clear HO2
      go_wp2_with fail
      go_quiet (fail)
      go_wp2_with fail
      go_ret3
      exact twoV_of rfl rfl (below_drewN HB2.out _)
end Go.Proofs.YtilggpkmdmelmaaGreat.Deal
