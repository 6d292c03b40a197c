import Derived.Test.YtilggpkmdmelmaaGreatKeepMaps
import Derived.Test.YtilggpkmdmelmaaGreatWordsRte
import Derived.Test.YtilggpkmdmelmaaGreatWords
import Derived.Deep.DeepCutAuto
namespace Go.Proofs.YtilggpkmdmelmaaGreat.Keep
open Go.ChangeShapes Go.WideShapes Go.ChangeAt Go.RowKit Go.Proofs.YtilggpkmdmelmaaGreat.Mem Go.Proofs.YtilggpkmdmelmaaGreat.GeoMath Go.Proofs.YtilggpkmdmelmaaGreat.FleetMath Go.Proofs.YtilggpkmdmelmaaGreat.PlanMath Go.Proofs.YtilggpkmdmelmaaGreat.Rec Go.Proofs.YtilggpkmdmelmaaGreat.Geo Go.Proofs.YtilggpkmdmelmaaGreat.Deal
set_option linter.unusedVariables false
set_option linter.unusedSimpArgs false
set_option maxRecDepth 100000 in
set_option maxHeartbeats 4000000 in
theorem ksmall_any (x : Wd) (ps : List RM) (u : World) (hp : Plns u u.heap.size x.pl.a x.pl.n ps) :
    Calls Tryz.prog 16 #[wdV x] u fun e u' => (e = .returned (.bool false) ∨ e = .returned (.bool true)) ∧ Below u.heap.size u u' := by
  have hpn : x.pl.n ≤ 9223372036854775807 := Recs.le hp.rows
  have HP := Lib.hid hp
  have HB0 : Hid (Below u.heap.size u (u.alloc (.cells #[.int .i64 x.n, x.ts.v, x.ds.v, x.os.v, x.pl.v] 54))) := (Below.refl _ _).alloc (Nat.le_refl _) _
  have HW0 := Lib.hid (WBox.new u x)
  clear hp
  go_enter Tryz.func16, Tryz.ntmps16
  go_upto_region 1 with fail
  obtain ⟨u1, hu1⟩ : ∃ v, u.alloc (.cells #[.int .i64 x.n, x.ts.v, x.ds.v, x.os.v, x.pl.v] 54) = v := ⟨_, rfl⟩
  rw [hu1] at HB0 HW0
  (try rw [hu1])
  clear hu1
  go_wp2_with fail
  go_loopw [3, 4] (fun sv iv wr => ∃ (k : Nat) (s : Int), k ≤ x.pl.n ∧ sv = .int .i64 s ∧ iv = .int .i64 (k : Int) ∧ Hid (Below u1.heap.size u1 wr)) (fun _ iv _ => x.pl.n - (intOf iv).toNat)
  case atStart => exact ⟨0, 0, Nat.zero_le _, rfl, rfl, Below.refl _ _⟩
  case round =>
    obtain ⟨k, s, hk, rfl, rfl, HB⟩ := hrel
    have HBW : Hid (Below u.heap.size u wr) := HB0.out.trans (HB.out.mono HB0.out.size)
    obtain ⟨x0, x1, x2, x3, x4⟩ := (HW0.out.below HB.out).cells
    by_cases hlt : k < x.pl.n
    · obtain ⟨pb, off, z1, hPA, _, hz1, _, c0, c1, c2, _⟩ := (HP.out.keep HBW.out).at_ hlt
      have x4' : wr.cell? ⟨u.heap.size, 4, none⟩ = some (.slice (some ⟨pb, off, none⟩) x.pl.n x.pl.c) := by
        rw [x4]; show some (Value.slice x.pl.a x.pl.n x.pl.c) = _; rw [hPA]
      have hkk : (k : Int) < (x.pl.n : Int) := by omega
      obtain ⟨s', hs⟩ : ∃ z, IntKind.i64.wrap (s + (z1.n : Int)) = z := ⟨_, rfl⟩
      clear x4 hz1
      by_cases h40 : (40 : Int) < s'
      · go_wp2_with fail
        go_ret
        exact ⟨by first | exact .inl rfl | exact .inr rfl, HBW.out⟩
      · go_wp2_with fail
        go_roundw
        case rel => exact ⟨k + 1, s', by omega, by first | rfl | rw [hs], by go_num, HB⟩
        case measure => simp [intOf]; omega
    · obtain ⟨b16, h16⟩ : ∃ b, decide ((x.os.n : Int) ≤ 16) = b := ⟨_, rfl⟩
      obtain ⟨b8, h8⟩ : ∃ b, decide ((x.ds.n : Int) ≤ 8) = b := ⟨_, rfl⟩
      cases b16 <;> cases b8
      all_goals
        simp only [decide_eq_true_eq, decide_eq_false_iff_not] at h16 h8
        have e16 := h16
        have e8 := h8
        go_wp2_with fail
        go_ret
        exact ⟨by first | exact .inl rfl | exact .inr rfl, HBW.out⟩
end Go.Proofs.YtilggpkmdmelmaaGreat.Keep
