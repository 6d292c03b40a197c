import Derived.Test.YtilggpkmdmelmaaGreatWordsRte
import Derived.Test.YtilggpkmdmelmaaGreatSameStp
import Derived.Test.YtilggpkmdmelmaaGreatQuietIn
namespace Go.Proofs.YtilggpkmdmelmaaGreat.Plan
open Go.ChangeShapes Go.WideShapes Go.ChangeAt Go.RowKit Go.Proofs.YtilggpkmdmelmaaGreat.Mem Go.Proofs.YtilggpkmdmelmaaGreat.FleetMath Go.Proofs.YtilggpkmdmelmaaGreat.PlanMath Go.Proofs.YtilggpkmdmelmaaGreat.Rec
set_option linter.unusedVariables false
def Drew (w wr : World) : Prop := ∃ d, wr = w.drewN d
theorem Drew.more {w wr : World} (h : Drew w wr) (d : Nat) : Drew w (wr.drewN d) := by obtain ⟨d', rfl⟩ := h; exact ⟨_, World.drewN_drewN _ _ _⟩
theorem Drew.plns {w wr : World} {B n : Nat} {A : Option Addr} {l : List RM} (h : Drew w wr) (hl : Plns w B A n l) : Plns wr B A n l := by
  obtain ⟨d, rfl⟩ := h
  exact ⟨Recs.drewN hl.rows d, fun r hr => ⟨Recs.drewN (hl.each r hr).1 d, (hl.each r hr).2⟩⟩
set_option maxRecDepth 100000 in
set_option maxHeartbeats 4000000 in
theorem routes_yes (A A' : Option Addr) (n c c' : Nat) (l m : List RM) (B B' : Nat) (w : World) (h : Plns w B A n l) (h' : Plns w B' A' n m) (he : l.map (·.rt) = m.map (·.rt)) :
    Calls Tryz.prog 13 #[.slice A n c, .slice A' n c'] w (Quietly w (.bool true)) := by
  have hm := Recs.le h.rows
  have H := Lib.hid h
  have H' := Lib.hid h'
  have HE := Lib.hid he
  clear h h' he
  go_enter Tryz.func13, Tryz.ntmps13
  go_wp2
  go_loopw [5] (fun i wr => ∃ (k : Nat), k ≤ n ∧ i = .int .i64 k ∧ Hid (Drew w wr)) (fun i _ => n - (intOf i).toNat)
  case atStart => exact ⟨0, Nat.zero_le _, rfl, Lib.hid ⟨0, rfl⟩⟩
  case round =>
    obtain ⟨k, hk, rfl, HD⟩ := hrel
    by_cases hlt : k < n
    · obtain ⟨b, off, x, rfl, _, hx, _, c0, c1, c2, hs, _⟩ := (HD.out.plns H.out).at_ hlt
      obtain ⟨b', off', y, rfl, _, hy, _, d0, d1, d2, hs', _⟩ := (HD.out.plns H'.out).at_ hlt
      have hxy : y.rt = x.rt := by
        have := congrArg (fun t : List Rte => t[k]?) HE.out
        simp only [List.getElem?_map, hx, hy, Option.map_some] at this
        exact (Option.some.inj this).symm
      have hl1 := Stps.length hs
      have hl2 := Stps.length hs'
      have hn : y.n = x.n := by rw [← hl1, ← hl2, hxy]
      rw [hxy] at d0 d1 hs'
      rw [hn] at d2 hs'
      have HS : Hid (∀ q, Calls Tryz.prog 12 #[.slice x.a x.n x.c, .slice y.a x.n y.c] (wr.drewN q) (Quietly (wr.drewN q) (.bool true))) := fun q => sameStp _ _ _ _ _ x.rt.stops _ _ _ (Recs.drewN hs q) (Recs.drewN hs' q)
      clear hx hy hs hs' hxy hn hl1 hl2
      go_wp2
      go_quiet ((go_at_call 12; with_reducible exact quiet_in (HS.out _)))
      go_wp2
      go_roundw
      case rel => exact ⟨k + 1, by omega, by go_num, Lib.hid (HD.out.more _)⟩
      case measure => simp [intOf]; omega
    · go_wp2
      go_ret
      exact ⟨rfl, HD.out⟩
end Go.Proofs.YtilggpkmdmelmaaGreat.Plan
