/-
  PlanKCopy, PlanKRoutes: one text.
-/
import Derived.Test.YtpigklkidagolaaPlanSmalls
import Derived.Test.YtpigklkidagolaaWordsRte
import Derived.Test.YtpigklkidagolaaSameStp
import Derived.Test.YtpigklkidagolaaQuietIn
/-
  draykeep's Copy: a plan in new memory: the contract.
-/
namespace Go.Proofs.Ytpigklkidagolaa.Plan
open Go.ChangeShapes Go.WideShapes Go.ChangeAt Go.RowKit Go.Proofs.Ytpigklkidagolaa.Mem Go.Proofs.Ytpigklkidagolaa.FleetMath Go.Proofs.Ytpigklkidagolaa.PlanMath Go.Proofs.Ytpigklkidagolaa.Rec
set_option linter.unusedVariables false
set_option linter.unusedSimpArgs false

set_option maxRecDepth 100000 in
set_option maxHeartbeats 8000000 in
theorem kcopy_any (A : Option Addr) (n c : Nat) (l : List RM) (w : World) (hl : Plns w w.heap.size A n l) (hn40 : n * 40 ≤ 140737488351232) :
    Calls Try.prog 14 #[.slice A n c] w (fun e w' => ∃ v l', e = .returned v ∧ CS w l n v w' l') := by
  have hm := Recs.le hl.rows
  have HL := Lib.hid hl.length
  have HI := Lib.hid hl
  clear hl
  go_enter Try.func14, Try.ntmps14
  go_wp2
  go_loopw [3, 4] (fun v i wr => ∃ (k : Nat) (l' : List RM), k ≤ n ∧ i = .int .i64 k ∧ Hid (CS w l k v wr l')) (fun _ i _ => n - (intOf i).toNat)
  case atStart => exact ⟨0, [], Nat.zero_le _, rfl, Lib.hid ⟨NewP.nil w, rfl, fun r h => by cases h⟩⟩
  case round =>
    obtain ⟨k, l', hk, rfl, HW⟩ := hrel
    by_cases hlt : k < n
    · have HI1 : Hid (Plns wr w.heap.size A n l) := HI.out.keep HW.out.plan.old
      obtain ⟨b, off, x, rfl, hbb, hx, _, c0, c1, c2, hst, _⟩ := HI1.out.at_ hlt
      obtain ⟨_, _, _, _, _, _, hfit⟩ := HI1.out.cells hx
      have HX := Lib.hid hx
      have HST := Lib.hid hst
      have hsl : x.rt.stops.length = x.n := hst.length
      have hlk : l'.length = k := by have h := congrArg List.length HW.out.rts; simp only [List.length_map, List.length_take, HL.out] at h; omega
      clear hx hst
      have HR0 := Lib.hid HW.out.plan.row0
      have HS0 : Hid (Stps (wr.alloc (.cells #[] 36)).drew w.heap.size x.a x.n x.rt.stops) := Recs.keep HST.out ((Below.refl _ _).alloc HW.out.plan.old.size _).drew
      have HRO : Hid (OwnK (wr.alloc (.cells #[] 36)).drew w.heap.size 36 2 (.slice (some ⟨wr.heap.size, 0, none⟩) 0 0) 0 []) := HR0.out.own
      obtain ⟨_, e0, e1, e2, _, _, _⟩ := (HI.out.keep HR0.out.plan.old).cells HX.out
      go_wp2
      go_region_law (first | ((with_reducible refine at_worldP (wr.alloc (.cells #[] 36)).drew ?_); refine step_append_ks (by rfl) _ _ Try.underlying37 infoStp rfl (by decide) (by rfl) (base := w.heap.size) HRO.out (by rfl) HS0.out (by rfl) (stpsV_one x.rt.stops) (by unfold maxLen; omega) (by omega) (w0 := w) (B0 := w.heap.size) HR0.out.plan.old HR0.out.plan.old.size HR0.out.plan.old.size (Nat.le_refl _) ?_; intro vA wA HO2 HB2 HG2 HN2; obtain ⟨A9, c9, rfl⟩ := HO2.out.slice; have HRA := row_made x HR0.out hsl HO2.out HG2.out HN2.out; obtain ⟨_, d0, d1, d2, _, _, _⟩ := (HI.out.keep HRA.out.plan.old).cells HX.out; have HA := Lib.hid (HRA.out.keep ((Below.refl wA.heap.size wA).alloc (Nat.le_refl _) (.cells #[.int .i64 x.rt.drv, .int .i64 x.rt.served, .slice A9 x.n c9] 39))); have HY := Lib.hid (blk_recs (Blk.new wA 39 [.int .i64 x.rt.drv, .int .i64 x.rt.served, .slice A9 x.n c9]) rfl); rw [Nat.zero_add]; clear HO2 HB2 HG2 HN2) | (refine step_append_ks (by rfl) _ _ Try.underlying47 infoRte rfl (by decide) (by rfl) (base := w.heap.size) HA.out.plan.own (by rfl) HY.out (by rfl) (rmL_one ⟨x.rt, A9, x.n, c9⟩) (by unfold maxLen; omega) (by omega) (w0 := w) (B0 := w.heap.size) HA.out.plan.old HA.out.plan.old.size HA.out.plan.old.size (Nat.le_refl _) ?_; intro vB wB HO2 HB2 HG2 HN2; have HQ := Lib.hid (HA.out.push (r := ⟨x.rt, A9, x.n, c9⟩) rfl rfl HO2.out HG2.out HN2.out); clear HO2 HB2 HG2 HN2))
      all_goals
        go_wp2
        go_roundw
        case rel => exact ⟨k + 1, _, by omega, by go_num, Lib.hid (HW.out.next HX.out HQ.out hfit)⟩
        case measure => simp [intOf]; omega
    · have hke : k = n := by omega
      subst hke
      go_wp2
      go_ret
      exact ⟨_, l', rfl, HW.out⟩

#print axioms kcopy_any
end Go.Proofs.Ytpigklkidagolaa.Plan

/-
  draykeep's Routes: two plans that are the same, route by route, stop by stop: the contract.
-/
namespace Go.Proofs.Ytpigklkidagolaa.Plan
open Go.ChangeShapes Go.WideShapes Go.ChangeAt Go.RowKit Go.Proofs.Ytpigklkidagolaa.Mem Go.Proofs.Ytpigklkidagolaa.FleetMath Go.Proofs.Ytpigklkidagolaa.PlanMath Go.Proofs.Ytpigklkidagolaa.Rec
set_option linter.unusedVariables false

/-- only draws lie between -/
def Drew (w wr : World) : Prop := ∃ d, wr = w.drewN d
theorem Drew.more {w wr : World} (h : Drew w wr) (d : Nat) : Drew w (wr.drewN d) := by obtain ⟨d', rfl⟩ := h; exact ⟨_, World.drewN_drewN _ _ _⟩
theorem Drew.plns {w wr : World} {B n : Nat} {A : Option Addr} {l : List RM} (h : Drew w wr) (hl : Plns w B A n l) : Plns wr B A n l := by
  obtain ⟨d, rfl⟩ := h
  exact ⟨Recs.drewN hl.rows d, fun r hr => ⟨Recs.drewN (hl.each r hr).1 d, (hl.each r hr).2⟩⟩
set_option maxRecDepth 100000 in
set_option maxHeartbeats 4000000 in
theorem routes_yes (A A' : Option Addr) (n c c' : Nat) (l m : List RM) (B B' : Nat) (w : World) (h : Plns w B A n l) (h' : Plns w B' A' n m) (he : l.map (·.rt) = m.map (·.rt)) :
    Calls Try.prog 19 #[.slice A n c, .slice A' n c'] w (Quietly w (.bool true)) := by
  have hm := Recs.le h.rows
  have H := Lib.hid h
  have H' := Lib.hid h'
  have HE := Lib.hid he
  clear h h' he
  go_enter Try.func19, Try.ntmps19
  go_wp2
  go_loopw [5] (fun i wr => ∃ (k : Nat), k ≤ n ∧ i = .int .i64 k ∧ Hid (Drew w wr)) (fun i _ => n - (intOf i).toNat)
  case atStart => exact ⟨0, Nat.zero_le _, rfl, Lib.hid ⟨0, rfl⟩⟩
  case round =>
    obtain ⟨k, hk, rfl, HD⟩ := hrel
    by_cases hlt : k < n
    · obtain ⟨b, off, x, rfl, _, hx, _, c0, c1, c2, hs, _⟩ := (HD.out.plns H.out).at_ hlt
      obtain ⟨b', off', y, rfl, _, hy, _, d0, d1, d2, hs', _⟩ := (HD.out.plns H'.out).at_ hlt
      have hxy : y.rt = x.rt := by
        have := congrArg (fun t : List Rte => t[k]?) HE.out
        simp only [List.getElem?_map, hx, hy, Option.map_some] at this
        exact (Option.some.inj this).symm
      have hl1 := Stps.length hs
      have hl2 := Stps.length hs'
      have hn : y.n = x.n := by rw [← hl1, ← hl2, hxy]
      rw [hxy] at d0 d1 hs'
      rw [hn] at d2 hs'
      have HS : Hid (∀ q, Calls Try.prog 44 #[.slice x.a x.n x.c, .slice y.a x.n y.c] (wr.drewN q) (Quietly (wr.drewN q) (.bool true))) := fun q => sameStp _ _ _ _ _ x.rt.stops _ _ _ (Recs.drewN hs q) (Recs.drewN hs' q)
      clear hx hy hs hs' hxy hn hl1 hl2
      go_wp2
      go_quiet ((go_at_call 44; with_reducible exact quiet_in (HS.out _)))
      go_wp2
      go_roundw
      case rel => exact ⟨k + 1, by omega, by go_num, Lib.hid (HD.out.more _)⟩
      case measure => simp [intOf]; omega
    · go_wp2
      go_ret
      exact ⟨rfl, HD.out⟩

#print axioms routes_yes
end Go.Proofs.Ytpigklkidagolaa.Plan
