/-
  PlanKRoutes, SameStpB, PlanKRoutesB: one text.
-/
import Derived.Test.YtilggpkmdmelmaaGreatWordsRte
import Derived.Test.YtilggpkmdmelmaaGreatSameStp
import Derived.Test.YtilggpkmdmelmaaGreatBooks
namespace Go.Proofs.YtilggpkmdmelmaaGreat.Plan
open Go.ChangeShapes Go.WideShapes Go.ChangeAt Go.RowKit Go.Proofs.YtilggpkmdmelmaaGreat.Mem Go.Proofs.YtilggpkmdmelmaaGreat.FleetMath Go.Proofs.YtilggpkmdmelmaaGreat.PlanMath Go.Proofs.YtilggpkmdmelmaaGreat.Rec
set_option linter.unusedVariables false
def Drew (w wr : World) : Prop := ∃ d, wr = w.drewN d
theorem Drew.more {w wr : World} (h : Drew w wr) (d : Nat) : Drew w (wr.drewN d) := by obtain ⟨d', rfl⟩ := h; exact ⟨_, World.drewN_drewN _ _ _⟩
theorem Drew.plns {w wr : World} {B n : Nat} {A : Option Addr} {l : List RM} (h : Drew w wr) (hl : Plns w B A n l) : Plns wr B A n l := by
  obtain ⟨d, rfl⟩ := h
  exact ⟨Recs.drewN hl.rows d, fun r hr => ⟨Recs.drewN (hl.each r hr).1 d, (hl.each r hr).2⟩⟩
set_option maxRecDepth 100000 in
set_option maxHeartbeats 4000000 in
theorem routes_yes (A A' : Option Addr) (n c c' : Nat) (l m : List RM) (B B' : Nat) (w : World) (h : Plns w B A n l) (h' : Plns w B' A' n m) (he : l.map (·.rt) = m.map (·.rt)) :
    Calls Tryz.prog 13 #[.slice A n c, .slice A' n c'] w (Quietly w (.bool true)) := by
  have hm := Recs.le h.rows
  have H := Lib.hid h
  have H' := Lib.hid h'
  have HE := Lib.hid he
  clear h h' he
  go_enter Tryz.func13, Tryz.ntmps13
  go_wp2
  go_loopw [5] (fun i wr => ∃ (k : Nat), k ≤ n ∧ i = .int .i64 k ∧ Hid (Drew w wr)) (fun i _ => n - (intOf i).toNat)
  case atStart => exact ⟨0, Nat.zero_le _, rfl, Lib.hid ⟨0, rfl⟩⟩
  case round =>
    obtain ⟨k, hk, rfl, HD⟩ := hrel
    by_cases hlt : k < n
    · obtain ⟨b, off, x, rfl, _, hx, _, c0, c1, c2, hs, _⟩ := (HD.out.plns H.out).at_ hlt
      obtain ⟨b', off', y, rfl, _, hy, _, d0, d1, d2, hs', _⟩ := (HD.out.plns H'.out).at_ hlt
      have hxy : y.rt = x.rt := by
        have := congrArg (fun t : List Rte => t[k]?) HE.out
        simp only [List.getElem?_map, hx, hy, Option.map_some] at this
        exact (Option.some.inj this).symm
      have hl1 := Stps.length hs
      have hl2 := Stps.length hs'
      have hn : y.n = x.n := by rw [← hl1, ← hl2, hxy]
      rw [hxy] at d0 d1 hs'
      rw [hn] at d2 hs'
      have HS : Hid (∀ q, Calls Tryz.prog 12 #[.slice x.a x.n x.c, .slice y.a x.n y.c] (wr.drewN q) (Quietly (wr.drewN q) (.bool true))) := fun q => sameStp _ _ _ _ _ x.rt.stops _ _ _ (Recs.drewN hs q) (Recs.drewN hs' q)
      clear hx hy hs hs' hxy hn hl1 hl2
      go_wp2
      go_quiet ((go_at_call 12; with_reducible exact quiet_in (HS.out _)))
      go_wp2
      go_roundw
      case rel => exact ⟨k + 1, by omega, by go_num, Lib.hid (HD.out.more _)⟩
      case measure => simp [intOf]; omega
    · go_wp2
      go_ret
      exact ⟨rfl, HD.out⟩
end Go.Proofs.YtilggpkmdmelmaaGreat.Plan

namespace Go.Proofs.YtilggpkmdmelmaaGreat.Rec
open Go.ChangeShapes Go.WideShapes Go.ChangeAt Go.RowKit Go.Proofs.YtilggpkmdmelmaaGreat.Mem Go.Proofs.YtilggpkmdmelmaaGreat.FleetMath
set_option linter.unusedVariables false
theorem takeS_more {xs ys : List Stp} {k : Nat} {u : Stp} (h : xs.take k = ys.take k) (hx : xs[k]? = some u) (hy : ys[k]? = some u) : xs.take (k + 1) = ys.take (k + 1) := by
  rw [List.take_add_one, List.take_add_one, h, hx, hy]
theorem differS {xs ys : List Stp} {k : Nat} {u v : Stp} (h : u ≠ v) (hx : xs[k]? = some u) (hy : ys[k]? = some v) : decide (xs = ys) = false := by
  rw [decide_eq_false_iff_not]
  rintro rfl
  rw [hx] at hy
  exact h (Option.some.inj hy)
set_option maxRecDepth 100000 in
set_option maxHeartbeats 1000000 in
theorem sameStp_any (A A' : Option Addr) (n c n' c' : Nat) (xs ys : List Stp) (B B' : Nat) (w : World) (h : Stps w B A n xs) (h' : Stps w B' A' n' ys) :
    Calls Tryz.prog 12 #[.slice A n c, .slice A' n' c'] w (Quietly w (.bool (decide (xs = ys)))) := by
  have hm := Recs.le h
  have H := Lib.hid h
  have H' := Lib.hid h'
  have HL := Lib.hid (Stps.length h)
  have HL' := Lib.hid (Stps.length h')
  clear h h'
  by_cases hn : n = n'
  · subst hn
    go_enter Tryz.func12, Tryz.ntmps12
    go_wp2
    go_loopw [5] (fun i wr => ∃ (k d : Nat), k ≤ n ∧ i = .int .i64 k ∧ wr = w.drewN d ∧ Hid (xs.take k = ys.take k)) (fun i _ => n - (intOf i).toNat)
    case atStart => exact ⟨0, 0, Nat.zero_le _, rfl, rfl, rfl⟩
    case round =>
      obtain ⟨k, d, hk, rfl, rfl, HT⟩ := hrel
      by_cases hlt : k < n
      · obtain ⟨b, off, x, rfl, _, hx, _, c0, c1⟩ := Stps.at_ H.out hlt
        obtain ⟨b', off', y, rfl, _, hy, _, d0, d1⟩ := Stps.at_ H'.out hlt
        have HU := Lib.hid hx
        have HV := Lib.hid hy
        clear hx hy
        by_cases h1 : x.ord = y.ord
        · by_cases h2 : x.drop = y.drop
          · have hxy : x = y := by cases x; cases y; simp only at h1 h2; subst h1; subst h2; rfl
            subst hxy
            have HN : Hid (xs.take (k + 1) = ys.take (k + 1)) := takeS_more HT.out HU.out HV.out
            clear h1 h2
            go_wp2
            go_quiet (fail)
            go_wp2
            go_roundw
            case rel => exact ⟨k + 1, _, by omega, by go_num, rfl, HN⟩
            case measure => simp [intOf]; omega
          · have HN : Hid (decide (xs = ys) = false) := differS (fun e => h2 (by rw [e])) HU.out HV.out
            have z2 : (x.drop == y.drop) = false := by simpa using h2
            rw [← h1] at d0
            clear h1 h2
            go_wp2
            go_quiet (fail)
            go_wp2
            go_ret
            exact ⟨ret_bool HN.out.symm, _, World.drewN_drewN _ _ _⟩
        · have HN : Hid (decide (xs = ys) = false) := differS (fun e => h1 (by rw [e])) HU.out HV.out
          have z1 : (x.ord == y.ord) = false := by simpa using h1
          clear h1
          go_wp2
          go_quiet (fail)
          go_wp2
          go_ret
          exact ⟨ret_bool HN.out.symm, _, World.drewN_drewN _ _ _⟩
      · have HN : Hid (decide (xs = ys) = true) := by
          have := HT.out
          rw [List.take_of_length_le (by have := HL.out; omega), List.take_of_length_le (by have := HL'.out; omega)] at this
          simp [this, Hid]
        go_wp2
        go_ret
        exact ⟨ret_bool HN.out.symm, _, rfl⟩
  · have HN : Hid (decide (xs = ys) = false) := by
      have h1 := HL.out
      have h2 := HL'.out
      simp only [Hid, decide_eq_false_iff_not]
      rintro rfl
      omega
    have hne2 : ((n : Int) == (n' : Int)) = false := by simp; omega
    have hne3 : ((n : Int) != (n' : Int)) = true := by simp; omega
    clear hn
    go_enter Tryz.func12, Tryz.ntmps12
    go_wp2
    go_ret
    exact ⟨ret_bool HN.out.symm, 0, rfl⟩
end Go.Proofs.YtilggpkmdmelmaaGreat.Rec

namespace Go.Proofs.YtilggpkmdmelmaaGreat.Plan
open Go.ChangeShapes Go.WideShapes Go.ChangeAt Go.RowKit Go.Proofs.YtilggpkmdmelmaaGreat.Mem Go.Proofs.YtilggpkmdmelmaaGreat.FleetMath Go.Proofs.YtilggpkmdmelmaaGreat.PlanMath Go.Proofs.YtilggpkmdmelmaaGreat.Rec
set_option linter.unusedVariables false
theorem takeR_more {xs ys : List Rte} {k : Nat} {u : Rte} (h : xs.take k = ys.take k) (hx : xs[k]? = some u) (hy : ys[k]? = some u) : xs.take (k + 1) = ys.take (k + 1) := by
  rw [List.take_add_one, List.take_add_one, h, hx, hy]
theorem differR {xs ys : List Rte} {k : Nat} {u v : Rte} {r : Bool} (hr : r = true ↔ xs = ys) (h : u ≠ v) (hx : xs[k]? = some u) (hy : ys[k]? = some v) : r = false := by
  cases r with
  | false => rfl
  | true =>
    have := hr.1 rfl
    subst this
    rw [hx] at hy
    exact absurd (Option.some.inj hy) h
set_option maxRecDepth 100000 in
set_option maxHeartbeats 4000000 in
theorem routes_any (A A' : Option Addr) (n c n' c' : Nat) (l m : List RM) (B B' : Nat) (w : World) (h : Plns w B A n l) (h' : Plns w B' A' n' m) (r : Bool) (hr : r = true ↔ l.map (·.rt) = m.map (·.rt)) :
    Calls Tryz.prog 13 #[.slice A n c, .slice A' n' c'] w (Quietly w (.bool r)) := by
  have hm := Recs.le h.rows
  have H := Lib.hid h
  have H' := Lib.hid h'
  have HR := Lib.hid hr
  have HL := Lib.hid h.length
  have HL' := Lib.hid h'.length
  clear h h' hr
  by_cases hn : n = n'
  case neg =>
    have HN : Hid (r = false) := by
      have h1 := HL.out
      have h2 := HL'.out
      cases r with
      | false => rfl
      | true =>
        have := congrArg List.length (HR.out.1 rfl)
        rw [List.length_map, List.length_map] at this
        omega
    have hne2 : ((n : Int) == (n' : Int)) = false := by simp; omega
    have hne3 : ((n : Int) != (n' : Int)) = true := by simp; omega
    clear hn
    go_enter Tryz.func13, Tryz.ntmps13
    go_wp2
    go_ret
    exact ⟨ret_bool HN.out.symm, 0, rfl⟩
  subst hn
  go_enter Tryz.func13, Tryz.ntmps13
  go_wp2
  go_loopw [5] (fun i wr => ∃ (k : Nat), k ≤ n ∧ i = .int .i64 k ∧ Hid (Drew w wr) ∧ Hid ((l.map (·.rt)).take k = (m.map (·.rt)).take k)) (fun i _ => n - (intOf i).toNat)
  case atStart => exact ⟨0, Nat.zero_le _, rfl, Lib.hid ⟨0, rfl⟩, Lib.hid rfl⟩
  case round =>
    obtain ⟨k, hk, rfl, HD, HT⟩ := hrel
    by_cases hlt : k < n
    · obtain ⟨b, off, x, rfl, _, hx, _, c0, c1, c2, hs, _⟩ := (HD.out.plns H.out).at_ hlt
      obtain ⟨b', off', y, rfl, _, hy, _, d0, d1, d2, hs', _⟩ := (HD.out.plns H'.out).at_ hlt
      have HU : Hid ((l.map (·.rt))[k]? = some x.rt) := by show _ = _; rw [List.getElem?_map, hx]; rfl
      have HV : Hid ((m.map (·.rt))[k]? = some y.rt) := by show _ = _; rw [List.getElem?_map, hy]; rfl
      have HS : Hid (∀ q, Calls Tryz.prog 12 #[.slice x.a x.n x.c, .slice y.a y.n y.c] (wr.drewN q) (Quietly (wr.drewN q) (.bool (decide (x.rt.stops = y.rt.stops))))) := fun q => sameStp_any _ _ _ _ _ _ x.rt.stops y.rt.stops _ _ _ (Recs.drewN hs q) (Recs.drewN hs' q)
      clear hx hy hs hs'
      by_cases h1 : x.rt.drv = y.rt.drv
      case neg =>
        have HN : Hid (r = false) := differR HR.out (fun e => h1 (by rw [e])) HU.out HV.out
        have z1 : (x.rt.drv != y.rt.drv) = true := by simpa using h1
        have z1' : (x.rt.drv == y.rt.drv) = false := by simpa using h1
        clear h1
        go_wp2
        go_quiet (fail)
        go_wp2
        go_ret
        exact ⟨ret_bool HN.out.symm, HD.out.more _⟩
      rw [← h1] at d0
      by_cases h2 : x.rt.served = y.rt.served
      case neg =>
        have HN : Hid (r = false) := differR HR.out (fun e => h2 (by rw [e])) HU.out HV.out
        have z2 : (x.rt.served != y.rt.served) = true := by simpa using h2
        have z2' : (x.rt.served == y.rt.served) = false := by simpa using h2
        clear h1 h2
        go_wp2
        go_quiet (fail)
        go_wp2
        go_ret
        exact ⟨ret_bool HN.out.symm, HD.out.more _⟩
      rw [← h2] at d1
      by_cases h3 : x.rt.stops = y.rt.stops
      case neg =>
        have HN : Hid (r = false) := differR HR.out (fun e => h3 (by rw [e])) HU.out HV.out
        have z3 : decide (x.rt.stops = y.rt.stops) = false := by simpa using h3
        rw [z3] at HS
        clear h1 h2 h3 z3
        go_wp2
        go_quiet ((go_at_call 12; with_reducible exact quiet_in (HS.out _)))
        go_wp2
        go_ret
        exact ⟨ret_bool HN.out.symm, HD.out.more _⟩
      have hxy : x.rt = y.rt := by
        obtain ⟨⟨x1, x2, x3⟩, _, _, _⟩ := x
        obtain ⟨⟨y1, y2, y3⟩, _, _, _⟩ := y
        simp only at h1 h2 h3
        subst h1; subst h2; subst h3; rfl
      have HN : Hid ((l.map (·.rt)).take (k + 1) = (m.map (·.rt)).take (k + 1)) := takeR_more HT.out HU.out (by rw [hxy]; exact HV.out)
      have z3 : decide (x.rt.stops = y.rt.stops) = true := by simpa using h3
      rw [z3] at HS
      clear h1 h2 h3 z3 hxy
      go_wp2
      go_quiet ((go_at_call 12; with_reducible exact quiet_in (HS.out _)))
      go_wp2
      go_roundw
      case rel => exact ⟨k + 1, by omega, by go_num, Lib.hid (HD.out.more _), HN⟩
      case measure => simp [intOf]; omega
    · have HN : Hid (r = true) := by
        refine HR.out.2 ?_
        have := HT.out
        rw [List.take_of_length_le (by rw [List.length_map, HL.out]; omega), List.take_of_length_le (by rw [List.length_map, HL'.out]; omega)] at this
        exact this
      go_wp2
      go_ret
      exact ⟨ret_bool HN.out.symm, HD.out⟩
end Go.Proofs.YtilggpkmdmelmaaGreat.Plan
