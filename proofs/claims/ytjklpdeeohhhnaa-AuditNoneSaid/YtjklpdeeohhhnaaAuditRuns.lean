/-
  Chapter 11's example runs come out as the chapter says (AuditRuns returns true), whatever the memory; only new memory is written. Written by tools/gen_aruns.py.
-/
import Derived.Test.YtjklpdeeohhhnaaAuditProgs
import Derived.Test.YtjklpdeeohhhnaaAuditWords
import Derived.Test.YtjklpdeeohhhnaaRouteKeep
import Derived.Test.YtjklpdeeohhhnaaKeepMaps
namespace Go.Proofs.Ytjklpdeeohhhnaa.Audit
open Go.ChangeShapes Go.WideShapes Go.ChangeAt Go.RowKit Go.Proofs.Ytjklpdeeohhhnaa.Mem Go.Proofs.Ytjklpdeeohhhnaa.GeoMath Go.Proofs.Ytjklpdeeohhhnaa.FleetMath Go.Proofs.Ytjklpdeeohhhnaa.PlanMath Go.Proofs.Ytjklpdeeohhhnaa.CertMath Go.Proofs.Ytjklpdeeohhhnaa.AuditMath Go.Proofs.Ytjklpdeeohhhnaa.Rec Go.Proofs.Ytjklpdeeohhhnaa.Geo Go.Proofs.Ytjklpdeeohhhnaa.Span Go.Proofs.Ytjklpdeeohhhnaa.Deal Go.Proofs.Ytjklpdeeohhhnaa.Keep Go.Proofs.Ytjklpdeeohhhnaa.Route Go.Proofs.Ytjklpdeeohhhnaa.Plan Go.Proofs.Ytjklpdeeohhhnaa.Cert
set_option linter.unusedVariables false
set_option linter.unusedSimpArgs false

abbrev uP : Stp := ⟨1, false⟩
abbrev uQ : Stp := ⟨1, true⟩
abbrev uAll : Rte := ⟨4, 0, [uP, uQ]⟩
abbrev uDone : Rte := ⟨4, 1, [uP, uQ]⟩
abbrev uTurn : Rte := ⟨4, 0, [uQ, uP]⟩
abbrev tB : List Trb := [⟨4, 1, 17⟩, ⟨4, 1, 15⟩, ⟨4, 1, 18⟩]
abbrev tC : List Trb := [⟨0, 1, 19⟩]
abbrev tF : List Trb := [⟨4, 0, 8⟩]
abbrev tG : List Trb := [⟨4, 1, 8⟩, ⟨4, 1, 8⟩]
theorem a1 : auditM (some runM) [runD] [runO] [uAll] = [] := by kernel_rfl
theorem a2 : auditM (some runM) [runD] [runO] [uTurn] = tB := by kernel_rfl
theorem a3 : auditM (some runM) [runD] [runO] [] = tC := by kernel_rfl
theorem a4 : auditM (some runM) [] [runO] [uAll] = tF := by kernel_rfl
theorem a5 : auditM (some runM) [runD] [] [uAll] = tG := by kernel_rfl
theorem k1 : keptP [uAll] [uAll] = true := by kernel_rfl
theorem k2 : keptP [uDone] [uAll] = false := by kernel_rfl
theorem k3 : keptP [uAll] [uDone] = false := by kernel_rfl
theorem recs_of {u : World} {g n k : Nat} {t : TypeId} {vs : List Value} (h : Blk u g t vs) (hl : vs.length = n * k) (hn : n ≤ 64) : Recs u u.heap.size (some ⟨g, 0, none⟩) n k vs :=
  ⟨hl, by unfold maxLen; omega, fun _ => ⟨g, 0, rfl, h.lt, fun j u hu => by rw [Nat.zero_add]; exact h.cell hu⟩⟩
/-- the blocks of the runs -/
abbrev ubx (g : Nat) : List (Nat × TypeId × List Value) := [(g + 1 + 1 + 1 + 1 + 1 + 1 + 1 + 1, 40, [.int .i64 4, .int .i64 1, .slice (some ⟨g + 1 + 1 + 1 + 1 + 1 + 1 + 1, 0, none⟩) 2 2]), (g + 1 + 1 + 1 + 1 + 1 + 1 + 1, 36, [.int .i64 1, .bool false, .int .i64 1, .bool true]), (g + 1 + 1 + 1 + 1 + 1 + 1, 40, [.int .i64 4, .int .i64 0, .slice (some ⟨g + 1 + 1 + 1 + 1 + 1, 0, none⟩) 2 2]), (g + 1 + 1 + 1 + 1 + 1, 36, [.int .i64 1, .bool false, .int .i64 1, .bool true]), (g + 1 + 1 + 1 + 1, 31, [.int .i64 1, .int .i64 3, .int .i64 0, .int .i64 2, .int .i64 9, .int .i64 1, .int .i64 1, .int .i64 0, .int .i64 20, .int .i64 2]), (g + 1 + 1 + 1, 36, [.int .i64 1, .bool true]), (g + 1 + 1, 36, [.int .i64 1, .bool false]), (g + 1, 33, [.int .i64 4, .int .i64 3, .int .i64 1, .int .i64 1, .int .i64 30, .bool false])]
abbrev uRM (g : Nat) : RM := ⟨uAll, some ⟨g + 1 + 1 + 1 + 1 + 1, 0, none⟩, 2, 2⟩
abbrev uDM (g : Nat) : RM := ⟨uDone, some ⟨g + 1 + 1 + 1 + 1 + 1 + 1 + 1, 0, none⟩, 2, 2⟩
section
variable {W u : World} {z : Option Addr} {g : Nat}
theorem ux_drvs (h : RB W z (ubx g) u) : Drvs u u.heap.size (some ⟨g + 1, 0, none⟩) 1 [runD] := recs_of (vs := drvsV [runD]) (h.at_ (g := g + 1) (t := 33) (vs := [.int .i64 4, .int .i64 3, .int .i64 1, .int .i64 1, .int .i64 30, .bool false]) (by simp)) rfl (by decide)
theorem ux_ords (h : RB W z (ubx g) u) : Ords u u.heap.size (some ⟨g + 1 + 1 + 1 + 1, 0, none⟩) 1 [runO] := recs_of (vs := ordsV [runO]) (h.at_ (g := g + 1 + 1 + 1 + 1) (t := 31) (vs := [.int .i64 1, .int .i64 3, .int .i64 0, .int .i64 2, .int .i64 9, .int .i64 1, .int .i64 1, .int .i64 0, .int .i64 20, .int .i64 2]) (by simp)) rfl (by decide)
theorem ux_all (h : RB W z (ubx g) u) : Plns u u.heap.size (some ⟨g + 1 + 1 + 1 + 1 + 1 + 1, 0, none⟩) 1 [uRM g] :=
  ⟨recs_of (vs := rmsV [uRM g]) (h.at_ (g := g + 1 + 1 + 1 + 1 + 1 + 1) (t := 40) (vs := [.int .i64 4, .int .i64 0, .slice (some ⟨g + 1 + 1 + 1 + 1 + 1, 0, none⟩) 2 2]) (by simp)) rfl (by decide), fun r hr => by
    obtain rfl : r = uRM g := by simpa using hr
    exact ⟨recs_of (n := 2) (vs := stpsV [uP, uQ]) (h.at_ (g := g + 1 + 1 + 1 + 1 + 1) (t := 36) (vs := [.int .i64 1, .bool false, .int .i64 1, .bool true]) (by simp)) rfl (by decide), Nat.le_refl _, by show 2 * 16 ≤ _; decide⟩⟩
theorem ux_done (h : RB W z (ubx g) u) : Plns u u.heap.size (some ⟨g + 1 + 1 + 1 + 1 + 1 + 1 + 1 + 1, 0, none⟩) 1 [uDM g] :=
  ⟨recs_of (vs := rmsV [uDM g]) (h.at_ (g := g + 1 + 1 + 1 + 1 + 1 + 1 + 1 + 1) (t := 40) (vs := [.int .i64 4, .int .i64 1, .slice (some ⟨g + 1 + 1 + 1 + 1 + 1 + 1 + 1, 0, none⟩) 2 2]) (by simp)) rfl (by decide), fun r hr => by
    obtain rfl : r = uDM g := by simpa using hr
    exact ⟨recs_of (n := 2) (vs := stpsV [uP, uQ]) (h.at_ (g := g + 1 + 1 + 1 + 1 + 1 + 1 + 1) (t := 36) (vs := [.int .i64 1, .bool false, .int .i64 1, .bool true]) (by simp)) rfl (by decide), Nat.le_refl _, by show 2 * 16 ≤ _; decide⟩⟩
theorem plns_nil (u : World) (B : Nat) : Plns u B none 0 [] := ⟨Recs.none_, fun r hr => by cases hr⟩
end
theorem ru_tail {W u : World} {z : Option Addr} {b : Nat × TypeId × List Value} {bx : List (Nat × TypeId × List Value)} (h : RB W z (b :: bx) u) : RB W z bx u := ⟨h.1, h.2.1, fun p hp => h.2.2 p (List.mem_cons_of_mem _ hp)⟩
/-- an Audit of the runs -/
theorem run_aud (W : World) (z : Option Addr) (bx : List (Nat × TypeId × List Value)) (A : Option Addr) (n c : Nat) (ds : List Drv) (A2 : Option Addr) (n2 c2 : Nat) (os : List FleetMath.Ord) (A3 : Option Addr) (n3 c3 : Nat) (l : List RM) (t : List Trb) (u : World) (h : RB W z bx u) (hd : Drvs u u.heap.size A n ds) (ho : Ords u u.heap.size A2 n2 os) (hl : Plns u u.heap.size A3 n3 l) (hnc : n ≤ c) (hnc2 : n2 ≤ c2) (hnc3 : n3 ≤ c3)
    (hr : auditM (some runM) ds os (l.map (·.rt)) = t) :
    Calls Try.prog 10 #[.pointer z, .slice A n c, .slice A2 n2 c2, .slice A3 n3 c3] u fun en u' => ∃ B c9, en = .returned (.slice B t.length c9) ∧ RB W z bx u' ∧ Below u.heap.size u u' ∧ Trbs u' u'.heap.size B t.length t := by
  refine (paudit_any W.heap.size z _ A n c ds A2 n2 c2 os A3 n3 c3 l u hnc hnc2 hnc3 h.2.1 hd ho hl).mono ?_
  rintro en u' ⟨v, rfl, hb, hown⟩
  rw [hr] at hown
  obtain ⟨B, c9, rfl, _, hc⟩ := hown.read
  exact ⟨B, c9, rfl, h.below hb, hb, hc⟩
/-- a Kept of the runs -/
theorem run_kept (W : World) (z : Option Addr) (bx : List (Nat × TypeId × List Value)) (A : Option Addr) (n c : Nat) (l : List RM) (A2 : Option Addr) (n2 c2 : Nat) (l2 : List RM) (res : Bool) (u : World) (h : RB W z bx u) (hnc : n ≤ c) (hnc2 : n2 ≤ c2) (hl : Plns u u.heap.size A n l) (hl2 : Plns u u.heap.size A2 n2 l2)
    (hr : keptP (l.map (·.rt)) (l2.map (·.rt)) = res) :
    Calls Try.prog 12 #[.slice A n c, .slice A2 n2 c2] u fun en u' => en = .returned (.bool res) ∧ RB W z bx u' := by
  refine (pkept_any A n c l A2 n2 c2 l2 res u hnc hnc2 hl hl2 hr).mono ?_
  rintro en u' ⟨rfl, hb⟩
  exact ⟨rfl, h.below hb⟩

set_option maxRecDepth 100000 in
set_option maxHeartbeats 8000000 in
theorem runs_any (u : World) : Calls Try.prog 3 #[] u fun e u' => e = .returned (.bool true) ∧ Below u.heap.size u u' := by
  obtain ⟨W, hW⟩ : ∃ W, u = W := ⟨_, rfl⟩
  subst hW
  have HB0 : Hid (Below u.heap.size u (u.alloc (.cells #[.int .i64 0, .int .i64 5, .int .i64 7, .int .i64 0] 3))) := (Below.refl _ _).alloc (Nat.le_refl _) _
  have HI0 : Hid (Ints (u.alloc (.cells #[.int .i64 0, .int .i64 5, .int .i64 7, .int .i64 0] 3)) (u.heap.size + 1) (some ⟨u.heap.size, 0, none⟩) 4 [0, 5, 7, 0]) := by
    have hb := Blk.new u 3 [.int .i64 0, .int .i64 5, .int .i64 7, .int .i64 0]
    exact ⟨rfl, by decide, fun _ => ⟨u.heap.size, 0, rfl, by simp, fun j x hx => by rw [Nat.zero_add]; exact hb.cell hx⟩⟩
  go_enter Try.func3, Try.ntmps3
  go_wp2_with fail
  refine (kgnew 2 0 _ 4 4 [0, 5, 7, 0] _ (by exact Reads.more HI0.out (by simp)) (by decide)).mono ?_
  rintro e w1 ⟨q, rfl, hq, hb1, hm1⟩
  obtain ⟨z, rfl⟩ : ∃ z, q = some z := by cases q with
    | none => cases hq
    | some z => exact ⟨z, rfl⟩
  have R1 : Hid (RB u (some z) [] w1) := ⟨HB0.out.trans (hb1.mono HB0.out.size), MapP.lower hm1 HB0.out.size, by simp⟩
  clear hb1 hm1 hq HB0 HI0
  have R2 := Lib.hid (R1.out.alloc 31 [.int .i64 1, .int .i64 3, .int .i64 0, .int .i64 2, .int .i64 9, .int .i64 1, .int .i64 1, .int .i64 0, .int .i64 20, .int .i64 2])
  have R3 := Lib.hid (R2.out.alloc 33 [.int .i64 4, .int .i64 3, .int .i64 1, .int .i64 1, .int .i64 30, .bool false])
  have R4 := Lib.hid (R3.out.alloc 36 [.int .i64 1, .bool false])
  have R5 := Lib.hid (R4.out.alloc 36 [.int .i64 1, .bool true])
  have R6 := Lib.hid (R5.out.alloc 31 [.int .i64 1, .int .i64 3, .int .i64 0, .int .i64 2, .int .i64 9, .int .i64 1, .int .i64 1, .int .i64 0, .int .i64 20, .int .i64 2])
  have R7 := Lib.hid (R6.out.alloc 36 [.int .i64 1, .bool false, .int .i64 1, .bool true])
  have R8 := Lib.hid (R7.out.alloc 40 [.int .i64 4, .int .i64 0, .slice (some ⟨w1.heap.size + 1 + 1 + 1 + 1 + 1, 0, none⟩) 2 2])
  have R9 := Lib.hid (R8.out.alloc 36 [.int .i64 1, .bool false, .int .i64 1, .bool true])
  have R10 := Lib.hid (R9.out.alloc 40 [.int .i64 4, .int .i64 1, .slice (some ⟨w1.heap.size + 1 + 1 + 1 + 1 + 1 + 1 + 1, 0, none⟩) 2 2])
  simp only [World.size_alloc] at R2 R3 R4 R5 R6 R7 R8 R9 R10
  clear R1 R2 R3 R4 R5 R6 R7 R8 R9
  have RX : Hid (RB u (some z) (ubx w1.heap.size) (((((((((w1.alloc (.cells #[.int .i64 1, .int .i64 3, .int .i64 0, .int .i64 2, .int .i64 9, .int .i64 1, .int .i64 1, .int .i64 0, .int .i64 20, .int .i64 2] 31)).alloc (.cells #[.int .i64 4, .int .i64 3, .int .i64 1, .int .i64 1, .int .i64 30, .bool false] 33)).alloc (.cells #[.int .i64 1, .bool false] 36)).alloc (.cells #[.int .i64 1, .bool true] 36)).alloc (.cells #[.int .i64 1, .int .i64 3, .int .i64 0, .int .i64 2, .int .i64 9, .int .i64 1, .int .i64 1, .int .i64 0, .int .i64 20, .int .i64 2] 31)).alloc (.cells #[.int .i64 1, .bool false, .int .i64 1, .bool true] 36)).alloc (.cells #[.int .i64 4, .int .i64 0, .slice (some ⟨w1.heap.size + 1 + 1 + 1 + 1 + 1, 0, none⟩) 2 2] 40)).alloc (.cells #[.int .i64 1, .bool false, .int .i64 1, .bool true] 36)).alloc (.cells #[.int .i64 4, .int .i64 1, .slice (some ⟨w1.heap.size + 1 + 1 + 1 + 1 + 1 + 1 + 1, 0, none⟩) 2 2] 40))) := by
    have h := R10.out
    refine ⟨h.1, h.2.1, fun p hp => h.2.2 p ?_⟩
    simp only [List.mem_cons, List.not_mem_nil, or_false] at hp ⊢
    rcases hp with hp | hp | hp | hp | hp | hp | hp | hp <;> subst hp <;> simp
  clear R10
  go_upto_region 10 with fail
  obtain ⟨w2, hw2⟩ : ∃ u, (((((((((w1.alloc (.cells #[.int .i64 1, .int .i64 3, .int .i64 0, .int .i64 2, .int .i64 9, .int .i64 1, .int .i64 1, .int .i64 0, .int .i64 20, .int .i64 2] 31)).alloc (.cells #[.int .i64 4, .int .i64 3, .int .i64 1, .int .i64 1, .int .i64 30, .bool false] 33)).alloc (.cells #[.int .i64 1, .bool false] 36)).alloc (.cells #[.int .i64 1, .bool true] 36)).alloc (.cells #[.int .i64 1, .int .i64 3, .int .i64 0, .int .i64 2, .int .i64 9, .int .i64 1, .int .i64 1, .int .i64 0, .int .i64 20, .int .i64 2] 31)).alloc (.cells #[.int .i64 1, .bool false, .int .i64 1, .bool true] 36)).alloc (.cells #[.int .i64 4, .int .i64 0, .slice (some ⟨w1.heap.size + 1 + 1 + 1 + 1 + 1, 0, none⟩) 2 2] 40)).alloc (.cells #[.int .i64 1, .bool false, .int .i64 1, .bool true] 36)).alloc (.cells #[.int .i64 4, .int .i64 1, .slice (some ⟨w1.heap.size + 1 + 1 + 1 + 1 + 1 + 1 + 1, 0, none⟩) 2 2] 40)) = u := ⟨_, rfl⟩
  rw [hw2] at RX
  (try rw [hw2])
  clear hw2
  obtain ⟨g, hg⟩ : ∃ g, w1.heap.size = g := ⟨_, rfl⟩
  rw [hg] at RX
  (try rw [hg])
  clear hg
  go_wp2_with fail
  refine (run_aud u (some z) (ubx g) _ 1 1 [runD] _ 1 1 [runO] _ 1 1 [uRM g] [] _ (by exact RX.out) (by exact ux_drvs RX.out) (by exact ux_ords RX.out) (by exact ux_all RX.out) (by decide) (by decide) (by decide) a1).mono ?_
  rintro e w3 ⟨Ba, ca, rfl, hR, _, _⟩
  have R3 := Lib.hid hR
  clear hR RX
  have p0 : w3.cell? ⟨g + 1 + 1, 0, none⟩ = some (.int .i64 1) := (R3.out.at_ (g := g + 1 + 1) (t := 36) (vs := [.int .i64 1, .bool false]) (by simp)).cell rfl
  have p1 : w3.cell? ⟨g + 1 + 1, 1, none⟩ = some (.bool false) := (R3.out.at_ (g := g + 1 + 1) (t := 36) (vs := [.int .i64 1, .bool false]) (by simp)).cell rfl
  have q0 : w3.cell? ⟨g + 1 + 1 + 1, 0, none⟩ = some (.int .i64 1) := (R3.out.at_ (g := g + 1 + 1 + 1) (t := 36) (vs := [.int .i64 1, .bool true]) (by simp)).cell rfl
  have q1 : w3.cell? ⟨g + 1 + 1 + 1, 1, none⟩ = some (.bool true) := (R3.out.at_ (g := g + 1 + 1 + 1) (t := 36) (vs := [.int .i64 1, .bool true]) (by simp)).cell rfl
  have R4 := Lib.hid (R3.out.alloc 36 [.int .i64 1, .bool true, .int .i64 1, .bool false])
  have R5 := Lib.hid (R4.out.alloc 40 [.int .i64 4, .int .i64 0, .slice (some ⟨w3.heap.size, 0, none⟩) 2 2])
  simp only [World.size_alloc] at R5
  have HP5 : Hid (Plns ((w3.alloc (.cells #[.int .i64 1, .bool true, .int .i64 1, .bool false] 36)).alloc (.cells #[.int .i64 4, .int .i64 0, .slice (some ⟨w3.heap.size, 0, none⟩) 2 2] 40)) ((w3.alloc (.cells #[.int .i64 1, .bool true, .int .i64 1, .bool false] 36)).alloc (.cells #[.int .i64 4, .int .i64 0, .slice (some ⟨w3.heap.size, 0, none⟩) 2 2] 40)).heap.size (some ⟨w3.heap.size + 1, 0, none⟩) 1 [⟨uTurn, some ⟨w3.heap.size, 0, none⟩, 2, 2⟩]) := by
    refine ⟨recs_of (vs := rmsV [⟨uTurn, some ⟨w3.heap.size, 0, none⟩, 2, 2⟩]) (R5.out.at_ (g := w3.heap.size + 1) (t := 40) (vs := [.int .i64 4, .int .i64 0, .slice (some ⟨w3.heap.size, 0, none⟩) 2 2]) (by simp)) rfl (by decide), fun r hr => ?_⟩
    obtain rfl : r = _ := by simpa using hr
    exact ⟨recs_of (n := 2) (vs := stpsV [uQ, uP]) (R5.out.at_ (g := w3.heap.size) (t := 36) (vs := [.int .i64 1, .bool true, .int .i64 1, .bool false]) (by simp)) rfl (by decide), Nat.le_refl _, by show 2 * 16 ≤ _; decide⟩
  clear R3 R4
  go_wp2_with fail
  refine (run_aud u (some z) (ubx g) _ 1 1 [runD] _ 1 1 [runO] _ 1 1 [⟨uTurn, some ⟨w3.heap.size, 0, none⟩, 2, 2⟩] tB _ (by exact ru_tail (ru_tail R5.out)) (by exact ux_drvs (ru_tail (ru_tail R5.out))) (by exact ux_ords (ru_tail (ru_tail R5.out))) (by exact HP5.out) (by decide) (by decide) (by decide) a2).mono ?_
  rintro e w4 ⟨Bb, cb, rfl, hR, _, hT⟩
  have R4 := Lib.hid hR
  have TB4 := Lib.hid hT
  clear hR hT R5 HP5 p0 p1 q0 q1
  go_wp2_with fail
  refine (run_aud u (some z) (ubx g) _ 1 1 [runD] _ 1 1 [runO] _ 0 0 [] tC _ (by exact R4.out) (by exact ux_drvs R4.out) (by exact ux_ords R4.out) (by exact plns_nil _ _) (by decide) (by decide) (by decide) a3).mono ?_
  rintro e w5 ⟨Bc, cc, rfl, hR, hb, hT⟩
  have R5 := Lib.hid hR
  have TB5 : Hid (Trbs w5 w5.heap.size Bb 3 tB) := Recs.more (Recs.keep TB4.out hb) hb.size
  have TC5 := Lib.hid hT
  clear hR hT hb R4 TB4
  go_wp2_with fail
  refine (run_aud u (some z) (ubx g) _ 0 0 [] _ 1 1 [runO] _ 1 1 [uRM g] tF _ (by exact R5.out) (by exact Recs.none_) (by exact ux_ords R5.out) (by exact ux_all R5.out) (by decide) (by decide) (by decide) a4).mono ?_
  rintro e w6 ⟨Bf, cf, rfl, hR, hb, hT⟩
  have R6 := Lib.hid hR
  have TB6 : Hid (Trbs w6 w6.heap.size Bb 3 tB) := Recs.more (Recs.keep TB5.out hb) hb.size
  have TC6 : Hid (Trbs w6 w6.heap.size Bc 1 tC) := Recs.more (Recs.keep TC5.out hb) hb.size
  have TF6 := Lib.hid hT
  clear hR hT hb R5 TB5 TC5
  go_wp2_with fail
  refine (run_aud u (some z) (ubx g) _ 1 1 [runD] _ 0 0 [] _ 1 1 [uRM g] tG _ (by exact R6.out) (by exact ux_drvs R6.out) (by exact Recs.none_) (by exact ux_all R6.out) (by decide) (by decide) (by decide) a5).mono ?_
  rintro e w7 ⟨Bg, cg, rfl, hR, hb, hT⟩
  have R7 := Lib.hid hR
  have TB7 : Hid (Trbs w7 w7.heap.size Bb 3 tB) := Recs.more (Recs.keep TB6.out hb) hb.size
  have TC7 : Hid (Trbs w7 w7.heap.size Bc 1 tC) := Recs.more (Recs.keep TC6.out hb) hb.size
  have TF7 : Hid (Trbs w7 w7.heap.size Bf 1 tF) := Recs.more (Recs.keep TF6.out hb) hb.size
  have TG7 := Lib.hid hT
  clear hR hT hb R6 TB6 TC6 TF6
  have hx1 : Below w7.heap.size w7 (w7.alloc (.cells #[.int .i64 4, .int .i64 1, .int .i64 17, .int .i64 4, .int .i64 1, .int .i64 15, .int .i64 4, .int .i64 1, .int .i64 18] 47)) := (Below.refl _ _).alloc (Nat.le_refl _) _
  have X1 : Hid (Trbs (w7.alloc (.cells #[.int .i64 4, .int .i64 1, .int .i64 17, .int .i64 4, .int .i64 1, .int .i64 15, .int .i64 4, .int .i64 1, .int .i64 18] 47)) (w7.alloc (.cells #[.int .i64 4, .int .i64 1, .int .i64 17, .int .i64 4, .int .i64 1, .int .i64 15, .int .i64 4, .int .i64 1, .int .i64 18] 47)).heap.size Bb 3 tB) := Recs.more (Recs.keep TB7.out hx1) hx1.size
  have Y1 : Hid (Trbs (w7.alloc (.cells #[.int .i64 4, .int .i64 1, .int .i64 17, .int .i64 4, .int .i64 1, .int .i64 15, .int .i64 4, .int .i64 1, .int .i64 18] 47)) (w7.alloc (.cells #[.int .i64 4, .int .i64 1, .int .i64 17, .int .i64 4, .int .i64 1, .int .i64 15, .int .i64 4, .int .i64 1, .int .i64 18] 47)).heap.size (some ⟨w7.heap.size, 0, none⟩) 3 tB) := recs_of (vs := trbsV tB) (Blk.new w7 _ _) rfl (by decide)
  have Z1 := Lib.hid hx1
  clear hx1
  go_wp2_with fail
  refine (sameTrb Bb _ 3 cb _ tB _ _ _ (by exact X1.out) (by exact Y1.out)).mono ?_
  rintro e w8 ⟨rfl, d1, hd1⟩
  have hz1 : Below w7.heap.size w7 w8 := by rw [hd1]; exact below_drewN Z1.out _
  have R8 := Lib.hid (R7.out.below hz1)
  have TC8 : Hid (Trbs w8 w8.heap.size Bc 1 tC) := Recs.more (Recs.keep TC7.out hz1) hz1.size
  have TF8 : Hid (Trbs w8 w8.heap.size Bf 1 tF) := Recs.more (Recs.keep TF7.out hz1) hz1.size
  have TG8 : Hid (Trbs w8 w8.heap.size Bg 2 tG) := Recs.more (Recs.keep TG7.out hz1) hz1.size
  clear hz1 hd1 X1 Y1 Z1 R7 TB7 TC7 TF7 TG7
  have hx2 : Below w8.heap.size w8 (w8.alloc (.cells #[.int .i64 0, .int .i64 1, .int .i64 19] 47)) := (Below.refl _ _).alloc (Nat.le_refl _) _
  have X2 : Hid (Trbs (w8.alloc (.cells #[.int .i64 0, .int .i64 1, .int .i64 19] 47)) (w8.alloc (.cells #[.int .i64 0, .int .i64 1, .int .i64 19] 47)).heap.size Bc 1 tC) := Recs.more (Recs.keep TC8.out hx2) hx2.size
  have Y2 : Hid (Trbs (w8.alloc (.cells #[.int .i64 0, .int .i64 1, .int .i64 19] 47)) (w8.alloc (.cells #[.int .i64 0, .int .i64 1, .int .i64 19] 47)).heap.size (some ⟨w8.heap.size, 0, none⟩) 1 tC) := recs_of (vs := trbsV tC) (Blk.new w8 _ _) rfl (by decide)
  have Z2 := Lib.hid hx2
  clear hx2
  go_wp2_with fail
  refine (sameTrb Bc _ 1 cc _ tC _ _ _ (by exact X2.out) (by exact Y2.out)).mono ?_
  rintro e w9 ⟨rfl, d2, hd2⟩
  have hz2 : Below w8.heap.size w8 w9 := by rw [hd2]; exact below_drewN Z2.out _
  have R9 := Lib.hid (R8.out.below hz2)
  have TF9 : Hid (Trbs w9 w9.heap.size Bf 1 tF) := Recs.more (Recs.keep TF8.out hz2) hz2.size
  have TG9 : Hid (Trbs w9 w9.heap.size Bg 2 tG) := Recs.more (Recs.keep TG8.out hz2) hz2.size
  clear hz2 hd2 X2 Y2 Z2 R8 TC8 TF8 TG8
  have hx3 : Below w9.heap.size w9 (w9.alloc (.cells #[.int .i64 4, .int .i64 0, .int .i64 8] 47)) := (Below.refl _ _).alloc (Nat.le_refl _) _
  have X3 : Hid (Trbs (w9.alloc (.cells #[.int .i64 4, .int .i64 0, .int .i64 8] 47)) (w9.alloc (.cells #[.int .i64 4, .int .i64 0, .int .i64 8] 47)).heap.size Bf 1 tF) := Recs.more (Recs.keep TF9.out hx3) hx3.size
  have Y3 : Hid (Trbs (w9.alloc (.cells #[.int .i64 4, .int .i64 0, .int .i64 8] 47)) (w9.alloc (.cells #[.int .i64 4, .int .i64 0, .int .i64 8] 47)).heap.size (some ⟨w9.heap.size, 0, none⟩) 1 tF) := recs_of (vs := trbsV tF) (Blk.new w9 _ _) rfl (by decide)
  have Z3 := Lib.hid hx3
  clear hx3
  go_wp2_with fail
  refine (sameTrb Bf _ 1 cf _ tF _ _ _ (by exact X3.out) (by exact Y3.out)).mono ?_
  rintro e w10 ⟨rfl, d3, hd3⟩
  have hz3 : Below w9.heap.size w9 w10 := by rw [hd3]; exact below_drewN Z3.out _
  have R10 := Lib.hid (R9.out.below hz3)
  have TG10 : Hid (Trbs w10 w10.heap.size Bg 2 tG) := Recs.more (Recs.keep TG9.out hz3) hz3.size
  clear hz3 hd3 X3 Y3 Z3 R9 TF9 TG9
  have hx4 : Below w10.heap.size w10 (w10.alloc (.cells #[.int .i64 4, .int .i64 1, .int .i64 8, .int .i64 4, .int .i64 1, .int .i64 8] 47)) := (Below.refl _ _).alloc (Nat.le_refl _) _
  have X4 : Hid (Trbs (w10.alloc (.cells #[.int .i64 4, .int .i64 1, .int .i64 8, .int .i64 4, .int .i64 1, .int .i64 8] 47)) (w10.alloc (.cells #[.int .i64 4, .int .i64 1, .int .i64 8, .int .i64 4, .int .i64 1, .int .i64 8] 47)).heap.size Bg 2 tG) := Recs.more (Recs.keep TG10.out hx4) hx4.size
  have Y4 : Hid (Trbs (w10.alloc (.cells #[.int .i64 4, .int .i64 1, .int .i64 8, .int .i64 4, .int .i64 1, .int .i64 8] 47)) (w10.alloc (.cells #[.int .i64 4, .int .i64 1, .int .i64 8, .int .i64 4, .int .i64 1, .int .i64 8] 47)).heap.size (some ⟨w10.heap.size, 0, none⟩) 2 tG) := recs_of (vs := trbsV tG) (Blk.new w10 _ _) rfl (by decide)
  have Z4 := Lib.hid hx4
  clear hx4
  go_wp2_with fail
  refine (sameTrb Bg _ 2 cg _ tG _ _ _ (by exact X4.out) (by exact Y4.out)).mono ?_
  rintro e w11 ⟨rfl, d4, hd4⟩
  have hz4 : Below w10.heap.size w10 w11 := by rw [hd4]; exact below_drewN Z4.out _
  have R11 := Lib.hid (R10.out.below hz4)
  clear hz4 hd4 X4 Y4 Z4 R10 TG10
  go_wp2_with fail
  refine (run_kept u (some z) (ubx g) _ 1 1 [uRM g] _ 1 1 [uRM g] true _ (by exact R11.out) (by decide) (by decide) (by exact ux_all R11.out) (by exact ux_all R11.out) k1).mono ?_
  rintro e w12 ⟨rfl, hR⟩
  have R12 := Lib.hid hR
  clear hR R11
  go_wp2_with fail
  refine (run_kept u (some z) (ubx g) _ 1 1 [uDM g] _ 1 1 [uRM g] false _ (by exact R12.out) (by decide) (by decide) (by exact ux_done R12.out) (by exact ux_all R12.out) k2).mono ?_
  rintro e w13 ⟨rfl, hR⟩
  have R13 := Lib.hid hR
  clear hR R12
  go_wp2_with fail
  refine (run_kept u (some z) (ubx g) _ 1 1 [uRM g] _ 1 1 [uDM g] false _ (by exact R13.out) (by decide) (by decide) (by exact ux_all R13.out) (by exact ux_done R13.out) k3).mono ?_
  rintro e w14 ⟨rfl, hR⟩
  have R14 := Lib.hid hR
  clear hR R13
  go_wp2_with fail
  go_ret
  exact ⟨rfl, R14.out.1⟩
#print axioms runs_any
end Go.Proofs.Ytjklpdeeohhhnaa.Audit
