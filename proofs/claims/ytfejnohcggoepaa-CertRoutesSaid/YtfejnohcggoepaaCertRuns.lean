/-
  Chapter 10's example runs come out as the chapter says (CertRuns returns true), whatever the memory; only new memory is written.
-/
import Derived.Test.YtfejnohcggoepaaCertPChk
import Derived.Test.YtfejnohcggoepaaCertUses
namespace Go.Proofs.Ytfejnohcggoepaa.Cert
open Go.ChangeShapes Go.WideShapes Go.ChangeAt Go.RowKit Go.Proofs.Ytfejnohcggoepaa.Mem Go.Proofs.Ytfejnohcggoepaa.GeoMath Go.Proofs.Ytfejnohcggoepaa.FleetMath Go.Proofs.Ytfejnohcggoepaa.PlanMath Go.Proofs.Ytfejnohcggoepaa.CertMath Go.Proofs.Ytfejnohcggoepaa.Rec Go.Proofs.Ytfejnohcggoepaa.Geo Go.Proofs.Ytfejnohcggoepaa.Span Go.Proofs.Ytfejnohcggoepaa.Deal Go.Proofs.Ytfejnohcggoepaa.Keep Go.Proofs.Ytfejnohcggoepaa.Route Go.Proofs.Ytfejnohcggoepaa.Plan
set_option linter.unusedVariables false
set_option linter.unusedSimpArgs false

section
variable {w00 w0 w : World} {v : Value} {l : List CM}
theorem NewC.lower (h : NewC w0 w v l) (hb : Below w00.heap.size w00 w0) : NewC w00 w v l :=
  ⟨hb.trans (h.old.mono hb.size), h.own.lower hb.size, (fun r hr => ⟨(h.each r hr).1.lower hb.size, (h.each r hr).2⟩), h.apart⟩
/-- a cell elsewhere is written over -/
theorem NewC.else_ {g j : Nat} {x : Value} (h : NewC w0 w v l) (hg : w0.heap.size ≤ g) (hv : v.ownBlock ≠ some g) (hr : ∀ r ∈ l, r.v.ownBlock ≠ some g) : NewC w0 (w.setCell ⟨g, j, none⟩ x) v l :=
  ⟨h.old.setCell hg _, own_else h.own hv, (fun r hm => ⟨own_else (h.each r hm).1 (hr r hm), (h.each r hm).2⟩), h.apart⟩
end
abbrev sP : Stp := ⟨1, false⟩
abbrev sQ : Stp := ⟨1, true⟩
abbrev cV1 : Vis := ⟨sP, 8, 8, 9, 3⟩
abbrev cV2 : Vis := ⟨sQ, 14, 14, 16, 0⟩
abbrev cLate : Vis := ⟨sQ, 14, 14, 17, 0⟩
abbrev cLoad : Vis := ⟨sP, 8, 8, 9, 2⟩
abbrev cRte : Rte := ⟨4, 0, [sP, sQ]⟩
theorem m1 : makeC (some runM) [runD] [runO] [cRte] = ([[cV1, cV2]], 0, 0) := by kernel_rfl
theorem m2 : makeC (some runM) [] [runO] [cRte] = ([], 0, 8) := by kernel_rfl
theorem m3 : makeC (some runM) [runD] [] [cRte] = ([], 0, 8) := by kernel_rfl
theorem k1 : checkC (some runM) [runD] [runO] [cRte] [[cV1, cV2]] = (0, 0) := by kernel_rfl
theorem k2 : checkC (some runM) [runD] [runO] [cRte] [[cV1, cLate]] = (0, 15) := by kernel_rfl
theorem k3 : checkC (some runM) [runD] [runO] [cRte] [[cLoad, cV2]] = (0, 14) := by kernel_rfl
theorem k4 : checkC (some runM) [runD] [runO] [cRte] [[cV1]] = (0, 4) := by kernel_rfl
theorem k5 : checkC (some runM) [runD] [runO] [cRte] [] = (0, 4) := by kernel_rfl
theorem recs_blk {u : World} {g n k : Nat} {t : TypeId} {vs : List Value} (h : Blk u g t vs) (hl : vs.length = n * k) (hn : n ≤ 64) : Recs u u.heap.size (some ⟨g, 0, none⟩) n k vs :=
  ⟨hl, by unfold maxLen; omega, fun _ => ⟨g, 0, rfl, h.lt, fun j u hu => by rw [Nat.zero_add]; exact h.cell hu⟩⟩
/-- the blocks of the runs -/
abbrev kbx (g : Nat) : List (Nat × TypeId × List Value) := [(g + 1 + 1 + 1 + 1 + 1 + 1 + 1 + 1, 45, [.slice (some ⟨g + 1 + 1 + 1 + 1 + 1 + 1 + 1, 0, none⟩) 2 2]), (g + 1 + 1 + 1 + 1 + 1 + 1 + 1, 44, [.int .i64 1, .bool false, .int .i64 8, .int .i64 8, .int .i64 9, .int .i64 3, .int .i64 1, .bool true, .int .i64 14, .int .i64 14, .int .i64 16, .int .i64 0]), (g + 1 + 1 + 1 + 1 + 1 + 1, 40, [.int .i64 4, .int .i64 0, .slice (some ⟨g + 1 + 1 + 1 + 1 + 1, 0, none⟩) 2 2]), (g + 1 + 1 + 1 + 1 + 1, 36, [.int .i64 1, .bool false, .int .i64 1, .bool true]), (g + 1 + 1 + 1 + 1, 31, [.int .i64 1, .int .i64 3, .int .i64 0, .int .i64 2, .int .i64 9, .int .i64 1, .int .i64 1, .int .i64 0, .int .i64 20, .int .i64 2]), (g + 1, 33, [.int .i64 4, .int .i64 3, .int .i64 1, .int .i64 1, .int .i64 30, .bool false])]
abbrev kRM (g : Nat) : RM := ⟨cRte, some ⟨g + 1 + 1 + 1 + 1 + 1, 0, none⟩, 2, 2⟩
abbrev kCM (g : Nat) : CM := ⟨[cV1, cV2], some ⟨g + 1 + 1 + 1 + 1 + 1 + 1 + 1, 0, none⟩, 2, 2⟩
section
variable {W u : World} {z : Option Addr} {g : Nat}
theorem kx_drvs (h : RB W z (kbx g) u) : Drvs u u.heap.size (some ⟨g + 1, 0, none⟩) 1 [runD] := recs_blk (vs := drvsV [runD]) (h.at_ (g := g + 1) (t := 33) (vs := [.int .i64 4, .int .i64 3, .int .i64 1, .int .i64 1, .int .i64 30, .bool false]) (by simp)) rfl (by decide)
theorem kx_ords (h : RB W z (kbx g) u) : Ords u u.heap.size (some ⟨g + 1 + 1 + 1 + 1, 0, none⟩) 1 [runO] := recs_blk (vs := ordsV [runO]) (h.at_ (g := g + 1 + 1 + 1 + 1) (t := 31) (vs := [.int .i64 1, .int .i64 3, .int .i64 0, .int .i64 2, .int .i64 9, .int .i64 1, .int .i64 1, .int .i64 0, .int .i64 20, .int .i64 2]) (by simp)) rfl (by decide)
theorem kx_stps (h : RB W z (kbx g) u) : Stps u u.heap.size (some ⟨g + 1 + 1 + 1 + 1 + 1, 0, none⟩) 2 [sP, sQ] := recs_blk (vs := stpsV [sP, sQ]) (h.at_ (g := g + 1 + 1 + 1 + 1 + 1) (t := 36) (vs := [.int .i64 1, .bool false, .int .i64 1, .bool true]) (by simp)) rfl (by decide)
theorem kx_plns (h : RB W z (kbx g) u) : Plns u u.heap.size (some ⟨g + 1 + 1 + 1 + 1 + 1 + 1, 0, none⟩) 1 [kRM g] :=
  ⟨recs_blk (vs := rmsV [kRM g]) (h.at_ (g := g + 1 + 1 + 1 + 1 + 1 + 1) (t := 40) (vs := [.int .i64 4, .int .i64 0, .slice (some ⟨g + 1 + 1 + 1 + 1 + 1, 0, none⟩) 2 2]) (by simp)) rfl (by decide), fun r hr => by
    obtain rfl : r = kRM g := by simpa using hr
    exact ⟨kx_stps h, Nat.le_refl _, by show 2 * 16 ≤ _; decide⟩⟩
theorem kx_viss (h : RB W z (kbx g) u) : Viss u u.heap.size (some ⟨g + 1 + 1 + 1 + 1 + 1 + 1 + 1, 0, none⟩) 2 [cV1, cV2] := recs_blk (vs := vissV [cV1, cV2]) (h.at_ (g := g + 1 + 1 + 1 + 1 + 1 + 1 + 1) (t := 44) (vs := [.int .i64 1, .bool false, .int .i64 8, .int .i64 8, .int .i64 9, .int .i64 3, .int .i64 1, .bool true, .int .i64 14, .int .i64 14, .int .i64 16, .int .i64 0]) (by simp)) rfl (by decide)
theorem kx_crts (h : RB W z (kbx g) u) : Crts u u.heap.size (some ⟨g + 1 + 1 + 1 + 1 + 1 + 1 + 1 + 1, 0, none⟩) 1 [kCM g] :=
  ⟨recs_blk (vs := cmsV [kCM g]) (h.at_ (g := g + 1 + 1 + 1 + 1 + 1 + 1 + 1 + 1) (t := 45) (vs := [.slice (some ⟨g + 1 + 1 + 1 + 1 + 1 + 1 + 1, 0, none⟩) 2 2]) (by simp)) rfl (by decide), fun r hr => by
    obtain rfl : r = kCM g := by simpa using hr
    exact ⟨kx_viss h, Nat.le_refl _, by show 2 * 48 ≤ _; decide⟩⟩
end
theorem below_past {w u : World} {o : Obj} (hb : Below (w.alloc o).heap.size (w.alloc o) u) : Below w.heap.size w u := ((Below.refl w.heap.size w).alloc (Nat.le_refl _) o).trans (hb.mono (by simp))
theorem one_of {l : List CM} {vs : List Vis} (h : l.map (·.vs) = [vs]) : ∃ r, l = [r] ∧ r.vs = vs := by
  match l, h with
  | [r], h => exact ⟨r, rfl, by simpa using h⟩
theorem rb_tail {W u : World} {z : Option Addr} {b : Nat × TypeId × List Value} {bx : List (Nat × TypeId × List Value)} (h : RB W z (b :: bx) u) : RB W z bx u := ⟨h.1, h.2.1, fun p hp => h.2.2 p (List.mem_cons_of_mem _ hp)⟩
theorem RB.belowB {W u u' : World} {z : Option Addr} {bx : List (Nat × TypeId × List Value)} (h : RB W z bx u) (hb : Below u.heap.size u u') : RB W z bx u' := h.below hb
/-- a list of two visits in memory of one's own -/
structure One2 (w : World) (B0 B1 : Nat) (v : Value) (l : List CM) (x y : Vis) (ga ca gb cb : Nat) : Prop where
  v : v = .slice (some ⟨ga, 0, none⟩) 1 ca
  l : l = [⟨[x, y], some ⟨gb, 0, none⟩, 2, cb⟩]
  la : B0 ≤ ga
  lb : B0 ≤ gb
  ha : ga < B1
  hb : gb < B1
  cell : w.cell? ⟨ga, 0, none⟩ = some (.slice (some ⟨gb, 0, none⟩) 2 cb)
theorem NewC.one {w0 w : World} {v : Value} {l : List CM} {x y : Vis} (h : NewC w0 w v l) (hl : l.map (·.vs) = [[x, y]]) : ∃ ga ca gb cb, One2 w w0.heap.size w.heap.size v l x y ga ca gb cb := by
  obtain ⟨r, rfl, hr⟩ := one_of hl
  obtain ⟨ga, ca, rfl, h1, h2⟩ := own_front h.own (by simp)
  obtain ⟨ho, _⟩ := h.each r (by simp)
  have hn : r.n = 2 := by
    have := ho.len
    rw [vissV_len, hr] at this
    simp at this
    omega
  obtain ⟨gb, cb, e, h3, h4⟩ := own_front ho (by omega)
  injection e with e1 e2 e3
  obtain ⟨rvs, ra, rn, rc⟩ := r
  simp only at hr hn e1 e3
  subst hr; subst hn; subst e1; subst e3
  have hc := (own_turn h.own (j := 0) (by simp)).1
  obtain ⟨u, hu, hc⟩ := hc
  have hu' : some (Value.slice (some ⟨gb, 0, none⟩) 2 rc) = some u := hu
  injection hu' with hu'
  rw [← hu'] at hc
  exact ⟨ga, ca, gb, rc, rfl, rfl, h1, h3, h2, h4, hc⟩
theorem crts_of {w0 w : World} {g c : Nat} {r : CM} (h : NewC w0 w (.slice (some ⟨g, 0, none⟩) 1 c) [r]) (hf : r.n * 48 ≤ 140737488351232) : Crts w w.heap.size (some ⟨g, 0, none⟩) 1 [r] := by
  obtain ⟨A, c', e, _, hc⟩ := h.crts fun q hq => by
    obtain rfl : q = r := by simpa using hq
    exact hf
  injection e with e1 _ _
  subst e1
  exact hc
theorem run_why (a b : Int) (u : World) : (Instr.field 49 (.agg #[.int .i64 a, .int .i64 b]) 1).run Try.prog u = .ok (.int .i64 b) u := by
  obtain ⟨i, hi, hz0, hz1, hz2⟩ := info_parts (show (Try.prog.info? 3).map (fun i => (i.zero, i.size, i.bytes)) = some (some (.int .i64 0), 1, 8) by kernel_rfl)
  obtain ⟨j, hj, hy0, hy1, hy2⟩ := info_parts (show (Try.prog.info? 23).map (fun i => (i.zero, i.size, i.bytes)) = some (some (.int .i64 0), 1, 8) by kernel_rfl)
  simp [Instr.field, run_underlying Try.underlying49, part, asAgg, sizeOf, typeInfo, hi, hz1, hj, hy1]
/-- a Make of the runs -/
theorem run_make (W : World) (z : Option Addr) (g : Nat) (A : Option Addr) (n c : Nat) (ds : List Drv) (A2 : Option Addr) (n2 c2 : Nat) (os : List FleetMath.Ord) (vs : List (List Vis)) (k : Nat) (e : Int) (u : World) (h : RB W z (kbx g) u) (hd : Drvs u u.heap.size A n ds) (ho : Ords u u.heap.size A2 n2 os) (hnc : n ≤ c) (hnc2 : n2 ≤ c2)
    (hr : makeC (some runM) ds os [cRte] = (vs, k, e)) :
    Calls Try.prog 10 #[.pointer z, .slice A n c, .slice A2 n2 c2, .slice (some ⟨g + 1 + 1 + 1 + 1 + 1 + 1, 0, none⟩) 1 1] u fun en u' => ∃ B c3 l, en = .returned (.tuple #[.slice B vs.length c3, faultV k e]) ∧ RB W z (kbx g) u' ∧ Below u.heap.size u u' ∧ Crts u' u'.heap.size B vs.length l ∧ l.map (·.vs) = vs := by
  refine (pmake_any W.heap.size _ _ A n c ds A2 n2 c2 os _ 1 1 [kRM g] u hnc hnc2 h.2.1 hd ho (kx_plns h)).mono ?_
  rintro en u' ⟨v, l, rfl, hm⟩
  rw [show [kRM g].map (·.rt) = [cRte] from rfl, hr] at hm ⊢
  obtain ⟨B, c3, rfl, _, hc⟩ := hm.new.crts hm.few
  have hvs : l.map (·.vs) = vs := hm.vss
  have hl : l.length = vs.length := by rw [← hvs, List.length_map]
  rw [hl] at hc ⊢
  exact ⟨B, c3, l, rfl, h.below hm.new.old, hm.new.old, hc, hvs⟩
/-- a Check of the runs -/
theorem run_check (W : World) (z : Option Addr) (g : Nat) (A5 : Option Addr) (n5 c5 : Nat) (cl : List CM) (cs : List (List Vis)) (k : Nat) (e : Int) (u : World) (h : RB W z (kbx g) u) (hc : Crts u u.heap.size A5 n5 cl) (hcs : cl.map (·.vs) = cs) (hr : checkC (some runM) [runD] [runO] [cRte] cs = (k, e)) :
    Calls Try.prog 13 #[.pointer z, .slice (some ⟨g + 1, 0, none⟩) 1 1, .slice (some ⟨g + 1 + 1 + 1 + 1, 0, none⟩) 1 1, .slice (some ⟨g + 1 + 1 + 1 + 1 + 1 + 1, 0, none⟩) 1 1, .slice A5 n5 c5] u fun en u' => en = .returned (faultV k e) ∧ RB W z (kbx g) u' ∧ Below u.heap.size u u' := by
  refine (pchk_any W.heap.size _ _ _ 1 1 [runD] _ 1 1 [runO] _ 1 1 [kRM g] A5 n5 c5 cl u (Nat.le_refl _) (Nat.le_refl _) h.2.1 (kx_drvs h) (kx_ords h) (kx_plns h) hc).mono ?_
  rintro en u' ⟨rfl, hb⟩
  rw [show [kRM g].map (·.rt) = [cRte] from rfl, hcs, hr]
  exact ⟨rfl, h.below hb, hb⟩

set_option maxRecDepth 100000 in
set_option maxHeartbeats 8000000 in
theorem runs_any (W : World) : Calls Try.prog 3 #[] W (Gives W (.bool true)) := by
  have HB0 : Hid (Below W.heap.size W (W.alloc (.cells #[.int .i64 0, .int .i64 5, .int .i64 7, .int .i64 0] 3))) := (Below.refl _ _).alloc (Nat.le_refl _) _
  have HI0 : Hid (Ints (W.alloc (.cells #[.int .i64 0, .int .i64 5, .int .i64 7, .int .i64 0] 3)) (W.heap.size + 1) (some ⟨W.heap.size, 0, none⟩) 4 [0, 5, 7, 0]) := by
    have hb := Blk.new W 3 [.int .i64 0, .int .i64 5, .int .i64 7, .int .i64 0]
    exact ⟨rfl, by decide, fun _ => ⟨W.heap.size, 0, rfl, by simp, fun j u hu => by rw [Nat.zero_add]; exact hb.cell hu⟩⟩
  go_enter Try.func3, Try.ntmps3
  go_wp2_with fail
  refine (kgnew 2 0 _ 4 4 [0, 5, 7, 0] _ (by exact Reads.more HI0.out (by simp)) (by decide)).mono ?_
  rintro e w1 ⟨q, rfl, hq, hb1, hm1⟩
  obtain ⟨z, rfl⟩ : ∃ z, q = some z := by cases q with
    | none => cases hq
    | some z => exact ⟨z, rfl⟩
  have R1 : Hid (RB W (some z) [] w1) := ⟨HB0.out.trans (hb1.mono HB0.out.size), MapP.lower hm1 HB0.out.size, by simp⟩
  clear hb1 hm1 hq HB0 HI0
  have R2 := Lib.hid (R1.out.alloc 31 [.int .i64 1, .int .i64 3, .int .i64 0, .int .i64 2, .int .i64 9, .int .i64 1, .int .i64 1, .int .i64 0, .int .i64 20, .int .i64 2])
  have R3 := Lib.hid (R2.out.alloc 33 [.int .i64 4, .int .i64 3, .int .i64 1, .int .i64 1, .int .i64 30, .bool false])
  have R4 := Lib.hid (R3.out.alloc 36 [.int .i64 1, .bool false])
  have R5 := Lib.hid (R4.out.alloc 36 [.int .i64 1, .bool true])
  have R6 := Lib.hid (R5.out.alloc 31 [.int .i64 1, .int .i64 3, .int .i64 0, .int .i64 2, .int .i64 9, .int .i64 1, .int .i64 1, .int .i64 0, .int .i64 20, .int .i64 2])
  have R7 := Lib.hid (R6.out.alloc 36 [.int .i64 1, .bool false, .int .i64 1, .bool true])
  have R8 := Lib.hid (R7.out.alloc 40 [.int .i64 4, .int .i64 0, .slice (some ⟨w1.heap.size + 1 + 1 + 1 + 1 + 1, 0, none⟩) 2 2])
  have R9 := Lib.hid (R8.out.alloc 44 [.int .i64 1, .bool false, .int .i64 8, .int .i64 8, .int .i64 9, .int .i64 3, .int .i64 1, .bool true, .int .i64 14, .int .i64 14, .int .i64 16, .int .i64 0])
  have R10 := Lib.hid (R9.out.alloc 45 [.slice (some ⟨w1.heap.size + 1 + 1 + 1 + 1 + 1 + 1 + 1, 0, none⟩) 2 2])
  simp only [World.size_alloc] at R2 R3 R4 R5 R6 R7 R8 R9 R10
  clear R1 R2 R3 R4 R5 R6 R7 R8 R9
  have RX : Hid (RB W (some z) (kbx w1.heap.size) (((((((((w1.alloc (.cells #[.int .i64 1, .int .i64 3, .int .i64 0, .int .i64 2, .int .i64 9, .int .i64 1, .int .i64 1, .int .i64 0, .int .i64 20, .int .i64 2] 31)).alloc (.cells #[.int .i64 4, .int .i64 3, .int .i64 1, .int .i64 1, .int .i64 30, .bool false] 33)).alloc (.cells #[.int .i64 1, .bool false] 36)).alloc (.cells #[.int .i64 1, .bool true] 36)).alloc (.cells #[.int .i64 1, .int .i64 3, .int .i64 0, .int .i64 2, .int .i64 9, .int .i64 1, .int .i64 1, .int .i64 0, .int .i64 20, .int .i64 2] 31)).alloc (.cells #[.int .i64 1, .bool false, .int .i64 1, .bool true] 36)).alloc (.cells #[.int .i64 4, .int .i64 0, .slice (some ⟨w1.heap.size + 1 + 1 + 1 + 1 + 1, 0, none⟩) 2 2] 40)).alloc (.cells #[.int .i64 1, .bool false, .int .i64 8, .int .i64 8, .int .i64 9, .int .i64 3, .int .i64 1, .bool true, .int .i64 14, .int .i64 14, .int .i64 16, .int .i64 0] 44)).alloc (.cells #[.slice (some ⟨w1.heap.size + 1 + 1 + 1 + 1 + 1 + 1 + 1, 0, none⟩) 2 2] 45))) := by
    have h := R10.out
    refine ⟨h.1, h.2.1, fun p hp => h.2.2 p ?_⟩
    simp only [List.mem_cons, List.not_mem_nil, or_false] at hp ⊢
    rcases hp with hp | hp | hp | hp | hp | hp <;> subst hp <;> simp
  clear R10
  go_upto_region 10 with fail
  obtain ⟨w2, hw2⟩ : ∃ u, (((((((((w1.alloc (.cells #[.int .i64 1, .int .i64 3, .int .i64 0, .int .i64 2, .int .i64 9, .int .i64 1, .int .i64 1, .int .i64 0, .int .i64 20, .int .i64 2] 31)).alloc (.cells #[.int .i64 4, .int .i64 3, .int .i64 1, .int .i64 1, .int .i64 30, .bool false] 33)).alloc (.cells #[.int .i64 1, .bool false] 36)).alloc (.cells #[.int .i64 1, .bool true] 36)).alloc (.cells #[.int .i64 1, .int .i64 3, .int .i64 0, .int .i64 2, .int .i64 9, .int .i64 1, .int .i64 1, .int .i64 0, .int .i64 20, .int .i64 2] 31)).alloc (.cells #[.int .i64 1, .bool false, .int .i64 1, .bool true] 36)).alloc (.cells #[.int .i64 4, .int .i64 0, .slice (some ⟨w1.heap.size + 1 + 1 + 1 + 1 + 1, 0, none⟩) 2 2] 40)).alloc (.cells #[.int .i64 1, .bool false, .int .i64 8, .int .i64 8, .int .i64 9, .int .i64 3, .int .i64 1, .bool true, .int .i64 14, .int .i64 14, .int .i64 16, .int .i64 0] 44)).alloc (.cells #[.slice (some ⟨w1.heap.size + 1 + 1 + 1 + 1 + 1 + 1 + 1, 0, none⟩) 2 2] 45)) = u := ⟨_, rfl⟩
  rw [hw2] at RX ⊢
  clear hw2
  obtain ⟨g, hg⟩ : ∃ g, w1.heap.size = g := ⟨_, rfl⟩
  rw [hg] at RX ⊢
  clear hg
  go_wp2_with fail
  refine (run_make W (some z) g _ 1 1 [runD] _ 1 1 [runO] [[cV1, cV2]] 0 0 _ (by exact RX.out) (by exact kx_drvs RX.out) (by exact kx_ords RX.out) (by decide) (by decide) m1).mono ?_
  rintro e w3 ⟨A3, c3, l3, rfl, hR, hb, hc, hvs⟩
  have RF := Lib.hid (hR.alloc 49 [.int .i64 0, .int .i64 0])
  have HC0 := Lib.hid hc
  have HVS := Lib.hid hvs
  clear hR hb hc hvs RX
  go_upto_region 11 with fail
  have HC3 : Hid (Crts (w3.alloc (.cells #[.int .i64 0, .int .i64 0] 49)) w3.heap.size A3 1 l3) := HC0.out.keep ((Below.refl _ _).alloc (Nat.le_refl _) _)
  have H34 : Hid (w3.heap.size ≤ (w3.alloc (.cells #[.int .i64 0, .int .i64 0] 49)).heap.size) := by show _ ≤ _; simp
  have RF' : Hid (RB W (some z) ((w3.heap.size, 49, [.int .i64 0, .int .i64 0]) :: kbx g) (w3.alloc (.cells #[.int .i64 0, .int .i64 0] 49))) := RF.out
  clear RF HC0
  have RF := RF'
  clear RF'
  obtain ⟨w4, hw4⟩ : ∃ u, w3.alloc (.cells #[.int .i64 0, .int .i64 0] 49) = u := ⟨_, rfl⟩
  rw [hw4] at RF HC3 H34 ⊢
  clear hw4
  obtain ⟨gf, hgf⟩ : ∃ g, w3.heap.size = g := ⟨_, rfl⟩
  rw [hgf] at RF HC3 H34 ⊢
  clear hgf w3
  go_wp2_with fail
  refine (copied_any _ 1 1 [kCM g] _ (by exact kx_crts (rb_tail RF.out)) (by decide)).mono ?_
  rintro e w5 ⟨v5, l5, rfl, hn5, hl5, hf5⟩
  have RF5 := Lib.hid (RF.out.below hn5.old)
  obtain ⟨ga5, ca5, gb5, cb5, o5⟩ := hn5.one (x := cV1) (y := cV2) hl5
  have H5 := Lib.hid hn5
  have O5 := Lib.hid o5
  clear hn5 hl5 hf5 o5
  go_wp2_with fail
  refine (copied_any _ 1 1 [kCM g] _ (by exact kx_crts (rb_tail RF5.out)) (by decide)).mono ?_
  rintro e w6 ⟨v6, l6, rfl, hn6, hl6, hf6⟩
  obtain ⟨ga6, ca6, gb6, cb6, o6⟩ := hn6.one (x := cV1) (y := cV2) hl6
  have e5 := O5.out.v
  have e6 := o6.v
  have e5l := O5.out.l
  have e6l := o6.l
  subst e5; subst e6; subst e5l; subst e6l
  have H56 := Lib.hid (H5.out.keep hn6.old)
  have H6 := Lib.hid (NewC.lower hn6 H5.out.old)
  have hlt : gb5 < w5.heap.size ∧ ga5 < w5.heap.size := ⟨O5.out.hb, O5.out.ha⟩
  have hge : w5.heap.size ≤ gb6 ∧ w5.heap.size ≤ ga6 := ⟨o6.lb, o6.la⟩
  have T5 := Lib.hid (H56.out.turn (i := 0) (j := 10) (g := gb5) (vs := [cV1, cLate]) (x := .int .i64 17) rfl rfl (by show 10 < 2 * 6; decide) rfl)
  obtain ⟨⟨t0, ht0⟩, ht1, _, _⟩ := T5.out
  have hc5 : w6.cell? ⟨ga5, 0, none⟩ = some (.slice (some ⟨gb5, 0, none⟩) 2 cb5) := (hn6.old.cell hlt.2).trans O5.out.cell
  have hc6 := o6.cell
  have HC6 := Lib.hid hc6
  clear hn6 hl6 hf6 RF5 O5 o6 H5 hc6
  go_upto_region 13 with fail
  have N5 : Hid (NewC w4 (w6.setCell ⟨gb5, 10, none⟩ (.int .i64 17)) (.slice (some ⟨ga5, 0, none⟩) 1 ca5) [⟨[cV1, cLate], some ⟨gb5, 0, none⟩, 2, cb5⟩]) := T5.out.2.2.2
  have N6 : Hid (NewC w4 (w6.setCell ⟨gb5, 10, none⟩ (.int .i64 17)) (.slice (some ⟨ga6, 0, none⟩) 1 ca6) [⟨[cV1, cV2], some ⟨gb6, 0, none⟩, 2, cb6⟩]) :=
    H6.out.else_ T5.out.2.2.1 (fun e => by injection e with e; change ga6 = gb5 at e; omega) (fun r hr => by
      obtain rfl : r = _ := by simpa using hr
      intro e
      injection e with e
      change gb6 = gb5 at e
      omega)
  have hc6 : (w6.setCell ⟨gb5, 10, none⟩ (.int .i64 17)).cell? ⟨ga6, 0, none⟩ = some (.slice (some ⟨gb6, 0, none⟩) 2 cb6) := (World.cell?_setCell_other w6 _ _ _ (fun e => by injection e with e; omega)).trans HC6.out
  obtain ⟨w7, hw7⟩ : ∃ u, w6.setCell ⟨gb5, 10, none⟩ (.int .i64 17) = u := ⟨_, rfl⟩
  rw [hw7] at N5 N6 hc6 ⊢
  clear hw7 T5 ht0 ht1 hc5 H56 H6 HC6
  have T6 := Lib.hid (N6.out.turn (i := 0) (j := 5) (g := gb6) (vs := [cLoad, cV2]) (x := .int .i64 2) rfl rfl (by show 5 < 2 * 6; decide) rfl)
  obtain ⟨⟨t0, ht0⟩, ht1, _, _⟩ := T6.out
  go_upto_region 14 with fail
  have M6 : Hid (NewC w4 (w7.setCell ⟨gb6, 5, none⟩ (.int .i64 2)) (.slice (some ⟨ga6, 0, none⟩) 1 ca6) [⟨[cLoad, cV2], some ⟨gb6, 0, none⟩, 2, cb6⟩]) := T6.out.2.2.2
  have M5 : Hid (NewC w4 (w7.setCell ⟨gb6, 5, none⟩ (.int .i64 2)) (.slice (some ⟨ga5, 0, none⟩) 1 ca5) [⟨[cV1, cLate], some ⟨gb5, 0, none⟩, 2, cb5⟩]) :=
    N5.out.else_ T6.out.2.2.1 (fun e => by injection e with e; change ga5 = gb6 at e; omega) (fun r hr => by
      obtain rfl : r = _ := by simpa using hr
      intro e
      injection e with e
      change gb5 = gb6 at e
      omega)
  obtain ⟨w8, hw8⟩ : ∃ u, w7.setCell ⟨gb6, 5, none⟩ (.int .i64 2) = u := ⟨_, rfl⟩
  rw [hw8] at M5 M6 ⊢
  clear hw8 T6 ht0 ht1 hc6 N5 N6 hlt hge
  have RF8 := Lib.hid (RF.out.below M5.out.old)
  have HC8 := Lib.hid (HC3.out.keep (M5.out.old.mono H34.out))
  have HZ8 := Lib.hid (Nat.le_trans H34.out M5.out.old.size)
  have D5 := Lib.hid (crts_of M5.out (by show 2 * 48 ≤ _; decide))
  have D6 := Lib.hid (crts_of M6.out (by show 2 * 48 ≤ _; decide))
  clear M5 M6 RF HC3 H34
  have RG := Lib.hid (rb_tail RF8.out)
  have HF0 : Hid (Blk w8 gf 49 [.int .i64 0, .int .i64 0]) := RF8.out.at_ (by simp)
  clear RF8
  go_wp2_with fail
  refine (run_make W (some z) g none 0 0 [] _ 1 1 [runO] [] 0 8 _ (by exact RG.out) (by exact Recs.none_) (by exact kx_ords RG.out) (by decide) (by decide) m2).mono ?_
  rintro e w9 ⟨B9, c9, l9, rfl, hR, hb, _, _⟩
  have HB9 := Lib.hid hb
  have R9 := Lib.hid (hR.alloc 49 [.int .i64 0, .int .i64 8])
  clear hR hb
  go_upto_region 15 with fail
  have HBA : Hid (Below w8.heap.size w8 (w9.alloc (.cells #[.int .i64 0, .int .i64 8] 49))) := HB9.out.alloc HB9.out.size _
  have RA : Hid (RB W (some z) (kbx g) (w9.alloc (.cells #[.int .i64 0, .int .i64 8] 49))) := rb_tail R9.out
  have HF1 : Hid (Blk (w9.alloc (.cells #[.int .i64 0, .int .i64 8] 49)) w9.heap.size 49 [.int .i64 0, .int .i64 8]) := Blk.new w9 _ _
  obtain ⟨wa, hwa⟩ : ∃ u, w9.alloc (.cells #[.int .i64 0, .int .i64 8] 49) = u := ⟨_, rfl⟩
  obtain ⟨g1, hg1⟩ : ∃ g, w9.heap.size = g := ⟨_, rfl⟩
  rw [hwa] at HBA RA HF1 ⊢
  rw [hg1] at HF1 ⊢
  clear hwa hg1 HB9 R9 RG
  go_wp2_with fail
  refine (run_make W (some z) g _ 1 1 [runD] none 0 0 [] [] 0 8 _ (by exact RA.out) (by exact kx_drvs RA.out) (by exact Recs.none_) (by decide) (by decide) m3).mono ?_
  rintro e wb ⟨Bb, cb, lb, rfl, hR, hb, _, _⟩
  have HBB := Lib.hid hb
  have RB2 := Lib.hid (hR.alloc 49 [.int .i64 0, .int .i64 8])
  clear hR hb
  go_upto_region 16 with fail
  have HBC : Hid (Below w8.heap.size w8 (wb.alloc (.cells #[.int .i64 0, .int .i64 8] 49))) := (HBA.out.trans (HBB.out.mono HBA.out.size)).alloc (HBA.out.trans (HBB.out.mono HBA.out.size)).size _
  have RC : Hid (RB W (some z) (kbx g) (wb.alloc (.cells #[.int .i64 0, .int .i64 8] 49))) := rb_tail RB2.out
  have HF2 : Hid (Blk (wb.alloc (.cells #[.int .i64 0, .int .i64 8] 49)) wb.heap.size 49 [.int .i64 0, .int .i64 8]) := Blk.new wb _ _
  have HF1' : Hid (Blk (wb.alloc (.cells #[.int .i64 0, .int .i64 8] 49)) g1 49 [.int .i64 0, .int .i64 8]) := HF1.out.below (HBB.out.alloc HBB.out.size _) HF1.out.lt
  obtain ⟨wc, hwc⟩ : ∃ u, wb.alloc (.cells #[.int .i64 0, .int .i64 8] 49) = u := ⟨_, rfl⟩
  obtain ⟨g2, hg2⟩ : ∃ g, wb.heap.size = g := ⟨_, rfl⟩
  rw [hwc] at HBC RC HF2 HF1' ⊢
  rw [hg2] at HF2 ⊢
  clear hwc hg2 HBA HBB RB2 RA HF1
  have HFc := Lib.hid (HF0.out.below HBC.out HF0.out.lt)
  have HCc := Lib.hid (HC8.out.keep (HBC.out.mono HZ8.out))
  have D5c := Lib.hid (D5.out.keep HBC.out)
  have D6c := Lib.hid (D6.out.keep HBC.out)
  have HSZ := Lib.hid HBC.out.size
  clear HF0 HC8 D5 D6 HBC
  obtain ⟨f0, f1⟩ : wc.cell? ⟨gf, 0, none⟩ = some (.int .i64 0) ∧ wc.cell? ⟨gf, 1, none⟩ = some (.int .i64 0) := ⟨HFc.out.cell rfl, HFc.out.cell rfl⟩
  go_wp2_with fail
  refine (lists_any A3 _ 1 1 c3 1 l3 [kCM g] true _ _ _ (by exact HCc.out) (by exact kx_crts RC.out) (by rw [HVS.out]; rfl)).mono ?_
  rintro e wd ⟨rfl, nd, hwd⟩
  have HBD : Hid (Below wc.heap.size wc wd) := by rw [hwd]; exact below_drewN (Below.refl _ _) _
  have RD := Lib.hid (RC.out.below HBD.out)
  clear hwd RC f0 f1
  go_wp2_with fail
  refine (run_check W (some z) g _ 1 1 [kCM g] [[cV1, cV2]] 0 0 _ (by exact RD.out) (by exact kx_crts RD.out) rfl k1).mono ?_
  rintro e we ⟨rfl, hR, hb⟩
  have RE := Lib.hid hR
  have HBE := Lib.hid (HBD.out.trans (hb.mono HBD.out.size))
  have HE1 := Lib.hid (HF1'.out.below HBE.out HF1'.out.lt)
  have HE2 := Lib.hid (HF2.out.below HBE.out HF2.out.lt)
  clear hR hb RD HBD
  obtain ⟨f1, f2⟩ : we.cell? ⟨g1, 1, none⟩ = some (.int .i64 8) ∧ we.cell? ⟨g2, 1, none⟩ = some (.int .i64 8) := ⟨HE1.out.cell rfl, HE2.out.cell rfl⟩
  have E5 := Lib.hid ((D5c.out.keep (HBE.out.mono HSZ.out)).more (Nat.le_trans HSZ.out HBE.out.size))
  have E6 := Lib.hid ((D6c.out.keep (HBE.out.mono HSZ.out)).more (Nat.le_trans HSZ.out HBE.out.size))
  clear D5c D6c
  go_wp2_with fail
  refine (run_check W (some z) g _ 1 ca5 _ [[cV1, cLate]] 0 15 _ (by exact RE.out) (by exact E5.out) rfl k2).mono ?_
  rintro e wf ⟨rfl, hR, hb⟩
  have hfl := run_why
  have RX := Lib.hid hR
  have E6f := Lib.hid ((E6.out.keep hb).more hb.size)
  clear hR hb f1 f2 E5 E6 RE
  go_wp2_with fail
  refine (run_check W (some z) g _ 1 ca6 _ [[cLoad, cV2]] 0 14 _ (by exact RX.out) (by exact E6f.out) rfl k3).mono ?_
  rintro e wg ⟨rfl, hR, hb⟩
  have RY := Lib.hid hR
  clear hR hb RX E6f
  have cc : wg.cell? ⟨g + 1 + 1 + 1 + 1 + 1 + 1 + 1 + 1, 0, none⟩ = some (.slice (some ⟨g + 1 + 1 + 1 + 1 + 1 + 1 + 1, 0, none⟩) 2 2) := (RY.out.at_ (g := g + 1 + 1 + 1 + 1 + 1 + 1 + 1 + 1) (t := 45) (vs := [.slice (some ⟨g + 1 + 1 + 1 + 1 + 1 + 1 + 1, 0, none⟩) 2 2]) (by simp)).cell rfl
  have RZ := Lib.hid (RY.out.alloc 45 [.slice (some ⟨g + 1 + 1 + 1 + 1 + 1 + 1 + 1, 0, none⟩) 1 2])
  have HCZ : Hid (Crts (wg.alloc (.cells #[.slice (some ⟨g + 1 + 1 + 1 + 1 + 1 + 1 + 1, 0, none⟩) 1 2] 45)) (wg.alloc (.cells #[.slice (some ⟨g + 1 + 1 + 1 + 1 + 1 + 1 + 1, 0, none⟩) 1 2] 45)).heap.size (some ⟨wg.heap.size, 0, none⟩) 1 [⟨[cV1], some ⟨g + 1 + 1 + 1 + 1 + 1 + 1 + 1, 0, none⟩, 1, 2⟩]) :=
    ⟨recs_blk (vs := cmsV [⟨[cV1], some ⟨g + 1 + 1 + 1 + 1 + 1 + 1 + 1, 0, none⟩, 1, 2⟩]) (Blk.new wg _ _) rfl (by decide), fun r hr => by
      obtain rfl : r = _ := by simpa using hr
      refine ⟨?_, by show 1 ≤ 2; decide, by show 1 * 48 ≤ _; decide⟩
      have h1 := kx_viss (rb_tail RZ.out)
      refine ⟨rfl, by show 1 ≤ maxLen; decide, fun _ => ?_⟩
      obtain ⟨b, off, e, hb, hc⟩ := h1.2.2 (by decide)
      exact ⟨b, off, e, hb, fun j x hx => hc j x (by
        have : (vissV [cV1])[j]? = some x := hx
        have h2 : vissV [cV1, cV2] = vissV [cV1] ++ vissV [cV2] := rfl
        rw [h2, List.getElem?_append_left (List.getElem?_eq_some_iff.1 this).1]
        exact this)⟩⟩
  go_wp2_with fail
  refine (run_check W (some z) g _ 1 1 _ [[cV1]] 0 4 _ (by exact rb_tail RZ.out) (by exact HCZ.out) rfl k4).mono ?_
  rintro e wh ⟨rfl, hR, hb⟩
  have RW := Lib.hid hR
  clear hR hb RY RZ HCZ cc
  go_wp2_with fail
  refine (run_check W (some z) g none 0 0 [] [] 0 4 _ (by exact RW.out) (by exact ⟨Recs.none_, fun r hr => by cases hr⟩) rfl k5).mono ?_
  rintro e wi ⟨rfl, hR, hb⟩
  have RV := Lib.hid hR
  clear hR hb RW
  go_wp2_with fail
  go_ret
  exact ⟨rfl, RV.out.1⟩
#print axioms runs_any
end Go.Proofs.Ytfejnohcggoepaa.Cert
