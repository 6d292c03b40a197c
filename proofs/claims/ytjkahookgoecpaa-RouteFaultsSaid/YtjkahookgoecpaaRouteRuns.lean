/-
  Chapter 7's example runs come out as the chapter says (RouteRuns returns true), whatever the memory; only new memory is written.
-/
import Derived.Test.YtjkahookgoecpaaRouteCostProg
import Derived.Test.YtjkahookgoecpaaKeepMaps
namespace Go.Proofs.Ytjkahookgoecpaa.Route
open Go.ChangeShapes Go.WideShapes Go.ChangeAt Go.RowKit Go.Proofs.Ytjkahookgoecpaa.Mem Go.Proofs.Ytjkahookgoecpaa.GeoMath Go.Proofs.Ytjkahookgoecpaa.FleetMath Go.Proofs.Ytjkahookgoecpaa.Rec Go.Proofs.Ytjkahookgoecpaa.Geo Go.Proofs.Ytjkahookgoecpaa.Span Go.Proofs.Ytjkahookgoecpaa.Deal Go.Proofs.Ytjkahookgoecpaa.Keep

def runO : FleetMath.Ord := ⟨1, 3, ⟨0, ⟨2, 9⟩, 1⟩, ⟨1, ⟨0, 20⟩, 2⟩⟩
def runD : Drv := ⟨4, 3, 1, ⟨1, 30⟩, false⟩
def runM : Mp := ⟨2, [0, 5, 7, 0]⟩
/-- what stays through the runs: the map, blocks that are known whole -/
def RB (W : World) (q : Option Addr) (bx : List (Nat × TypeId × List Value)) (u : World) : Prop :=
  Below W.heap.size W u ∧ MapP u 74 W.heap.size (.pointer q) (some runM) ∧ ∀ p ∈ bx, Blk u p.1 p.2.1 p.2.2
theorem RB.below {W u u' : World} {q : Option Addr} {bx : List (Nat × TypeId × List Value)} (h : RB W q bx u) (hb : Below u.heap.size u u') : RB W q bx u' :=
  ⟨h.1.trans (hb.mono h.1.size), h.2.1.keep hb, fun p hp => (h.2.2 p hp).below hb (h.2.2 p hp).lt⟩
theorem RB.alloc {W u : World} {q : Option Addr} {bx : List (Nat × TypeId × List Value)} (h : RB W q bx u) (t : TypeId) (vs : List Value) : RB W q ((u.heap.size, t, vs) :: bx) (u.alloc (.cells vs.toArray t)) := by
  have h' := h.below ((Below.refl _ _).alloc (Nat.le_refl _) (.cells vs.toArray t))
  refine ⟨h'.1, h'.2.1, fun p hp => ?_⟩
  rcases List.mem_cons.1 hp with rfl | hp
  · exact Blk.new u t vs
  · exact h'.2.2 p hp
theorem RB.at_ {W u : World} {q : Option Addr} {bx : List (Nat × TypeId × List Value)} (h : RB W q bx u) {g : Nat} {t : TypeId} {vs : List Value} (hp : (g, t, vs) ∈ bx) : Blk u g t vs := h.2.2 _ hp
theorem ords_blk {u : World} {g n : Nat} {t : TypeId} {l : List FleetMath.Ord} (h : Blk u g t (ordsV l)) (hl : l.length = n) (hn : n ≤ 64) : Ords u u.heap.size (some ⟨g, 0, none⟩) n l :=
  ⟨by rw [ordsV_len, hl], by unfold maxLen; omega, fun _ => ⟨g, 0, rfl, h.lt, fun j u hu => by rw [Nat.zero_add]; exact h.cell hu⟩⟩
theorem stps_blk {u : World} {g n : Nat} {t : TypeId} {l : List Stp} (h : Blk u g t (stpsV l)) (hl : l.length = n) (hn : n ≤ 64) : Stps u u.heap.size (some ⟨g, 0, none⟩) n l :=
  ⟨by rw [stpsV_len, hl], by unfold maxLen; omega, fun _ => ⟨g, 0, rfl, h.lt, fun j u hu => by rw [Nat.zero_add]; exact h.cell hu⟩⟩
/-- a drive of the runs: its fault, and nothing else -/
theorem run_fault_call (W : World) (q : Option Addr) (bx : List (Nat × TypeId × List Value)) (A : Option Addr) (n c : Nat) (os : List FleetMath.Ord) (A' : Option Addr) (n' c' : Nat) (stops : List Stp) (k : Nat) (e : Int) (u : World) (h : RB W q bx u) (ho : Ords u u.heap.size A n os) (hs : Stps u u.heap.size A' n' stops) (hcc : n' ≤ c') (hnc : n ≤ c) (hd : (drive (some runM) runD os stops).2 = (k, e)) :
    Calls Try.prog 11 #[.pointer q, drvV runD, .slice A n c, .slice A' n' c'] u fun en u' => ∃ B m c2, en = .returned (.tuple #[.slice B m c2, faultV k e]) ∧ RB W q bx u' ∧ Below u.heap.size u u' := by
  refine (gdrive_any W.heap.size _ _ runD A n c os A' n' c' stops u h.2.1 ho hs hcc hnc).mono ?_
  rintro en u' ⟨hb, v, rfl, hv⟩
  rw [hd]
  obtain ⟨B, c2, rfl⟩ := hv.slice
  exact ⟨B, _, c2, rfl, h.below hb, hb⟩
theorem run_visit_call (W : World) (q : Option Addr) (bx : List (Nat × TypeId × List Value)) (A : Option Addr) (n c : Nat) (os : List FleetMath.Ord) (A' : Option Addr) (n' c' : Nat) (stops : List Stp) (x y : Vis) (u : World) (h : RB W q bx u) (ho : Ords u u.heap.size A n os) (hs : Stps u u.heap.size A' n' stops) (hcc : n' ≤ c') (hnc : n ≤ c) (hd : drive (some runM) runD os stops = ([x, y], 0, 0)) :
    Calls Try.prog 11 #[.pointer q, drvV runD, .slice A n c, .slice A' n' c'] u fun en u' => ∃ g off c2, en = .returned (.tuple #[.slice (some ⟨g, off, none⟩) 2 c2, faultV 0 0]) ∧ RB W q bx u' ∧ Viss u' u'.heap.size (some ⟨g, off, none⟩) 2 [x, y] := by
  refine (gdrive_any W.heap.size _ _ runD A n c os A' n' c' stops u h.2.1 ho hs hcc hnc).mono ?_
  rintro en u' ⟨hb, v, rfl, hv⟩
  rw [hd] at hv ⊢
  obtain ⟨B, c2, rfl, _, hr⟩ := hv.read
  obtain ⟨g, off, rfl, _⟩ := hr.2.2 (by simp)
  exact ⟨g, off, c2, rfl, h.below hb, hr⟩
theorem run_cost_call (W : World) (q : Option Addr) (bx : List (Nat × TypeId × List Value)) (A : Option Addr) (n c : Nat) (os : List FleetMath.Ord) (A' : Option Addr) (n' c' : Nat) (stops : List Stp) (v : Int) (r : Bool) (u : World) (h : RB W q bx u) (ho : Ords u u.heap.size A n os) (hs : Stps u u.heap.size A' n' stops) (hcc : n' ≤ c') (hnc : n ≤ c) (hd : optV (cost (some runM) runD os stops) = .tuple #[.int .i64 v, .bool r]) :
    Calls Try.prog 12 #[.pointer q, drvV runD, .slice A n c, .slice A' n' c'] u fun en u' => en = .returned (.tuple #[.int .i64 v, .bool r]) ∧ RB W q bx u' ∧ Below u.heap.size u u' := by
  refine (gcost_any W.heap.size _ _ runD A n c os A' n' c' stops u h.2.1 ho hs hcc hnc).mono ?_
  rintro en u' ⟨rfl, hb⟩
  rw [hd]
  exact ⟨rfl, h.below hb, hb⟩
theorem d1 : drive (some runM) runD [runO] [⟨1, false⟩, ⟨1, true⟩] = ([⟨⟨1, false⟩, 8, 8, 9, 3⟩, ⟨⟨1, true⟩, 14, 14, 16, 0⟩], 0, 0) := by kernel_rfl
theorem d2 : (drive (some runM) runD [runO] [⟨1, true⟩]).2 = (0, 17) := by kernel_rfl
theorem d3 : (drive (some runM) runD [runO] [⟨1, false⟩]).2 = (1, 18) := by kernel_rfl
theorem d4 : (drive (some runM) runD [runO] [⟨1, false⟩, ⟨1, false⟩]).2 = (1, 16) := by kernel_rfl
theorem d5 : (drive (some runM) runD [] [⟨1, false⟩]).2 = (0, 8) := by kernel_rfl
theorem k1 : optV (cost (some runM) runD [runO] [⟨1, false⟩, ⟨1, true⟩]) = .tuple #[.int .i64 12, .bool true] := by kernel_rfl
theorem k2 : optV (cost (some runM) runD [runO] []) = .tuple #[.int .i64 0, .bool true] := by kernel_rfl
theorem k3 : optV (cost (some runM) runD [runO] [⟨1, false⟩]) = .tuple #[.int .i64 0, .bool false] := by kernel_rfl

set_option maxRecDepth 100000 in
set_option maxHeartbeats 4000000 in
theorem runs_any (W : World) : Calls Try.prog 3 #[] W (Gives W (.bool true)) := by
  have HB0 : Hid (Below W.heap.size W (W.alloc (.cells #[.int .i64 0, .int .i64 5, .int .i64 7, .int .i64 0] 3))) := (Below.refl _ _).alloc (Nat.le_refl _) _
  have HI0 : Hid (Ints (W.alloc (.cells #[.int .i64 0, .int .i64 5, .int .i64 7, .int .i64 0] 3)) (W.heap.size + 1) (some ⟨W.heap.size, 0, none⟩) 4 [0, 5, 7, 0]) := new4 W _ _ _ _ _
  go_enter Try.func3, Try.ntmps3
  go_wp2_with fail
  refine (kgnew 2 0 _ 4 4 [0, 5, 7, 0] _ (by exact Reads.more HI0.out (by simp)) (by decide)).mono ?_
  rintro e w1 ⟨q, rfl, hq, hb1, hm1⟩
  obtain ⟨z, rfl⟩ : ∃ z, q = some z := by cases q with
    | none => cases hq
    | some z => exact ⟨z, rfl⟩
  have R1 : Hid (RB W (some z) [] w1) := ⟨HB0.out.trans (hb1.mono HB0.out.size), MapP.lower hm1 HB0.out.size, by simp⟩
  clear hb1 hm1 hq HB0 HI0
  have R2 := Lib.hid (R1.out.alloc 31 [.int .i64 1, .int .i64 3, .int .i64 0, .int .i64 2, .int .i64 9, .int .i64 1, .int .i64 1, .int .i64 0, .int .i64 20, .int .i64 2])
  have R3 := Lib.hid (R2.out.alloc 33 [.int .i64 4, .int .i64 3, .int .i64 1, .int .i64 1, .int .i64 30, .bool false])
  have R4 := Lib.hid (R3.out.alloc 35 [.int .i64 1, .bool false])
  have R5 := Lib.hid (R4.out.alloc 35 [.int .i64 1, .bool true])
  have R6 := Lib.hid (R5.out.alloc 31 [.int .i64 1, .int .i64 3, .int .i64 0, .int .i64 2, .int .i64 9, .int .i64 1, .int .i64 1, .int .i64 0, .int .i64 20, .int .i64 2])
  have R7 := Lib.hid (R6.out.alloc 35 [.int .i64 1, .bool false, .int .i64 1, .bool true])
  simp only [World.size_alloc] at R2 R3 R4 R5 R6 R7
  clear R1 R2 R3 R4 R5 R6
  have R8 : Hid (RB W (some z) [((w1.heap.size + 1 + 1 + 1 + 1), 31, [.int .i64 1, .int .i64 3, .int .i64 0, .int .i64 2, .int .i64 9, .int .i64 1, .int .i64 1, .int .i64 0, .int .i64 20, .int .i64 2]), ((w1.heap.size + 1 + 1 + 1), 35, [.int .i64 1, .bool true]), ((w1.heap.size + 1 + 1), 35, [.int .i64 1, .bool false]), ((w1.heap.size + 1), 33, [.int .i64 4, .int .i64 3, .int .i64 1, .int .i64 1, .int .i64 30, .bool false])] _) := ⟨R7.out.1, R7.out.2.1, fun p hp => R7.out.2.2 p (by simp only [List.mem_cons, List.not_mem_nil, or_false] at hp ⊢; rcases hp with rfl | rfl | rfl | rfl <;> simp)⟩
  have HO8 : Hid (Ords _ _ (some ⟨(w1.heap.size + 1 + 1 + 1 + 1), 0, none⟩) 1 [runO]) := ords_blk (l := [runO]) (R7.out.at_ (g := (w1.heap.size + 1 + 1 + 1 + 1)) (t := 31) (vs := [.int .i64 1, .int .i64 3, .int .i64 0, .int .i64 2, .int .i64 9, .int .i64 1, .int .i64 1, .int .i64 0, .int .i64 20, .int .i64 2]) (by simp)) rfl (by decide)
  have HS8 : Hid (Stps _ _ (some ⟨w1.heap.size + 1 + 1 + 1 + 1 + 1, 0, none⟩) 2 [⟨1, false⟩, ⟨1, true⟩]) := stps_blk (l := [⟨1, false⟩, ⟨1, true⟩]) (R7.out.at_ (g := w1.heap.size + 1 + 1 + 1 + 1 + 1) (t := 35) (vs := [.int .i64 1, .bool false, .int .i64 1, .bool true]) (by simp)) rfl (by decide)
  go_wp2_with fail
  refine (run_visit_call W (some z) _ (some ⟨(w1.heap.size + 1 + 1 + 1 + 1), 0, none⟩) 1 1 [runO] _ 2 2 [⟨1, false⟩, ⟨1, true⟩] ⟨⟨1, false⟩, 8, 8, 9, 3⟩ ⟨⟨1, true⟩, 14, 14, 16, 0⟩ _ (by exact R8.out) (by exact HO8.out) (by exact HS8.out) (by decide) (by decide) d1).mono ?_
  rintro e w2 ⟨gv, ov, c2, rfl, hR, hV⟩
  have HV := Lib.hid hV
  have RC := Lib.hid (hR.alloc 39 [.int .i64 0, .int .i64 0])
  have BV : Hid (Below w2.heap.size w2 _) := (Below.refl w2.heap.size w2).alloc (Nat.le_refl _) (.cells #[.int .i64 0, .int .i64 0] 39)
  clear hR hV R7 R8 HO8 HS8
  obtain ⟨d0, d1', d2', d3', d4', d5'⟩ := DBox.cells (d := runD) (u := _) (g := (w1.heap.size + 1)) (by exact (RC.out.at_ (g := (w1.heap.size + 1)) (t := 33) (vs := [.int .i64 4, .int .i64 3, .int .i64 1, .int .i64 1, .int .i64 30, .bool false]) (by simp)))
  obtain ⟨y0, y1⟩ := And.intro ((RC.out.at_ (g := (w1.heap.size + 1 + 1 + 1)) (t := 35) (vs := [.int .i64 1, .bool true]) (by simp)).cell (i := 0) rfl) ((RC.out.at_ (g := (w1.heap.size + 1 + 1 + 1)) (t := 35) (vs := [.int .i64 1, .bool true]) (by simp)).cell (i := 1) rfl)
  have RD := Lib.hid (RC.out.alloc 35 [.int .i64 1, .bool true])
  have HS : Hid (Stps _ _ (some ⟨_, 0, none⟩) 1 [⟨1, true⟩]) := stps_blk (l := [⟨1, true⟩]) (RD.out.at_ (t := 35) (vs := [.int .i64 1, .bool true]) (List.mem_cons_self ..)) rfl (by decide)
  have HO : Hid (Ords _ _ (some ⟨(w1.heap.size + 1 + 1 + 1 + 1), 0, none⟩) 1 [runO]) := ords_blk (l := [runO]) (RD.out.at_ (g := (w1.heap.size + 1 + 1 + 1 + 1)) (t := 31) (vs := [.int .i64 1, .int .i64 3, .int .i64 0, .int .i64 2, .int .i64 9, .int .i64 1, .int .i64 1, .int .i64 0, .int .i64 20, .int .i64 2]) (by simp)) rfl (by decide)
  go_wp2_with fail
  refine (run_fault_call W (some z) _ (some ⟨(w1.heap.size + 1 + 1 + 1 + 1), 0, none⟩) 1 1 [runO] _ 1 1 [⟨1, true⟩] 0 17 _ (by exact RD.out) (by exact HO.out) (by simpa only [World.size_alloc] using HS.out) (by decide) (by decide) d2).mono ?_
  rintro e w3 ⟨bv, mv, cv, rfl, hR, hb⟩
  have BV2 : Hid (Below w2.heap.size w2 (w3.alloc (.cells #[.int .i64 0, .int .i64 17] 39))) := by
    have b1 := BV.out.alloc BV.out.size (.cells ([.int .i64 1, .bool true] : List Value).toArray 35)
    have b2 := b1.trans (hb.mono b1.size)
    exact b2.alloc b2.size _
  have RE := Lib.hid (hR.alloc 39 [.int .i64 0, .int .i64 17])
  have RF : Hid (RB W (some z) [(w3.heap.size, 39, [.int .i64 0, .int .i64 17]), (w2.heap.size, 39, [.int .i64 0, .int .i64 0]), ((w1.heap.size + 1 + 1 + 1 + 1), 31, [.int .i64 1, .int .i64 3, .int .i64 0, .int .i64 2, .int .i64 9, .int .i64 1, .int .i64 1, .int .i64 0, .int .i64 20, .int .i64 2]), ((w1.heap.size + 1 + 1 + 1), 35, [.int .i64 1, .bool true]), ((w1.heap.size + 1 + 1), 35, [.int .i64 1, .bool false]), ((w1.heap.size + 1), 33, [.int .i64 4, .int .i64 3, .int .i64 1, .int .i64 1, .int .i64 30, .bool false])] (w3.alloc (.cells #[.int .i64 0, .int .i64 17] 39))) := ⟨RE.out.1, RE.out.2.1, fun p hp => RE.out.2.2 p (by simp only [List.mem_cons, List.not_mem_nil, or_false] at hp ⊢; rcases hp with rfl | rfl | rfl | rfl | rfl | rfl <;> simp)⟩
  clear hR hb RC RD RE BV HS HO d0 d1' d2' d3' d4' d5' y0 y1
  replace RC := RF
  replace BV := BV2
  clear RF BV2
  obtain ⟨d0, d1', d2', d3', d4', d5'⟩ := DBox.cells (d := runD) (u := _) (g := (w1.heap.size + 1)) (by exact (RC.out.at_ (g := (w1.heap.size + 1)) (t := 33) (vs := [.int .i64 4, .int .i64 3, .int .i64 1, .int .i64 1, .int .i64 30, .bool false]) (by simp)))
  obtain ⟨y0, y1⟩ := And.intro ((RC.out.at_ (g := (w1.heap.size + 1 + 1)) (t := 35) (vs := [.int .i64 1, .bool false]) (by simp)).cell (i := 0) rfl) ((RC.out.at_ (g := (w1.heap.size + 1 + 1)) (t := 35) (vs := [.int .i64 1, .bool false]) (by simp)).cell (i := 1) rfl)
  have RD := Lib.hid (RC.out.alloc 35 [.int .i64 1, .bool false])
  have HS : Hid (Stps _ _ (some ⟨_, 0, none⟩) 1 [⟨1, false⟩]) := stps_blk (l := [⟨1, false⟩]) (RD.out.at_ (t := 35) (vs := [.int .i64 1, .bool false]) (List.mem_cons_self ..)) rfl (by decide)
  have HO : Hid (Ords _ _ (some ⟨(w1.heap.size + 1 + 1 + 1 + 1), 0, none⟩) 1 [runO]) := ords_blk (l := [runO]) (RD.out.at_ (g := (w1.heap.size + 1 + 1 + 1 + 1)) (t := 31) (vs := [.int .i64 1, .int .i64 3, .int .i64 0, .int .i64 2, .int .i64 9, .int .i64 1, .int .i64 1, .int .i64 0, .int .i64 20, .int .i64 2]) (by simp)) rfl (by decide)
  go_wp2_with fail
  refine (run_fault_call W (some z) _ (some ⟨(w1.heap.size + 1 + 1 + 1 + 1), 0, none⟩) 1 1 [runO] _ 1 1 [⟨1, false⟩] 1 18 _ (by exact RD.out) (by exact HO.out) (by simpa only [World.size_alloc] using HS.out) (by decide) (by decide) d3).mono ?_
  rintro e w4 ⟨bv, mv, cv, rfl, hR, hb⟩
  have BV2 : Hid (Below w2.heap.size w2 (w4.alloc (.cells #[.int .i64 1, .int .i64 18] 39))) := by
    have b1 := BV.out.alloc BV.out.size (.cells ([.int .i64 1, .bool false] : List Value).toArray 35)
    have b2 := b1.trans (hb.mono b1.size)
    exact b2.alloc b2.size _
  have RE := Lib.hid (hR.alloc 39 [.int .i64 1, .int .i64 18])
  have RF : Hid (RB W (some z) [(w4.heap.size, 39, [.int .i64 1, .int .i64 18]), (w3.heap.size, 39, [.int .i64 0, .int .i64 17]), (w2.heap.size, 39, [.int .i64 0, .int .i64 0]), ((w1.heap.size + 1 + 1 + 1 + 1), 31, [.int .i64 1, .int .i64 3, .int .i64 0, .int .i64 2, .int .i64 9, .int .i64 1, .int .i64 1, .int .i64 0, .int .i64 20, .int .i64 2]), ((w1.heap.size + 1 + 1 + 1), 35, [.int .i64 1, .bool true]), ((w1.heap.size + 1 + 1), 35, [.int .i64 1, .bool false]), ((w1.heap.size + 1), 33, [.int .i64 4, .int .i64 3, .int .i64 1, .int .i64 1, .int .i64 30, .bool false])] (w4.alloc (.cells #[.int .i64 1, .int .i64 18] 39))) := ⟨RE.out.1, RE.out.2.1, fun p hp => RE.out.2.2 p (by simp only [List.mem_cons, List.not_mem_nil, or_false] at hp ⊢; rcases hp with rfl | rfl | rfl | rfl | rfl | rfl | rfl <;> simp)⟩
  clear hR hb RC RD RE BV HS HO d0 d1' d2' d3' d4' d5' y0 y1
  replace RC := RF
  replace BV := BV2
  clear RF BV2
  obtain ⟨d0, d1', d2', d3', d4', d5'⟩ := DBox.cells (d := runD) (u := _) (g := (w1.heap.size + 1)) (by exact (RC.out.at_ (g := (w1.heap.size + 1)) (t := 33) (vs := [.int .i64 4, .int .i64 3, .int .i64 1, .int .i64 1, .int .i64 30, .bool false]) (by simp)))
  obtain ⟨y0, y1⟩ := And.intro ((RC.out.at_ (g := (w1.heap.size + 1 + 1)) (t := 35) (vs := [.int .i64 1, .bool false]) (by simp)).cell (i := 0) rfl) ((RC.out.at_ (g := (w1.heap.size + 1 + 1)) (t := 35) (vs := [.int .i64 1, .bool false]) (by simp)).cell (i := 1) rfl)
  have RD := Lib.hid (RC.out.alloc 35 [.int .i64 1, .bool false, .int .i64 1, .bool false])
  have HS : Hid (Stps _ _ (some ⟨_, 0, none⟩) 2 [⟨1, false⟩, ⟨1, false⟩]) := stps_blk (l := [⟨1, false⟩, ⟨1, false⟩]) (RD.out.at_ (t := 35) (vs := [.int .i64 1, .bool false, .int .i64 1, .bool false]) (List.mem_cons_self ..)) rfl (by decide)
  have HO : Hid (Ords _ _ (some ⟨(w1.heap.size + 1 + 1 + 1 + 1), 0, none⟩) 1 [runO]) := ords_blk (l := [runO]) (RD.out.at_ (g := (w1.heap.size + 1 + 1 + 1 + 1)) (t := 31) (vs := [.int .i64 1, .int .i64 3, .int .i64 0, .int .i64 2, .int .i64 9, .int .i64 1, .int .i64 1, .int .i64 0, .int .i64 20, .int .i64 2]) (by simp)) rfl (by decide)
  go_wp2_with fail
  refine (run_fault_call W (some z) _ (some ⟨(w1.heap.size + 1 + 1 + 1 + 1), 0, none⟩) 1 1 [runO] _ 2 2 [⟨1, false⟩, ⟨1, false⟩] 1 16 _ (by exact RD.out) (by exact HO.out) (by simpa only [World.size_alloc] using HS.out) (by decide) (by decide) d4).mono ?_
  rintro e w5 ⟨bv, mv, cv, rfl, hR, hb⟩
  have BV2 : Hid (Below w2.heap.size w2 (w5.alloc (.cells #[.int .i64 1, .int .i64 16] 39))) := by
    have b1 := BV.out.alloc BV.out.size (.cells ([.int .i64 1, .bool false, .int .i64 1, .bool false] : List Value).toArray 35)
    have b2 := b1.trans (hb.mono b1.size)
    exact b2.alloc b2.size _
  have RE := Lib.hid (hR.alloc 39 [.int .i64 1, .int .i64 16])
  have RF : Hid (RB W (some z) [(w5.heap.size, 39, [.int .i64 1, .int .i64 16]), (w4.heap.size, 39, [.int .i64 1, .int .i64 18]), (w3.heap.size, 39, [.int .i64 0, .int .i64 17]), (w2.heap.size, 39, [.int .i64 0, .int .i64 0]), ((w1.heap.size + 1 + 1 + 1 + 1), 31, [.int .i64 1, .int .i64 3, .int .i64 0, .int .i64 2, .int .i64 9, .int .i64 1, .int .i64 1, .int .i64 0, .int .i64 20, .int .i64 2]), ((w1.heap.size + 1 + 1 + 1), 35, [.int .i64 1, .bool true]), ((w1.heap.size + 1 + 1), 35, [.int .i64 1, .bool false]), ((w1.heap.size + 1), 33, [.int .i64 4, .int .i64 3, .int .i64 1, .int .i64 1, .int .i64 30, .bool false])] (w5.alloc (.cells #[.int .i64 1, .int .i64 16] 39))) := ⟨RE.out.1, RE.out.2.1, fun p hp => RE.out.2.2 p (by simp only [List.mem_cons, List.not_mem_nil, or_false] at hp ⊢; rcases hp with rfl | rfl | rfl | rfl | rfl | rfl | rfl | rfl <;> simp)⟩
  clear hR hb RC RD RE BV HS HO d0 d1' d2' d3' d4' d5' y0 y1
  replace RC := RF
  replace BV := BV2
  clear RF BV2
  obtain ⟨d0, d1', d2', d3', d4', d5'⟩ := DBox.cells (d := runD) (u := _) (g := (w1.heap.size + 1)) (by exact (RC.out.at_ (g := (w1.heap.size + 1)) (t := 33) (vs := [.int .i64 4, .int .i64 3, .int .i64 1, .int .i64 1, .int .i64 30, .bool false]) (by simp)))
  obtain ⟨y0, y1⟩ := And.intro ((RC.out.at_ (g := (w1.heap.size + 1 + 1)) (t := 35) (vs := [.int .i64 1, .bool false]) (by simp)).cell (i := 0) rfl) ((RC.out.at_ (g := (w1.heap.size + 1 + 1)) (t := 35) (vs := [.int .i64 1, .bool false]) (by simp)).cell (i := 1) rfl)
  have RD := Lib.hid (RC.out.alloc 35 [.int .i64 1, .bool false])
  have HS : Hid (Stps _ _ (some ⟨_, 0, none⟩) 1 [⟨1, false⟩]) := stps_blk (l := [⟨1, false⟩]) (RD.out.at_ (t := 35) (vs := [.int .i64 1, .bool false]) (List.mem_cons_self ..)) rfl (by decide)
  have HO : Hid (Ords _ _ (some ⟨(w1.heap.size + 1 + 1 + 1 + 1), 0, none⟩) 1 [runO]) := ords_blk (l := [runO]) (RD.out.at_ (g := (w1.heap.size + 1 + 1 + 1 + 1)) (t := 31) (vs := [.int .i64 1, .int .i64 3, .int .i64 0, .int .i64 2, .int .i64 9, .int .i64 1, .int .i64 1, .int .i64 0, .int .i64 20, .int .i64 2]) (by simp)) rfl (by decide)
  go_wp2_with fail
  refine (run_fault_call W (some z) _ none 0 0 [] _ 1 1 [⟨1, false⟩] 0 8 _ (by exact RD.out) Recs.none_ (by simpa only [World.size_alloc] using HS.out) (by decide) (by decide) d5).mono ?_
  rintro e w6 ⟨bv, mv, cv, rfl, hR, hb⟩
  have BV2 : Hid (Below w2.heap.size w2 (w6.alloc (.cells #[.int .i64 0, .int .i64 8] 39))) := by
    have b1 := BV.out.alloc BV.out.size (.cells ([.int .i64 1, .bool false] : List Value).toArray 35)
    have b2 := b1.trans (hb.mono b1.size)
    exact b2.alloc b2.size _
  have RE := Lib.hid (hR.alloc 39 [.int .i64 0, .int .i64 8])
  have RF : Hid (RB W (some z) [(w6.heap.size, 39, [.int .i64 0, .int .i64 8]), (w5.heap.size, 39, [.int .i64 1, .int .i64 16]), (w4.heap.size, 39, [.int .i64 1, .int .i64 18]), (w3.heap.size, 39, [.int .i64 0, .int .i64 17]), (w2.heap.size, 39, [.int .i64 0, .int .i64 0]), ((w1.heap.size + 1 + 1 + 1 + 1), 31, [.int .i64 1, .int .i64 3, .int .i64 0, .int .i64 2, .int .i64 9, .int .i64 1, .int .i64 1, .int .i64 0, .int .i64 20, .int .i64 2]), ((w1.heap.size + 1 + 1 + 1), 35, [.int .i64 1, .bool true]), ((w1.heap.size + 1 + 1), 35, [.int .i64 1, .bool false]), ((w1.heap.size + 1), 33, [.int .i64 4, .int .i64 3, .int .i64 1, .int .i64 1, .int .i64 30, .bool false])] (w6.alloc (.cells #[.int .i64 0, .int .i64 8] 39))) := ⟨RE.out.1, RE.out.2.1, fun p hp => RE.out.2.2 p (by simp only [List.mem_cons, List.not_mem_nil, or_false] at hp ⊢; rcases hp with rfl | rfl | rfl | rfl | rfl | rfl | rfl | rfl | rfl <;> simp)⟩
  clear hR hb RC RD RE BV HS HO d0 d1' d2' d3' d4' d5' y0 y1
  replace RC := RF
  replace BV := BV2
  clear RF BV2
  obtain ⟨d0, d1', d2', d3', d4', d5'⟩ := DBox.cells (d := runD) (u := _) (g := (w1.heap.size + 1)) (by exact (RC.out.at_ (g := (w1.heap.size + 1)) (t := 33) (vs := [.int .i64 4, .int .i64 3, .int .i64 1, .int .i64 1, .int .i64 30, .bool false]) (by simp)))
  obtain ⟨y0, y1, y2, y3⟩ := And.intro ((RC.out.at_ (g := (w1.heap.size + 1 + 1)) (t := 35) (vs := [.int .i64 1, .bool false]) (by simp)).cell (i := 0) rfl) (And.intro ((RC.out.at_ (g := (w1.heap.size + 1 + 1)) (t := 35) (vs := [.int .i64 1, .bool false]) (by simp)).cell (i := 1) rfl) (And.intro ((RC.out.at_ (g := (w1.heap.size + 1 + 1 + 1)) (t := 35) (vs := [.int .i64 1, .bool true]) (by simp)).cell (i := 0) rfl) ((RC.out.at_ (g := (w1.heap.size + 1 + 1 + 1)) (t := 35) (vs := [.int .i64 1, .bool true]) (by simp)).cell (i := 1) rfl)))
  have RD := Lib.hid (RC.out.alloc 35 [.int .i64 1, .bool false, .int .i64 1, .bool true])
  have HS : Hid (Stps _ _ (some ⟨_, 0, none⟩) 2 [⟨1, false⟩, ⟨1, true⟩]) := stps_blk (l := [⟨1, false⟩, ⟨1, true⟩]) (RD.out.at_ (t := 35) (vs := [.int .i64 1, .bool false, .int .i64 1, .bool true]) (List.mem_cons_self ..)) rfl (by decide)
  have HO : Hid (Ords _ _ (some ⟨(w1.heap.size + 1 + 1 + 1 + 1), 0, none⟩) 1 [runO]) := ords_blk (l := [runO]) (RD.out.at_ (g := (w1.heap.size + 1 + 1 + 1 + 1)) (t := 31) (vs := [.int .i64 1, .int .i64 3, .int .i64 0, .int .i64 2, .int .i64 9, .int .i64 1, .int .i64 1, .int .i64 0, .int .i64 20, .int .i64 2]) (by simp)) rfl (by decide)
  go_wp2_with fail
  refine (run_cost_call W (some z) _ (some ⟨(w1.heap.size + 1 + 1 + 1 + 1), 0, none⟩) 1 1 [runO] _ 2 2 [⟨1, false⟩, ⟨1, true⟩] 12 true _ (by exact RD.out) (by exact HO.out) (by first | exact HS.out | simpa only [World.size_alloc] using HS.out) (by decide) (by decide) k1).mono ?_
  rintro e w7 ⟨rfl, hR, hb⟩
  have BV2 : Hid (Below w2.heap.size w2 w7) := by
    have b1 := BV.out.alloc BV.out.size (.cells ([.int .i64 1, .bool false, .int .i64 1, .bool true] : List Value).toArray 35)
    exact b1.trans (hb.mono b1.size)
  have RF : Hid (RB W (some z) [(w6.heap.size, 39, [.int .i64 0, .int .i64 8]), (w5.heap.size, 39, [.int .i64 1, .int .i64 16]), (w4.heap.size, 39, [.int .i64 1, .int .i64 18]), (w3.heap.size, 39, [.int .i64 0, .int .i64 17]), (w2.heap.size, 39, [.int .i64 0, .int .i64 0]), ((w1.heap.size + 1 + 1 + 1 + 1), 31, [.int .i64 1, .int .i64 3, .int .i64 0, .int .i64 2, .int .i64 9, .int .i64 1, .int .i64 1, .int .i64 0, .int .i64 20, .int .i64 2]), ((w1.heap.size + 1 + 1 + 1), 35, [.int .i64 1, .bool true]), ((w1.heap.size + 1 + 1), 35, [.int .i64 1, .bool false]), ((w1.heap.size + 1), 33, [.int .i64 4, .int .i64 3, .int .i64 1, .int .i64 1, .int .i64 30, .bool false])] w7) := ⟨hR.1, hR.2.1, fun p hp => hR.2.2 p (by simp only [List.mem_cons, List.not_mem_nil, or_false] at hp ⊢; rcases hp with rfl | rfl | rfl | rfl | rfl | rfl | rfl | rfl | rfl <;> simp)⟩
  clear hR hb RC RD BV HS HO d0 d1' d2' d3' d4' d5' y0 y1 y2 y3
  replace RC := RF
  replace BV := BV2
  clear RF BV2
  obtain ⟨d0, d1', d2', d3', d4', d5'⟩ := DBox.cells (d := runD) (u := _) (g := (w1.heap.size + 1)) (by exact (RC.out.at_ (g := (w1.heap.size + 1)) (t := 33) (vs := [.int .i64 4, .int .i64 3, .int .i64 1, .int .i64 1, .int .i64 30, .bool false]) (by simp)))
  obtain ⟨y0, y1, y2, y3⟩ := And.intro ((RC.out.at_ (g := (w1.heap.size + 1 + 1)) (t := 35) (vs := [.int .i64 1, .bool false]) (by simp)).cell (i := 0) rfl) (And.intro ((RC.out.at_ (g := (w1.heap.size + 1 + 1)) (t := 35) (vs := [.int .i64 1, .bool false]) (by simp)).cell (i := 1) rfl) (And.intro ((RC.out.at_ (g := (w1.heap.size + 1 + 1 + 1)) (t := 35) (vs := [.int .i64 1, .bool true]) (by simp)).cell (i := 0) rfl) ((RC.out.at_ (g := (w1.heap.size + 1 + 1 + 1)) (t := 35) (vs := [.int .i64 1, .bool true]) (by simp)).cell (i := 1) rfl)))
  have RD := RC
  have HO : Hid (Ords _ _ (some ⟨(w1.heap.size + 1 + 1 + 1 + 1), 0, none⟩) 1 [runO]) := ords_blk (l := [runO]) (RD.out.at_ (g := (w1.heap.size + 1 + 1 + 1 + 1)) (t := 31) (vs := [.int .i64 1, .int .i64 3, .int .i64 0, .int .i64 2, .int .i64 9, .int .i64 1, .int .i64 1, .int .i64 0, .int .i64 20, .int .i64 2]) (by simp)) rfl (by decide)
  go_wp2_with fail
  refine (run_cost_call W (some z) _ (some ⟨(w1.heap.size + 1 + 1 + 1 + 1), 0, none⟩) 1 1 [runO] none 0 0 [] 0 true _ (by exact RD.out) (by exact HO.out) Recs.none_ (by decide) (by decide) k2).mono ?_
  rintro e w8 ⟨rfl, hR, hb⟩
  have BV2 : Hid (Below w2.heap.size w2 w8) := by
    exact BV.out.trans (hb.mono BV.out.size)
  have RF : Hid (RB W (some z) [(w6.heap.size, 39, [.int .i64 0, .int .i64 8]), (w5.heap.size, 39, [.int .i64 1, .int .i64 16]), (w4.heap.size, 39, [.int .i64 1, .int .i64 18]), (w3.heap.size, 39, [.int .i64 0, .int .i64 17]), (w2.heap.size, 39, [.int .i64 0, .int .i64 0]), ((w1.heap.size + 1 + 1 + 1 + 1), 31, [.int .i64 1, .int .i64 3, .int .i64 0, .int .i64 2, .int .i64 9, .int .i64 1, .int .i64 1, .int .i64 0, .int .i64 20, .int .i64 2]), ((w1.heap.size + 1 + 1 + 1), 35, [.int .i64 1, .bool true]), ((w1.heap.size + 1 + 1), 35, [.int .i64 1, .bool false]), ((w1.heap.size + 1), 33, [.int .i64 4, .int .i64 3, .int .i64 1, .int .i64 1, .int .i64 30, .bool false])] w8) := ⟨hR.1, hR.2.1, fun p hp => hR.2.2 p (by simp only [List.mem_cons, List.not_mem_nil, or_false] at hp ⊢; rcases hp with rfl | rfl | rfl | rfl | rfl | rfl | rfl | rfl | rfl <;> simp)⟩
  clear hR hb RC RD BV HO d0 d1' d2' d3' d4' d5' y0 y1 y2 y3
  replace RC := RF
  replace BV := BV2
  clear RF BV2
  obtain ⟨d0, d1', d2', d3', d4', d5'⟩ := DBox.cells (d := runD) (u := _) (g := (w1.heap.size + 1)) (by exact (RC.out.at_ (g := (w1.heap.size + 1)) (t := 33) (vs := [.int .i64 4, .int .i64 3, .int .i64 1, .int .i64 1, .int .i64 30, .bool false]) (by simp)))
  obtain ⟨y0, y1, y2, y3⟩ := And.intro ((RC.out.at_ (g := (w1.heap.size + 1 + 1)) (t := 35) (vs := [.int .i64 1, .bool false]) (by simp)).cell (i := 0) rfl) (And.intro ((RC.out.at_ (g := (w1.heap.size + 1 + 1)) (t := 35) (vs := [.int .i64 1, .bool false]) (by simp)).cell (i := 1) rfl) (And.intro ((RC.out.at_ (g := (w1.heap.size + 1 + 1 + 1)) (t := 35) (vs := [.int .i64 1, .bool true]) (by simp)).cell (i := 0) rfl) ((RC.out.at_ (g := (w1.heap.size + 1 + 1 + 1)) (t := 35) (vs := [.int .i64 1, .bool true]) (by simp)).cell (i := 1) rfl)))
  have RD := Lib.hid (RC.out.alloc 35 [.int .i64 1, .bool false])
  have HS : Hid (Stps _ _ (some ⟨_, 0, none⟩) 1 [⟨1, false⟩]) := stps_blk (l := [⟨1, false⟩]) (RD.out.at_ (t := 35) (vs := [.int .i64 1, .bool false]) (List.mem_cons_self ..)) rfl (by decide)
  have HO : Hid (Ords _ _ (some ⟨(w1.heap.size + 1 + 1 + 1 + 1), 0, none⟩) 1 [runO]) := ords_blk (l := [runO]) (RD.out.at_ (g := (w1.heap.size + 1 + 1 + 1 + 1)) (t := 31) (vs := [.int .i64 1, .int .i64 3, .int .i64 0, .int .i64 2, .int .i64 9, .int .i64 1, .int .i64 1, .int .i64 0, .int .i64 20, .int .i64 2]) (by simp)) rfl (by decide)
  go_wp2_with fail
  refine (run_cost_call W (some z) _ (some ⟨(w1.heap.size + 1 + 1 + 1 + 1), 0, none⟩) 1 1 [runO] _ 1 1 [⟨1, false⟩] 0 false _ (by exact RD.out) (by exact HO.out) (by first | exact HS.out | simpa only [World.size_alloc] using HS.out) (by decide) (by decide) k3).mono ?_
  rintro e w9 ⟨rfl, hR, hb⟩
  have BV2 : Hid (Below w2.heap.size w2 w9) := by
    have b1 := BV.out.alloc BV.out.size (.cells ([.int .i64 1, .bool false] : List Value).toArray 35)
    exact b1.trans (hb.mono b1.size)
  have RF : Hid (RB W (some z) [(w6.heap.size, 39, [.int .i64 0, .int .i64 8]), (w5.heap.size, 39, [.int .i64 1, .int .i64 16]), (w4.heap.size, 39, [.int .i64 1, .int .i64 18]), (w3.heap.size, 39, [.int .i64 0, .int .i64 17]), (w2.heap.size, 39, [.int .i64 0, .int .i64 0]), ((w1.heap.size + 1 + 1 + 1 + 1), 31, [.int .i64 1, .int .i64 3, .int .i64 0, .int .i64 2, .int .i64 9, .int .i64 1, .int .i64 1, .int .i64 0, .int .i64 20, .int .i64 2]), ((w1.heap.size + 1 + 1 + 1), 35, [.int .i64 1, .bool true]), ((w1.heap.size + 1 + 1), 35, [.int .i64 1, .bool false]), ((w1.heap.size + 1), 33, [.int .i64 4, .int .i64 3, .int .i64 1, .int .i64 1, .int .i64 30, .bool false])] w9) := ⟨hR.1, hR.2.1, fun p hp => hR.2.2 p (by simp only [List.mem_cons, List.not_mem_nil, or_false] at hp ⊢; rcases hp with rfl | rfl | rfl | rfl | rfl | rfl | rfl | rfl | rfl <;> simp)⟩
  clear hR hb RC RD BV HS HO d0 d1' d2' d3' d4' d5' y0 y1 y2 y3
  replace RC := RF
  replace BV := BV2
  clear RF BV2
  have HVW : Hid (Viss w9 w2.heap.size (some ⟨gv, ov, none⟩) 2 [⟨⟨1, false⟩, 8, 8, 9, 3⟩, ⟨⟨1, true⟩, 14, 14, 16, 0⟩]) := Recs.keep HV.out BV.out
  obtain ⟨_, _, x0, e0, _, hx0, _, v00, v01, v02, v03, v04, v05⟩ := Viss.at_ HVW.out (i := 0) (by decide)
  obtain ⟨_, _, x1, e1, _, hx1, _, v10, v11, v12, v13, v14, v15⟩ := Viss.at_ HVW.out (i := 1) (by decide)
  injection e0 with e0
  injection e0 with e0a e0b
  subst e0a
  subst e0b
  injection e1 with e1
  injection e1 with e1a e1b
  subst e1a
  subst e1b
  simp only [List.getElem?_cons_zero, List.getElem?_cons_succ, Option.some.injEq] at hx0 hx1
  subst hx0
  subst hx1
  simp only [Nat.zero_mul, Nat.add_zero, Nat.one_mul] at v00 v01 v02 v03 v04 v05 v10 v11 v12 v13 v14 v15
  have z11 := v11
  have z12 := v12
  have z13 := v13
  have z14 := v14
  have z15 := v15
  simp only [Nat.add_assoc, Nat.reduceAdd] at z11 z12 z13 z14 z15
  obtain ⟨y0, y1, y2, y3⟩ := And.intro ((RC.out.at_ (g := (w1.heap.size + 1 + 1)) (t := 35) (vs := [.int .i64 1, .bool false]) (by simp)).cell (i := 0) rfl) (And.intro ((RC.out.at_ (g := (w1.heap.size + 1 + 1)) (t := 35) (vs := [.int .i64 1, .bool false]) (by simp)).cell (i := 1) rfl) (And.intro ((RC.out.at_ (g := (w1.heap.size + 1 + 1 + 1)) (t := 35) (vs := [.int .i64 1, .bool true]) (by simp)).cell (i := 0) rfl) ((RC.out.at_ (g := (w1.heap.size + 1 + 1 + 1)) (t := 35) (vs := [.int .i64 1, .bool true]) (by simp)).cell (i := 1) rfl)))
  obtain ⟨f00, f01⟩ := And.intro ((RC.out.at_ (g := w6.heap.size) (t := 39) (vs := [.int .i64 0, .int .i64 8]) (by simp)).cell (i := 0) rfl) ((RC.out.at_ (g := w6.heap.size) (t := 39) (vs := [.int .i64 0, .int .i64 8]) (by simp)).cell (i := 1) rfl)
  obtain ⟨f10, f11⟩ := And.intro ((RC.out.at_ (g := w5.heap.size) (t := 39) (vs := [.int .i64 1, .int .i64 16]) (by simp)).cell (i := 0) rfl) ((RC.out.at_ (g := w5.heap.size) (t := 39) (vs := [.int .i64 1, .int .i64 16]) (by simp)).cell (i := 1) rfl)
  obtain ⟨f20, f21⟩ := And.intro ((RC.out.at_ (g := w4.heap.size) (t := 39) (vs := [.int .i64 1, .int .i64 18]) (by simp)).cell (i := 0) rfl) ((RC.out.at_ (g := w4.heap.size) (t := 39) (vs := [.int .i64 1, .int .i64 18]) (by simp)).cell (i := 1) rfl)
  obtain ⟨f30, f31⟩ := And.intro ((RC.out.at_ (g := w3.heap.size) (t := 39) (vs := [.int .i64 0, .int .i64 17]) (by simp)).cell (i := 0) rfl) ((RC.out.at_ (g := w3.heap.size) (t := 39) (vs := [.int .i64 0, .int .i64 17]) (by simp)).cell (i := 1) rfl)
  obtain ⟨f40, f41⟩ := And.intro ((RC.out.at_ (g := w2.heap.size) (t := 39) (vs := [.int .i64 0, .int .i64 0]) (by simp)).cell (i := 0) rfl) ((RC.out.at_ (g := w2.heap.size) (t := 39) (vs := [.int .i64 0, .int .i64 0]) (by simp)).cell (i := 1) rfl)
  clear HV HVW BV
  go_wp2_with fail
  go_quiet (fail)
  go_wp2_with fail
  go_ret
  exact ⟨rfl, below_drewN RC.out.1 _⟩

#print axioms runs_any
end Go.Proofs.Ytjkahookgoecpaa.Route
