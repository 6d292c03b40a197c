/-
  Chapter 8's example runs come out as the chapter says (SlackRuns returns true), whatever the memory; only new memory is written.
-/
import Derived.Test.YtobcmlcmbnldlaaSlackProg
import Derived.Test.YtobcmlcmbnldlaaRecStp
import Derived.Test.YtobcmlcmbnldlaaIntsSame
namespace Go.Proofs.Ytobcmlcmbnldlaa.Slack
open Go.ChangeShapes Go.WideShapes Go.ChangeAt Go.RowKit Go.Proofs.Ytobcmlcmbnldlaa.Mem Go.Proofs.Ytobcmlcmbnldlaa.GeoMath Go.Proofs.Ytobcmlcmbnldlaa.FleetMath Go.Proofs.Ytobcmlcmbnldlaa.Rec Go.Proofs.Ytobcmlcmbnldlaa.Geo Go.Proofs.Ytobcmlcmbnldlaa.Span Go.Proofs.Ytobcmlcmbnldlaa.Deal Go.Proofs.Ytobcmlcmbnldlaa.Keep Go.Proofs.Ytobcmlcmbnldlaa.Route
set_option linter.unusedVariables false

def runR : FleetMath.Ord := ⟨2, 1, ⟨0, ⟨0, 100⟩, 1⟩, ⟨1, ⟨0, 100⟩, 2⟩⟩
def runBig : Drv := ⟨4, 4, 1, ⟨1, 30⟩, false⟩
def runShort : Drv := ⟨4, 4, 1, ⟨1, 18⟩, false⟩
abbrev sP : Stp := ⟨1, false⟩
abbrev sQ : Stp := ⟨1, true⟩
theorem l1 : latestR (some runM) runD [runO] [sP, sQ] = some [9, 20] := by kernel_rfl
theorem l2 : latestR (some runM) runD [runO] [sP] = none := by kernel_rfl
theorem l3 : latestR (some runM) runD [runO] [] = some [] := by kernel_rfl
theorem p1 : putR [sP, sQ] 7 1 1 = [sP, ⟨7, false⟩, ⟨7, true⟩, sQ] := by kernel_rfl
theorem p2 : putR [sP, sQ] 7 2 1 = [] := by kernel_rfl
theorem f1 : fits (some runM) runD [] [] runO 0 0 = true := by kernel_rfl
theorem f2 : fits (some runM) runD [runO] [sP, sQ] runR 0 0 = false := by kernel_rfl
theorem f3 : fits (some runM) runD [runO] [sP, sQ] runR 1 2 = false := by kernel_rfl
theorem f4 : fits (some runM) runBig [runO] [sP, sQ] runR 1 2 = true := by kernel_rfl
theorem f5 : fits (some runM) runShort [runO] [sP, sQ] runR 1 2 = false := by kernel_rfl
theorem below_past {w u : World} {o : Obj} (hb : Below (w.alloc o).heap.size (w.alloc o) u) : Below w.heap.size w u := ((Below.refl w.heap.size w).alloc (Nat.le_refl _) o).trans (hb.mono (by simp))
theorem ints_blk {u : World} {g n : Nat} {t : TypeId} {l : List Int} (h : Blk u g t (intsV l)) (hl : l.length = n) (hn : n ≤ 64) : Ints u u.heap.size (some ⟨g, 0, none⟩) n l :=
  ⟨by rw [intsV_len, hl], by unfold maxLen; omega, fun _ => ⟨g, 0, rfl, h.lt, fun j u hu => by rw [Nat.zero_add]; exact h.cell hu⟩⟩
theorem sameInts (A A' : Option Addr) (n c c' : Nat) (xs : List Int) (B B' : Nat) (w : World) (h : Ints w B A n xs) (h' : Ints w B' A' n xs) :
    Calls Try.prog 11 #[.slice A n c, .slice A' n c'] w (Quietly w (.bool true)) := by
  have := MemI.same_any A A' n c n c' xs xs B B' w h h'
  rwa [show MemI.sameB xs xs = true by simp [MemI.sameB]] at this
/-- one Latest of the runs -/
theorem run_latest_call (W : World) (q : Option Addr) (bx : List (Nat × TypeId × List Value)) (A : Option Addr) (n c : Nat) (os : List FleetMath.Ord) (A' : Option Addr) (n' c' : Nat) (stops : List Stp) (r : Option (List Int)) (xs : List Int) (nn : Nat) (rb : Bool) (hx : r.getD [] = xs) (hn : xs.length = nn) (hrb : r.isSome = rb) (u : World) (h : RB W q bx u) (ho : Ords u u.heap.size A n os) (hs : Stps u u.heap.size A' n' stops) (hcc : n' ≤ c') (hnc : n ≤ c) (hd : latestR (some runM) runD os stops = r) :
    Calls Try.prog 10 #[.pointer q, drvV runD, .slice A n c, .slice A' n' c'] u fun en u' => ∃ B c2, en = .returned (.tuple #[.slice B nn c2, .bool rb]) ∧ RB W q bx u' ∧ Below u.heap.size u u' ∧ Ints u' u'.heap.size B nn xs := by
  refine (glatest_any W.heap.size _ _ runD A n c os A' n' c' stops u h.2.1 ho hs hcc hnc).mono ?_
  rintro en u' ⟨hb, v, rfl, hv⟩
  rw [hd, hx, hn] at hv
  rw [hd, hrb]
  obtain ⟨B, c2, rfl, _, hr⟩ := hv.read
  exact ⟨B, c2, rfl, h.below hb, hb, hr⟩
/-- one Fits of the runs -/
theorem run_fits_call (W : World) (q : Option Addr) (bx : List (Nat × TypeId × List Value)) (d : Drv) (A : Option Addr) (n c : Nat) (os : List FleetMath.Ord) (A' : Option Addr) (n' c' : Nat) (stops : List Stp) (o : FleetMath.Ord) (i j : Int) (r : Bool) (u : World) (h : RB W q bx u) (ho : Ords u u.heap.size A n os) (hs : Stps u u.heap.size A' n' stops) (hcc : n' ≤ c') (hnc : n ≤ c) (h1 : n * 80 ≤ 140737488351232) (h2 : n' * 16 ≤ 140737488351232) (hd : fits (some runM) d os stops o i j = r) :
    Calls Try.prog 14 #[.pointer q, drvV d, .slice A n c, .slice A' n' c', ordV o, .int .i64 i, .int .i64 j] u fun en u' => en = .returned (.bool r) ∧ RB W q bx u' := by
  refine (gfits_any W.heap.size _ _ d A n c os A' n' c' stops o i j u h.2.1 ho hs hcc hnc h1 h2).mono ?_
  rintro en u' ⟨rfl, hb⟩
  rw [hd]
  exact ⟨rfl, h.below hb⟩

set_option maxRecDepth 100000 in
set_option maxHeartbeats 4000000 in
theorem runs_any (W : World) : Calls Try.prog 3 #[] W (Gives W (.bool true)) := by
  have HB0 : Hid (Below W.heap.size W (W.alloc (.cells #[.int .i64 0, .int .i64 5, .int .i64 7, .int .i64 0] 3))) := (Below.refl _ _).alloc (Nat.le_refl _) _
  have HI0 : Hid (Ints (W.alloc (.cells #[.int .i64 0, .int .i64 5, .int .i64 7, .int .i64 0] 3)) (W.heap.size + 1) (some ⟨W.heap.size, 0, none⟩) 4 [0, 5, 7, 0]) := new4 W _ _ _ _ _
  go_enter Try.func3, Try.ntmps3
  go_wp2_with fail
  refine (kgnew 2 0 _ 4 4 [0, 5, 7, 0] _ (by exact Reads.more HI0.out (by simp)) (by decide)).mono ?_
  rintro e w1 ⟨q, rfl, hq, hb1, hm1⟩
  obtain ⟨z, rfl⟩ : ∃ z, q = some z := by cases q with
    | none => cases hq
    | some z => exact ⟨z, rfl⟩
  have R1 : Hid (RB W (some z) [] w1) := ⟨HB0.out.trans (hb1.mono HB0.out.size), MapP.lower hm1 HB0.out.size, by simp⟩
  clear hb1 hm1 hq HB0 HI0
  have R2 := Lib.hid (R1.out.alloc 31 [.int .i64 1, .int .i64 3, .int .i64 0, .int .i64 2, .int .i64 9, .int .i64 1, .int .i64 1, .int .i64 0, .int .i64 20, .int .i64 2])
  have R3 := Lib.hid (R2.out.alloc 31 [.int .i64 2, .int .i64 1, .int .i64 0, .int .i64 0, .int .i64 100, .int .i64 1, .int .i64 1, .int .i64 0, .int .i64 100, .int .i64 2])
  have R4 := Lib.hid (R3.out.alloc 33 [.int .i64 4, .int .i64 3, .int .i64 1, .int .i64 1, .int .i64 30, .bool false])
  have R5 := Lib.hid (R4.out.alloc 35 [.int .i64 1, .bool false])
  have R6 := Lib.hid (R5.out.alloc 35 [.int .i64 1, .bool true])
  have R7 := Lib.hid (R6.out.alloc 31 [.int .i64 1, .int .i64 3, .int .i64 0, .int .i64 2, .int .i64 9, .int .i64 1, .int .i64 1, .int .i64 0, .int .i64 20, .int .i64 2])
  have R8 := Lib.hid (R7.out.alloc 35 [.int .i64 1, .bool false, .int .i64 1, .bool true])
  simp only [World.size_alloc] at R2 R3 R4 R5 R6 R7 R8
  clear R1 R2 R3 R4 R5 R6 R7
  have RX : Hid (RB W (some z) [(w1.heap.size + 1 + 1 + 1 + 1 + 1 + 1, 35, [.int .i64 1, .bool false, .int .i64 1, .bool true]), (w1.heap.size + 1 + 1 + 1 + 1 + 1, 31, [.int .i64 1, .int .i64 3, .int .i64 0, .int .i64 2, .int .i64 9, .int .i64 1, .int .i64 1, .int .i64 0, .int .i64 20, .int .i64 2]), (w1.heap.size + 1 + 1 + 1 + 1, 35, [.int .i64 1, .bool true]), (w1.heap.size + 1 + 1 + 1, 35, [.int .i64 1, .bool false]), (w1.heap.size + 1 + 1, 33, [.int .i64 4, .int .i64 3, .int .i64 1, .int .i64 1, .int .i64 30, .bool false]), (w1.heap.size + 1, 31, [.int .i64 2, .int .i64 1, .int .i64 0, .int .i64 0, .int .i64 100, .int .i64 1, .int .i64 1, .int .i64 0, .int .i64 100, .int .i64 2]), (w1.heap.size, 31, [.int .i64 1, .int .i64 3, .int .i64 0, .int .i64 2, .int .i64 9, .int .i64 1, .int .i64 1, .int .i64 0, .int .i64 20, .int .i64 2])] _) := R8.out
  clear R8
  go_wp2_with fail
  refine (run_latest_call W (some z) _ (some ⟨w1.heap.size + 1 + 1 + 1 + 1 + 1, 0, none⟩) 1 1 [runO] _ 2 2 [sP, sQ] (some [9, 20]) [9, 20] 2 true rfl rfl rfl _ (by exact RX.out) (by exact (ords_blk (l := [runO]) (RX.out.at_ (g := w1.heap.size + 1 + 1 + 1 + 1 + 1) (t := 31) (vs := [.int .i64 1, .int .i64 3, .int .i64 0, .int .i64 2, .int .i64 9, .int .i64 1, .int .i64 1, .int .i64 0, .int .i64 20, .int .i64 2]) (by simp)) rfl (by decide))) (by exact stps_blk (l := [sP, sQ]) (RX.out.at_ (g := w1.heap.size + 1 + 1 + 1 + 1 + 1 + 1) (t := 35) (vs := [.int .i64 1, .bool false, .int .i64 1, .bool true]) (by simp)) rfl (by decide)) (by decide) (by decide) l1).mono ?_
  rintro e w2 ⟨A2, c2, rfl, hR, hb, hl⟩
  have RB2 : Hid (RB W (some z) [(w1.heap.size + 1 + 1 + 1 + 1 + 1, 31, [.int .i64 1, .int .i64 3, .int .i64 0, .int .i64 2, .int .i64 9, .int .i64 1, .int .i64 1, .int .i64 0, .int .i64 20, .int .i64 2]), (w1.heap.size + 1 + 1 + 1 + 1, 35, [.int .i64 1, .bool true]), (w1.heap.size + 1 + 1 + 1, 35, [.int .i64 1, .bool false]), (w1.heap.size + 1 + 1, 33, [.int .i64 4, .int .i64 3, .int .i64 1, .int .i64 1, .int .i64 30, .bool false]), (w1.heap.size + 1, 31, [.int .i64 2, .int .i64 1, .int .i64 0, .int .i64 0, .int .i64 100, .int .i64 1, .int .i64 1, .int .i64 0, .int .i64 100, .int .i64 2]), (w1.heap.size, 31, [.int .i64 1, .int .i64 3, .int .i64 0, .int .i64 2, .int .i64 9, .int .i64 1, .int .i64 1, .int .i64 0, .int .i64 20, .int .i64 2])] w2) := ⟨hR.1, hR.2.1, fun p hp => hR.2.2 p (List.mem_cons_of_mem _ hp)⟩
  have HL2 := Lib.hid hl
  clear hR hb hl RX
  obtain ⟨d0, d1, d2, d3, d4, d5⟩ := DBox.cells (d := runD) (u := w2) (g := w1.heap.size + 1 + 1) (RB2.out.at_ (g := w1.heap.size + 1 + 1) (t := 33) (vs := [.int .i64 4, .int .i64 3, .int .i64 1, .int .i64 1, .int .i64 30, .bool false]) (by simp))
  obtain ⟨y0, y1, y2, y3⟩ := And.intro ((RB2.out.at_ (g := w1.heap.size + 1 + 1 + 1) (t := 35) (vs := [.int .i64 1, .bool false]) (by simp)).cell (i := 0) rfl) (And.intro ((RB2.out.at_ (g := w1.heap.size + 1 + 1 + 1) (t := 35) (vs := [.int .i64 1, .bool false]) (by simp)).cell (i := 1) rfl) (And.intro ((RB2.out.at_ (g := w1.heap.size + 1 + 1 + 1 + 1) (t := 35) (vs := [.int .i64 1, .bool true]) (by simp)).cell (i := 0) rfl) ((RB2.out.at_ (g := w1.heap.size + 1 + 1 + 1 + 1) (t := 35) (vs := [.int .i64 1, .bool true]) (by simp)).cell (i := 1) rfl)))
  have RX : Hid (RB W (some z) [(w1.heap.size + 1 + 1 + 1 + 1 + 1, 31, [.int .i64 1, .int .i64 3, .int .i64 0, .int .i64 2, .int .i64 9, .int .i64 1, .int .i64 1, .int .i64 0, .int .i64 20, .int .i64 2]), (w1.heap.size + 1 + 1 + 1 + 1, 35, [.int .i64 1, .bool true]), (w1.heap.size + 1 + 1 + 1, 35, [.int .i64 1, .bool false]), (w1.heap.size + 1 + 1, 33, [.int .i64 4, .int .i64 3, .int .i64 1, .int .i64 1, .int .i64 30, .bool false]), (w1.heap.size + 1, 31, [.int .i64 2, .int .i64 1, .int .i64 0, .int .i64 0, .int .i64 100, .int .i64 1, .int .i64 1, .int .i64 0, .int .i64 100, .int .i64 2]), (w1.heap.size, 31, [.int .i64 1, .int .i64 3, .int .i64 0, .int .i64 2, .int .i64 9, .int .i64 1, .int .i64 1, .int .i64 0, .int .i64 20, .int .i64 2])] (w2.alloc (.cells #[.int .i64 1, .bool false] 35))) := RB2.out.below ((Below.refl _ _).alloc (Nat.le_refl _) _)
  have HS : Hid (Stps (w2.alloc (.cells #[.int .i64 1, .bool false] 35)) (w2.alloc (.cells #[.int .i64 1, .bool false] 35)).heap.size (some ⟨w2.heap.size, 0, none⟩) 1 [sP]) := stps_blk (l := [sP]) (Blk.new w2 35 [.int .i64 1, .bool false]) rfl (by decide)
  go_wp2_with fail
  refine (run_latest_call W (some z) _ (some ⟨w1.heap.size + 1 + 1 + 1 + 1 + 1, 0, none⟩) 1 1 [runO] _ 1 1 [sP] none [] 0 false rfl rfl rfl _ (by exact RX.out) (by exact (ords_blk (l := [runO]) (RX.out.at_ (g := w1.heap.size + 1 + 1 + 1 + 1 + 1) (t := 31) (vs := [.int .i64 1, .int .i64 3, .int .i64 0, .int .i64 2, .int .i64 9, .int .i64 1, .int .i64 1, .int .i64 0, .int .i64 20, .int .i64 2]) (by simp)) rfl (by decide))) (by exact HS.out) (by decide) (by decide) l2).mono ?_
  rintro e w3 ⟨A3, c3, rfl, hR, hb, _⟩
  have RB3 := Lib.hid hR
  have HL3 : Hid (Ints w3 w2.heap.size A2 2 [9, 20]) := Reads.keep HL2.out (below_past hb)
  have HSZ3 : Hid (w2.heap.size ≤ w3.heap.size) := (below_past hb).size
  clear hR hb RX HS RB2 HL2 d0 d1 d2 d3 d4 d5 y0 y1 y2 y3
  obtain ⟨d0, d1, d2, d3, d4, d5⟩ := DBox.cells (d := runD) (u := w3) (g := w1.heap.size + 1 + 1) (RB3.out.at_ (g := w1.heap.size + 1 + 1) (t := 33) (vs := [.int .i64 4, .int .i64 3, .int .i64 1, .int .i64 1, .int .i64 30, .bool false]) (by simp))
  obtain ⟨y0, y1, y2, y3⟩ := And.intro ((RB3.out.at_ (g := w1.heap.size + 1 + 1 + 1) (t := 35) (vs := [.int .i64 1, .bool false]) (by simp)).cell (i := 0) rfl) (And.intro ((RB3.out.at_ (g := w1.heap.size + 1 + 1 + 1) (t := 35) (vs := [.int .i64 1, .bool false]) (by simp)).cell (i := 1) rfl) (And.intro ((RB3.out.at_ (g := w1.heap.size + 1 + 1 + 1 + 1) (t := 35) (vs := [.int .i64 1, .bool true]) (by simp)).cell (i := 0) rfl) ((RB3.out.at_ (g := w1.heap.size + 1 + 1 + 1 + 1) (t := 35) (vs := [.int .i64 1, .bool true]) (by simp)).cell (i := 1) rfl)))
  have RX := RB3
  go_wp2_with fail
  refine (run_latest_call W (some z) _ (some ⟨w1.heap.size + 1 + 1 + 1 + 1 + 1, 0, none⟩) 1 1 [runO] _ 0 0 [] (some []) [] 0 true rfl rfl rfl _ (by exact RX.out) (by exact (ords_blk (l := [runO]) (RX.out.at_ (g := w1.heap.size + 1 + 1 + 1 + 1 + 1) (t := 31) (vs := [.int .i64 1, .int .i64 3, .int .i64 0, .int .i64 2, .int .i64 9, .int .i64 1, .int .i64 1, .int .i64 0, .int .i64 20, .int .i64 2]) (by simp)) rfl (by decide))) Recs.none_ (by decide) (by decide) l3).mono ?_
  rintro e w4 ⟨A4, c4, rfl, hR, hb, _⟩
  have RB4 := Lib.hid ((hR.alloc 33 [.int .i64 4, .int .i64 4, .int .i64 1, .int .i64 1, .int .i64 30, .bool false]).alloc 33 [.int .i64 4, .int .i64 4, .int .i64 1, .int .i64 1, .int .i64 18, .bool false])
  have HL4 : Hid (Ints w4 w2.heap.size A2 2 [9, 20]) := Reads.keep HL3.out (hb.mono HSZ3.out)
  have HSZ4 : Hid (w2.heap.size ≤ w4.heap.size) := Nat.le_trans HSZ3.out hb.size
  have R4 := Lib.hid hR
  simp only [World.size_alloc] at RB4
  clear hR hb RX RB3 HL3 HSZ3 d0 d1 d2 d3 d4 d5 y0 y1 y2 y3
  obtain ⟨d0, d1, d2, d3, d4, d5⟩ := DBox.cells (d := runD) (u := w4) (g := w1.heap.size + 1 + 1) (R4.out.at_ (g := w1.heap.size + 1 + 1) (t := 33) (vs := [.int .i64 4, .int .i64 3, .int .i64 1, .int .i64 1, .int .i64 30, .bool false]) (by simp))
  obtain ⟨y0, y1, y2, y3⟩ := And.intro ((R4.out.at_ (g := w1.heap.size + 1 + 1 + 1) (t := 35) (vs := [.int .i64 1, .bool false]) (by simp)).cell (i := 0) rfl) (And.intro ((R4.out.at_ (g := w1.heap.size + 1 + 1 + 1) (t := 35) (vs := [.int .i64 1, .bool false]) (by simp)).cell (i := 1) rfl) (And.intro ((R4.out.at_ (g := w1.heap.size + 1 + 1 + 1 + 1) (t := 35) (vs := [.int .i64 1, .bool true]) (by simp)).cell (i := 0) rfl) ((R4.out.at_ (g := w1.heap.size + 1 + 1 + 1 + 1) (t := 35) (vs := [.int .i64 1, .bool true]) (by simp)).cell (i := 1) rfl)))
  have HL5 : Hid (Ints (((w4.alloc (.cells #[.int .i64 4, .int .i64 4, .int .i64 1, .int .i64 1, .int .i64 30, .bool false] 33)).alloc (.cells #[.int .i64 4, .int .i64 4, .int .i64 1, .int .i64 1, .int .i64 18, .bool false] 33)).alloc (.cells #[.int .i64 9, .int .i64 20] 3)) w2.heap.size A2 2 [9, 20]) := Reads.keep HL4.out ((((Below.refl w4.heap.size w4).alloc (Nat.le_refl _) _).alloc (by simp) _).alloc (by simp; omega) _ |>.mono HSZ4.out)
  have HI5 : Hid (Ints (((w4.alloc (.cells #[.int .i64 4, .int .i64 4, .int .i64 1, .int .i64 1, .int .i64 30, .bool false] 33)).alloc (.cells #[.int .i64 4, .int .i64 4, .int .i64 1, .int .i64 1, .int .i64 18, .bool false] 33)).alloc (.cells #[.int .i64 9, .int .i64 20] 3)) (((w4.alloc (.cells #[.int .i64 4, .int .i64 4, .int .i64 1, .int .i64 1, .int .i64 30, .bool false] 33)).alloc (.cells #[.int .i64 4, .int .i64 4, .int .i64 1, .int .i64 1, .int .i64 18, .bool false] 33)).alloc (.cells #[.int .i64 9, .int .i64 20] 3)).heap.size (some ⟨w4.heap.size + 1 + 1, 0, none⟩) 2 [9, 20]) := ints_blk (l := [9, 20]) (by have := Blk.new ((w4.alloc (.cells #[.int .i64 4, .int .i64 4, .int .i64 1, .int .i64 1, .int .i64 30, .bool false] 33)).alloc (.cells #[.int .i64 4, .int .i64 4, .int .i64 1, .int .i64 1, .int .i64 18, .bool false] 33)) 3 [.int .i64 9, .int .i64 20]; rw [World.size_alloc, World.size_alloc] at this; exact this) rfl (by decide)
  have RB5 : Hid (RB W (some z) [(w4.heap.size + 1, 33, [.int .i64 4, .int .i64 4, .int .i64 1, .int .i64 1, .int .i64 18, .bool false]), (w4.heap.size, 33, [.int .i64 4, .int .i64 4, .int .i64 1, .int .i64 1, .int .i64 30, .bool false]), (w1.heap.size + 1 + 1 + 1 + 1 + 1, 31, [.int .i64 1, .int .i64 3, .int .i64 0, .int .i64 2, .int .i64 9, .int .i64 1, .int .i64 1, .int .i64 0, .int .i64 20, .int .i64 2]), (w1.heap.size + 1 + 1 + 1 + 1, 35, [.int .i64 1, .bool true]), (w1.heap.size + 1 + 1 + 1, 35, [.int .i64 1, .bool false]), (w1.heap.size + 1 + 1, 33, [.int .i64 4, .int .i64 3, .int .i64 1, .int .i64 1, .int .i64 30, .bool false]), (w1.heap.size + 1, 31, [.int .i64 2, .int .i64 1, .int .i64 0, .int .i64 0, .int .i64 100, .int .i64 1, .int .i64 1, .int .i64 0, .int .i64 100, .int .i64 2]), (w1.heap.size, 31, [.int .i64 1, .int .i64 3, .int .i64 0, .int .i64 2, .int .i64 9, .int .i64 1, .int .i64 1, .int .i64 0, .int .i64 20, .int .i64 2])] (((w4.alloc (.cells #[.int .i64 4, .int .i64 4, .int .i64 1, .int .i64 1, .int .i64 30, .bool false] 33)).alloc (.cells #[.int .i64 4, .int .i64 4, .int .i64 1, .int .i64 1, .int .i64 18, .bool false] 33)).alloc (.cells #[.int .i64 9, .int .i64 20] 3))) := RB.below (u := ((w4.alloc (.cells #[.int .i64 4, .int .i64 4, .int .i64 1, .int .i64 1, .int .i64 30, .bool false] 33)).alloc (.cells #[.int .i64 4, .int .i64 4, .int .i64 1, .int .i64 1, .int .i64 18, .bool false] 33))) (by exact RB4.out) ((Below.refl _ _).alloc (Nat.le_refl _) _)
  go_wp2_with fail
  refine (sameInts A2 _ 2 c2 2 [9, 20] _ _ _ (by exact HL5.out) (by exact HI5.out)).mono ?_
  rintro e w5 ⟨rfl, dn1, hw5⟩
  clear HL4 HSZ4 HL5 HI5 R4 RB4 d0 d1 d2 d3 d4 d5 y0 y1 y2 y3
  have RB6 : Hid (RB W (some z) [(w4.heap.size + 1, 33, [.int .i64 4, .int .i64 4, .int .i64 1, .int .i64 1, .int .i64 18, .bool false]), (w4.heap.size, 33, [.int .i64 4, .int .i64 4, .int .i64 1, .int .i64 1, .int .i64 30, .bool false]), (w1.heap.size + 1 + 1 + 1 + 1 + 1, 31, [.int .i64 1, .int .i64 3, .int .i64 0, .int .i64 2, .int .i64 9, .int .i64 1, .int .i64 1, .int .i64 0, .int .i64 20, .int .i64 2]), (w1.heap.size + 1 + 1 + 1 + 1, 35, [.int .i64 1, .bool true]), (w1.heap.size + 1 + 1 + 1, 35, [.int .i64 1, .bool false]), (w1.heap.size + 1 + 1, 33, [.int .i64 4, .int .i64 3, .int .i64 1, .int .i64 1, .int .i64 30, .bool false]), (w1.heap.size + 1, 31, [.int .i64 2, .int .i64 1, .int .i64 0, .int .i64 0, .int .i64 100, .int .i64 1, .int .i64 1, .int .i64 0, .int .i64 100, .int .i64 2]), (w1.heap.size, 31, [.int .i64 1, .int .i64 3, .int .i64 0, .int .i64 2, .int .i64 9, .int .i64 1, .int .i64 1, .int .i64 0, .int .i64 20, .int .i64 2])] w5) := by rw [hw5]; exact RB5.out.below (below_drewN (Below.refl _ _) _)
  clear hw5 RB5
  obtain ⟨d0, d1, d2, d3, d4, d5⟩ := DBox.cells (d := runD) (u := w5) (g := w1.heap.size + 1 + 1) (RB6.out.at_ (g := w1.heap.size + 1 + 1) (t := 33) (vs := [.int .i64 4, .int .i64 3, .int .i64 1, .int .i64 1, .int .i64 30, .bool false]) (by simp))
  obtain ⟨y0, y1, y2, y3⟩ := And.intro ((RB6.out.at_ (g := w1.heap.size + 1 + 1 + 1) (t := 35) (vs := [.int .i64 1, .bool false]) (by simp)).cell (i := 0) rfl) (And.intro ((RB6.out.at_ (g := w1.heap.size + 1 + 1 + 1) (t := 35) (vs := [.int .i64 1, .bool false]) (by simp)).cell (i := 1) rfl) (And.intro ((RB6.out.at_ (g := w1.heap.size + 1 + 1 + 1 + 1) (t := 35) (vs := [.int .i64 1, .bool true]) (by simp)).cell (i := 0) rfl) ((RB6.out.at_ (g := w1.heap.size + 1 + 1 + 1 + 1) (t := 35) (vs := [.int .i64 1, .bool true]) (by simp)).cell (i := 1) rfl)))
  have HS : Hid (Stps (w5.alloc (.cells #[.int .i64 1, .bool false, .int .i64 1, .bool true] 35)) (w5.alloc (.cells #[.int .i64 1, .bool false, .int .i64 1, .bool true] 35)).heap.size (some ⟨w5.heap.size, 0, none⟩) 2 [sP, sQ]) := stps_blk (l := [sP, sQ]) (Blk.new w5 35 [.int .i64 1, .bool false, .int .i64 1, .bool true]) rfl (by decide)
  have RX : Hid (RB W (some z) [(w4.heap.size + 1, 33, [.int .i64 4, .int .i64 4, .int .i64 1, .int .i64 1, .int .i64 18, .bool false]), (w4.heap.size, 33, [.int .i64 4, .int .i64 4, .int .i64 1, .int .i64 1, .int .i64 30, .bool false]), (w1.heap.size + 1 + 1 + 1 + 1 + 1, 31, [.int .i64 1, .int .i64 3, .int .i64 0, .int .i64 2, .int .i64 9, .int .i64 1, .int .i64 1, .int .i64 0, .int .i64 20, .int .i64 2]), (w1.heap.size + 1 + 1 + 1 + 1, 35, [.int .i64 1, .bool true]), (w1.heap.size + 1 + 1 + 1, 35, [.int .i64 1, .bool false]), (w1.heap.size + 1 + 1, 33, [.int .i64 4, .int .i64 3, .int .i64 1, .int .i64 1, .int .i64 30, .bool false]), (w1.heap.size + 1, 31, [.int .i64 2, .int .i64 1, .int .i64 0, .int .i64 0, .int .i64 100, .int .i64 1, .int .i64 1, .int .i64 0, .int .i64 100, .int .i64 2]), (w1.heap.size, 31, [.int .i64 1, .int .i64 3, .int .i64 0, .int .i64 2, .int .i64 9, .int .i64 1, .int .i64 1, .int .i64 0, .int .i64 20, .int .i64 2])] (w5.alloc (.cells #[.int .i64 1, .bool false, .int .i64 1, .bool true] 35))) := RB6.out.below ((Below.refl _ _).alloc (Nat.le_refl _) _)
  go_wp2_with fail
  refine (gput_any _ 2 2 [sP, sQ] 7 1 1 _ (by exact HS.out) (by decide) (by decide)).mono ?_
  rintro e w6 ⟨v6, rfl, hb6, ho6⟩
  rw [p1] at ho6
  obtain ⟨A6, c6, rfl, _, hr6⟩ := ho6.read
  have RB7 : Hid (RB W (some z) [(w6.heap.size, 35, [.int .i64 1, .bool false, .int .i64 1, .bool true]), (w4.heap.size + 1, 33, [.int .i64 4, .int .i64 4, .int .i64 1, .int .i64 1, .int .i64 18, .bool false]), (w4.heap.size, 33, [.int .i64 4, .int .i64 4, .int .i64 1, .int .i64 1, .int .i64 30, .bool false]), (w1.heap.size + 1 + 1 + 1 + 1 + 1, 31, [.int .i64 1, .int .i64 3, .int .i64 0, .int .i64 2, .int .i64 9, .int .i64 1, .int .i64 1, .int .i64 0, .int .i64 20, .int .i64 2]), (w1.heap.size + 1 + 1 + 1 + 1, 35, [.int .i64 1, .bool true]), (w1.heap.size + 1 + 1 + 1, 35, [.int .i64 1, .bool false]), (w1.heap.size + 1 + 1, 33, [.int .i64 4, .int .i64 3, .int .i64 1, .int .i64 1, .int .i64 30, .bool false]), (w1.heap.size + 1, 31, [.int .i64 2, .int .i64 1, .int .i64 0, .int .i64 0, .int .i64 100, .int .i64 1, .int .i64 1, .int .i64 0, .int .i64 100, .int .i64 2]), (w1.heap.size, 31, [.int .i64 1, .int .i64 3, .int .i64 0, .int .i64 2, .int .i64 9, .int .i64 1, .int .i64 1, .int .i64 0, .int .i64 20, .int .i64 2])] (w6.alloc (.cells #[.int .i64 1, .bool false, .int .i64 1, .bool true] 35))) := (RX.out.below hb6).alloc 35 [.int .i64 1, .bool false, .int .i64 1, .bool true]
  have HS7 : Hid (Stps (w6.alloc (.cells #[.int .i64 1, .bool false, .int .i64 1, .bool true] 35)) w6.heap.size A6 4 [sP, ⟨7, false⟩, ⟨7, true⟩, sQ]) := Recs.keep hr6 ((Below.refl _ _).alloc (Nat.le_refl _) _)
  have R6 := Lib.hid (RX.out.below hb6)
  clear hb6 ho6 hr6 HS RX RB6 d0 d1 d2 d3 d4 d5 y0 y1 y2 y3
  obtain ⟨d0, d1, d2, d3, d4, d5⟩ := DBox.cells (d := runD) (u := w6) (g := w1.heap.size + 1 + 1) (R6.out.at_ (g := w1.heap.size + 1 + 1) (t := 33) (vs := [.int .i64 4, .int .i64 3, .int .i64 1, .int .i64 1, .int .i64 30, .bool false]) (by simp))
  obtain ⟨y0, y1, y2, y3⟩ := And.intro ((R6.out.at_ (g := w1.heap.size + 1 + 1 + 1) (t := 35) (vs := [.int .i64 1, .bool false]) (by simp)).cell (i := 0) rfl) (And.intro ((R6.out.at_ (g := w1.heap.size + 1 + 1 + 1) (t := 35) (vs := [.int .i64 1, .bool false]) (by simp)).cell (i := 1) rfl) (And.intro ((R6.out.at_ (g := w1.heap.size + 1 + 1 + 1 + 1) (t := 35) (vs := [.int .i64 1, .bool true]) (by simp)).cell (i := 0) rfl) ((R6.out.at_ (g := w1.heap.size + 1 + 1 + 1 + 1) (t := 35) (vs := [.int .i64 1, .bool true]) (by simp)).cell (i := 1) rfl)))
  obtain ⟨z0, z1, z2, z3⟩ := And.intro ((RB7.out.at_ (g := w1.heap.size + 1 + 1 + 1) (t := 35) (vs := [.int .i64 1, .bool false]) (by simp)).cell (i := 0) rfl) (And.intro ((RB7.out.at_ (g := w1.heap.size + 1 + 1 + 1) (t := 35) (vs := [.int .i64 1, .bool false]) (by simp)).cell (i := 1) rfl) (And.intro ((RB7.out.at_ (g := w1.heap.size + 1 + 1 + 1 + 1) (t := 35) (vs := [.int .i64 1, .bool true]) (by simp)).cell (i := 0) rfl) ((RB7.out.at_ (g := w1.heap.size + 1 + 1 + 1 + 1) (t := 35) (vs := [.int .i64 1, .bool true]) (by simp)).cell (i := 1) rfl)))
  have HA8 : Hid (Stps ((w6.alloc (.cells #[.int .i64 1, .bool false, .int .i64 1, .bool true] 35)).alloc (.cells #[.int .i64 1, .bool false, .int .i64 7, .bool false, .int .i64 7, .bool true, .int .i64 1, .bool true] 35)) w6.heap.size A6 4 [sP, ⟨7, false⟩, ⟨7, true⟩, sQ]) := Recs.keep HS7.out (((Below.refl (w6.alloc (.cells #[.int .i64 1, .bool false, .int .i64 1, .bool true] 35)).heap.size _).alloc (Nat.le_refl _) _).mono (by simp))
  have HB8 : Hid (Stps ((w6.alloc (.cells #[.int .i64 1, .bool false, .int .i64 1, .bool true] 35)).alloc (.cells #[.int .i64 1, .bool false, .int .i64 7, .bool false, .int .i64 7, .bool true, .int .i64 1, .bool true] 35)) ((w6.alloc (.cells #[.int .i64 1, .bool false, .int .i64 1, .bool true] 35)).alloc (.cells #[.int .i64 1, .bool false, .int .i64 7, .bool false, .int .i64 7, .bool true, .int .i64 1, .bool true] 35)).heap.size (some ⟨w6.heap.size + 1, 0, none⟩) 4 [sP, ⟨7, false⟩, ⟨7, true⟩, sQ]) := stps_blk (l := [sP, ⟨7, false⟩, ⟨7, true⟩, sQ]) (by have := Blk.new (w6.alloc (.cells #[.int .i64 1, .bool false, .int .i64 1, .bool true] 35)) 35 [.int .i64 1, .bool false, .int .i64 7, .bool false, .int .i64 7, .bool true, .int .i64 1, .bool true]; rw [World.size_alloc] at this; exact this) rfl (by decide)
  have RB8 : Hid (RB W (some z) [(w6.heap.size, 35, [.int .i64 1, .bool false, .int .i64 1, .bool true]), (w4.heap.size + 1, 33, [.int .i64 4, .int .i64 4, .int .i64 1, .int .i64 1, .int .i64 18, .bool false]), (w4.heap.size, 33, [.int .i64 4, .int .i64 4, .int .i64 1, .int .i64 1, .int .i64 30, .bool false]), (w1.heap.size + 1 + 1 + 1 + 1 + 1, 31, [.int .i64 1, .int .i64 3, .int .i64 0, .int .i64 2, .int .i64 9, .int .i64 1, .int .i64 1, .int .i64 0, .int .i64 20, .int .i64 2]), (w1.heap.size + 1 + 1 + 1 + 1, 35, [.int .i64 1, .bool true]), (w1.heap.size + 1 + 1 + 1, 35, [.int .i64 1, .bool false]), (w1.heap.size + 1 + 1, 33, [.int .i64 4, .int .i64 3, .int .i64 1, .int .i64 1, .int .i64 30, .bool false]), (w1.heap.size + 1, 31, [.int .i64 2, .int .i64 1, .int .i64 0, .int .i64 0, .int .i64 100, .int .i64 1, .int .i64 1, .int .i64 0, .int .i64 100, .int .i64 2]), (w1.heap.size, 31, [.int .i64 1, .int .i64 3, .int .i64 0, .int .i64 2, .int .i64 9, .int .i64 1, .int .i64 1, .int .i64 0, .int .i64 20, .int .i64 2])] ((w6.alloc (.cells #[.int .i64 1, .bool false, .int .i64 1, .bool true] 35)).alloc (.cells #[.int .i64 1, .bool false, .int .i64 7, .bool false, .int .i64 7, .bool true, .int .i64 1, .bool true] 35))) := RB7.out.below ((Below.refl _ _).alloc (Nat.le_refl _) _)
  simp only [List.length_cons, List.length_nil, Nat.zero_add, Nat.reduceAdd]
  go_wp2_with fail
  refine (sameStp A6 _ 4 c6 4 [sP, ⟨7, false⟩, ⟨7, true⟩, sQ] _ _ _ (by exact HA8.out) (by exact HB8.out)).mono ?_
  rintro e w7 ⟨rfl, dn2, hw7⟩
  have RB9 : Hid (RB W (some z) [(w6.heap.size, 35, [.int .i64 1, .bool false, .int .i64 1, .bool true]), (w4.heap.size + 1, 33, [.int .i64 4, .int .i64 4, .int .i64 1, .int .i64 1, .int .i64 18, .bool false]), (w4.heap.size, 33, [.int .i64 4, .int .i64 4, .int .i64 1, .int .i64 1, .int .i64 30, .bool false]), (w1.heap.size + 1 + 1 + 1 + 1 + 1, 31, [.int .i64 1, .int .i64 3, .int .i64 0, .int .i64 2, .int .i64 9, .int .i64 1, .int .i64 1, .int .i64 0, .int .i64 20, .int .i64 2]), (w1.heap.size + 1 + 1 + 1 + 1, 35, [.int .i64 1, .bool true]), (w1.heap.size + 1 + 1 + 1, 35, [.int .i64 1, .bool false]), (w1.heap.size + 1 + 1, 33, [.int .i64 4, .int .i64 3, .int .i64 1, .int .i64 1, .int .i64 30, .bool false]), (w1.heap.size + 1, 31, [.int .i64 2, .int .i64 1, .int .i64 0, .int .i64 0, .int .i64 100, .int .i64 1, .int .i64 1, .int .i64 0, .int .i64 100, .int .i64 2]), (w1.heap.size, 31, [.int .i64 1, .int .i64 3, .int .i64 0, .int .i64 2, .int .i64 9, .int .i64 1, .int .i64 1, .int .i64 0, .int .i64 20, .int .i64 2])] w7) := by rw [hw7]; exact RB8.out.below (below_drewN (Below.refl _ _) _)
  clear hw7 RB8 RB7 HA8 HB8 HS7 R6 z0 z1 z2 z3 d0 d1 d2 d3 d4 d5 y0 y1 y2 y3
  go_wp2_with fail
  refine (gput_any _ 2 2 [sP, sQ] 7 2 1 _ (by exact (stps_blk (l := [sP, sQ]) (RB9.out.at_ (g := w6.heap.size) (t := 35) (vs := [.int .i64 1, .bool false, .int .i64 1, .bool true]) (by simp)) rfl (by decide))) (by decide) (by decide)).mono ?_
  rintro e w8 ⟨v8, rfl, hb8, ho8⟩
  rw [p2] at ho8
  obtain ⟨A8, c8, rfl, _, _⟩ := ho8.read
  have RBA := Lib.hid (RB9.out.below hb8)
  clear hb8 ho8 RB9
  simp only [List.length_nil]
  obtain ⟨d0, d1, d2, d3, d4, d5⟩ := DBox.cells (d := runD) (u := w8) (g := w1.heap.size + 1 + 1) (RBA.out.at_ (g := w1.heap.size + 1 + 1) (t := 33) (vs := [.int .i64 4, .int .i64 3, .int .i64 1, .int .i64 1, .int .i64 30, .bool false]) (by simp))
  obtain ⟨o0, o1, o2, o3, o4, o5, o6, o7, o8, o9⟩ := OBox.cells (o := runO) (u := w8) (g := w1.heap.size) (RBA.out.at_ (g := w1.heap.size) (t := 31) (vs := [.int .i64 1, .int .i64 3, .int .i64 0, .int .i64 2, .int .i64 9, .int .i64 1, .int .i64 1, .int .i64 0, .int .i64 20, .int .i64 2]) (by simp))
  go_wp2_with fail
  refine (run_fits_call W (some z) _ runD none 0 0 [] none 0 0 [] runO 0 0 true _ (by exact RBA.out) Recs.none_ Recs.none_ (by decide) (by decide) (by decide) (by decide) f1).mono ?_
  rintro e x0 ⟨rfl, hR⟩
  have RC0 := Lib.hid hR
  clear hR RBA d0 d1 d2 d3 d4 d5 o0 o1 o2 o3 o4 o5 o6 o7 o8 o9
  obtain ⟨d0, d1, d2, d3, d4, d5⟩ := DBox.cells (d := runD) (u := x0) (g := w1.heap.size + 1 + 1) (RC0.out.at_ (g := w1.heap.size + 1 + 1) (t := 33) (vs := [.int .i64 4, .int .i64 3, .int .i64 1, .int .i64 1, .int .i64 30, .bool false]) (by simp))
  obtain ⟨o0, o1, o2, o3, o4, o5, o6, o7, o8, o9⟩ := OBox.cells (o := runR) (u := x0) (g := w1.heap.size + 1) (RC0.out.at_ (g := w1.heap.size + 1) (t := 31) (vs := [.int .i64 2, .int .i64 1, .int .i64 0, .int .i64 0, .int .i64 100, .int .i64 1, .int .i64 1, .int .i64 0, .int .i64 100, .int .i64 2]) (by simp))
  go_wp2_with fail
  refine (run_fits_call W (some z) _ runD (some ⟨w1.heap.size + 1 + 1 + 1 + 1 + 1, 0, none⟩) 1 1 [runO] _ 2 2 [sP, sQ] runR 0 0 false _ (by exact RC0.out) (by exact (ords_blk (l := [runO]) (RC0.out.at_ (g := w1.heap.size + 1 + 1 + 1 + 1 + 1) (t := 31) (vs := [.int .i64 1, .int .i64 3, .int .i64 0, .int .i64 2, .int .i64 9, .int .i64 1, .int .i64 1, .int .i64 0, .int .i64 20, .int .i64 2]) (by simp)) rfl (by decide))) (by exact (stps_blk (l := [sP, sQ]) (RC0.out.at_ (g := w6.heap.size) (t := 35) (vs := [.int .i64 1, .bool false, .int .i64 1, .bool true]) (by simp)) rfl (by decide))) (by decide) (by decide) (by decide) (by decide) f2).mono ?_
  rintro e x1 ⟨rfl, hR⟩
  have RC1 := Lib.hid hR
  clear hR RC0 d0 d1 d2 d3 d4 d5 o0 o1 o2 o3 o4 o5 o6 o7 o8 o9
  obtain ⟨d0, d1, d2, d3, d4, d5⟩ := DBox.cells (d := runD) (u := x1) (g := w1.heap.size + 1 + 1) (RC1.out.at_ (g := w1.heap.size + 1 + 1) (t := 33) (vs := [.int .i64 4, .int .i64 3, .int .i64 1, .int .i64 1, .int .i64 30, .bool false]) (by simp))
  obtain ⟨o0, o1, o2, o3, o4, o5, o6, o7, o8, o9⟩ := OBox.cells (o := runR) (u := x1) (g := w1.heap.size + 1) (RC1.out.at_ (g := w1.heap.size + 1) (t := 31) (vs := [.int .i64 2, .int .i64 1, .int .i64 0, .int .i64 0, .int .i64 100, .int .i64 1, .int .i64 1, .int .i64 0, .int .i64 100, .int .i64 2]) (by simp))
  go_wp2_with fail
  refine (run_fits_call W (some z) _ runD (some ⟨w1.heap.size + 1 + 1 + 1 + 1 + 1, 0, none⟩) 1 1 [runO] _ 2 2 [sP, sQ] runR 1 2 false _ (by exact RC1.out) (by exact (ords_blk (l := [runO]) (RC1.out.at_ (g := w1.heap.size + 1 + 1 + 1 + 1 + 1) (t := 31) (vs := [.int .i64 1, .int .i64 3, .int .i64 0, .int .i64 2, .int .i64 9, .int .i64 1, .int .i64 1, .int .i64 0, .int .i64 20, .int .i64 2]) (by simp)) rfl (by decide))) (by exact (stps_blk (l := [sP, sQ]) (RC1.out.at_ (g := w6.heap.size) (t := 35) (vs := [.int .i64 1, .bool false, .int .i64 1, .bool true]) (by simp)) rfl (by decide))) (by decide) (by decide) (by decide) (by decide) f3).mono ?_
  rintro e x2 ⟨rfl, hR⟩
  have RC2 := Lib.hid hR
  clear hR RC1 d0 d1 d2 d3 d4 d5 o0 o1 o2 o3 o4 o5 o6 o7 o8 o9
  obtain ⟨d0, d1, d2, d3, d4, d5⟩ := DBox.cells (d := runBig) (u := x2) (g := w4.heap.size) (RC2.out.at_ (g := w4.heap.size) (t := 33) (vs := [.int .i64 4, .int .i64 4, .int .i64 1, .int .i64 1, .int .i64 30, .bool false]) (by simp))
  obtain ⟨o0, o1, o2, o3, o4, o5, o6, o7, o8, o9⟩ := OBox.cells (o := runR) (u := x2) (g := w1.heap.size + 1) (RC2.out.at_ (g := w1.heap.size + 1) (t := 31) (vs := [.int .i64 2, .int .i64 1, .int .i64 0, .int .i64 0, .int .i64 100, .int .i64 1, .int .i64 1, .int .i64 0, .int .i64 100, .int .i64 2]) (by simp))
  go_wp2_with fail
  refine (run_fits_call W (some z) _ runBig (some ⟨w1.heap.size + 1 + 1 + 1 + 1 + 1, 0, none⟩) 1 1 [runO] _ 2 2 [sP, sQ] runR 1 2 true _ (by exact RC2.out) (by exact (ords_blk (l := [runO]) (RC2.out.at_ (g := w1.heap.size + 1 + 1 + 1 + 1 + 1) (t := 31) (vs := [.int .i64 1, .int .i64 3, .int .i64 0, .int .i64 2, .int .i64 9, .int .i64 1, .int .i64 1, .int .i64 0, .int .i64 20, .int .i64 2]) (by simp)) rfl (by decide))) (by exact (stps_blk (l := [sP, sQ]) (RC2.out.at_ (g := w6.heap.size) (t := 35) (vs := [.int .i64 1, .bool false, .int .i64 1, .bool true]) (by simp)) rfl (by decide))) (by decide) (by decide) (by decide) (by decide) f4).mono ?_
  rintro e x3 ⟨rfl, hR⟩
  have RC3 := Lib.hid hR
  clear hR RC2 d0 d1 d2 d3 d4 d5 o0 o1 o2 o3 o4 o5 o6 o7 o8 o9
  obtain ⟨d0, d1, d2, d3, d4, d5⟩ := DBox.cells (d := runShort) (u := x3) (g := w4.heap.size + 1) (RC3.out.at_ (g := w4.heap.size + 1) (t := 33) (vs := [.int .i64 4, .int .i64 4, .int .i64 1, .int .i64 1, .int .i64 18, .bool false]) (by simp))
  obtain ⟨o0, o1, o2, o3, o4, o5, o6, o7, o8, o9⟩ := OBox.cells (o := runR) (u := x3) (g := w1.heap.size + 1) (RC3.out.at_ (g := w1.heap.size + 1) (t := 31) (vs := [.int .i64 2, .int .i64 1, .int .i64 0, .int .i64 0, .int .i64 100, .int .i64 1, .int .i64 1, .int .i64 0, .int .i64 100, .int .i64 2]) (by simp))
  go_wp2_with fail
  refine (run_fits_call W (some z) _ runShort (some ⟨w1.heap.size + 1 + 1 + 1 + 1 + 1, 0, none⟩) 1 1 [runO] _ 2 2 [sP, sQ] runR 1 2 false _ (by exact RC3.out) (by exact (ords_blk (l := [runO]) (RC3.out.at_ (g := w1.heap.size + 1 + 1 + 1 + 1 + 1) (t := 31) (vs := [.int .i64 1, .int .i64 3, .int .i64 0, .int .i64 2, .int .i64 9, .int .i64 1, .int .i64 1, .int .i64 0, .int .i64 20, .int .i64 2]) (by simp)) rfl (by decide))) (by exact (stps_blk (l := [sP, sQ]) (RC3.out.at_ (g := w6.heap.size) (t := 35) (vs := [.int .i64 1, .bool false, .int .i64 1, .bool true]) (by simp)) rfl (by decide))) (by decide) (by decide) (by decide) (by decide) f5).mono ?_
  rintro e x4 ⟨rfl, hR⟩
  have RC4 := Lib.hid hR
  clear hR RC3 d0 d1 d2 d3 d4 d5 o0 o1 o2 o3 o4 o5 o6 o7 o8 o9
  go_wp2_with fail
  go_ret
  exact ⟨rfl, RC4.out.1⟩

#print axioms runs_any
end Go.Proofs.Ytobcmlcmbnldlaa.Slack
