/-
  Chapter 5's example runs come out as the chapter says (SpanRuns returns true), whatever the memory; only new memory is written.
-/
import Derived.Test.YtglkphngddnieaaSpanProg
import Derived.Test.YtglkphngddnieaaSpanRHas
import Derived.Test.YtglkphngddnieaaSpanRBegin
import Derived.Test.YtglkphngddnieaaSpanRLast
namespace Go.Proofs.Ytglkphngddnieaa.Span
open Go.ChangeShapes Go.WideShapes Go.ChangeAt Go.RowKit Go.Proofs.Ytglkphngddnieaa.Mem Go.Proofs.Ytglkphngddnieaa.FleetMath Go.Proofs.Ytglkphngddnieaa.Rec

def pairV (v : Int) (r : Bool) : Value := .tuple #[.int .i64 v, .bool r]
theorem optV_form (o : Option Int) : ∃ v r, optV o = .tuple #[.int .i64 v, .bool r] := by cases o; exact ⟨_, _, rfl⟩; exact ⟨_, _, rfl⟩
theorem wf_num {v : Int} (h : -9223372036854775808 ≤ v) (h' : v ≤ 9223372036854775807) : (Lit.int .i64 v).wf = true := by
  simp [Lit.wf, IntKind.min, IntKind.max, IntKind.signed, IntKind.bits]; omega
section
variable (x : Win) (w : World)
theorem gright_val (r : Bool) (h : right x = r) : Calls Try.prog 16 #[winV x] w (Gives w (.bool r)) := by rw [← h]; exact gright_any x w
theorem ghas_val (t : Int) (r : Bool) (h : has x t = r) : Calls Try.prog 18 #[winV x, .int .i64 t] w (Gives w (.bool r)) := by rw [← h]; exact ghas_any x t w
theorem rhas_val (t : Int) (r : Bool) (h : has x t = r) : Calls Try.prog 19 #[winV x, .int .i64 t] w (Gives w (.bool r)) := by rw [← h]; exact rhas_any x t w
theorem gbegin_val (t v : Int) (r : Bool) (h : optV (beginT x t) = .tuple #[.int .i64 v, .bool r]) : Calls Try.prog 12 #[winV x, .int .i64 t] w (Gives w (.tuple #[.int .i64 v, .bool r])) := by rw [← h]; exact gbegin_any x t w
theorem rbegin_val (t v : Int) (r : Bool) (h : optV (beginT x t) = .tuple #[.int .i64 v, .bool r]) : Calls Try.prog 13 #[winV x, .int .i64 t] w (Gives w (.tuple #[.int .i64 v, .bool r])) := by rw [← h]; exact rbegin_any x t w
theorem glast_val (s u v : Int) (r : Bool) (hs : (Lit.int .i64 s).wf = true) (hu : (Lit.int .i64 u).wf = true) (h : optV (lastT x s u) = .tuple #[.int .i64 v, .bool r]) : Calls Try.prog 14 #[winV x, .int .i64 s, .int .i64 u] w (Gives w (.tuple #[.int .i64 v, .bool r])) := by rw [← h]; exact glast_any x s u w hs hu
theorem rlast_val (s u v : Int) (r : Bool) (hu : u ≤ 9223372036854775807) (h : optV (lastT x s u) = .tuple #[.int .i64 v, .bool r]) : Calls Try.prog 15 #[winV x, .int .i64 s, .int .i64 u] w (Gives w (.tuple #[.int .i64 v, .bool r])) := by rw [← h]; exact rlast_any x s u w hu
end
theorem gmeet_val (A : Option Addr) (n c : Nat) (l : List Win) (w : World) (h : Wins w w.heap.size A n l) (y : Win) (r : Bool) (hm : optW (meet l) = .tuple #[winV y, .bool r]) : Calls Try.prog 9 #[.slice A n c] w (Gives w (.tuple #[winV y, .bool r])) := by rw [← hm]; exact gmeet_any A n c l w h

theorem begins_yes (x : Win) (t v : Int) (r : Bool) (w : World) (h : optV (beginT x t) = .tuple #[.int .i64 v, .bool r]) : Calls Try.prog 10 #[winV x, .int .i64 t, .int .i64 v, .bool r] w (Gives w (.bool true)) := by
  have H := Lib.hid h
  clear h
  go_enter Try.func10, Try.ntmps10
  go_wp2_with fail
  refine (gbegin_val x _ t v r H.out).mono ?_
  rintro e w1 ⟨rfl, hb⟩
  have HB : Hid (Below w.heap.size w w1) := by first | exact hb | exact ((Below.refl _ _).alloc (Nat.le_refl _) _).trans (hb.mono (by simp))
  clear hb
  go_wp2_with fail
  go_ret
  exact ⟨rfl, HB.out⟩
theorem lasts_yes (x : Win) (s u v : Int) (r : Bool) (w : World) (hs : (Lit.int .i64 s).wf = true) (hu : (Lit.int .i64 u).wf = true) (h : optV (lastT x s u) = .tuple #[.int .i64 v, .bool r]) : Calls Try.prog 11 #[winV x, .int .i64 s, .int .i64 u, .int .i64 v, .bool r] w (Gives w (.bool true)) := by
  have H := Lib.hid h
  have HS := Lib.hid hs
  have HU := Lib.hid hu
  clear h hs hu
  go_enter Try.func11, Try.ntmps11
  go_wp2_with fail
  refine (glast_val x _ s u v r HS.out HU.out H.out).mono ?_
  rintro e w1 ⟨rfl, hb⟩
  have HB : Hid (Below w.heap.size w w1) := by first | exact hb | exact ((Below.refl _ _).alloc (Nat.le_refl _) _).trans (hb.mono (by simp))
  clear hb
  go_wp2_with fail
  go_ret
  exact ⟨rfl, HB.out⟩

/-- a window in a block of its own -/
def BoxAt (u : World) (g : Nat) (x : Win) : Prop := Blk u g 23 [.int .i64 x.fr, .int .i64 x.to]
theorem BoxAt.new (u : World) (x : Win) : BoxAt (u.alloc (.cells #[.int .i64 x.fr, .int .i64 x.to] 23)) u.heap.size x := Blk.new u _ _
theorem BoxAt.below {u u' : World} {g : Nat} {x : Win} (h : BoxAt u g x) (hb : Below u.heap.size u u') : BoxAt u' g x := Blk.below h hb (Blk.lt h)
theorem BoxAt.alloc {u : World} {g : Nat} {x : Win} (h : BoxAt u g x) (o : Obj) : BoxAt (u.alloc o) g x := h.below ((Below.refl _ _).alloc (Nat.le_refl _) _)
theorem BoxAt.cells {u : World} {g : Nat} {x : Win} (h : BoxAt u g x) : u.cell? ⟨g, 0, none⟩ = some (.int .i64 x.fr) ∧ u.cell? ⟨g, 1, none⟩ = some (.int .i64 x.to) := ⟨Blk.cell h rfl, Blk.cell h rfl⟩
/-- a literal of windows -/
theorem wins_lit {u : World} {g n : Nat} {l : List Win} {t : TypeId} (h : Blk u g t (winsV l)) (hl : l.length = n) (hn : n ≤ 64) : Wins u u.heap.size (some ⟨g, 0, none⟩) n l :=
  ⟨by rw [winsV_len, hl], by unfold maxLen; omega, fun _ => ⟨g, 0, rfl, h.lt, fun j u hu => by rw [Nat.zero_add]; exact h.cell hu⟩⟩

theorem wins_new (u : World) (l : List Win) (g n : Nat) (hg : u.heap.size = g) (hl : l.length = n) (hn : n ≤ 64) (t : TypeId) : Wins (u.alloc (.cells (winsV l).toArray t)) (u.alloc (.cells (winsV l).toArray t)).heap.size (some ⟨g, 0, none⟩) n l := by
  subst hg
  exact wins_lit (Blk.new u t (winsV l)) hl hn

set_option maxHeartbeats 2000000 in
set_option maxRecDepth 100000 in
theorem runs_any (W : World) : Calls Try.prog 3 #[] W (Gives W (.bool true)) := by
  go_enter Try.func3, Try.ntmps3
  go_wp2_with fail
  refine (gmeet_val none 0 0 [] _ Recs.none_ ⟨0, 1000000⟩ true rfl).mono ?_
  rintro e w1 ⟨rfl, hb⟩
  have X1 : Hid (BoxAt (w1.alloc (.cells #[.int .i64 0, .int .i64 1000000] 23)) W.heap.size ⟨3, 9⟩) := ((BoxAt.new W ⟨3, 9⟩).below hb).alloc _
  have Y1 : Hid (BoxAt (w1.alloc (.cells #[.int .i64 0, .int .i64 1000000] 23)) w1.heap.size ⟨0, 1000000⟩) := BoxAt.new w1 ⟨0, 1000000⟩
  have HB1 : Hid (Below W.heap.size W (w1.alloc (.cells #[.int .i64 0, .int .i64 1000000] 23))) := ((((Below.refl _ _).alloc (Nat.le_refl _) _).trans (hb.mono (by simp)))).alloc (by have := hb.size; simp at this; omega) _
  obtain ⟨x0, x1⟩ := X1.out.cells
  clear hb
  go_wp2_with fail
  refine (gmeet_val _ 2 2 [⟨3, 9⟩, ⟨5, 12⟩] _ (by exact wins_new _ [⟨3, 9⟩, ⟨5, 12⟩] _ 2 (by simp) rfl (by decide) _) ⟨5, 9⟩ true rfl).mono ?_
  rintro e w2 ⟨rfl, hb⟩
  have X2 : Hid (BoxAt (w2.alloc (.cells #[.int .i64 5, .int .i64 9] 23)) W.heap.size ⟨3, 9⟩) := ((X1.out.alloc _).below hb).alloc _
  have Y2 : Hid (BoxAt (w2.alloc (.cells #[.int .i64 5, .int .i64 9] 23)) w1.heap.size ⟨0, 1000000⟩) := ((Y1.out.alloc _).below hb).alloc _
  have Z2 : Hid (BoxAt (w2.alloc (.cells #[.int .i64 5, .int .i64 9] 23)) w2.heap.size ⟨5, 9⟩) := BoxAt.new w2 ⟨5, 9⟩
  have HB2 : Hid (Below W.heap.size W (w2.alloc (.cells #[.int .i64 5, .int .i64 9] 23))) := by
    have h1 := HB1.out.alloc HB1.out.size (.cells #[.int .i64 3, .int .i64 9, .int .i64 5, .int .i64 12] 23)
    have h2 := h1.trans (hb.mono h1.size)
    exact h2.alloc h2.size _
  clear hb X1 Y1 HB1 x0 x1
  go_wp2_with fail
  refine (gmeet_val _ 2 2 [⟨3, 4⟩, ⟨5, 6⟩] _ (by exact wins_new _ [⟨3, 4⟩, ⟨5, 6⟩] _ 2 (by simp) rfl (by decide) _) ⟨0, 0⟩ false rfl).mono ?_
  rintro e w3 ⟨rfl, hb⟩
  have X3 : Hid (BoxAt (w3.alloc (.cells #[.int .i64 0, .int .i64 0] 23)) W.heap.size ⟨3, 9⟩) := ((X2.out.alloc _).below hb).alloc _
  have Y3 : Hid (BoxAt (w3.alloc (.cells #[.int .i64 0, .int .i64 0] 23)) w1.heap.size ⟨0, 1000000⟩) := ((Y2.out.alloc _).below hb).alloc _
  have Z3 : Hid (BoxAt (w3.alloc (.cells #[.int .i64 0, .int .i64 0] 23)) w2.heap.size ⟨5, 9⟩) := ((Z2.out.alloc _).below hb).alloc _
  have U3 : Hid (BoxAt (w3.alloc (.cells #[.int .i64 0, .int .i64 0] 23)) w3.heap.size ⟨0, 0⟩) := BoxAt.new w3 ⟨0, 0⟩
  have HB3 : Hid (Below W.heap.size W (w3.alloc (.cells #[.int .i64 0, .int .i64 0] 23))) := by
    have h1 := HB2.out.alloc HB2.out.size (.cells #[.int .i64 3, .int .i64 4, .int .i64 5, .int .i64 6] 23)
    have h2 := h1.trans (hb.mono h1.size)
    exact h2.alloc h2.size _
  clear hb X2 Y2 Z2 HB2
  go_wp2_with fail
  refine (gmeet_val _ 1 1 [⟨5, 3⟩] _ (by exact wins_new _ [⟨5, 3⟩] _ 1 (by simp) rfl (by decide) _) ⟨0, 0⟩ false rfl).mono ?_
  rintro e w4 ⟨rfl, hb⟩
  have X4 : Hid (BoxAt (w4.alloc (.cells #[.int .i64 0, .int .i64 0] 23)) W.heap.size ⟨3, 9⟩) := ((X3.out.alloc _).below hb).alloc _
  obtain ⟨y0, y1⟩ := ((((Y3.out.alloc _).below hb).alloc (.cells #[.int .i64 0, .int .i64 0] 23))).cells
  obtain ⟨z0, z1⟩ := ((((Z3.out.alloc _).below hb).alloc (.cells #[.int .i64 0, .int .i64 0] 23))).cells
  obtain ⟨u0, u1⟩ := ((((U3.out.alloc _).below hb).alloc (.cells #[.int .i64 0, .int .i64 0] 23))).cells
  obtain ⟨x0, x1⟩ := X4.out.cells
  have HB4 : Hid (Below W.heap.size W (w4.alloc (.cells #[.int .i64 0, .int .i64 0] 23))) := by
    have h1 := HB3.out.alloc HB3.out.size (.cells #[.int .i64 5, .int .i64 3] 23)
    have h2 := h1.trans (hb.mono h1.size)
    exact h2.alloc h2.size _
  clear hb X3 Y3 Z3 U3 HB3
  go_wp2_with fail
  refine (begins_yes ⟨3, 9⟩ 1 3 true _ rfl).mono ?_
  rintro e w5 ⟨rfl, hb⟩
  have X5 := Lib.hid (X4.out.below hb)
  have HB5 := Lib.hid (HB4.out.trans (hb.mono HB4.out.size))
  clear y0 y1 z0 z1 u0 u1
  clear hb x0 x1 X4 HB4
  obtain ⟨x0, x1⟩ := X5.out.cells
  go_wp2_with fail
  refine (begins_yes ⟨3, 9⟩ 5 5 true _ rfl).mono ?_
  rintro e w6 ⟨rfl, hb⟩
  have X6 := Lib.hid (X5.out.below hb)
  have HB6 := Lib.hid (HB5.out.trans (hb.mono HB5.out.size))
  clear hb x0 x1 X5 HB5
  obtain ⟨x0, x1⟩ := X6.out.cells
  go_wp2_with fail
  refine (begins_yes ⟨3, 9⟩ 10 0 false _ rfl).mono ?_
  rintro e w7 ⟨rfl, hb⟩
  have X7 := Lib.hid (X6.out.below hb)
  have HB7 := Lib.hid (HB6.out.trans (hb.mono HB6.out.size))
  clear hb x0 x1 X6 HB6
  obtain ⟨x0, x1⟩ := X7.out.cells
  go_wp2_with fail
  refine (begins_yes ⟨3, 9⟩ (-9223372036854775808) 3 true _ rfl).mono ?_
  rintro e w8 ⟨rfl, hb⟩
  have X8 := Lib.hid (X7.out.below hb)
  have HB8 := Lib.hid (HB7.out.trans (hb.mono HB7.out.size))
  clear hb x0 x1 X7 HB7
  obtain ⟨x0, x1⟩ := X8.out.cells
  go_wp2_with fail
  refine (lasts_yes ⟨3, 9⟩ 4 20 9 true _ rfl rfl rfl).mono ?_
  rintro e w9 ⟨rfl, hb⟩
  have X9 := Lib.hid (X8.out.below hb)
  have HB9 := Lib.hid (HB8.out.trans (hb.mono HB8.out.size))
  clear hb x0 x1 X8 HB8
  obtain ⟨x0, x1⟩ := X9.out.cells
  go_wp2_with fail
  refine (lasts_yes ⟨3, 9⟩ 4 10 6 true _ rfl rfl rfl).mono ?_
  rintro e w10 ⟨rfl, hb⟩
  have X10 := Lib.hid (X9.out.below hb)
  have HB10 := Lib.hid (HB9.out.trans (hb.mono HB9.out.size))
  clear hb x0 x1 X9 HB9
  obtain ⟨x0, x1⟩ := X10.out.cells
  go_wp2_with fail
  refine (lasts_yes ⟨3, 9⟩ 4 6 0 false _ rfl rfl rfl).mono ?_
  rintro e w11 ⟨rfl, hb⟩
  have X11 := Lib.hid (X10.out.below hb)
  have HB11 := Lib.hid (HB10.out.trans (hb.mono HB10.out.size))
  clear hb x0 x1 X10 HB10
  obtain ⟨x0, x1⟩ := X11.out.cells
  go_wp2_with fail
  refine (lasts_yes ⟨3, 9⟩ (-1) 20 0 false _ rfl rfl rfl).mono ?_
  rintro e w12 ⟨rfl, hb⟩
  have X12 := Lib.hid (X11.out.below hb)
  have HB12 := Lib.hid (HB11.out.trans (hb.mono HB11.out.size))
  clear hb x0 x1 X11 HB11
  obtain ⟨x0, x1⟩ := X12.out.cells
  go_wp2_with fail
  go_ret
  exact ⟨rfl, HB12.out⟩

#print axioms runs_any
#print axioms begins_yes
#print axioms lasts_yes
end Go.Proofs.Ytglkphngddnieaa.Span
