/-
  InsertRuns, InsertProg, InsertUse, InsertOne, InsertOne2, InsertMore: one text.
-/
import Derived.Test.YtpigklkidagolaaInsertPs
import Derived.Test.YtpigklkidagolaaKeepAll
import Derived.Test.YtpigklkidagolaaInsertRs
import Derived.Test.YtpigklkidagolaaCertUseP
import Derived.Test.YtpigklkidagolaaWithin
/-
  Chapter 12's example runs come out as the chapter says (InsertRuns returns true), whatever the memory; only new memory is written. Written by tools/gen_insruns.py.
-/
namespace Go.Proofs.Ytpigklkidagolaa.Insert
open Go.ChangeShapes Go.WideShapes Go.ChangeAt Go.RowKit Go.Proofs.Ytpigklkidagolaa.Mem Go.Proofs.Ytpigklkidagolaa.GeoMath Go.Proofs.Ytpigklkidagolaa.FleetMath Go.Proofs.Ytpigklkidagolaa.PlanMath Go.Proofs.Ytpigklkidagolaa.CertMath Go.Proofs.Ytpigklkidagolaa.AuditMath Go.Proofs.Ytpigklkidagolaa.InsertMath Go.Proofs.Ytpigklkidagolaa.Rec Go.Proofs.Ytpigklkidagolaa.Geo Go.Proofs.Ytpigklkidagolaa.Span Go.Proofs.Ytpigklkidagolaa.Deal Go.Proofs.Ytpigklkidagolaa.Keep Go.Proofs.Ytpigklkidagolaa.Route Go.Proofs.Ytpigklkidagolaa.Plan Go.Proofs.Ytpigklkidagolaa.Cert
set_option linter.unusedVariables false
set_option linter.unusedSimpArgs false

/-! ### one run -/
structure K4 (w : World) (d : Drv) (x : RM) (o : FleetMath.Ord) (y : Sp4) (u : World) : Prop where
  old : Below w.heap.size w u
  drv : DBox u w.heap.size d
  rte : RBox u (w.heap.size + 1) x
  ord : OBox u (w.heap.size + 2) o
  sp : S4Box u (w.heap.size + 3) y
section
variable {w u u' : World} {d : Drv} {x : RM} {o : FleetMath.Ord} {y : Sp4}
theorem K4.next (h : K4 w d x o y u) (hb : Below u.heap.size u u') : K4 w d x o y u' := ⟨h.old.trans (hb.mono h.old.size), h.drv.below hb, h.rte.below hb, h.ord.below hb, Blk.below h.sp hb (Blk.lt h.sp)⟩
theorem K4.start : K4 w d x o y ((((w.alloc (.cells #[.int .i64 d.id, .int .i64 d.room, .int .i64 d.home, .int .i64 d.win.fr, .int .i64 d.win.to, .bool d.retired] 33)).alloc (.cells #[.int .i64 x.rt.drv, .int .i64 x.rt.served, .slice x.a x.n x.c] 39)).alloc (.cells #[.int .i64 o.id, .int .i64 o.size, .int .i64 o.pick.place, .int .i64 o.pick.win.fr, .int .i64 o.pick.win.to, .int .i64 o.pick.serv, .int .i64 o.drop.place, .int .i64 o.drop.win.fr, .int .i64 o.drop.win.to, .int .i64 o.drop.serv] 31)).alloc (.cells #[.int .i64 y.drv, .int .i64 y.pick, .int .i64 y.drop, .int .i64 y.cost] 42)) := by
  have b0 : ∀ (u : World) (ob : Obj), Below u.heap.size u (u.alloc ob) := fun u ob => (Below.refl _ _).alloc (Nat.le_refl _) _
  have f0 : DBox (w.alloc (.cells #[.int .i64 d.id, .int .i64 d.room, .int .i64 d.home, .int .i64 d.win.fr, .int .i64 d.win.to, .bool d.retired] 33)) w.heap.size d := Blk.new w _ _
  obtain ⟨w1, h1⟩ : ∃ u, w.alloc (.cells #[.int .i64 d.id, .int .i64 d.room, .int .i64 d.home, .int .i64 d.win.fr, .int .i64 d.win.to, .bool d.retired] 33) = u := ⟨_, rfl⟩
  have z1 : w1.heap.size = w.heap.size + 1 := by rw [← h1]; simp
  have o1 : Below w.heap.size w w1 := by rw [← h1]; exact b0 _ _
  rw [h1] at f0 ⊢
  have f1 : RBox (w1.alloc (.cells #[.int .i64 x.rt.drv, .int .i64 x.rt.served, .slice x.a x.n x.c] 39)) w1.heap.size x := Blk.new w1 _ _
  rw [z1] at f1
  obtain ⟨w2, h2⟩ : ∃ u, w1.alloc (.cells #[.int .i64 x.rt.drv, .int .i64 x.rt.served, .slice x.a x.n x.c] 39) = u := ⟨_, rfl⟩
  have z2 : w2.heap.size = w.heap.size + 2 := by rw [← h2]; simp [z1]
  have o2 : Below w1.heap.size w1 w2 := by rw [← h2]; exact b0 _ _
  rw [h2] at f1 ⊢
  have f2 : OBox (w2.alloc (.cells #[.int .i64 o.id, .int .i64 o.size, .int .i64 o.pick.place, .int .i64 o.pick.win.fr, .int .i64 o.pick.win.to, .int .i64 o.pick.serv, .int .i64 o.drop.place, .int .i64 o.drop.win.fr, .int .i64 o.drop.win.to, .int .i64 o.drop.serv] 31)) w2.heap.size o := Blk.new w2 _ _
  rw [z2] at f2
  obtain ⟨w3, h3⟩ : ∃ u, w2.alloc (.cells #[.int .i64 o.id, .int .i64 o.size, .int .i64 o.pick.place, .int .i64 o.pick.win.fr, .int .i64 o.pick.win.to, .int .i64 o.pick.serv, .int .i64 o.drop.place, .int .i64 o.drop.win.fr, .int .i64 o.drop.win.to, .int .i64 o.drop.serv] 31) = u := ⟨_, rfl⟩
  have z3 : w3.heap.size = w.heap.size + 3 := by rw [← h3]; simp [z2]
  have o3 : Below w2.heap.size w2 w3 := by rw [← h3]; exact b0 _ _
  rw [h3] at f2 ⊢
  have f3 : S4Box (w3.alloc (.cells #[.int .i64 y.drv, .int .i64 y.pick, .int .i64 y.drop, .int .i64 y.cost] 42)) w3.heap.size y := Blk.new w3 _ _
  rw [z3] at f3
  have o4 : Below w3.heap.size w3 (w3.alloc (.cells #[.int .i64 y.drv, .int .i64 y.pick, .int .i64 y.drop, .int .i64 y.cost] 42)) := b0 _ _
  exact ⟨(((o1.trans (o2.mono (by omega))).trans (o3.mono (by omega))).trans (o4.mono (by omega))), (((f0.below o2).below o3).below o4), ((f1.below o3).below o4), (f2.below o4), f3⟩
end
set_option maxRecDepth 100000 in
set_option maxHeartbeats 4000000 in
theorem kbest_any (base : Nat) (pv : Value) (m : Option Mp) (d : Drv) (A2 : Option Addr) (n2 c2 : Nat) (os : List FleetMath.Ord) (x : RM) (o : FleetMath.Ord) (b : Int) (y : Sp4) (n e : Int) (w : World) (h : MapP w 82 base pv m) (ho : Ords w w.heap.size A2 n2 os) (hs : Stps w w.heap.size x.a x.n x.rt.stops) (hxc : x.n ≤ x.c) (hnc : n2 ≤ c2) (hr : n2 * 80 ≤ 140737488351232) (hr' : x.n * 16 ≤ 140737488351232) (hR : bestM m d os x.rt o b = (y, n, e)) :
    Calls Try.prog 11 #[pv, drvV d, .slice A2 n2 c2, rteV x, ordV o, .int .i64 b, sp4V y, .int .i64 n, .int .i64 e] w (Gives w (.bool true)) := by
  have HM := Lib.hid h
  have HO := Lib.hid ho
  have HST := Lib.hid hs
  have HR := Lib.hid hR
  have HS0 : Hid (K4 w d x o y ((((w.alloc (.cells #[.int .i64 d.id, .int .i64 d.room, .int .i64 d.home, .int .i64 d.win.fr, .int .i64 d.win.to, .bool d.retired] 33)).alloc (.cells #[.int .i64 x.rt.drv, .int .i64 x.rt.served, .slice x.a x.n x.c] 39)).alloc (.cells #[.int .i64 o.id, .int .i64 o.size, .int .i64 o.pick.place, .int .i64 o.pick.win.fr, .int .i64 o.pick.win.to, .int .i64 o.pick.serv, .int .i64 o.drop.place, .int .i64 o.drop.win.fr, .int .i64 o.drop.win.to, .int .i64 o.drop.serv] 31)).alloc (.cells #[.int .i64 y.drv, .int .i64 y.pick, .int .i64 y.drop, .int .i64 y.cost] 42))) := K4.start
  clear h ho hs hR
  go_enter Try.func11, Try.ntmps11
  go_upto_region 1 with fail
  obtain ⟨u0, hu0⟩ : ∃ u, ((((w.alloc (.cells #[.int .i64 d.id, .int .i64 d.room, .int .i64 d.home, .int .i64 d.win.fr, .int .i64 d.win.to, .bool d.retired] 33)).alloc (.cells #[.int .i64 x.rt.drv, .int .i64 x.rt.served, .slice x.a x.n x.c] 39)).alloc (.cells #[.int .i64 o.id, .int .i64 o.size, .int .i64 o.pick.place, .int .i64 o.pick.win.fr, .int .i64 o.pick.win.to, .int .i64 o.pick.serv, .int .i64 o.drop.place, .int .i64 o.drop.win.fr, .int .i64 o.drop.win.to, .int .i64 o.drop.serv] 31)).alloc (.cells #[.int .i64 y.drv, .int .i64 y.pick, .int .i64 y.drop, .int .i64 y.cost] 42)) = u := ⟨_, rfl⟩
  rw [hu0] at HS0
  (try rw [hu0])
  clear hu0
  obtain ⟨d0, d1, d2, d3, d4, d5⟩ := HS0.out.drv.cells
  obtain ⟨r0, r1, r2⟩ := HS0.out.rte.cells
  obtain ⟨o0, o1, o2, o3, o4, o5, o6, o7, o8, o9⟩ := HS0.out.ord.cells
  have HPB : Hid (Calls Try.prog 17 #[pv, drvV d, .slice A2 n2 c2, rteV x, ordV o, .int .i64 b] u0 (Gives u0 (toldV (y, n, e)))) := by
    have h1 := pbest_any base pv m d A2 n2 c2 os x o b u0 (HM.out.keep HS0.out.old) (Recs.more (Recs.keep HO.out HS0.out.old) HS0.out.old.size) (Recs.more (Recs.keep HST.out HS0.out.old) HS0.out.old.size) hxc hnc hr hr'
    rw [HR.out] at h1
    exact h1
  go_wp2_with fail
  refine HPB.out.mono ?_
  rintro e2 w6 ⟨rfl, hb6⟩
  have hb7 : Below u0.heap.size u0 (w6.alloc (.cells #[.int .i64 y.drv, .int .i64 y.pick, .int .i64 y.drop, .int .i64 y.cost] 42)) := hb6.trans (((Below.refl _ _).alloc (Nat.le_refl _) _).mono hb6.size)
  have HS7 := Lib.hid (HS0.out.next hb7)
  have HX7 : Hid (S4Box (w6.alloc (.cells #[.int .i64 y.drv, .int .i64 y.pick, .int .i64 y.drop, .int .i64 y.cost] 42)) w6.heap.size y) := Blk.new w6 _ _
  clear hb6 hb7 HS0 HPB d0 d1 d2 d3 d4 d5 r0 r1 r2 o0 o1 o2 o3 o4 o5 o6 o7 o8 o9
  go_upto_region 2 with fail
  obtain ⟨g7, hg7⟩ : ∃ g, w6.heap.size = g := ⟨_, rfl⟩
  obtain ⟨w7, hw7⟩ : ∃ u, w6.alloc (.cells #[.int .i64 y.drv, .int .i64 y.pick, .int .i64 y.drop, .int .i64 y.cost] 42) = u := ⟨_, rfl⟩
  rw [hg7, hw7] at HX7
  rw [hw7] at HS7
  rw [hg7, hw7]
  clear hg7 hw7
  obtain ⟨a0, a1, a2, a3⟩ := HX7.out.cells
  obtain ⟨c0, c1, c2', c3⟩ := S4Box.cells HS7.out.sp
  go_wp2_with fail
  go_ret
  exact ⟨by first | rfl | simp, HS7.out.old⟩

/-! ### the runs -/
abbrev iD : Drv := ⟨4, 4, 1, ⟨1, 30⟩, false⟩
abbrev iGone : Drv := ⟨4, 4, 1, ⟨1, 30⟩, true⟩
abbrev iOther : Drv := ⟨5, 4, 0, ⟨1, 30⟩, false⟩
abbrev iR : FleetMath.Ord := ⟨2, 1, ⟨0, ⟨0, 100⟩, 1⟩, ⟨1, ⟨0, 100⟩, 2⟩⟩
abbrev iPQ : List Stp := [⟨1, false⟩, ⟨1, true⟩]
theorem i1 : bestM (some runM) iD [] ⟨4, 0, []⟩ runO 9 = (⟨4, 0, 0, 12⟩, 1, 0) := by kernel_rfl
theorem i2 : bestM (some runM) iD [runO] ⟨4, 0, iPQ⟩ iR 9 = (⟨4, 0, 1, 0⟩, 6, 0) := by kernel_rfl
theorem i3 : bestM (some runM) iD [runO] ⟨4, 0, iPQ⟩ iR 2 = (⟨4, 0, 1, 0⟩, 2, 0) := by kernel_rfl
theorem i4 : bestM (some runM) iD [runO] ⟨4, 0, iPQ⟩ iR 1 = (⟨0, 0, 0, 0⟩, 1, 20) := by kernel_rfl
theorem i5 : bestM (some runM) iD [runO] ⟨4, 0, iPQ⟩ iR 0 = (⟨0, 0, 0, 0⟩, 0, 20) := by kernel_rfl
theorem i6 : bestM (some runM) iD [runO] ⟨4, 3, iPQ⟩ iR 9 = (⟨0, 0, 0, 0⟩, 0, 1) := by kernel_rfl
theorem i7 : bestM (some runM) iGone [runO] ⟨4, 0, iPQ⟩ iR 9 = (⟨0, 0, 0, 0⟩, 0, 23) := by kernel_rfl
theorem i8 : cheapM (some runM) [iD, iOther] [runO] [⟨4, 0, iPQ⟩, ⟨5, 0, []⟩] iR 100 = (⟨4, 0, 1, 0⟩, 7, 0) := by kernel_rfl
theorem ins_recs {u : World} {g n k : Nat} {t : TypeId} {vs : List Value} (h : Blk u g t vs) (hl : vs.length = n * k) (hn : n ≤ 64) : Recs u u.heap.size (some ⟨g, 0, none⟩) n k vs :=
  ⟨hl, by unfold maxLen; omega, fun _ => ⟨g, 0, rfl, h.lt, fun j u hu => by rw [Nat.zero_add]; exact h.cell hu⟩⟩
/-- the blocks of the runs -/
abbrev ibx (g : Nat) : List (Nat × TypeId × List Value) := [(g + 1 + 1 + 1 + 1 + 1 + 1, 39, [.int .i64 4, .int .i64 3, .slice (some ⟨g + 1 + 1 + 1 + 1, 0, none⟩) 2 2]), (g + 1 + 1 + 1 + 1 + 1, 39, [.int .i64 4, .int .i64 0, .slice (some ⟨g + 1 + 1 + 1 + 1, 0, none⟩) 2 2]), (g + 1 + 1 + 1 + 1, 36, [.int .i64 1, .bool false, .int .i64 1, .bool true]), (g + 1 + 1 + 1, 31, [.int .i64 1, .int .i64 3, .int .i64 0, .int .i64 2, .int .i64 9, .int .i64 1, .int .i64 1, .int .i64 0, .int .i64 20, .int .i64 2]), (g + 1 + 1, 33, [.int .i64 4, .int .i64 4, .int .i64 1, .int .i64 1, .int .i64 30, .bool false]), (g + 1, 31, [.int .i64 2, .int .i64 1, .int .i64 0, .int .i64 0, .int .i64 100, .int .i64 1, .int .i64 1, .int .i64 0, .int .i64 100, .int .i64 2]), (g, 31, [.int .i64 1, .int .i64 3, .int .i64 0, .int .i64 2, .int .i64 9, .int .i64 1, .int .i64 1, .int .i64 0, .int .i64 20, .int .i64 2])]
abbrev ibx2 (g g1 g2 : Nat) : List (Nat × TypeId × List Value) := (g1, 33, [.int .i64 4, .int .i64 4, .int .i64 1, .int .i64 1, .int .i64 30, .bool true]) :: (g2, 33, [.int .i64 5, .int .i64 4, .int .i64 0, .int .i64 1, .int .i64 30, .bool false]) :: ibx g
section
variable {W u : World} {z : Option Addr} {g g1 g2 : Nat}
theorem ix_ords (h : RB W z (ibx2 g g1 g2) u) : Ords u u.heap.size (some ⟨g + 1 + 1 + 1, 0, none⟩) 1 [runO] := ins_recs (vs := ordsV [runO]) (h.at_ (g := g + 1 + 1 + 1) (t := 31) (vs := [.int .i64 1, .int .i64 3, .int .i64 0, .int .i64 2, .int .i64 9, .int .i64 1, .int .i64 1, .int .i64 0, .int .i64 20, .int .i64 2]) (by simp)) rfl (by decide)
theorem ix_stps (h : RB W z (ibx2 g g1 g2) u) : Stps u u.heap.size (some ⟨g + 1 + 1 + 1 + 1, 0, none⟩) 2 iPQ := ins_recs (vs := stpsV iPQ) (h.at_ (g := g + 1 + 1 + 1 + 1) (t := 36) (vs := [.int .i64 1, .bool false, .int .i64 1, .bool true]) (by simp)) rfl (by decide)
theorem ix_o (h : RB W z (ibx2 g g1 g2) u) : OBox u (g) runO := (h.at_ (g := g) (t := 31) (vs := [.int .i64 1, .int .i64 3, .int .i64 0, .int .i64 2, .int .i64 9, .int .i64 1, .int .i64 1, .int .i64 0, .int .i64 20, .int .i64 2]) (by simp))
theorem ix_r (h : RB W z (ibx2 g g1 g2) u) : OBox u (g + 1) iR := (h.at_ (g := g + 1) (t := 31) (vs := [.int .i64 2, .int .i64 1, .int .i64 0, .int .i64 0, .int .i64 100, .int .i64 1, .int .i64 1, .int .i64 0, .int .i64 100, .int .i64 2]) (by simp))
theorem ix_d (h : RB W z (ibx2 g g1 g2) u) : DBox u (g + 1 + 1) iD := (h.at_ (g := g + 1 + 1) (t := 33) (vs := [.int .i64 4, .int .i64 4, .int .i64 1, .int .i64 1, .int .i64 30, .bool false]) (by simp))
theorem ix_x (h : RB W z (ibx2 g g1 g2) u) : RBox u (g + 1 + 1 + 1 + 1 + 1) ⟨⟨4, 0, iPQ⟩, some ⟨g + 1 + 1 + 1 + 1, 0, none⟩, 2, 2⟩ := (h.at_ (g := g + 1 + 1 + 1 + 1 + 1) (t := 39) (vs := [.int .i64 4, .int .i64 0, .slice (some ⟨g + 1 + 1 + 1 + 1, 0, none⟩) 2 2]) (by simp))
theorem ix_far (h : RB W z (ibx2 g g1 g2) u) : RBox u (g + 1 + 1 + 1 + 1 + 1 + 1) ⟨⟨4, 3, iPQ⟩, some ⟨g + 1 + 1 + 1 + 1, 0, none⟩, 2, 2⟩ := (h.at_ (g := g + 1 + 1 + 1 + 1 + 1 + 1) (t := 39) (vs := [.int .i64 4, .int .i64 3, .slice (some ⟨g + 1 + 1 + 1 + 1, 0, none⟩) 2 2]) (by simp))
theorem ix_gone (h : RB W z (ibx2 g g1 g2) u) : DBox u g1 iGone := h.at_ (g := g1) (t := 33) (vs := [.int .i64 4, .int .i64 4, .int .i64 1, .int .i64 1, .int .i64 30, .bool true]) (by simp)
theorem ix_other (h : RB W z (ibx2 g g1 g2) u) : DBox u g2 iOther := h.at_ (g := g2) (t := 33) (vs := [.int .i64 5, .int .i64 4, .int .i64 0, .int .i64 1, .int .i64 30, .bool false]) (by simp)
/-- a run of the statement -/
theorem ix_best (h : RB W z (ibx2 g g1 g2) u) {d : Drv} {sv : Int} {b : Int} {y : Sp4} {n e : Int} (hR : bestM (some runM) d [runO] ⟨4, sv, iPQ⟩ iR b = (y, n, e)) :
    Calls Try.prog 11 #[.pointer z, drvV d, .slice (some ⟨g + 1 + 1 + 1, 0, none⟩) 1 1, rteV ⟨⟨4, sv, iPQ⟩, some ⟨g + 1 + 1 + 1 + 1, 0, none⟩, 2, 2⟩, ordV iR, .int .i64 b, sp4V y, .int .i64 n, .int .i64 e] u fun en u' => en = .returned (.bool true) ∧ RB W z (ibx2 g g1 g2) u' :=
  (kbest_any W.heap.size (.pointer z) (some runM) d _ 1 1 [runO] ⟨⟨4, sv, iPQ⟩, some ⟨g + 1 + 1 + 1 + 1, 0, none⟩, 2, 2⟩ iR b y n e u h.2.1 (ix_ords h) (ix_stps h) (Nat.le_refl _) (Nat.le_refl _) (by decide) (by show 2 * 16 ≤ _; decide) hR).mono fun en u' ⟨h1, h2⟩ => ⟨h1, h.below h2⟩
theorem ix_best0 (h : RB W z (ibx2 g g1 g2) u) :
    Calls Try.prog 11 #[.pointer z, drvV iD, .slice none 0 0, rteV ⟨⟨4, 0, []⟩, none, 0, 0⟩, ordV runO, .int .i64 9, sp4V ⟨4, 0, 0, 12⟩, .int .i64 1, .int .i64 0] u fun en u' => en = .returned (.bool true) ∧ RB W z (ibx2 g g1 g2) u' :=
  (kbest_any W.heap.size (.pointer z) (some runM) iD _ 0 0 [] ⟨⟨4, 0, []⟩, none, 0, 0⟩ runO 9 _ _ _ u h.2.1 Recs.none_ Recs.none_ (Nat.le_refl _) (Nat.le_refl _) (by decide) (by show 0 * 16 ≤ _; decide) i1).mono fun en u' ⟨h1, h2⟩ => ⟨h1, h.below h2⟩
end
theorem boxes_live {l : List Oper} {slots : List Nat} {vals : List Value} {boxes : List BoxD} {w0 u : World} {a0 a : Act} {listed : Array Bool} {D : Nat → Nat → Prop} (h : RInv l.toArray (boxesRF slots vals boxes) w0 a0 listed a u D) (hall : ∀ i, i < l.length → listed.getD i false = true) (j : Nat) (hj : j < l.length) (h1 : BoxD.made boxes j = none) : RLive (boxesRF slots vals boxes) listed j :=
  ⟨hall j hj, fun k hk => by simp only [boxesRF] at hk; rw [h1] at hk; cases hk⟩
theorem boxes_box {l : List Oper} {slots : List Nat} {vals : List Value} {boxes : List BoxD} {w0 u : World} {a0 a : Act} {listed : Array Bool} {D : Nat → Nat → Prop} (h : RInv l.toArray (boxesRF slots vals boxes) w0 a0 listed a u D) (hall : ∀ i, i < l.length → listed.getD i false = true) {b : BoxD} (j : Nat) (hj : j < l.length) (h1 : BoxD.made boxes j = none) (h2 : BoxD.done boxes j = some b) {s : Nat} (hsl : slots.getD j 0 = s) : ∃ g, a.tmps.getD s undef = .pointer (some ⟨g, 0, none⟩) ∧ Blk u g b.t b.ws ∧ (∀ x, D j x ↔ x = g) ∧ w0.heap.size ≤ g := by
  have hlv := boxes_live h hall j hj h1
  have h3 := h.fact j hlv
  simp only [boxesRF] at h3
  rw [h1, h2] at h3
  obtain ⟨g, e1, hb, hd⟩ := h3
  rw [hsl] at e1
  exact ⟨g, e1, hb, hd, (h.inn j g hlv ((hd g).2 rfl)).1⟩
theorem ins_tail {W u : World} {z : Option Addr} {b : Nat × TypeId × List Value} {bx : List (Nat × TypeId × List Value)} (h : RB W z (b :: bx) u) : RB W z bx u := ⟨h.1, h.2.1, fun p hp => h.2.2 p (List.mem_cons_of_mem _ hp)⟩
theorem rb_cons {W u : World} {z : Option Addr} {bx : List (Nat × TypeId × List Value)} {g : Nat} {t : TypeId} {vs : List Value} (h : RB W z bx u) (hb : Blk u g t vs) : RB W z ((g, t, vs) :: bx) u := ⟨h.1, h.2.1, fun p hp => by
  rcases List.mem_cons.1 hp with rfl | hp
  · exact hb
  · exact h.2.2 p hp⟩

set_option maxRecDepth 100000 in
set_option maxHeartbeats 8000000 in
theorem runs_any (u : World) : Calls Try.prog 3 #[] u (Gives u (.bool true)) := by
  have HB0 : Hid (Below u.heap.size u (u.alloc (.cells #[.int .i64 0, .int .i64 5, .int .i64 7, .int .i64 0] 3))) := (Below.refl _ _).alloc (Nat.le_refl _) _
  have HI0 : Hid (Ints (u.alloc (.cells #[.int .i64 0, .int .i64 5, .int .i64 7, .int .i64 0] 3)) (u.heap.size + 1) (some ⟨u.heap.size, 0, none⟩) 4 [0, 5, 7, 0]) := by
    have hb := Blk.new u 3 [.int .i64 0, .int .i64 5, .int .i64 7, .int .i64 0]
    exact ⟨rfl, by decide, fun _ => ⟨u.heap.size, 0, rfl, by simp, fun j x hx => by rw [Nat.zero_add]; exact hb.cell hx⟩⟩
  go_enter Try.func3, Try.ntmps3
  go_wp2_with fail
  refine (kgnew 2 0 _ 4 4 [0, 5, 7, 0] _ (by exact Reads.more HI0.out (by simp)) (by decide)).mono ?_
  rintro e w1 ⟨q, rfl, hq, hb1, hm1⟩
  obtain ⟨z, rfl⟩ : ∃ z, q = some z := by cases q with
    | none => cases hq
    | some z => exact ⟨z, rfl⟩
  have R1 : Hid (RB u (some z) [] w1) := ⟨HB0.out.trans (hb1.mono HB0.out.size), MapP.lower hm1 HB0.out.size, by simp⟩
  clear hb1 hm1 hq HB0 HI0
  have R2 := Lib.hid (R1.out.alloc 31 [.int .i64 1, .int .i64 3, .int .i64 0, .int .i64 2, .int .i64 9, .int .i64 1, .int .i64 1, .int .i64 0, .int .i64 20, .int .i64 2])
  have R3 := Lib.hid (R2.out.alloc 31 [.int .i64 2, .int .i64 1, .int .i64 0, .int .i64 0, .int .i64 100, .int .i64 1, .int .i64 1, .int .i64 0, .int .i64 100, .int .i64 2])
  have R4 := Lib.hid (R3.out.alloc 33 [.int .i64 4, .int .i64 4, .int .i64 1, .int .i64 1, .int .i64 30, .bool false])
  have R5 := Lib.hid (R4.out.alloc 31 [.int .i64 1, .int .i64 3, .int .i64 0, .int .i64 2, .int .i64 9, .int .i64 1, .int .i64 1, .int .i64 0, .int .i64 20, .int .i64 2])
  have R6 := Lib.hid (R5.out.alloc 36 [.int .i64 1, .bool false, .int .i64 1, .bool true])
  have R7 := Lib.hid (R6.out.alloc 39 [.int .i64 4, .int .i64 0, .slice (some ⟨w1.heap.size + 1 + 1 + 1 + 1, 0, none⟩) 2 2])
  have R8 := Lib.hid (R7.out.alloc 39 [.int .i64 4, .int .i64 3, .slice (some ⟨w1.heap.size + 1 + 1 + 1 + 1, 0, none⟩) 2 2])
  simp only [World.size_alloc] at R2 R3 R4 R5 R6 R7 R8
  clear R1 R2 R3 R4 R5 R6 R7
  have RX : Hid (RB u (some z) (ibx w1.heap.size) (((((((w1.alloc (.cells #[.int .i64 1, .int .i64 3, .int .i64 0, .int .i64 2, .int .i64 9, .int .i64 1, .int .i64 1, .int .i64 0, .int .i64 20, .int .i64 2] 31)).alloc (.cells #[.int .i64 2, .int .i64 1, .int .i64 0, .int .i64 0, .int .i64 100, .int .i64 1, .int .i64 1, .int .i64 0, .int .i64 100, .int .i64 2] 31)).alloc (.cells #[.int .i64 4, .int .i64 4, .int .i64 1, .int .i64 1, .int .i64 30, .bool false] 33)).alloc (.cells #[.int .i64 1, .int .i64 3, .int .i64 0, .int .i64 2, .int .i64 9, .int .i64 1, .int .i64 1, .int .i64 0, .int .i64 20, .int .i64 2] 31)).alloc (.cells #[.int .i64 1, .bool false, .int .i64 1, .bool true] 36)).alloc (.cells #[.int .i64 4, .int .i64 0, .slice (some ⟨w1.heap.size + 1 + 1 + 1 + 1, 0, none⟩) 2 2] 39)).alloc (.cells #[.int .i64 4, .int .i64 3, .slice (some ⟨w1.heap.size + 1 + 1 + 1 + 1, 0, none⟩) 2 2] 39))) := R8.out
  have HSZ : Hid (w1.heap.size + 7 = (((((((w1.alloc (.cells #[.int .i64 1, .int .i64 3, .int .i64 0, .int .i64 2, .int .i64 9, .int .i64 1, .int .i64 1, .int .i64 0, .int .i64 20, .int .i64 2] 31)).alloc (.cells #[.int .i64 2, .int .i64 1, .int .i64 0, .int .i64 0, .int .i64 100, .int .i64 1, .int .i64 1, .int .i64 0, .int .i64 100, .int .i64 2] 31)).alloc (.cells #[.int .i64 4, .int .i64 4, .int .i64 1, .int .i64 1, .int .i64 30, .bool false] 33)).alloc (.cells #[.int .i64 1, .int .i64 3, .int .i64 0, .int .i64 2, .int .i64 9, .int .i64 1, .int .i64 1, .int .i64 0, .int .i64 20, .int .i64 2] 31)).alloc (.cells #[.int .i64 1, .bool false, .int .i64 1, .bool true] 36)).alloc (.cells #[.int .i64 4, .int .i64 0, .slice (some ⟨w1.heap.size + 1 + 1 + 1 + 1, 0, none⟩) 2 2] 39)).alloc (.cells #[.int .i64 4, .int .i64 3, .slice (some ⟨w1.heap.size + 1 + 1 + 1 + 1, 0, none⟩) 2 2] 39)).heap.size) := by show _ = _; simp only [World.size_alloc]
  clear R8
  go_upto_region 14 with fail
  obtain ⟨w2, hw2⟩ : ∃ u, (((((((w1.alloc (.cells #[.int .i64 1, .int .i64 3, .int .i64 0, .int .i64 2, .int .i64 9, .int .i64 1, .int .i64 1, .int .i64 0, .int .i64 20, .int .i64 2] 31)).alloc (.cells #[.int .i64 2, .int .i64 1, .int .i64 0, .int .i64 0, .int .i64 100, .int .i64 1, .int .i64 1, .int .i64 0, .int .i64 100, .int .i64 2] 31)).alloc (.cells #[.int .i64 4, .int .i64 4, .int .i64 1, .int .i64 1, .int .i64 30, .bool false] 33)).alloc (.cells #[.int .i64 1, .int .i64 3, .int .i64 0, .int .i64 2, .int .i64 9, .int .i64 1, .int .i64 1, .int .i64 0, .int .i64 20, .int .i64 2] 31)).alloc (.cells #[.int .i64 1, .bool false, .int .i64 1, .bool true] 36)).alloc (.cells #[.int .i64 4, .int .i64 0, .slice (some ⟨w1.heap.size + 1 + 1 + 1 + 1, 0, none⟩) 2 2] 39)).alloc (.cells #[.int .i64 4, .int .i64 3, .slice (some ⟨w1.heap.size + 1 + 1 + 1 + 1, 0, none⟩) 2 2] 39)) = u := ⟨_, rfl⟩
  rw [hw2] at RX HSZ
  (try rw [hw2])
  clear hw2
  obtain ⟨g, hg⟩ : ∃ g, w1.heap.size = g := ⟨_, rfl⟩
  rw [hg] at RX HSZ
  (try rw [hg])
  clear hg
  have HDX : Hid (∀ v, Below w2.heap.size w2 v → DBox v (g + 1 + 1) iD) := fun v hv => Blk.below (t := 33) (RX.out.at_ (g := g + 1 + 1) (t := 33) (vs := [.int .i64 4, .int .i64 4, .int .i64 1, .int .i64 1, .int .i64 30, .bool false]) (by simp)) hv (Blk.lt (RX.out.at_ (g := g + 1 + 1) (t := 33) (vs := [.int .i64 4, .int .i64 4, .int .i64 1, .int .i64 1, .int .i64 30, .bool false]) (by simp)))
  go_cut [9, 10] (fun pv qv wx => ∃ g1 g2, pv = .pointer (some ⟨g1, 0, none⟩) ∧ qv = .pointer (some ⟨g2, 0, none⟩) ∧ Hid (g1 ≠ g2 ∧ w2.heap.size ≤ g1 ∧ w2.heap.size ≤ g2) ∧ Hid (Below w2.heap.size w2 wx) ∧ Hid (DBox wx g1 iD) ∧ Hid (DBox wx g2 iD))
  case first =>
    refine wp_region_steps (boxesRF [51, 52, 9, 10, 9, 10] [drvV iD, drvV iD, undef, undef, undef, undef] [⟨2, 4, 33, [.int .i64 0, .int .i64 0, .int .i64 0, .int .i64 0, .int .i64 0, .bool false], [.int .i64 4, .int .i64 4, .int .i64 1, .int .i64 1, .int .i64 30, .bool false]⟩, ⟨3, 5, 33, [.int .i64 0, .int .i64 0, .int .i64 0, .int .i64 0, .int .i64 0, .bool false], [.int .i64 4, .int .i64 4, .int .i64 1, .int .i64 1, .int .i64 30, .bool false]⟩]) (by kernel_rfl) (by kernel_rfl) (by kernel_rfl) (fun q hq => boxesRF.free (by kernel_rfl) q hq) (by kernel_rfl) boxesRF.mon ?_ ?_
    · refine ⟨?_, ?_, ?_, ?_, ?_, ?_, trivial⟩
      · exact boxesRF.pureStep rfl 51 rfl rfl (by simp) (by kernel_rfl) (by kernel_rfl) _ rfl fun listed a u D hI hr hn => exec_load rfl (hI.out 5 (by kernel_rfl)) (run_load_dbx (HDX.out _ (OneR.below_drew hI.old)))
      · exact boxesRF.pureStep rfl 52 rfl rfl (by simp) (by kernel_rfl) (by kernel_rfl) _ rfl fun listed a u D hI hr hn => exec_load rfl (hI.out 5 (by kernel_rfl)) (run_load_dbx (HDX.out _ (OneR.below_drew hI.old)))
      · exact boxesRF.allocStep rfl 9 rfl rfl (by simp) (b := ⟨2, 4, 33, [.int .i64 0, .int .i64 0, .int .i64 0, .int .i64 0, .int .i64 0, .bool false], [.int .i64 4, .int .i64 4, .int .i64 1, .int .i64 1, .int .i64 30, .bool false]⟩) (by kernel_rfl) fun a u => exec_adr rfl
      · exact boxesRF.allocStep rfl 10 rfl rfl (by simp) (b := ⟨3, 5, 33, [.int .i64 0, .int .i64 0, .int .i64 0, .int .i64 0, .int .i64 0, .bool false], [.int .i64 4, .int .i64 4, .int .i64 1, .int .i64 1, .int .i64 30, .bool false]⟩) (by kernel_rfl) fun a u => exec_adr rfl
      · exact boxesRF.storeStep (b := ⟨2, 4, 33, [.int .i64 0, .int .i64 0, .int .i64 0, .int .i64 0, .int .i64 0, .bool false], [.int .i64 4, .int .i64 4, .int .i64 1, .int .i64 1, .int .i64 30, .bool false]⟩) rfl rfl (by kernel_rfl) (by kernel_rfl) (by kernel_rfl) rfl rfl rfl (by kernel_rfl) fun listed a u D hI hr hn g e1 hb => ⟨_, exec_store rfl e1 (boxesRF.val hI hr hn 0 (by kernel_rfl) (by kernel_rfl) (by kernel_rfl) rfl rfl) (run_store_dx hb iD), ((((((Only.refl _ _).set _ _).set _ _).set _ _).set _ _).set _ _).set _ _, putDr_of hb iD⟩
      · exact boxesRF.storeStep (b := ⟨3, 5, 33, [.int .i64 0, .int .i64 0, .int .i64 0, .int .i64 0, .int .i64 0, .bool false], [.int .i64 4, .int .i64 4, .int .i64 1, .int .i64 1, .int .i64 30, .bool false]⟩) rfl rfl (by kernel_rfl) (by kernel_rfl) (by kernel_rfl) rfl rfl rfl (by kernel_rfl) fun listed a u D hI hr hn g e1 hb => ⟨_, exec_store rfl e1 (boxesRF.val hI hr hn 1 (by kernel_rfl) (by kernel_rfl) (by kernel_rfl) rfl rfl) (run_store_dx hb iD), ((((((Only.refl _ _).set _ _).set _ _).set _ _).set _ _).set _ _).set _ _, putDr_of hb iD⟩
    · intro listed a v D hI hall
      obtain ⟨g1, eB, hbx, hd1, hi1⟩ := boxes_box hI hall (b := ⟨2, 4, 33, [.int .i64 0, .int .i64 0, .int .i64 0, .int .i64 0, .int .i64 0, .bool false], [.int .i64 4, .int .i64 4, .int .i64 1, .int .i64 1, .int .i64 30, .bool false]⟩) 4 (by decide) (by kernel_rfl) (by kernel_rfl) (s := 9) rfl
      obtain ⟨g2, eC, hcx, hd2, hi2⟩ := boxes_box hI hall (b := ⟨3, 5, 33, [.int .i64 0, .int .i64 0, .int .i64 0, .int .i64 0, .int .i64 0, .bool false], [.int .i64 4, .int .i64 4, .int .i64 1, .int .i64 1, .int .i64 30, .bool false]⟩) 5 (by decide) (by kernel_rfl) (by kernel_rfl) (s := 10) rfl
      have hne : g1 ≠ g2 := fun e => hI.dis 4 5 g1 (by decide) (boxes_live hI hall 4 (by decide) (by kernel_rfl)) (boxes_live hI hall 5 (by decide) (by kernel_rfl)) ((hd1 g1).2 rfl) ((hd2 g1).2 e)
      have hold := OneR.below_drew hI.old
      have hl := hI.fill [51, 52, 9, 10] (by kernel_rfl)
      clear hI hall hd1 hd2
      obtain ⟨σ, hσ⟩ : ∃ σ : Nat → Value, ∀ t, a.tmps.getD t undef = σ t := ⟨_, fun _ => rfl⟩
      simp only [hσ] at hl eB eC
      clear hσ
      simp only [List.foldl_cons, List.foldl_nil, List.setIfInBounds_toArray, List.set_cons_zero, List.set_cons_succ, eB, eC] at hl
      subst hl
      go_wp2_with fail
      go_meet
      exact ⟨g1, g2, rfl, rfl, Lib.hid ⟨hne, hi1, hi2⟩, hold, hbx, hcx⟩
  case rest =>
  obtain ⟨g1, g2, rfl, rfl, HNE, hb3, D1, D2⟩ := hcut
  obtain ⟨w3, rfl⟩ : ∃ u, u = wc := ⟨_, rfl⟩
  have hb4 : Below w2.heap.size w2 (((w3.setCell ⟨g1, 5, none⟩ (.bool true)).setCell ⟨g2, 0, none⟩ (.int .i64 5)).setCell ⟨g2, 2, none⟩ (.int .i64 0)) := ((hb3.out.setCell (p := ⟨g1, 5, none⟩) HNE.out.2.1 _).setCell (p := ⟨g2, 0, none⟩) HNE.out.2.2 _).setCell (p := ⟨g2, 2, none⟩) HNE.out.2.2 _
  have o1 : Only g1 w3 (w3.setCell ⟨g1, 5, none⟩ (.bool true)) := (Only.refl _ _).set _ _
  have o2 : Only g2 (w3.setCell ⟨g1, 5, none⟩ (.bool true)) (((w3.setCell ⟨g1, 5, none⟩ (.bool true)).setCell ⟨g2, 0, none⟩ (.int .i64 5)).setCell ⟨g2, 2, none⟩ (.int .i64 0)) := ((Only.refl _ _).set _ _).set _ _
  have hd1 : Blk (((w3.setCell ⟨g1, 5, none⟩ (.bool true)).setCell ⟨g2, 0, none⟩ (.int .i64 5)).setCell ⟨g2, 2, none⟩ (.int .i64 0)) g1 33 [.int .i64 4, .int .i64 4, .int .i64 1, .int .i64 1, .int .i64 30, .bool true] := o2.blk (Blk.put D1.out 5 (.bool true)) HNE.out.1
  have hd2 : Blk (((w3.setCell ⟨g1, 5, none⟩ (.bool true)).setCell ⟨g2, 0, none⟩ (.int .i64 5)).setCell ⟨g2, 2, none⟩ (.int .i64 0)) g2 33 [.int .i64 5, .int .i64 4, .int .i64 0, .int .i64 1, .int .i64 30, .bool false] := ((o1.blk D2.out (Ne.symm HNE.out.1)).put 0 (.int .i64 5)).put 2 (.int .i64 0)
  have R4 : Hid (RB u (some z) (ibx2 g g1 g2) (((w3.setCell ⟨g1, 5, none⟩ (.bool true)).setCell ⟨g2, 0, none⟩ (.int .i64 5)).setCell ⟨g2, 2, none⟩ (.int .i64 0))) := rb_cons (rb_cons (RX.out.below hb4) hd2) hd1
  obtain ⟨d0, d1, d2, d3, d4, d5⟩ := D1.out.cells
  obtain ⟨e0, e1, e2, e3, e4, e5⟩ := D2.out.cells
  have hf1 := Blk.free D1.out
  have hf2 := Blk.free D2.out
  have hfs := frozen_set
  have hc2 := cell_apart g2
  have hcf := cell_far (g := g1) (h := g2) (by have := HNE.out.1; omega)
  clear hb4 o1 o2 hd1 hd2 HDX RX HSZ hb3 D1 D2
  go_upto_region 17 with fail
  obtain ⟨w4, hw4⟩ : ∃ v, (((w3.setCell ⟨g1, 5, none⟩ (.bool true)).setCell ⟨g2, 0, none⟩ (.int .i64 5)).setCell ⟨g2, 2, none⟩ (.int .i64 0)) = v := ⟨_, rfl⟩
  rw [hw4] at R4
  (try rw [hw4])
  clear hw4 hf1 hf2 hfs hc2 hcf d0 d1 d2 d3 d4 d5 e0 e1 e2 e3 e4 e5
  obtain ⟨a0, a1, a2, a3, a4, a5, a6, a7, a8, a9⟩ := (ix_o R4.out).cells
  obtain ⟨d0, d1, d2, d3, d4, d5⟩ := (ix_d R4.out).cells
  go_wp2_with fail
  refine (ix_best0 R4.out).mono ?_
  rintro e w5 ⟨rfl, hr⟩
  have R5 := Lib.hid hr
  clear hr R4 a0 a1 a2 a3 a4 a5 a6 a7 a8 a9 d0 d1 d2 d3 d4 d5
  obtain ⟨b0, b1, b2, b3, b4, b5, b6, b7, b8, b9⟩ := (ix_r R5.out).cells
  obtain ⟨d0, d1, d2, d3, d4, d5⟩ := (ix_d R5.out).cells
  obtain ⟨x0, x1, x2⟩ := (ix_x R5.out).cells
  go_wp2_with fail
  refine (ix_best R5.out i2).mono ?_
  rintro e w6 ⟨rfl, hr⟩
  have R6 := Lib.hid hr
  clear hr R5 b0 b1 b2 b3 b4 b5 b6 b7 b8 b9 d0 d1 d2 d3 d4 d5 x0 x1 x2
  obtain ⟨b0, b1, b2, b3, b4, b5, b6, b7, b8, b9⟩ := (ix_r R6.out).cells
  obtain ⟨d0, d1, d2, d3, d4, d5⟩ := (ix_d R6.out).cells
  obtain ⟨x0, x1, x2⟩ := (ix_x R6.out).cells
  go_wp2_with fail
  refine (ix_best R6.out i3).mono ?_
  rintro e w7 ⟨rfl, hr⟩
  have R7 := Lib.hid hr
  clear hr R6 b0 b1 b2 b3 b4 b5 b6 b7 b8 b9 d0 d1 d2 d3 d4 d5 x0 x1 x2
  obtain ⟨b0, b1, b2, b3, b4, b5, b6, b7, b8, b9⟩ := (ix_r R7.out).cells
  obtain ⟨d0, d1, d2, d3, d4, d5⟩ := (ix_d R7.out).cells
  obtain ⟨x0, x1, x2⟩ := (ix_x R7.out).cells
  go_wp2_with fail
  refine (ix_best R7.out i4).mono ?_
  rintro e w8 ⟨rfl, hr⟩
  have R8 := Lib.hid hr
  clear hr R7 b0 b1 b2 b3 b4 b5 b6 b7 b8 b9 d0 d1 d2 d3 d4 d5 x0 x1 x2
  obtain ⟨b0, b1, b2, b3, b4, b5, b6, b7, b8, b9⟩ := (ix_r R8.out).cells
  obtain ⟨d0, d1, d2, d3, d4, d5⟩ := (ix_d R8.out).cells
  obtain ⟨x0, x1, x2⟩ := (ix_x R8.out).cells
  go_wp2_with fail
  refine (ix_best R8.out i5).mono ?_
  rintro e w9 ⟨rfl, hr⟩
  have R9 := Lib.hid hr
  clear hr R8 b0 b1 b2 b3 b4 b5 b6 b7 b8 b9 d0 d1 d2 d3 d4 d5 x0 x1 x2
  obtain ⟨b0, b1, b2, b3, b4, b5, b6, b7, b8, b9⟩ := (ix_r R9.out).cells
  obtain ⟨d0, d1, d2, d3, d4, d5⟩ := (ix_d R9.out).cells
  obtain ⟨x0, x1, x2⟩ := (ix_far R9.out).cells
  go_wp2_with fail
  refine (ix_best R9.out i6).mono ?_
  rintro e w10 ⟨rfl, hr⟩
  have R10 := Lib.hid hr
  clear hr R9 b0 b1 b2 b3 b4 b5 b6 b7 b8 b9 d0 d1 d2 d3 d4 d5 x0 x1 x2
  obtain ⟨b0, b1, b2, b3, b4, b5, b6, b7, b8, b9⟩ := (ix_r R10.out).cells
  obtain ⟨x0, x1, x2⟩ := (ix_x R10.out).cells
  obtain ⟨d0, d1, d2, d3, d4, d5⟩ := (ix_gone R10.out).cells
  go_wp2_with fail
  refine (ix_best R10.out i7).mono ?_
  rintro e w11 ⟨rfl, hr⟩
  have R11 := Lib.hid hr
  clear hr R10 b0 b1 b2 b3 b4 b5 b6 b7 b8 b9 d0 d1 d2 d3 d4 d5 x0 x1 x2
  have R12 := Lib.hid (R11.out.alloc 33 [.int .i64 4, .int .i64 4, .int .i64 1, .int .i64 1, .int .i64 30, .bool false, .int .i64 5, .int .i64 4, .int .i64 0, .int .i64 1, .int .i64 30, .bool false])
  have R13 := Lib.hid (R12.out.alloc 39 [.int .i64 4, .int .i64 0, .slice (some ⟨g + 1 + 1 + 1 + 1, 0, none⟩) 2 2, .int .i64 5, .int .i64 0, .slice none 0 0])
  simp only [World.size_alloc] at R13
  have T12 : Hid (RB u (some z) (ibx2 g g1 g2) (w11.alloc (.cells #[.int .i64 4, .int .i64 4, .int .i64 1, .int .i64 1, .int .i64 30, .bool false, .int .i64 5, .int .i64 4, .int .i64 0, .int .i64 1, .int .i64 30, .bool false] 33))) := ins_tail R12.out
  have T13 : Hid (RB u (some z) (ibx2 g g1 g2) ((w11.alloc (.cells #[.int .i64 4, .int .i64 4, .int .i64 1, .int .i64 1, .int .i64 30, .bool false, .int .i64 5, .int .i64 4, .int .i64 0, .int .i64 1, .int .i64 30, .bool false] 33)).alloc (.cells #[.int .i64 4, .int .i64 0, .slice (some ⟨g + 1 + 1 + 1 + 1, 0, none⟩) 2 2, .int .i64 5, .int .i64 0, .slice none 0 0] 39))) := ins_tail (ins_tail R13.out)
  obtain ⟨d0, d1, d2, d3, d4, d5⟩ := (ix_d R11.out).cells
  obtain ⟨e0, e1, e2, e3, e4, e5⟩ := (ix_other R11.out).cells
  obtain ⟨x0, x1, x2⟩ := (ix_x T12.out).cells
  obtain ⟨b0, b1, b2, b3, b4, b5, b6, b7, b8, b9⟩ := (ix_r T13.out).cells
  have HDD : Hid (Drvs ((w11.alloc (.cells #[.int .i64 4, .int .i64 4, .int .i64 1, .int .i64 1, .int .i64 30, .bool false, .int .i64 5, .int .i64 4, .int .i64 0, .int .i64 1, .int .i64 30, .bool false] 33)).alloc (.cells #[.int .i64 4, .int .i64 0, .slice (some ⟨g + 1 + 1 + 1 + 1, 0, none⟩) 2 2, .int .i64 5, .int .i64 0, .slice none 0 0] 39)) ((w11.alloc (.cells #[.int .i64 4, .int .i64 4, .int .i64 1, .int .i64 1, .int .i64 30, .bool false, .int .i64 5, .int .i64 4, .int .i64 0, .int .i64 1, .int .i64 30, .bool false] 33)).alloc (.cells #[.int .i64 4, .int .i64 0, .slice (some ⟨g + 1 + 1 + 1 + 1, 0, none⟩) 2 2, .int .i64 5, .int .i64 0, .slice none 0 0] 39)).heap.size (some ⟨w11.heap.size, 0, none⟩) 2 [iD, iOther]) := ins_recs (vs := drvsV [iD, iOther]) (R13.out.at_ (g := w11.heap.size) (t := 33) (vs := [.int .i64 4, .int .i64 4, .int .i64 1, .int .i64 1, .int .i64 30, .bool false, .int .i64 5, .int .i64 4, .int .i64 0, .int .i64 1, .int .i64 30, .bool false]) (by simp)) rfl (by decide)
  have HPP : Hid (Plns ((w11.alloc (.cells #[.int .i64 4, .int .i64 4, .int .i64 1, .int .i64 1, .int .i64 30, .bool false, .int .i64 5, .int .i64 4, .int .i64 0, .int .i64 1, .int .i64 30, .bool false] 33)).alloc (.cells #[.int .i64 4, .int .i64 0, .slice (some ⟨g + 1 + 1 + 1 + 1, 0, none⟩) 2 2, .int .i64 5, .int .i64 0, .slice none 0 0] 39)) ((w11.alloc (.cells #[.int .i64 4, .int .i64 4, .int .i64 1, .int .i64 1, .int .i64 30, .bool false, .int .i64 5, .int .i64 4, .int .i64 0, .int .i64 1, .int .i64 30, .bool false] 33)).alloc (.cells #[.int .i64 4, .int .i64 0, .slice (some ⟨g + 1 + 1 + 1 + 1, 0, none⟩) 2 2, .int .i64 5, .int .i64 0, .slice none 0 0] 39)).heap.size (some ⟨w11.heap.size + 1, 0, none⟩) 2 [⟨⟨4, 0, iPQ⟩, some ⟨g + 1 + 1 + 1 + 1, 0, none⟩, 2, 2⟩, ⟨⟨5, 0, []⟩, none, 0, 0⟩]) := by
    refine ⟨ins_recs (vs := rmsV [⟨⟨4, 0, iPQ⟩, some ⟨g + 1 + 1 + 1 + 1, 0, none⟩, 2, 2⟩, ⟨⟨5, 0, []⟩, none, 0, 0⟩]) (R13.out.at_ (g := w11.heap.size + 1) (t := 39) (vs := [.int .i64 4, .int .i64 0, .slice (some ⟨g + 1 + 1 + 1 + 1, 0, none⟩) 2 2, .int .i64 5, .int .i64 0, .slice none 0 0]) (by simp)) rfl (by decide), fun r hr => ?_⟩
    simp only [List.mem_cons, List.not_mem_nil, or_false] at hr
    rcases hr with rfl | rfl
    · exact ⟨ix_stps T13.out, Nat.le_refl _, by show 2 * 16 ≤ _; decide⟩
    · exact ⟨Recs.none_, Nat.le_refl _, by show 0 * 16 ≤ _; decide⟩
  have HCH : Hid (Calls Try.prog 12 #[.pointer (some z), .slice (some ⟨w11.heap.size, 0, none⟩) 2 2, .slice (some ⟨g + 1 + 1 + 1, 0, none⟩) 1 1, .slice (some ⟨w11.heap.size + 1, 0, none⟩) 2 2, ordV iR, .int .i64 100] ((w11.alloc (.cells #[.int .i64 4, .int .i64 4, .int .i64 1, .int .i64 1, .int .i64 30, .bool false, .int .i64 5, .int .i64 4, .int .i64 0, .int .i64 1, .int .i64 30, .bool false] 33)).alloc (.cells #[.int .i64 4, .int .i64 0, .slice (some ⟨g + 1 + 1 + 1 + 1, 0, none⟩) 2 2, .int .i64 5, .int .i64 0, .slice none 0 0] 39)) (Gives ((w11.alloc (.cells #[.int .i64 4, .int .i64 4, .int .i64 1, .int .i64 1, .int .i64 30, .bool false, .int .i64 5, .int .i64 4, .int .i64 0, .int .i64 1, .int .i64 30, .bool false] 33)).alloc (.cells #[.int .i64 4, .int .i64 0, .slice (some ⟨g + 1 + 1 + 1 + 1, 0, none⟩) 2 2, .int .i64 5, .int .i64 0, .slice none 0 0] 39)) (toldV (⟨4, 0, 1, 0⟩, 7, 0)))) := by
    have h1 := pcheapest_any u.heap.size (.pointer (some z)) (some runM) (some ⟨w11.heap.size, 0, none⟩) 2 2 [iD, iOther] (some ⟨g + 1 + 1 + 1, 0, none⟩) 1 1 [runO] (some ⟨w11.heap.size + 1, 0, none⟩) 2 2 [⟨⟨4, 0, iPQ⟩, some ⟨g + 1 + 1 + 1 + 1, 0, none⟩, 2, 2⟩, ⟨⟨5, 0, []⟩, none, 0, 0⟩] iR 100 ((w11.alloc (.cells #[.int .i64 4, .int .i64 4, .int .i64 1, .int .i64 1, .int .i64 30, .bool false, .int .i64 5, .int .i64 4, .int .i64 0, .int .i64 1, .int .i64 30, .bool false] 33)).alloc (.cells #[.int .i64 4, .int .i64 0, .slice (some ⟨g + 1 + 1 + 1 + 1, 0, none⟩) 2 2, .int .i64 5, .int .i64 0, .slice none 0 0] 39)) T13.out.2.1 HDD.out (ix_ords T13.out) HPP.out (Nat.le_refl _) (Nat.le_refl _) (Nat.le_refl _) (by decide)
    rw [show cheapM (some runM) [iD, iOther] [runO] (([⟨⟨4, 0, iPQ⟩, some ⟨g + 1 + 1 + 1 + 1, 0, none⟩, 2, 2⟩, ⟨⟨5, 0, []⟩, none, 0, 0⟩] : List RM).map (·.rt)) iR 100 = (⟨4, 0, 1, 0⟩, 7, 0) from i8] at h1
    exact h1
  clear R12 R13 T12 R11 HDD HPP
  go_wp2_with fail
  refine HCH.out.mono ?_
  rintro e w14 ⟨rfl, hb14⟩
  have R14 := Lib.hid (T13.out.below hb14)
  clear hb14 T13 HCH x0 x1 x2 d0 d1 d2 d3 d4 d5 e0 e1 e2 e3 e4 e5 b0 b1 b2 b3 b4 b5 b6 b7 b8 b9
  have R15 := Lib.hid (R14.out.alloc 42 [.int .i64 4, .int .i64 0, .int .i64 1, .int .i64 0])
  have hsx : S4Box (w14.alloc (.cells #[.int .i64 4, .int .i64 0, .int .i64 1, .int .i64 0] 42)) w14.heap.size ⟨4, 0, 1, 0⟩ := Blk.new w14 _ _
  obtain ⟨y0, y1, y2, y3⟩ := hsx.cells
  clear hsx R14
  go_wp2_with fail
  go_ret
  exact ⟨by first | rfl | simp, R15.out.1⟩
#print axioms runs_any
end Go.Proofs.Ytpigklkidagolaa.Insert

/-
  The program's insert: its contracts, and chapter 12's runs.
-/

/-
  The calls of chapter 12's statements, as their walks meet them: over a world and an order that came in.
-/
namespace Go.Proofs.Ytpigklkidagolaa.Insert
open Go.ChangeShapes Go.WideShapes Go.ChangeAt Go.RowKit Go.Proofs.Ytpigklkidagolaa.Mem Go.Proofs.Ytpigklkidagolaa.GeoMath Go.Proofs.Ytpigklkidagolaa.FleetMath Go.Proofs.Ytpigklkidagolaa.PlanMath Go.Proofs.Ytpigklkidagolaa.CertMath Go.Proofs.Ytpigklkidagolaa.InsertMath Go.Proofs.Ytpigklkidagolaa.Rec Go.Proofs.Ytpigklkidagolaa.Geo Go.Proofs.Ytpigklkidagolaa.Span Go.Proofs.Ytpigklkidagolaa.Deal Go.Proofs.Ytpigklkidagolaa.Keep Go.Proofs.Ytpigklkidagolaa.Route Go.Proofs.Ytpigklkidagolaa.Plan Go.Proofs.Ytpigklkidagolaa.Cert
set_option linter.unusedVariables false
set_option linter.unusedSimpArgs false

/-- a world and an order that came in, the order in a box of its own -/
structure IR (W : World) (q r : Option Addr) (m : Option Mp) (x : Wd) (ds : List Drv) (os : List FleetMath.Ord) (ps : List RM) (o : FleetMath.Ord) (u : World) : Prop where
  cr : CR W q r m x ds os ps u
  ord : OBox u (W.heap.size + 1) o
section
variable {W u u' : World} {q r : Option Addr} {m : Option Mp} {x : Wd} {ds : List Drv} {os : List FleetMath.Ord} {ps l' : List RM} {o : FleetMath.Ord} {b : Int} {A : Option Addr} {n c : Nat}
theorem IR.below (h : IR W q r m x ds os ps o u) (hb : Below u.heap.size u u') : IR W q r m x ds os ps o u' := ⟨h.cr.below hb, h.ord.below hb⟩
theorem use_cheapest {S : Sp4 × Int × Int} (h : IR W q r m x ds os ps o u) (hr : x.os.n * 80 ≤ 140737488351232) (hS : cheapM m ds os (ps.map (·.rt)) o b = S) :
    Calls Try.prog 12 #[.pointer q, x.ds.v, x.os.v, x.pl.v, ordV o, .int .i64 b] u (Gives u (toldV S)) := by
  have := pcheapest_any W.heap.size (.pointer q) m x.ds.a x.ds.n x.ds.c ds x.os.a x.os.n x.os.c os x.pl.a x.pl.n x.pl.c ps o b u h.cr.map h.cr.drvs h.cr.ords h.cr.plns x.ds.h x.os.h x.pl.h hr
  rw [hS] at this
  exact this
theorem use_rcheapest {S : Sp4 × Int × Int} (h : IR W q r m x ds os ps o u) (hp : Plns u u.heap.size A n l') (he : l'.map (·.rt) = ps.map (·.rt)) (hS : cheapM m ds os (ps.map (·.rt)) o b = S) :
    Calls Try.prog 20 #[.pointer r, x.ds.v, x.os.v, .slice A n c, ordV o, .int .i64 b] u (Gives u (toldV S)) := by
  have := rcheapest_any W.heap.size (.pointer r) m x.ds.a x.ds.n x.ds.c ds x.os.a x.os.n x.os.c os A n c l' o b u h.cr.rmap h.cr.drvs h.cr.ords hp
  rw [he, hS] at this
  exact this
end
/-- the two boxes that a law lays first -/
theorem boxes_start {W : World} (x : Wd) (o : FleetMath.Ord) : Below W.heap.size W ((W.alloc (.cells #[.int .i64 x.n, x.ts.v, x.ds.v, x.os.v, x.pl.v] 51)).alloc (.cells #[.int .i64 o.id, .int .i64 o.size, .int .i64 o.pick.place, .int .i64 o.pick.win.fr, .int .i64 o.pick.win.to, .int .i64 o.pick.serv, .int .i64 o.drop.place, .int .i64 o.drop.win.fr, .int .i64 o.drop.win.to, .int .i64 o.drop.serv] 31)) ∧
    WBox ((W.alloc (.cells #[.int .i64 x.n, x.ts.v, x.ds.v, x.os.v, x.pl.v] 51)).alloc (.cells #[.int .i64 o.id, .int .i64 o.size, .int .i64 o.pick.place, .int .i64 o.pick.win.fr, .int .i64 o.pick.win.to, .int .i64 o.pick.serv, .int .i64 o.drop.place, .int .i64 o.drop.win.fr, .int .i64 o.drop.win.to, .int .i64 o.drop.serv] 31)) W.heap.size x ∧
    OBox ((W.alloc (.cells #[.int .i64 x.n, x.ts.v, x.ds.v, x.os.v, x.pl.v] 51)).alloc (.cells #[.int .i64 o.id, .int .i64 o.size, .int .i64 o.pick.place, .int .i64 o.pick.win.fr, .int .i64 o.pick.win.to, .int .i64 o.pick.serv, .int .i64 o.drop.place, .int .i64 o.drop.win.fr, .int .i64 o.drop.win.to, .int .i64 o.drop.serv] 31)) (W.heap.size + 1) o := by
  have b0 : ∀ (u : World) (ob : Obj), Below u.heap.size u (u.alloc ob) := fun u ob => (Below.refl _ _).alloc (Nat.le_refl _) _
  have f0 := WBox.new W x
  obtain ⟨w1, h1⟩ : ∃ u, W.alloc (.cells #[.int .i64 x.n, x.ts.v, x.ds.v, x.os.v, x.pl.v] 51) = u := ⟨_, rfl⟩
  have z1 : w1.heap.size = W.heap.size + 1 := by rw [← h1]; simp
  have o1 : Below W.heap.size W w1 := by rw [← h1]; exact b0 _ _
  rw [h1] at f0 ⊢
  have f3 : OBox (w1.alloc (.cells #[.int .i64 o.id, .int .i64 o.size, .int .i64 o.pick.place, .int .i64 o.pick.win.fr, .int .i64 o.pick.win.to, .int .i64 o.pick.serv, .int .i64 o.drop.place, .int .i64 o.drop.win.fr, .int .i64 o.drop.win.to, .int .i64 o.drop.serv] 31)) w1.heap.size o := Blk.new w1 _ _
  rw [z1] at f3
  exact ⟨o1.trans ((b0 _ _).mono (by omega)), f0.below (b0 _ _), f3⟩
#print axioms boxes_start
end Go.Proofs.Ytpigklkidagolaa.Insert

/-
  Chapter 12's statements: one of a plan's routes (one), the same one each time.
-/
namespace Go.Proofs.Ytpigklkidagolaa.Insert
open Go.ChangeShapes Go.WideShapes Go.ChangeAt Go.RowKit Go.Proofs.Ytpigklkidagolaa.Mem Go.Proofs.Ytpigklkidagolaa.GeoMath Go.Proofs.Ytpigklkidagolaa.FleetMath Go.Proofs.Ytpigklkidagolaa.PlanMath Go.Proofs.Ytpigklkidagolaa.CertMath Go.Proofs.Ytpigklkidagolaa.InsertMath Go.Proofs.Ytpigklkidagolaa.Rec Go.Proofs.Ytpigklkidagolaa.Geo Go.Proofs.Ytpigklkidagolaa.Span Go.Proofs.Ytpigklkidagolaa.Deal Go.Proofs.Ytpigklkidagolaa.Keep Go.Proofs.Ytpigklkidagolaa.Route Go.Proofs.Ytpigklkidagolaa.Plan Go.Proofs.Ytpigklkidagolaa.Cert
set_option linter.unusedVariables false
set_option linter.unusedSimpArgs false

/-- what Within answers -/
def withinV (a n : Int) : Int := if a.tmod n < 0 then a.tmod n + n else a.tmod n
theorem withinV_in (a : Int) {n : Int} (h : 0 < n) : 0 ≤ withinV a n ∧ withinV a n < n := by
  have h1 := Int.tmod_lt_of_pos a h
  have h2 := Int.lt_tmod_of_pos a h
  unfold withinV
  split <;> omega
set_option maxHeartbeats 1000000 in
theorem within_det (a n : Int) (w : World) (h : 0 < n) (h' : n ≤ 1125899906842624) : Calls Try.prog 34 #[.int .i64 a, .int .i64 0, .int .i64 (n - 1)] w fun e w' => e = .returned (.int .i64 (withinV a n)) ∧ w = w' := by
  have h1 := Int.tmod_lt_of_pos a h
  have h2 := Int.lt_tmod_of_pos a h
  have hv : withinV a n = if a.tmod n < 0 then a.tmod n + n else a.tmod n := rfl
  have e1 : n - 1 - 0 + 1 = n := by omega
  have ht : (-1125899906842624 : Int) < a.tmod n ∧ a.tmod n < 1125899906842624 := by omega
  go_enter Try.func34, Try.ntmps34
  go_wp2
  all_goals
    go_ret
    refine ⟨?_, rfl⟩
    have e9 : a.tmod n + (n - 1) + 1 = a.tmod n + n := by omega
    by_cases hc : a.tmod n < 0
    · rw [hv, if_pos hc]
      first | rfl | (exfalso; omega) | (rw [e9]; rfl) | (simp only [e9]; rfl)
    · rw [hv, if_neg hc]
      first | rfl | (exfalso; omega)
def zeroRM : RM := ⟨⟨0, 0, []⟩, none, 0, 0⟩
/-- the route that one takes: the zero one, or the one at a place -/
def OneIn (l : List RM) (a : Int) (x : RM) : Prop := (l = [] ∧ x = zeroRM) ∨ l[(withinV a (l.length : Int)).toNat]? = some x
theorem OneIn.same {l l' : List RM} {a : Int} {x x' : RM} (h : OneIn l a x) (h' : OneIn l' a x') (he : l'.map (·.rt) = l.map (·.rt)) : x'.rt = x.rt := by
  have hl : l'.length = l.length := by have := congrArg List.length he; simpa using this
  rcases h with ⟨h1, rfl⟩ | h1
  · subst h1
    rcases h' with ⟨_, rfl⟩ | h2
    · rfl
    · rw [List.eq_nil_of_length_eq_zero hl] at h2; cases h2
  · rcases h' with ⟨h2, rfl⟩ | h2
    · subst h2
      rw [List.eq_nil_of_length_eq_zero hl.symm] at h1; cases h1
    · rw [hl] at h2
      have h3 : (l'.map (·.rt))[(withinV a (l.length : Int)).toNat]? = some x'.rt := by rw [List.getElem?_map, h2]; rfl
      rw [he, List.getElem?_map, h1] at h3
      injection h3 with h3
      exact h3.symm
set_option maxRecDepth 100000 in
set_option maxHeartbeats 2000000 in
theorem kone_any (A : Option Addr) (n c : Nat) (l : List RM) (a : Int) (w : World) (h : Plns w w.heap.size A n l) (hn : n * 40 ≤ 140737488351232) :
    Calls Try.prog 15 #[.slice A n c, .int .i64 a] w fun e w' => ∃ x, OneIn l a x ∧ e = .returned (rteV x) ∧ Below w.heap.size w w' := by
  have HL := Lib.hid h.length
  have HB : Hid (Below w.heap.size w (w.alloc (.cells #[.int .i64 0, .int .i64 0, .slice none 0 0] 39))) := (Below.refl _ _).alloc (Nat.le_refl _) _
  have HX : Hid (Blk (w.alloc (.cells #[.int .i64 0, .int .i64 0, .slice none 0 0] 39)) w.heap.size 39 [.int .i64 0, .int .i64 0, .slice none 0 0]) := Blk.new w _ _
  rcases Nat.eq_zero_or_pos n with h0 | h0
  · subst h0
    have HN : Hid (l = []) := List.eq_nil_of_length_eq_zero HL.out
    clear h hn
    go_enter Try.func15, Try.ntmps15
    go_wp2
    refine bodyPost_ret (v := rteV zeroRM) ?_ rfl ⟨zeroRM, .inl ⟨HN.out, rfl⟩, rfl, ?_⟩
    · simp [results, Try.results15, go_sem, zeroRM]
    · exact HB.out
  · obtain ⟨k, hk⟩ : ∃ k : Nat, withinV a (n : Int) = (k : Int) := ⟨(withinV a (n : Int)).toNat, by have := withinV_in a (n := (n : Int)) (by omega); omega⟩
    have hkn : k < n := by have := withinV_in a (n := (n : Int)) (by omega); omega
    obtain ⟨b, off, x, hA, _, hx, _, c0, c1, c2, _, _⟩ := (h.keep HB.out).at_ hkn
    subst hA
    have HO : Hid (OneIn l a x) := .inr (by rw [HL.out, hk, Int.toNat_natCast]; exact hx)
    have HK := Lib.hid hk
    have hi16 : IntKind.i64.wrap ((n : Int) - 1) = (n : Int) - 1 := IntWalk.i64_in _ (by omega)
    have hk2 : (k : Int) < (n : Int) := by omega
    clear h hk hx
    go_enter Try.func15, Try.ntmps15
    go_wp2_with fail
    refine (within_det a (n : Int) _ (by omega) (by omega)).mono ?_
    rintro e w' ⟨rfl, rfl⟩
    rw [HK.out]
    have hcs := cell_apart w.heap.size
    have hfs := frozen_set
    have hff := Blk.free HX.out
    go_wp2_with fail
    refine bodyPost_ret (v := rteV x) ?_ rfl ⟨x, HO.out, rfl, ?_⟩
    · simp [results, Try.results15, go_sem]
    · first
        | exact HB.out
        | exact (((HB.out.setCell (Nat.le_refl _) _).setCell (Nat.le_refl _) _).setCell (Nat.le_refl _) _)
        | exact (Below.refl _ _).alloc (Nat.le_refl _) _
#print axioms kone_any
end Go.Proofs.Ytpigklkidagolaa.Insert

/-
  Chapter 12's statements: one of a plan's routes, one of a world's drivers, each told.
-/
namespace Go.Proofs.Ytpigklkidagolaa.Insert
open Go.ChangeShapes Go.WideShapes Go.ChangeAt Go.RowKit Go.Proofs.Ytpigklkidagolaa.Mem Go.Proofs.Ytpigklkidagolaa.GeoMath Go.Proofs.Ytpigklkidagolaa.FleetMath Go.Proofs.Ytpigklkidagolaa.PlanMath Go.Proofs.Ytpigklkidagolaa.CertMath Go.Proofs.Ytpigklkidagolaa.InsertMath Go.Proofs.Ytpigklkidagolaa.Rec Go.Proofs.Ytpigklkidagolaa.Geo Go.Proofs.Ytpigklkidagolaa.Span Go.Proofs.Ytpigklkidagolaa.Deal Go.Proofs.Ytpigklkidagolaa.Keep Go.Proofs.Ytpigklkidagolaa.Route Go.Proofs.Ytpigklkidagolaa.Plan Go.Proofs.Ytpigklkidagolaa.Cert
set_option linter.unusedVariables false
set_option linter.unusedSimpArgs false

theorem OneIn.unique {l : List RM} {a : Int} {x x' : RM} (h : OneIn l a x) (h' : OneIn l a x') : x' = x := by
  rcases h with ⟨h1, rfl⟩ | h1
  · rcases h' with ⟨_, rfl⟩ | h2
    · rfl
    · subst h1; cases h2
  · rcases h' with ⟨h2, rfl⟩ | h2
    · subst h2; cases h1
    · rw [h1] at h2; injection h2 with h2; exact h2.symm
theorem OneIn.exists (l : List RM) (a : Int) : ∃ x, OneIn l a x := by
  cases l with
  | nil => exact ⟨_, .inl ⟨rfl, rfl⟩⟩
  | cons y t =>
    have h := withinV_in a (n := ((y :: t).length : Int)) (by rw [List.length_cons]; omega)
    exact ⟨_, .inr (List.getElem?_eq_getElem (by omega))⟩
theorem OneIn.stops {l : List RM} {a : Int} {x : RM} {u : World} {B n : Nat} {A : Option Addr} (h : OneIn l a x) (hl : Plns u B A n l) : Stps u B x.a x.n x.rt.stops ∧ x.n ≤ x.c ∧ x.n * 16 ≤ 140737488351232 := by
  rcases h with ⟨_, rfl⟩ | h
  · exact ⟨⟨rfl, by simp [zeroRM], fun h => absurd h (by simp [zeroRM])⟩, Nat.le_refl _, by simp [zeroRM]⟩
  · exact hl.each x (List.mem_of_getElem? h)
theorem kone_at {A : Option Addr} {n c : Nat} {l : List RM} {a : Int} {x : RM} (hx : OneIn l a x) (w : World) (h : Plns w w.heap.size A n l) (hn : n * 40 ≤ 140737488351232) :
    Calls Try.prog 15 #[.slice A n c, .int .i64 a] w fun e w' => e = .returned (rteV x) ∧ Below w.heap.size w w' := by
  refine (kone_any A n c l a w h hn).mono ?_
  rintro e w' ⟨x', h1, rfl, h2⟩
  rw [hx.unique h1]
  exact ⟨rfl, h2⟩
/-- the driver that Driver takes -/
def DrvAt (ds : List Drv) (a : Int) (d : Drv) : Prop := (ds = [] ∧ d = zeroDrv) ∨ ds[(withinV a (ds.length : Int)).toNat]? = some d
theorem DrvAt.exists (ds : List Drv) (a : Int) : ∃ d, DrvAt ds a d := by
  cases ds with
  | nil => exact ⟨_, .inl ⟨rfl, rfl⟩⟩
  | cons y t =>
    have h := withinV_in a (n := ((y :: t).length : Int)) (by rw [List.length_cons]; omega)
    exact ⟨_, .inr (List.getElem?_eq_getElem (by omega))⟩
set_option maxRecDepth 100000 in
set_option maxHeartbeats 1000000 in
theorem kdriver_at (x : Wd) (ds : List Drv) (at_ : Int) (d : Drv) (hat : DrvAt ds at_ d) (w : World) (h : Drvs w w.heap.size x.ds.a x.ds.n ds) (hn : x.ds.n ≤ 1125899906842624) :
    Calls Try.prog 16 #[wdV x, .int .i64 at_] w fun e w' => e = .returned (drvV d) ∧ Below w.heap.size w w' := by
  obtain ⟨nn, ⟨ta, tn, tc⟩, ⟨a, n, c⟩, ⟨oa, on, oc⟩, ⟨pa, pn, pc⟩⟩ := x
  simp only [wdV, Sl.v] at h hn ⊢
  have HL := Lib.hid h.length
  have HB : Hid (Below w.heap.size w ((w.alloc (.cells #[.int .i64 nn, .slice ta tn tc, .slice a n c, .slice oa on oc, .slice pa pn pc] 51)).alloc (.cells #[.int .i64 0, .int .i64 0, .int .i64 0, .int .i64 0, .int .i64 0, .bool false] 33))) := ((Below.refl _ _).alloc (Nat.le_refl _) _).alloc (by simp) _
  rcases Nat.eq_zero_or_pos n with h0 | h0
  · subst h0
    have hnil : ds = [] := List.eq_nil_of_length_eq_zero HL.out
    have HZ : Hid (d = zeroDrv) := by
      rcases hat with ⟨_, h1⟩ | h1
      · exact h1
      · rw [hnil] at h1; cases h1
    clear h hn hat
    go_enter Try.func16, Try.ntmps16
    go_wp2
    refine bodyPost_ret (v := drvV zeroDrv) ?_ rfl ⟨by rw [HZ.out], ?_⟩
    · simp [results, Try.results16, go_sem, zeroDrv]
    · exact HB.out
  · obtain ⟨k, hk⟩ : ∃ k : Nat, withinV at_ (n : Int) = (k : Int) := ⟨(withinV at_ (n : Int)).toNat, by have := withinV_in at_ (n := (n : Int)) (by omega); omega⟩
    have hkn : k < n := by have := withinV_in at_ (n := (n : Int)) (by omega); omega
    have hdk : ds[k]? = some d := by
      rcases hat with ⟨h1, _⟩ | h1
      · subst h1; have := HL.out; simp at this; omega
      · rw [HL.out, hk, Int.toNat_natCast] at h1; exact h1
    obtain ⟨b, off, y, hA, _, hy, _, g0, g1, g2, g3, g4, g5⟩ := Drvs.at_ (Recs.keep h HB.out) hkn
    rw [hdk] at hy
    injection hy with hy
    subst hy
    subst hA
    have HK := Lib.hid hk
    have hkn2 : (k : Int) < (n : Int) := by omega
    clear h hk hat hdk
    go_enter Try.func16, Try.ntmps16
    go_wp2
    have hi16 : IntKind.i64.wrap ((n : Int) - 1) = (n : Int) - 1 := IntWalk.i64_in _ (by omega)
    go_region_law (go_simp; go_at_call 34; refine (within_det at_ (n : Int) _ (by omega) (by omega)).mono ?_; rintro e w' ⟨rfl, rfl⟩; rw [HK.out])
    all_goals
      go_wp2_with fail
      refine bodyPost_ret (v := drvV d) ?_ rfl ⟨rfl, ?_⟩
      · simp [results, Try.results16, go_sem]
      · exact (((Below.refl _ _).alloc (Nat.le_refl _) _).alloc (by simp) _).drew
#print axioms kone_at
#print axioms kdriver_at
end Go.Proofs.Ytpigklkidagolaa.Insert

/-
  The orders with one more, as the statements make them (append(append([]api.Order{}, w.Orders...), o)): what the operations of that region leave.
-/
namespace Go.Proofs.Ytpigklkidagolaa.Insert
open Go.ChangeShapes Go.WideShapes Go.ChangeAt Go.RowKit Go.Proofs.Ytpigklkidagolaa.Mem Go.Proofs.Ytpigklkidagolaa.GeoMath Go.Proofs.Ytpigklkidagolaa.FleetMath Go.Proofs.Ytpigklkidagolaa.PlanMath Go.Proofs.Ytpigklkidagolaa.CertMath Go.Proofs.Ytpigklkidagolaa.InsertMath Go.Proofs.Ytpigklkidagolaa.Rec Go.Proofs.Ytpigklkidagolaa.Geo Go.Proofs.Ytpigklkidagolaa.Span Go.Proofs.Ytpigklkidagolaa.Deal Go.Proofs.Ytpigklkidagolaa.Keep Go.Proofs.Ytpigklkidagolaa.Route Go.Proofs.Ytpigklkidagolaa.Plan Go.Proofs.Ytpigklkidagolaa.Cert
set_option linter.unusedVariables false

def more2Fact (base : Nat) (pa : Value) (A : Option Addr) (n c : Nat) (os : List FleetMath.Ord) (o : FleetMath.Ord) (k : Nat) (v : Value) (D : Nat → Prop) (u : World) : Prop :=
  match k with
  | 0 => ownF base 10 31 0 [] v D u
  | 1 => pureF (fun v => v = pa) v D
  | 2 => pureF (fun v => v = .slice A n c) v D
  | 3 => ownF base 10 31 n (ordsV os) v D u
  | 4 => pureF (fun v => v = ordV o) v D
  | 5 => blkF (fun g => .slice (some ⟨g, 0, none⟩) 1 1) 31 (ordL o) v D u
  | 6 => ownF base 10 31 (n + 1) (ordsV (os ++ [o])) v D u
  | 7 => ownF base 10 31 (n + 1) (ordsV (os ++ [o])) v D u
  | _ => pureF (fun _ => True) v D
def more2RF (slots : List Nat) (base : Nat) (pa : Value) (A : Option Addr) (n c : Nat) (os : List FleetMath.Ord) (o : FleetMath.Ord) : RF :=
  ⟨fun k => slots.getD k 0, fun k => if k = 0 then some 3 else if k = 3 then some 6 else if k = 5 then some 6 else if k = 6 then some 7 else none, more2Fact base pa A n c os o⟩
theorem more2_mon {base : Nat} {pa : Value} {A : Option Addr} {n c : Nat} {os : List FleetMath.Ord} {o : FleetMath.Ord} (k : Nat) (v : Value) (D : Nat → Prop) (u u' : World) (h : more2Fact base pa A n c os o k v D u) (hk : ∀ b, D b → u'.heap[b]? = u.heap[b]?) : more2Fact base pa A n c os o k v D u' := by
  revert h
  unfold more2Fact
  split <;> intro h <;> first | exact h | exact ownF.mon h hk | exact blkF.mon h hk
end Go.Proofs.Ytpigklkidagolaa.Insert
