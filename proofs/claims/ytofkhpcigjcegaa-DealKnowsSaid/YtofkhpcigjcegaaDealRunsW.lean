/-
  Words for chapter 6's example runs: copies of an order and of a driver, and one field of each turned.
-/
import Derived.Test.YtofkhpcigjcegaaDealProg
import Derived.Test.YtofkhpcigjcegaaKeepMaps
import Derived.Deep.DeepCutAuto
import Derived.Deep.RegionHeld3
import Derived.BigRegion
namespace Go.Proofs.Ytofkhpcigjcegaa.Deal
open Go.ChangeShapes Go.WideShapes Go.ChangeAt Go.RowKit Go.Proofs.Ytofkhpcigjcegaa.Mem Go.Proofs.Ytofkhpcigjcegaa.GeoMath Go.Proofs.Ytofkhpcigjcegaa.FleetMath Go.Proofs.Ytofkhpcigjcegaa.Rec Go.Proofs.Ytofkhpcigjcegaa.Geo Go.Proofs.Ytofkhpcigjcegaa.Span Go.Proofs.Ytofkhpcigjcegaa.Keep

section
variable (base : Nat) (pv : Value) (m : Option Mp) (w : World) (h : MapP w 65 base pv m)
include h
theorem gorder_val (o : FleetMath.Ord) (v : Int) (hv : ordE m o = v) : Calls Try.prog 10 #[pv, ordV o] w (Gives w (.int .i64 v)) := by rw [← hv]; exact gorder_any base pv m o w h
theorem gdriver_val (d : Drv) (v : Int) (hv : drvE m d = v) : Calls Try.prog 11 #[pv, drvV d] w (Gives w (.int .i64 v)) := by rw [← hv]; exact gdriver_any base pv m d w h
theorem galone_val (d : Drv) (o : FleetMath.Ord) (v : Int) (r : Bool) (hv : optV (alone m d o) = .tuple #[.int .i64 v, .bool r]) : Calls Try.prog 12 #[pv, drvV d, ordV o] w (Gives w (.tuple #[.int .i64 v, .bool r])) := by rw [← hv]; exact galone_any base pv m d o w h
end

theorem optV_some {o : Option Int} {v : Int} (h : o = some v) : optV o = .tuple #[.int .i64 v, .bool true] := by rw [h]; rfl
theorem optV_none {o : Option Int} (h : o = none) : optV o = .tuple #[.int .i64 0, .bool false] := by rw [h]; rfl
def smallO : FleetMath.Ord := ⟨1, 3, ⟨0, ⟨2, 9⟩, 1⟩, ⟨1, ⟨0, 20⟩, 2⟩⟩
def smallD : Drv := ⟨4, 3, 1, ⟨1, 30⟩, false⟩
def smallM : Mp := ⟨2, [0, 5, 7, 0]⟩
theorem small_any (w : World) : Calls Try.prog 9 #[] w (Gives w (.tuple #[ordV smallO, drvV smallD])) := by
  go_enter Try.func9, Try.ntmps9
  go_wp2
  refine bodyPost_ret (v := .tuple #[ordV smallO, drvV smallD]) ?_ rfl ⟨rfl, ?_⟩
  · simp [results, Try.results9, go_sem, smallO, smallD]
  · exact (((Below.refl _ _).alloc (Nat.le_refl _) _).alloc (by simp) _).alloc (by simp; omega) _

/-- what stays through the runs: the map, orders and drivers in blocks of their own -/
def RS (W : World) (q : Option Addr) (os : List (Nat × FleetMath.Ord)) (ds : List (Nat × Drv)) (u : World) : Prop :=
  Below W.heap.size W u ∧ MapP u 65 W.heap.size (.pointer q) (some smallM) ∧ (∀ p ∈ os, OBox u p.1 p.2) ∧ ∀ p ∈ ds, DBox u p.1 p.2
theorem RS.below {W u u' : World} {q : Option Addr} {os : List (Nat × FleetMath.Ord)} {ds : List (Nat × Drv)} (h : RS W q os ds u) (hb : Below u.heap.size u u') : RS W q os ds u' :=
  ⟨h.1.trans (hb.mono h.1.size), h.2.1.keep hb, fun p hp => (h.2.2.1 p hp).below hb, fun p hp => (h.2.2.2 p hp).below hb⟩
theorem RS.ord {W u : World} {q : Option Addr} {os : List (Nat × FleetMath.Ord)} {ds : List (Nat × Drv)} (h : RS W q os ds u) {g : Nat} {o : FleetMath.Ord} (hp : (g, o) ∈ os) : OBox u g o := h.2.2.1 _ hp
theorem RS.drv {W u : World} {q : Option Addr} {os : List (Nat × FleetMath.Ord)} {ds : List (Nat × Drv)} (h : RS W q os ds u) {g : Nat} {d : Drv} (hp : (g, d) ∈ ds) : DBox u g d := h.2.2.2 _ hp

/-- four copies of an order, each in a new block of its own -/
def Cpy (w : World) (o : FleetMath.Ord) (ga gb gc gf : Nat) (u : World) : Prop :=
  Below w.heap.size w u ∧ (w.heap.size ≤ ga ∧ w.heap.size ≤ gb ∧ w.heap.size ≤ gc ∧ w.heap.size ≤ gf) ∧ (ga ≠ gb ∧ ga ≠ gc ∧ ga ≠ gf ∧ gb ≠ gc ∧ gb ≠ gf ∧ gc ≠ gf) ∧ OBox u ga o ∧ OBox u gb o ∧ OBox u gc o ∧ OBox u gf o

/-- four orders made one behind the other -/
abbrev ordO (o : FleetMath.Ord) : Obj := .cells #[.int .i64 o.id, .int .i64 o.size, .int .i64 o.pick.place, .int .i64 o.pick.win.fr, .int .i64 o.pick.win.to, .int .i64 o.pick.serv, .int .i64 o.drop.place, .int .i64 o.drop.win.fr, .int .i64 o.drop.win.to, .int .i64 o.drop.serv] 31
theorem four_below (w : World) (a b c d : Obj) : Below w.heap.size w ((((w.alloc a).alloc b).alloc c).alloc d) :=
  ((((Below.refl _ _).alloc (Nat.le_refl _) _).alloc (by simp) _).alloc (by simp; omega) _).alloc (by simp; omega) _
theorem ordO_new (u : World) (o : FleetMath.Ord) : OBox (u.alloc (ordO o)) u.heap.size o := Blk.new u _ _
theorem OBox.alloc {u : World} {g : Nat} {o : FleetMath.Ord} (h : OBox u g o) (x : Obj) : OBox (u.alloc x) g o := h.below ((Below.refl _ _).alloc (Nat.le_refl _) _)
theorem four_boxes (w : World) (o : FleetMath.Ord) : OBox ((((w.alloc (ordO o)).alloc (ordO o)).alloc (ordO o)).alloc (ordO o)) w.heap.size o ∧ OBox ((((w.alloc (ordO o)).alloc (ordO o)).alloc (ordO o)).alloc (ordO o)) (w.heap.size + 1) o ∧
    OBox ((((w.alloc (ordO o)).alloc (ordO o)).alloc (ordO o)).alloc (ordO o)) (w.heap.size + 1 + 1) o ∧ OBox ((((w.alloc (ordO o)).alloc (ordO o)).alloc (ordO o)).alloc (ordO o)) (w.heap.size + 1 + 1 + 1) o := by
  have h1 := ordO_new w o
  have h2 := ordO_new (w.alloc (ordO o)) o
  have h3 := ordO_new ((w.alloc (ordO o)).alloc (ordO o)) o
  have h4 := ordO_new (((w.alloc (ordO o)).alloc (ordO o)).alloc (ordO o)) o
  simp only [World.size_alloc] at h2 h3 h4
  exact ⟨((h1.alloc _).alloc _).alloc _, (h2.alloc _).alloc _, h3.alloc _, h4⟩
/-- the four copies, in whatever order their blocks were made -/
theorem Cpy.of {w : World} {o : FleetMath.Ord} {ga gb gc gf : Nat} (h1 : w.heap.size ≤ ga ∧ w.heap.size ≤ gb ∧ w.heap.size ≤ gc ∧ w.heap.size ≤ gf) (h2 : ga < w.heap.size + 4 ∧ gb < w.heap.size + 4 ∧ gc < w.heap.size + 4 ∧ gf < w.heap.size + 4)
    (h3 : ga ≠ gb ∧ ga ≠ gc ∧ ga ≠ gf ∧ gb ≠ gc ∧ gb ≠ gf ∧ gc ≠ gf) : Cpy w o ga gb gc gf ((((w.alloc (ordO o)).alloc (ordO o)).alloc (ordO o)).alloc (ordO o)) := by
  obtain ⟨b1, b2, b3, b4⟩ := four_boxes w o
  have hx : ∀ g, w.heap.size ≤ g → g < w.heap.size + 4 → OBox ((((w.alloc (ordO o)).alloc (ordO o)).alloc (ordO o)).alloc (ordO o)) g o := fun g hg hg' => by
    rcases (show g = w.heap.size ∨ g = w.heap.size + 1 ∨ g = w.heap.size + 1 + 1 ∨ g = w.heap.size + 1 + 1 + 1 by omega) with rfl | rfl | rfl | rfl
    · exact b1
    · exact b2
    · exact b3
    · exact b4
  exact ⟨four_below w _ _ _ _, h1, h3, hx _ h1.1 h2.1, hx _ h1.2.1 h2.2.1, hx _ h1.2.2.1 h2.2.2.1, hx _ h1.2.2.2 h2.2.2.2⟩
theorem Cpy.drew {w u : World} {o : FleetMath.Ord} {ga gb gc gf : Nat} (h : Cpy w o ga gb gc gf u) : Cpy w o ga gb gc gf u.drew := ⟨h.1.drew, h.2⟩
theorem OBox.other {u : World} {g k i : Nat} {v : Value} {o : FleetMath.Ord} (h : OBox u g o) (hne : g ≠ k) : OBox (u.setCell ⟨k, i, none⟩ v) g o := (Below.heap_setCell u _ _ g hne).trans h
theorem DBox.other {u : World} {g k i : Nat} {v : Value} {d : Drv} (h : DBox u g d) (hne : g ≠ k) : DBox (u.setCell ⟨k, i, none⟩ v) g d := (Below.heap_setCell u _ _ g hne).trans h
/-- one field of each copy turned (of one of them two) -/
def puts (u : World) (ga gb gc gf : Nat) : World := ((((u.setCell ⟨ga, 1, none⟩ (.int .i64 0)).setCell ⟨gb, 2, none⟩ (.int .i64 2)).setCell ⟨gc, 7, none⟩ (.int .i64 5)).setCell ⟨gc, 8, none⟩ (.int .i64 4)).setCell ⟨gf, 9, none⟩ (.int .i64 (-1))
theorem Cpy.puts {w u : World} {o : FleetMath.Ord} {ga gb gc gf : Nat} (h : Cpy w o ga gb gc gf u) :
    (u.cell? ⟨ga, 1, none⟩ = some (.int .i64 o.size) ∧ u.frozen? ⟨ga, 1, none⟩ = false) ∧
    ((u.setCell ⟨ga, 1, none⟩ (.int .i64 0)).cell? ⟨gb, 2, none⟩ = some (.int .i64 o.pick.place) ∧ (u.setCell ⟨ga, 1, none⟩ (.int .i64 0)).frozen? ⟨gb, 2, none⟩ = false) ∧
    (((u.setCell ⟨ga, 1, none⟩ (.int .i64 0)).setCell ⟨gb, 2, none⟩ (.int .i64 2)).cell? ⟨gc, 7, none⟩ = some (.int .i64 o.drop.win.fr) ∧ ((u.setCell ⟨ga, 1, none⟩ (.int .i64 0)).setCell ⟨gb, 2, none⟩ (.int .i64 2)).frozen? ⟨gc, 7, none⟩ = false) ∧
    ((((u.setCell ⟨ga, 1, none⟩ (.int .i64 0)).setCell ⟨gb, 2, none⟩ (.int .i64 2)).setCell ⟨gc, 7, none⟩ (.int .i64 5)).cell? ⟨gc, 8, none⟩ = some (.int .i64 o.drop.win.to) ∧ (((u.setCell ⟨ga, 1, none⟩ (.int .i64 0)).setCell ⟨gb, 2, none⟩ (.int .i64 2)).setCell ⟨gc, 7, none⟩ (.int .i64 5)).frozen? ⟨gc, 8, none⟩ = false) ∧
    (((((u.setCell ⟨ga, 1, none⟩ (.int .i64 0)).setCell ⟨gb, 2, none⟩ (.int .i64 2)).setCell ⟨gc, 7, none⟩ (.int .i64 5)).setCell ⟨gc, 8, none⟩ (.int .i64 4)).cell? ⟨gf, 9, none⟩ = some (.int .i64 o.drop.serv) ∧ ((((u.setCell ⟨ga, 1, none⟩ (.int .i64 0)).setCell ⟨gb, 2, none⟩ (.int .i64 2)).setCell ⟨gc, 7, none⟩ (.int .i64 5)).setCell ⟨gc, 8, none⟩ (.int .i64 4)).frozen? ⟨gf, 9, none⟩ = false) ∧
    Below w.heap.size w (Deal.puts u ga gb gc gf) ∧ OBox (Deal.puts u ga gb gc gf) ga ⟨o.id, 0, o.pick, o.drop⟩ ∧ OBox (Deal.puts u ga gb gc gf) gb ⟨o.id, o.size, ⟨2, o.pick.win, o.pick.serv⟩, o.drop⟩ ∧
      OBox (Deal.puts u ga gb gc gf) gc ⟨o.id, o.size, o.pick, ⟨o.drop.place, ⟨5, 4⟩, o.drop.serv⟩⟩ ∧ OBox (Deal.puts u ga gb gc gf) gf ⟨o.id, o.size, o.pick, ⟨o.drop.place, o.drop.win, -1⟩⟩ := by
  obtain ⟨hb, ⟨g1, g2, g3, g4⟩, ⟨n1, n2, n3, n4, n5, n6⟩, a0, b0, c0, f0⟩ := h
  have a1 : OBox (u.setCell ⟨ga, 1, none⟩ (.int .i64 0)) ga ⟨o.id, 0, o.pick, o.drop⟩ := Blk.put a0 1 _
  have b1 : OBox (u.setCell ⟨ga, 1, none⟩ (.int .i64 0)) gb o := b0.other (Ne.symm n1)
  have c1 : OBox (u.setCell ⟨ga, 1, none⟩ (.int .i64 0)) gc o := c0.other (Ne.symm n2)
  have f1 : OBox (u.setCell ⟨ga, 1, none⟩ (.int .i64 0)) gf o := f0.other (Ne.symm n3)
  have b2 : OBox ((u.setCell ⟨ga, 1, none⟩ (.int .i64 0)).setCell ⟨gb, 2, none⟩ (.int .i64 2)) gb ⟨o.id, o.size, ⟨2, o.pick.win, o.pick.serv⟩, o.drop⟩ := Blk.put b1 2 _
  have c2 := c1.other (i := 2) (v := .int .i64 2) (Ne.symm n4)
  have c3 : OBox (((u.setCell ⟨ga, 1, none⟩ (.int .i64 0)).setCell ⟨gb, 2, none⟩ (.int .i64 2)).setCell ⟨gc, 7, none⟩ (.int .i64 5)) gc ⟨o.id, o.size, o.pick, ⟨o.drop.place, ⟨5, o.drop.win.to⟩, o.drop.serv⟩⟩ := Blk.put c2 7 _
  have c4 : OBox ((((u.setCell ⟨ga, 1, none⟩ (.int .i64 0)).setCell ⟨gb, 2, none⟩ (.int .i64 2)).setCell ⟨gc, 7, none⟩ (.int .i64 5)).setCell ⟨gc, 8, none⟩ (.int .i64 4)) gc ⟨o.id, o.size, o.pick, ⟨o.drop.place, ⟨5, 4⟩, o.drop.serv⟩⟩ := Blk.put c3 8 _
  have f4 := ((f1.other (i := 2) (v := .int .i64 2) (Ne.symm n5)).other (i := 7) (v := .int .i64 5) (Ne.symm n6)).other (i := 8) (v := .int .i64 4) (Ne.symm n6)
  have f5 : OBox (Deal.puts u ga gb gc gf) gf ⟨o.id, o.size, o.pick, ⟨o.drop.place, o.drop.win, -1⟩⟩ := Blk.put f4 9 _
  exact ⟨⟨Blk.cell a0 rfl, Blk.free a0 1⟩, ⟨Blk.cell b1 rfl, Blk.free b1 2⟩, ⟨Blk.cell c2 rfl, Blk.free c2 7⟩, ⟨Blk.cell c3 rfl, Blk.free c3 8⟩, ⟨Blk.cell f4 rfl, Blk.free f4 9⟩,
    ((((hb.setCell g1 _).setCell g2 _).setCell g3 _).setCell g3 _).setCell g4 _, ((((a1.other n1).other n2).other n2).other n3), ((b2.other n4).other n4).other n5, c4.other n6, f5⟩
/-- three copies of a driver, each in a new block of its own -/
def CpyD (w : World) (d : Drv) (ga gb gc : Nat) (u : World) : Prop :=
  Below w.heap.size w u ∧ (w.heap.size ≤ ga ∧ w.heap.size ≤ gb ∧ w.heap.size ≤ gc) ∧ (ga ≠ gb ∧ ga ≠ gc ∧ gb ≠ gc) ∧ DBox u ga d ∧ DBox u gb d ∧ DBox u gc d
abbrev drvO (d : Drv) : Obj := .cells #[.int .i64 d.id, .int .i64 d.room, .int .i64 d.home, .int .i64 d.win.fr, .int .i64 d.win.to, .bool d.retired] 33
theorem drvO_new (u : World) (d : Drv) : DBox (u.alloc (drvO d)) u.heap.size d := Blk.new u _ _
theorem DBox.alloc {u : World} {g : Nat} {d : Drv} (h : DBox u g d) (x : Obj) : DBox (u.alloc x) g d := h.below ((Below.refl _ _).alloc (Nat.le_refl _) _)
theorem CpyD.of {w : World} {d : Drv} {ga gb gc : Nat} (h1 : w.heap.size ≤ ga ∧ w.heap.size ≤ gb ∧ w.heap.size ≤ gc) (h2 : ga < w.heap.size + 3 ∧ gb < w.heap.size + 3 ∧ gc < w.heap.size + 3)
    (h3 : ga ≠ gb ∧ ga ≠ gc ∧ gb ≠ gc) : CpyD w d ga gb gc (((w.alloc (drvO d)).alloc (drvO d)).alloc (drvO d)) := by
  have k1 := drvO_new w d
  have k2 := drvO_new (w.alloc (drvO d)) d
  have k3 := drvO_new ((w.alloc (drvO d)).alloc (drvO d)) d
  simp only [World.size_alloc] at k2 k3
  have hx : ∀ g, w.heap.size ≤ g → g < w.heap.size + 3 → DBox (((w.alloc (drvO d)).alloc (drvO d)).alloc (drvO d)) g d := fun g hg hg' => by
    rcases (show g = w.heap.size ∨ g = w.heap.size + 1 ∨ g = w.heap.size + 1 + 1 by omega) with rfl | rfl | rfl
    · exact (k1.alloc _).alloc _
    · exact k2.alloc _
    · exact k3
  exact ⟨(((Below.refl _ _).alloc (Nat.le_refl _) _).alloc (by simp) _).alloc (by simp; omega) _, h1, h3, hx _ h1.1 h2.1, hx _ h1.2.1 h2.2.1, hx _ h1.2.2 h2.2.2⟩
theorem CpyD.drew {w u : World} {d : Drv} {ga gb gc : Nat} (h : CpyD w d ga gb gc u) : CpyD w d ga gb gc u.drew := ⟨h.1.drew, h.2⟩
def putsD (u : World) (ga gb gc : Nat) : World := ((u.setCell ⟨ga, 1, none⟩ (.int .i64 2)).setCell ⟨gb, 4, none⟩ (.int .i64 15)).setCell ⟨gc, 3, none⟩ (.int .i64 3)
theorem CpyD.puts {w u : World} {d : Drv} {ga gb gc : Nat} (h : CpyD w d ga gb gc u) :
    (u.cell? ⟨ga, 1, none⟩ = some (.int .i64 d.room) ∧ u.frozen? ⟨ga, 1, none⟩ = false) ∧
    ((u.setCell ⟨ga, 1, none⟩ (.int .i64 2)).cell? ⟨gb, 4, none⟩ = some (.int .i64 d.win.to) ∧ (u.setCell ⟨ga, 1, none⟩ (.int .i64 2)).frozen? ⟨gb, 4, none⟩ = false) ∧
    (((u.setCell ⟨ga, 1, none⟩ (.int .i64 2)).setCell ⟨gb, 4, none⟩ (.int .i64 15)).cell? ⟨gc, 3, none⟩ = some (.int .i64 d.win.fr) ∧ ((u.setCell ⟨ga, 1, none⟩ (.int .i64 2)).setCell ⟨gb, 4, none⟩ (.int .i64 15)).frozen? ⟨gc, 3, none⟩ = false) ∧
    Below w.heap.size w (putsD u ga gb gc) ∧ DBox (putsD u ga gb gc) ga ⟨d.id, 2, d.home, d.win, d.retired⟩ ∧ DBox (putsD u ga gb gc) gb ⟨d.id, d.room, d.home, ⟨d.win.fr, 15⟩, d.retired⟩ ∧ DBox (putsD u ga gb gc) gc ⟨d.id, d.room, d.home, ⟨3, d.win.to⟩, d.retired⟩ := by
  obtain ⟨hb, ⟨g1, g2, g3⟩, ⟨n1, n2, n3⟩, a0, b0, c0⟩ := h
  have a1 : DBox (u.setCell ⟨ga, 1, none⟩ (.int .i64 2)) ga ⟨d.id, 2, d.home, d.win, d.retired⟩ := Blk.put a0 1 _
  have b1 : DBox (u.setCell ⟨ga, 1, none⟩ (.int .i64 2)) gb d := b0.other (Ne.symm n1)
  have c1 : DBox (u.setCell ⟨ga, 1, none⟩ (.int .i64 2)) gc d := c0.other (Ne.symm n2)
  have b2 : DBox ((u.setCell ⟨ga, 1, none⟩ (.int .i64 2)).setCell ⟨gb, 4, none⟩ (.int .i64 15)) gb ⟨d.id, d.room, d.home, ⟨d.win.fr, 15⟩, d.retired⟩ := Blk.put b1 4 _
  have c2 := c1.other (i := 4) (v := .int .i64 15) (Ne.symm n3)
  have c3 : DBox (putsD u ga gb gc) gc ⟨d.id, d.room, d.home, ⟨3, d.win.to⟩, d.retired⟩ := Blk.put c2 3 _
  exact ⟨⟨Blk.cell a0 rfl, Blk.free a0 1⟩, ⟨Blk.cell b1 rfl, Blk.free b1 4⟩, ⟨Blk.cell c2 rfl, Blk.free c2 3⟩, ((hb.setCell g1 _).setCell g2 _).setCell g3 _, (a1.other n1).other n2, b2.other n3, c3⟩

#print axioms Cpy.puts
end Go.Proofs.Ytofkhpcigjcegaa.Deal
