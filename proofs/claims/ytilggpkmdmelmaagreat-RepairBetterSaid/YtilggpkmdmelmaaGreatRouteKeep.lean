import Derived.Test.YtilggpkmdmelmaaGreatRouteDrivesP
import Derived.Test.YtilggpkmdmelmaaGreatKeepMaps
import Derived.Test.YtilggpkmdmelmaaGreatLibRows
import Derived.Deep.DeepCutAuto
namespace Go.Proofs.YtilggpkmdmelmaaGreat.Route
open Go.ChangeShapes Go.WideShapes Go.ChangeAt Go.RowKit Go.Proofs.YtilggpkmdmelmaaGreat.Mem Go.Proofs.YtilggpkmdmelmaaGreat.GeoMath Go.Proofs.YtilggpkmdmelmaaGreat.FleetMath Go.Proofs.YtilggpkmdmelmaaGreat.Rec Go.Proofs.YtilggpkmdmelmaaGreat.Geo Go.Proofs.YtilggpkmdmelmaaGreat.Span Go.Proofs.YtilggpkmdmelmaaGreat.Deal Go.Proofs.YtilggpkmdmelmaaGreat.Keep
set_option linter.unusedVariables false
def runM : Mp := ⟨2, [0, 5, 7, 0]⟩
def RB (W : World) (q : Option Addr) (bx : List (Nat × TypeId × List Value)) (u : World) : Prop :=
  Below W.heap.size W u ∧ MapP u 74 W.heap.size (.pointer q) (some runM) ∧ ∀ p ∈ bx, Blk u p.1 p.2.1 p.2.2
theorem RB.below {W u u' : World} {q : Option Addr} {bx : List (Nat × TypeId × List Value)} (h : RB W q bx u) (hb : Below u.heap.size u u') : RB W q bx u' :=
  ⟨h.1.trans (hb.mono h.1.size), h.2.1.keep hb, fun p hp => (h.2.2 p hp).below hb (h.2.2 p hp).lt⟩
theorem RB.alloc {W u : World} {q : Option Addr} {bx : List (Nat × TypeId × List Value)} (h : RB W q bx u) (t : TypeId) (vs : List Value) : RB W q ((u.heap.size, t, vs) :: bx) (u.alloc (.cells vs.toArray t)) := by
  have h' := h.below ((Below.refl _ _).alloc (Nat.le_refl _) (.cells vs.toArray t))
  refine ⟨h'.1, h'.2.1, fun p hp => ?_⟩
  rcases List.mem_cons.1 hp with rfl | hp
  · exact Blk.new u t vs
  · exact h'.2.2 p hp
theorem RB.at_ {W u : World} {q : Option Addr} {bx : List (Nat × TypeId × List Value)} (h : RB W q bx u) {g : Nat} {t : TypeId} {vs : List Value} (hp : (g, t, vs) ∈ bx) : Blk u g t vs := h.2.2 _ hp
def FBox (u : World) (g k : Nat) (e : Int) : Prop := Blk u g 63 [.int .i64 k, .int .i64 e]
theorem FBox.below {u u' : World} {g k : Nat} {e : Int} (h : FBox u g k e) (hb : Below u.heap.size u u') : FBox u' g k e := Blk.below h hb (Blk.lt h)
theorem FBox.cells {u : World} {g k : Nat} {e : Int} (h : FBox u g k e) : u.cell? ⟨g, 0, none⟩ = some (.int .i64 k) ∧ u.cell? ⟨g, 1, none⟩ = some (.int .i64 e) := ⟨Blk.cell h rfl, Blk.cell h rfl⟩
theorem fgood_any (k : Nat) (e : Int) (w : World) : Calls Tryz.prog 18 #[faultV k e] w (Gives w (.bool (e == 0))) := by
  go_enter Tryz.func18, Tryz.ntmps18
  go_wp2
  go_ret
  exact ⟨rfl, (Below.refl _ _).alloc (Nat.le_refl _) _⟩
structure LR (W : World) (q : Option Addr) (m : Option Mp) (x : Wd) (os : List FleetMath.Ord) (d : Drv) (A : Option Addr) (n : Nat) (stops : List Stp) (u : World) : Prop where
  old : Below W.heap.size W u
  map : MapP u 74 W.heap.size (.pointer q) m
  wd : WBox u W.heap.size x
  drv : DBox u (W.heap.size + 1) d
  os0 : Ords W W.heap.size x.os.a x.os.n os
  stops0 : Stps W W.heap.size A n stops
section
variable {W u u' : World} {q : Option Addr} {m : Option Mp} {x : Wd} {os : List FleetMath.Ord} {d : Drv} {A : Option Addr} {n : Nat} {stops : List Stp}
theorem LR.below (h : LR W q m x os d A n stops u) (hb : Below u.heap.size u u') : LR W q m x os d A n stops u' :=
  ⟨h.old.trans (hb.mono h.old.size), h.map.keep hb, h.wd.below hb, h.drv.below hb, h.os0, h.stops0⟩
theorem LR.ords (h : LR W q m x os d A n stops u) : Ords u u.heap.size x.os.a x.os.n os := Recs.more (Recs.keep h.os0 h.old) h.old.size
theorem LR.stps (h : LR W q m x os d A n stops u) : Stps u u.heap.size A n stops := Recs.more (Recs.keep h.stops0 h.old) h.old.size
theorem LR.alloc (h : LR W q m x os d A n stops u) (o : Obj) : LR W q m x os d A n stops (u.alloc o) := h.below ((Below.refl _ _).alloc (Nat.le_refl _) _)
end
def MDr (w : World) (d : Drv) (g : Nat) (u : World) : Prop := Below w.heap.size w u ∧ w.heap.size ≤ g ∧ DBox u g d
theorem MDr.new (w : World) (d : Drv) : MDr w d w.heap.size (w.alloc (.cells #[.int .i64 d.id, .int .i64 d.room, .int .i64 d.home, .int .i64 d.win.fr, .int .i64 d.win.to, .bool d.retired] 33)) := ⟨(Below.refl _ _).alloc (Nat.le_refl _) _, Nat.le_refl _, Blk.new w _ _⟩
theorem below_put2 {B : Nat} {a w : World} (h : Below B a w) (x y : Value) : Below B a ((w.setCell ⟨B, 0, none⟩ x).setCell ⟨B, 1, none⟩ y) := (h.setCell (Nat.le_refl _) _).setCell (Nat.le_refl _) _
structure DM (w3 : World) (va : Value) (vs : List Vis) (g k : Nat) (e : Int) (u : World) : Prop where
  on : Below w3.heap.size w3 u
  own : OwnK u w3.heap.size 102 6 va vs.length (vissV vs)
  flt : FBox u g k e
section
variable {w3 u u' : World} {va : Value} {vs : List Vis} {g k : Nat} {e : Int}
theorem DM.below (h : DM w3 va vs g k e u) (hb : Below u.heap.size u u') : DM w3 va vs g k e u' := ⟨h.on.trans (hb.mono h.on.size), h.own.keep hb (Nat.le_refl _), h.flt.below hb⟩
theorem DM.behind (h1 : Below w3.heap.size w3 u) (h2 : Below u.heap.size u u') (ho : OwnK u' u.heap.size 102 6 va vs.length (vissV vs)) : DM w3 va vs u'.heap.size k e (u'.alloc (.cells #[.int .i64 k, .int .i64 e] 63)) :=
  ⟨(h1.trans (h2.mono h1.size)).alloc (h1.trans (h2.mono h1.size)).size _, (ho.lower h1.size).alloc _, Blk.new u' _ _⟩
theorem box_kept {v : List Value} {t : TypeId} {w w' : World} (hb : Below (w.alloc (.cells v.toArray t)).drew.heap.size (w.alloc (.cells v.toArray t)).drew w') : Blk w' w.heap.size t v := by
  have h : Blk (w.alloc (.cells v.toArray t)).drew w.heap.size t v := Blk.new w t v
  exact h.below hb h.lt
theorem DM.ahead {o : Obj} {v0 v1 : Value} (h2 : Below (w3.alloc o).drew.heap.size (w3.alloc o).drew u') (hf : Blk u' w3.heap.size 63 [v0, v1]) (ho : OwnK u' (w3.alloc o).drew.heap.size 102 6 va vs.length (vissV vs)) :
    DM w3 va vs w3.heap.size k e ((u'.setCell ⟨w3.heap.size, 0, none⟩ (.int .i64 k)).setCell ⟨w3.heap.size, 1, none⟩ (.int .i64 e)) := by
  have h1 : Below w3.heap.size w3 (w3.alloc o).drew := ((Below.refl _ _).alloc (Nat.le_refl _) _).drew
  have h3 : Only w3.heap.size u' ((u'.setCell ⟨w3.heap.size, 0, none⟩ (.int .i64 k)).setCell ⟨w3.heap.size, 1, none⟩ (.int .i64 e)) := ((Only.refl _ _).set 0 _).set 1 _
  have h4 : (w3.alloc o).drew.heap.size = w3.heap.size + 1 := by show (w3.alloc o).heap.size = _; simp
  refine ⟨(h1.trans (h2.mono h1.size)).trans h3.below, (h3.own ho (by omega)).lower h1.size, (hf.put 0 _).put 1 _⟩
end
section
variable {W w3 u : World} {q : Option Addr} {m : Option Mp} {x : Wd} {os : List FleetMath.Ord} {d : Drv} {A : Option Addr} {n : Nat} {stops : List Stp}
theorem below_put2g {B g : Nat} {a w : World} (h : Below B a w) (hg : B ≤ g) (x y : Value) : Below B a ((w.setCell ⟨g, 0, none⟩ x).setCell ⟨g, 1, none⟩ y) := (h.setCell hg _).setCell hg _
theorem _root_.Go.Proofs.YtilggpkmdmelmaaGreat.Mem.OwnK.cap {w : World} {base k n c : Nat} {e : TypeId} {vs : List Value} {B : Option Addr} (h : OwnK w base e k (.slice B n c) n vs) : n ≤ c := by
  obtain ⟨A, c', e1, hc, _⟩ := h.read
  injection e1 with _ _ e1
  omega
theorem _root_.Go.Proofs.YtilggpkmdmelmaaGreat.Mem.OwnK.lt {w : World} {base k n : Nat} {e : TypeId} {v : Value} {vs : List Value} (h : OwnK w base e k v n vs) : v.ownBlock ≠ some w.heap.size := by
  rcases h.blk with ⟨rfl, _⟩ | ⟨g, cap, cur, rfl, _, hb, _⟩
  · intro e; cases e
  · intro e
    injection e with e
    have := hb.lt
    simp only at e
    omega
theorem LR.cells (h : LR W q m x os d A n stops u) : (u.cell? ⟨W.heap.size + 1, 0, none⟩ = some (.int .i64 d.id) ∧ u.cell? ⟨W.heap.size + 1, 1, none⟩ = some (.int .i64 d.room) ∧ u.cell? ⟨W.heap.size + 1, 2, none⟩ = some (.int .i64 d.home) ∧ u.cell? ⟨W.heap.size + 1, 3, none⟩ = some (.int .i64 d.win.fr) ∧ u.cell? ⟨W.heap.size + 1, 4, none⟩ = some (.int .i64 d.win.to) ∧ u.cell? ⟨W.heap.size + 1, 5, none⟩ = some (.bool d.retired)) ∧ u.cell? ⟨W.heap.size, 3, none⟩ = some (.slice x.os.a x.os.n x.os.c) := ⟨h.drv.cells, h.wd.cells.2.2.2.1⟩
end
abbrev ordL (o : FleetMath.Ord) : List Value := [.int .i64 o.id, .int .i64 o.size, .int .i64 o.pick.place, .int .i64 o.pick.win.fr, .int .i64 o.pick.win.to, .int .i64 o.pick.serv, .int .i64 o.drop.place, .int .i64 o.drop.win.fr, .int .i64 o.drop.win.to, .int .i64 o.drop.serv]
theorem ordsV_single (o : FleetMath.Ord) : ordsV [o] = ordL o := rfl
structure Rows2 (w2 : World) (sv tv : Value) (ss tt : List FleetMath.Ord) (u : World) : Prop where
  on : Below w2.heap.size w2 u
  s : OwnK u w2.heap.size 31 10 sv ss.length (ordsV ss)
  t : OwnK u w2.heap.size 31 10 tv tt.length (ordsV tt)
  ne : ∀ g, sv.ownBlock = some g → tv.ownBlock ≠ some g
section
variable {w2 u u' : World} {sv tv v' : Value} {ss tt : List FleetMath.Ord} {o : FleetMath.Ord}
theorem Rows2.start (w2 : World) : Rows2 w2 (.slice none 0 0) (.slice none 0 0) [] [] w2 := ⟨Below.refl _ _, OwnK.nil _ _ _ _, OwnK.nil _ _ _ _, fun g h => by cases h⟩
theorem Rows2.below (h : Rows2 w2 sv tv ss tt u) (hb : Below u.heap.size u u') : Rows2 w2 sv tv ss tt u' := ⟨h.on.trans (hb.mono h.on.size), h.s.keep hb (Nat.le_refl _), h.t.keep hb (Nat.le_refl _), h.ne⟩
end
theorem ordL_one (o : FleetMath.Ord) : ∀ v ∈ ordL o, v.oneCell' = true := by
  have := ordsV_one [o]
  rwa [ordsV_single] at this
section
variable {W u : World} {q : Option Addr} {m : Option Mp} {x : Wd} {os : List FleetMath.Ord} {d : Drv} {A : Option Addr} {n : Nat} {stops : List Stp}
end
end Go.Proofs.YtilggpkmdmelmaaGreat.Route
