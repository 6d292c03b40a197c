/-
  What the statements of chapters 7 and 8 share: boxes, a drive of the program at any world behind another, rows of the call's own. No statement is named here.
-/
import Derived.Test.YtpigklkidagolaaRouteDrivesP
import Derived.Test.YtpigklkidagolaaKeepAll
import Derived.Test.YtpigklkidagolaaLibRows
import Derived.Deep.DeepCutAuto
namespace Go.Proofs.Ytpigklkidagolaa.Route
open Go.ChangeShapes Go.WideShapes Go.ChangeAt Go.RowKit Go.Proofs.Ytpigklkidagolaa.Mem Go.Proofs.Ytpigklkidagolaa.GeoMath Go.Proofs.Ytpigklkidagolaa.FleetMath Go.Proofs.Ytpigklkidagolaa.Rec Go.Proofs.Ytpigklkidagolaa.Geo Go.Proofs.Ytpigklkidagolaa.Span Go.Proofs.Ytpigklkidagolaa.Deal Go.Proofs.Ytpigklkidagolaa.Keep
set_option linter.unusedVariables false

def runO : FleetMath.Ord := ⟨1, 3, ⟨0, ⟨2, 9⟩, 1⟩, ⟨1, ⟨0, 20⟩, 2⟩⟩
def runD : Drv := ⟨4, 3, 1, ⟨1, 30⟩, false⟩
def runM : Mp := ⟨2, [0, 5, 7, 0]⟩
/-- what stays through the runs: the map, blocks that are known whole -/
def RB (W : World) (q : Option Addr) (bx : List (Nat × TypeId × List Value)) (u : World) : Prop :=
  Below W.heap.size W u ∧ MapP u 82 W.heap.size (.pointer q) (some runM) ∧ ∀ p ∈ bx, Blk u p.1 p.2.1 p.2.2
theorem RB.below {W u u' : World} {q : Option Addr} {bx : List (Nat × TypeId × List Value)} (h : RB W q bx u) (hb : Below u.heap.size u u') : RB W q bx u' :=
  ⟨h.1.trans (hb.mono h.1.size), h.2.1.keep hb, fun p hp => (h.2.2 p hp).below hb (h.2.2 p hp).lt⟩
theorem RB.alloc {W u : World} {q : Option Addr} {bx : List (Nat × TypeId × List Value)} (h : RB W q bx u) (t : TypeId) (vs : List Value) : RB W q ((u.heap.size, t, vs) :: bx) (u.alloc (.cells vs.toArray t)) := by
  have h' := h.below ((Below.refl _ _).alloc (Nat.le_refl _) (.cells vs.toArray t))
  refine ⟨h'.1, h'.2.1, fun p hp => ?_⟩
  rcases List.mem_cons.1 hp with rfl | hp
  · exact Blk.new u t vs
  · exact h'.2.2 p hp
theorem RB.at_ {W u : World} {q : Option Addr} {bx : List (Nat × TypeId × List Value)} (h : RB W q bx u) {g : Nat} {t : TypeId} {vs : List Value} (hp : (g, t, vs) ∈ bx) : Blk u g t vs := h.2.2 _ hp
theorem ords_blk {u : World} {g n : Nat} {t : TypeId} {l : List FleetMath.Ord} (h : Blk u g t (ordsV l)) (hl : l.length = n) (hn : n ≤ 64) : Ords u u.heap.size (some ⟨g, 0, none⟩) n l :=
  ⟨by rw [ordsV_len, hl], by unfold maxLen; omega, fun _ => ⟨g, 0, rfl, h.lt, fun j u hu => by rw [Nat.zero_add]; exact h.cell hu⟩⟩
theorem stps_blk {u : World} {g n : Nat} {t : TypeId} {l : List Stp} (h : Blk u g t (stpsV l)) (hl : l.length = n) (hn : n ≤ 64) : Stps u u.heap.size (some ⟨g, 0, none⟩) n l :=
  ⟨by rw [stpsV_len, hl], by unfold maxLen; omega, fun _ => ⟨g, 0, rfl, h.lt, fun j u hu => by rw [Nat.zero_add]; exact h.cell hu⟩⟩
/-- a drive of the runs: its fault, and nothing else -/
theorem run_fault_call (W : World) (q : Option Addr) (bx : List (Nat × TypeId × List Value)) (A : Option Addr) (n c : Nat) (os : List FleetMath.Ord) (A' : Option Addr) (n' c' : Nat) (stops : List Stp) (k : Nat) (e : Int) (u : World) (h : RB W q bx u) (ho : Ords u u.heap.size A n os) (hs : Stps u u.heap.size A' n' stops) (hcc : n' ≤ c') (hnc : n ≤ c) (hd : (drive (some runM) runD os stops).2 = (k, e)) :
    Calls Try.prog 47 #[.pointer q, drvV runD, .slice A n c, .slice A' n' c'] u fun en u' => ∃ B m c2, en = .returned (.tuple #[.slice B m c2, faultV k e]) ∧ RB W q bx u' ∧ Below u.heap.size u u' := by
  refine (gdrive_any W.heap.size _ _ runD A n c os A' n' c' stops u h.2.1 ho hs hcc hnc).mono ?_
  rintro en u' ⟨hb, v, rfl, hv⟩
  rw [hd]
  obtain ⟨B, c2, rfl⟩ := hv.slice
  exact ⟨B, _, c2, rfl, h.below hb, hb⟩
theorem run_visit_call (W : World) (q : Option Addr) (bx : List (Nat × TypeId × List Value)) (A : Option Addr) (n c : Nat) (os : List FleetMath.Ord) (A' : Option Addr) (n' c' : Nat) (stops : List Stp) (x y : Vis) (u : World) (h : RB W q bx u) (ho : Ords u u.heap.size A n os) (hs : Stps u u.heap.size A' n' stops) (hcc : n' ≤ c') (hnc : n ≤ c) (hd : drive (some runM) runD os stops = ([x, y], 0, 0)) :
    Calls Try.prog 47 #[.pointer q, drvV runD, .slice A n c, .slice A' n' c'] u fun en u' => ∃ g off c2, en = .returned (.tuple #[.slice (some ⟨g, off, none⟩) 2 c2, faultV 0 0]) ∧ RB W q bx u' ∧ Viss u' u'.heap.size (some ⟨g, off, none⟩) 2 [x, y] := by
  refine (gdrive_any W.heap.size _ _ runD A n c os A' n' c' stops u h.2.1 ho hs hcc hnc).mono ?_
  rintro en u' ⟨hb, v, rfl, hv⟩
  rw [hd] at hv ⊢
  obtain ⟨B, c2, rfl, _, hr⟩ := hv.read
  obtain ⟨g, off, rfl, _⟩ := hr.2.2 (by simp)
  exact ⟨g, off, c2, rfl, h.below hb, hr⟩
/-- a fault in a block of its own -/
def FBox (u : World) (g k : Nat) (e : Int) : Prop := Blk u g 75 [.int .i64 k, .int .i64 e]
theorem FBox.below {u u' : World} {g k : Nat} {e : Int} (h : FBox u g k e) (hb : Below u.heap.size u u') : FBox u' g k e := Blk.below h hb (Blk.lt h)
theorem FBox.cells {u : World} {g k : Nat} {e : Int} (h : FBox u g k e) : u.cell? ⟨g, 0, none⟩ = some (.int .i64 k) ∧ u.cell? ⟨g, 1, none⟩ = some (.int .i64 e) := ⟨Blk.cell h rfl, Blk.cell h rfl⟩
theorem fgood_any (k : Nat) (e : Int) (w : World) : Calls Try.prog 26 #[faultV k e] w (Gives w (.bool (e == 0))) := by
  go_enter Try.func26, Try.ntmps26
  go_wp2
  go_ret
  exact ⟨rfl, (Below.refl _ _).alloc (Nat.le_refl _) _⟩
/-- what stays through the statements of chapter 7: the map, the world, the driver that was handed in, the lists -/
structure LR (W : World) (q : Option Addr) (m : Option Mp) (x : Wd) (os : List FleetMath.Ord) (d : Drv) (A : Option Addr) (n : Nat) (stops : List Stp) (u : World) : Prop where
  old : Below W.heap.size W u
  map : MapP u 82 W.heap.size (.pointer q) m
  wd : WBox u W.heap.size x
  drv : DBox u (W.heap.size + 1) d
  os0 : Ords W W.heap.size x.os.a x.os.n os
  stops0 : Stps W W.heap.size A n stops
section
variable {W u u' : World} {q : Option Addr} {m : Option Mp} {x : Wd} {os : List FleetMath.Ord} {d : Drv} {A : Option Addr} {n : Nat} {stops : List Stp}
theorem LR.below (h : LR W q m x os d A n stops u) (hb : Below u.heap.size u u') : LR W q m x os d A n stops u' :=
  ⟨h.old.trans (hb.mono h.old.size), h.map.keep hb, h.wd.below hb, h.drv.below hb, h.os0, h.stops0⟩
theorem LR.ords (h : LR W q m x os d A n stops u) : Ords u u.heap.size x.os.a x.os.n os := Recs.more (Recs.keep h.os0 h.old) h.old.size
theorem LR.stps (h : LR W q m x os d A n stops u) : Stps u u.heap.size A n stops := Recs.more (Recs.keep h.stops0 h.old) h.old.size
theorem LR.alloc (h : LR W q m x os d A n stops u) (o : Obj) : LR W q m x os d A n stops (u.alloc o) := h.below ((Below.refl _ _).alloc (Nat.le_refl _) _)
end
/-- a driver in a block made behind w -/
def MDr (w : World) (d : Drv) (g : Nat) (u : World) : Prop := Below w.heap.size w u ∧ w.heap.size ≤ g ∧ DBox u g d
theorem MDr.new (w : World) (d : Drv) : MDr w d w.heap.size (w.alloc (.cells #[.int .i64 d.id, .int .i64 d.room, .int .i64 d.home, .int .i64 d.win.fr, .int .i64 d.win.to, .bool d.retired] 33)) := ⟨(Below.refl _ _).alloc (Nat.le_refl _) _, Nat.le_refl _, Blk.new w _ _⟩
/-- one drive of the program, by what the document says of it -/
theorem ldrive (W : World) (q : Option Addr) (m : Option Mp) (x : Wd) (os : List FleetMath.Ord) (d d' : Drv) (A : Option Addr) (n c : Nat) (stops : List Stp) (vs : List Vis) (k : Nat) (e : Int) (u : World) (h : LR W q m x os d A n stops u) (hc : n ≤ c) (hd : drive m d' os stops = (vs, k, e)) :
    Calls Try.prog 47 #[.pointer q, drvV d', .slice x.os.a x.os.n x.os.c, .slice A n c] u fun en u' => ∃ B c2, en = .returned (.tuple #[.slice B vs.length c2, faultV k e]) ∧ Below u.heap.size u u' ∧ Viss u' u'.heap.size B vs.length vs := by
  refine (gdrive_any W.heap.size _ m d' _ _ _ os A n c stops u h.map h.ords h.stps hc x.os.h).mono ?_
  rintro en u' ⟨hb, v, rfl, hv⟩
  rw [hd] at hv ⊢
  obtain ⟨B, c2, rfl, _, hr⟩ := hv.read
  exact ⟨B, c2, rfl, hb, hr⟩

abbrev mkS : Stp := ⟨-4, false⟩
abbrev mkO : FleetMath.Ord := ⟨-3, 0, ⟨0, ⟨0, 0⟩, 0⟩, ⟨0, ⟨0, 0⟩, 0⟩⟩
theorem _root_.Go.Proofs.Ytpigklkidagolaa.Mem.OwnK.read' {w : World} {base k n c : Nat} {e : TypeId} {v : Value} {vs : List Value} {B : Option Addr} (h : OwnK w base e k v n vs) (hv : v = .slice B n c) : Recs w w.heap.size B n k vs := by
  obtain ⟨A, c', rfl, _, hr⟩ := h.read
  injection hv with h1
  rw [← h1]
  exact hr
theorem optV_form7 (o : Option Int) : ∃ v b, optV o = .tuple #[.int .i64 v, .bool b] := by cases o <;> exact ⟨_, _, rfl⟩
theorem below_put2 {B : Nat} {a w : World} (h : Below B a w) (x y : Value) : Below B a ((w.setCell ⟨B, 0, none⟩ x).setCell ⟨B, 1, none⟩ y) := (h.setCell (Nat.le_refl _) _).setCell (Nat.le_refl _) _
/-- a drive was made behind w3: its visits, its fault in a block of its own -/
structure DM (w3 : World) (va : Value) (vs : List Vis) (g k : Nat) (e : Int) (u : World) : Prop where
  on : Below w3.heap.size w3 u
  own : OwnK u w3.heap.size 110 6 va vs.length (vissV vs)
  flt : FBox u g k e
section
variable {w3 u u' : World} {va : Value} {vs : List Vis} {g k : Nat} {e : Int}
theorem DM.below (h : DM w3 va vs g k e u) (hb : Below u.heap.size u u') : DM w3 va vs g k e u' := ⟨h.on.trans (hb.mono h.on.size), h.own.keep hb (Nat.le_refl _), h.flt.below hb⟩
/-- the box of the fault is made behind the call, or ahead of it -/
theorem DM.behind (h1 : Below w3.heap.size w3 u) (h2 : Below u.heap.size u u') (ho : OwnK u' u.heap.size 110 6 va vs.length (vissV vs)) : DM w3 va vs u'.heap.size k e (u'.alloc (.cells #[.int .i64 k, .int .i64 e] 75)) :=
  ⟨(h1.trans (h2.mono h1.size)).alloc (h1.trans (h2.mono h1.size)).size _, (ho.lower h1.size).alloc _, Blk.new u' _ _⟩
theorem box_kept {v : List Value} {t : TypeId} {w w' : World} (hb : Below (w.alloc (.cells v.toArray t)).drew.heap.size (w.alloc (.cells v.toArray t)).drew w') : Blk w' w.heap.size t v := by
  have h : Blk (w.alloc (.cells v.toArray t)).drew w.heap.size t v := Blk.new w t v
  exact h.below hb h.lt
theorem DM.ahead {o : Obj} {v0 v1 : Value} (h2 : Below (w3.alloc o).drew.heap.size (w3.alloc o).drew u') (hf : Blk u' w3.heap.size 75 [v0, v1]) (ho : OwnK u' (w3.alloc o).drew.heap.size 110 6 va vs.length (vissV vs)) :
    DM w3 va vs w3.heap.size k e ((u'.setCell ⟨w3.heap.size, 0, none⟩ (.int .i64 k)).setCell ⟨w3.heap.size, 1, none⟩ (.int .i64 e)) := by
  have h1 : Below w3.heap.size w3 (w3.alloc o).drew := ((Below.refl _ _).alloc (Nat.le_refl _) _).drew
  have h3 : Only w3.heap.size u' ((u'.setCell ⟨w3.heap.size, 0, none⟩ (.int .i64 k)).setCell ⟨w3.heap.size, 1, none⟩ (.int .i64 e)) := ((Only.refl _ _).set 0 _).set 1 _
  have h4 : (w3.alloc o).drew.heap.size = w3.heap.size + 1 := by show (w3.alloc o).heap.size = _; simp
  refine ⟨(h1.trans (h2.mono h1.size)).trans h3.below, (h3.own ho (by omega)).lower h1.size, (hf.put 0 _).put 1 _⟩
end
section
variable {W w3 u : World} {q : Option Addr} {m : Option Mp} {x : Wd} {os : List FleetMath.Ord} {d : Drv} {A : Option Addr} {n : Nat} {stops : List Stp}
theorem grown_box {a w' : World} {v v' : Value} {g lo : Nat} {t : TypeId} {vs : List Value} (hg : a.grownBy w' v.ownBlock) (ho : v'.ownBlock = v.ownBlock ∨ v'.ownBlock = some a.heap.size) (hb : Blk a g t vs) (hn : v.ownBlock ≠ some g) (hlo : lo ≤ g) : Blk w' g t vs ∧ v'.ownBlock ≠ some g ∧ lo ≤ g := by
  refine ⟨(hg.block g hb.lt fun e => hn e.symm).trans hb, ?_, hlo⟩
  rcases ho with h | h
  · rw [h]; exact hn
  · rw [h]
    intro e
    injection e with e
    have := hb.lt
    omega
/-- which world is it? -/
theorem at_world (w : World) {ops : Array Oper} {o : Oper} {a : Act} {K : Act → World → Prop} {Q : Exit → Act → World → Prop} {E : Prop} (h : if Region.wanted o (yielded ops a.tmps) = true then Oper.wp Try.prog o a w K Q else E) : if Region.wanted o (yielded ops a.tmps) = true then Oper.wp Try.prog o a w K Q else E := h
theorem at_calls (w : World) {f : Nat} {args : Array Value} {Q : Ending → World → Prop} (h : Calls Try.prog f args w Q) : Calls Try.prog f args w Q := h
theorem below_put2g {B g : Nat} {a w : World} (h : Below B a w) (hg : B ≤ g) (x y : Value) : Below B a ((w.setCell ⟨g, 0, none⟩ x).setCell ⟨g, 1, none⟩ y) := (h.setCell hg _).setCell hg _
theorem stps_own {w : World} {base n c : Nat} {A : Option Addr} {l l' : List Stp} (h : OwnK w base 36 2 (.slice A n c) n ([] ++ stpsV l ++ stpsV l')) : Stps w w.heap.size A n (l ++ l') ∧ n ≤ c := by
  obtain ⟨A', c', e1, hc, hr⟩ := h.read
  injection e1 with e1 _ e2
  subst e1; subst e2
  rw [List.nil_append, ← stpsV_append] at hr
  exact ⟨hr, hc⟩
theorem _root_.Go.Proofs.Ytpigklkidagolaa.Mem.OwnK.cap {w : World} {base k n c : Nat} {e : TypeId} {vs : List Value} {B : Option Addr} (h : OwnK w base e k (.slice B n c) n vs) : n ≤ c := by
  obtain ⟨A, c', e1, hc, _⟩ := h.read
  injection e1 with _ _ e1
  omega
theorem _root_.Go.Proofs.Ytpigklkidagolaa.Mem.OwnK.lt {w : World} {base k n : Nat} {e : TypeId} {v : Value} {vs : List Value} (h : OwnK w base e k v n vs) : v.ownBlock ≠ some w.heap.size := by
  rcases h.blk with ⟨rfl, _⟩ | ⟨g, cap, cur, rfl, _, hb, _⟩
  · intro e; cases e
  · intro e
    injection e with e
    have := hb.lt
    simp only at e
    omega
/-- the box of the fault was made earlier -/
theorem DM.early {w' u2 : World} {va : Value} {vs : List Vis} {g k : Nat} {e : Int} {v0 v1 : Value} (h1 : Below w3.heap.size w3 w') (hu : w3.heap.size ≤ u2.heap.size) (hg : w3.heap.size ≤ g) (hgu : g < u2.heap.size) (hf : Blk w' g 75 [v0, v1]) (ho : OwnK w' u2.heap.size 110 6 va vs.length (vissV vs)) :
    DM w3 va vs g k e ((w'.setCell ⟨g, 0, none⟩ (.int .i64 k)).setCell ⟨g, 1, none⟩ (.int .i64 e)) := by
  have h3 : Only g w' ((w'.setCell ⟨g, 0, none⟩ (.int .i64 k)).setCell ⟨g, 1, none⟩ (.int .i64 e)) := ((Only.refl _ _).set 0 _).set 1 _
  exact ⟨h1.trans (h3.below.mono hg), (h3.own ho hgu).lower hu, (hf.put 0 _).put 1 _⟩
/-- a drive through other stops, at any world behind w3 -/
theorem LR.drive_on (h : LR W q m x os d A n stops w3) (hu : Below w3.heap.size w3 u) {A' : Option Addr} {n' c' B' : Nat} {stops' : List Stp} (hs : Stps u B' A' n' stops') (hB : B' ≤ u.heap.size) (hcc : n' ≤ c') (vs : List Vis) (k : Nat) (e : Int) (hd : drive m d os stops' = (vs, k, e)) :
    Calls Try.prog 47 #[.pointer q, drvV d, .slice x.os.a x.os.n x.os.c, .slice A' n' c'] u fun en u' => ∃ B c2, en = .returned (.tuple #[.slice B vs.length c2, faultV k e]) ∧ Below w3.heap.size w3 u' ∧ Below u.heap.size u u' ∧ Hid (OwnK u' u.heap.size 110 6 (.slice B vs.length c2) vs.length (vissV vs)) := by
  have h := h.below hu
  refine (gdrive_any W.heap.size _ m d _ _ _ os A' n' c' stops' u h.map h.ords (Recs.more hs hB) hcc x.os.h).mono ?_
  rintro en u' ⟨hb, v, rfl, hv⟩
  rw [hd] at hv ⊢
  obtain ⟨B, c2, rfl, _, hr⟩ := hv.read
  exact ⟨B, c2, rfl, hu.trans (hb.mono hu.size), hb, hv⟩
theorem LR.cells (h : LR W q m x os d A n stops u) : (u.cell? ⟨W.heap.size + 1, 0, none⟩ = some (.int .i64 d.id) ∧ u.cell? ⟨W.heap.size + 1, 1, none⟩ = some (.int .i64 d.room) ∧ u.cell? ⟨W.heap.size + 1, 2, none⟩ = some (.int .i64 d.home) ∧ u.cell? ⟨W.heap.size + 1, 3, none⟩ = some (.int .i64 d.win.fr) ∧ u.cell? ⟨W.heap.size + 1, 4, none⟩ = some (.int .i64 d.win.to) ∧ u.cell? ⟨W.heap.size + 1, 5, none⟩ = some (.bool d.retired)) ∧ u.cell? ⟨W.heap.size, 3, none⟩ = some (.slice x.os.a x.os.n x.os.c) := ⟨h.drv.cells, h.wd.cells.2.2.2.1⟩
end
abbrev ordL (o : FleetMath.Ord) : List Value := [.int .i64 o.id, .int .i64 o.size, .int .i64 o.pick.place, .int .i64 o.pick.win.fr, .int .i64 o.pick.win.to, .int .i64 o.pick.serv, .int .i64 o.drop.place, .int .i64 o.drop.win.fr, .int .i64 o.drop.win.to, .int .i64 o.drop.serv]
theorem ordsV_single (o : FleetMath.Ord) : ordsV [o] = ordL o := rfl
/-- two lists of orders of the call's own, apart from one another -/
structure Rows2 (w2 : World) (sv tv : Value) (ss tt : List FleetMath.Ord) (u : World) : Prop where
  on : Below w2.heap.size w2 u
  s : OwnK u w2.heap.size 31 10 sv ss.length (ordsV ss)
  t : OwnK u w2.heap.size 31 10 tv tt.length (ordsV tt)
  ne : ∀ g, sv.ownBlock = some g → tv.ownBlock ≠ some g
section
variable {w2 u u' : World} {sv tv v' : Value} {ss tt : List FleetMath.Ord} {o : FleetMath.Ord}
theorem Rows2.start (w2 : World) : Rows2 w2 (.slice none 0 0) (.slice none 0 0) [] [] w2 := ⟨Below.refl _ _, OwnK.nil _ _ _ _, OwnK.nil _ _ _ _, fun g h => by cases h⟩
theorem Rows2.below (h : Rows2 w2 sv tv ss tt u) (hb : Below u.heap.size u u') : Rows2 w2 sv tv ss tt u' := ⟨h.on.trans (hb.mono h.on.size), h.s.keep hb (Nat.le_refl _), h.t.keep hb (Nat.le_refl _), h.ne⟩
theorem own_lt {w : World} {base k n : Nat} {e : TypeId} {v : Value} {vs : List Value} (h : OwnK w base e k v n vs) {g : Nat} (hg : v.ownBlock = some g) : base ≤ g ∧ g < w.heap.size := by
  rcases h.blk with ⟨rfl, _⟩ | ⟨g', cap, cur, rfl, h1, hb, _⟩
  · cases hg
  · have : g' = g := by simpa [Value.ownBlock] using hg
    subst this
    exact ⟨h1, hb.lt⟩
/-- an order appended onto the second list -/
theorem Rows2.addT (h : Rows2 w2 sv tv ss tt u) (ho : OwnK u' w2.heap.size 31 10 v' (tt.length + 1) (ordsV tt ++ ordL o)) (hg : u.grownBy u' tv.ownBlock) (hn : v'.ownBlock = tv.ownBlock ∨ v'.ownBlock = some u.heap.size) : Rows2 w2 sv v' ss (tt ++ [o]) u' := by
  refine ⟨h.t.below h.on hg h.on.size (Nat.le_refl _), h.s.other hg fun g e => h.ne g e, ?_, fun g e => ?_⟩
  · rw [ordsV_append, ordsV_single, List.length_append]
    exact ho
  · rcases hn with hn | hn
    · rw [hn]; exact h.ne g e
    · rw [hn]
      intro e2
      injection e2 with e2
      have := own_lt h.s e
      omega
theorem Rows2.swap (h : Rows2 w2 sv tv ss tt u) : Rows2 w2 tv sv tt ss u := ⟨h.on, h.t, h.s, fun g e e2 => h.ne g e2 e⟩
theorem Rows2.addS (h : Rows2 w2 sv tv ss tt u) (ho : OwnK u' w2.heap.size 31 10 v' (ss.length + 1) (ordsV ss ++ ordL o)) (hg : u.grownBy u' sv.ownBlock) (hn : v'.ownBlock = sv.ownBlock ∨ v'.ownBlock = some u.heap.size) : Rows2 w2 v' tv (ss ++ [o]) tt u' := (h.swap.addT ho hg hn).swap
end
theorem ordL_one (o : FleetMath.Ord) : ∀ v ∈ ordL o, v.oneCell' = true := by
  have := ordsV_one [o]
  rwa [ordsV_single] at this
section
variable {W u : World} {q : Option Addr} {m : Option Mp} {x : Wd} {os : List FleetMath.Ord} {d : Drv} {A : Option Addr} {n : Nat} {stops : List Stp}
/-- a drive over other orders -/
theorem LR.drive_of (h : LR W q m x os d A n stops u) {A' : Option Addr} {n' c' c : Nat} {ps : List FleetMath.Ord} (hp : Ords u u.heap.size A' n' ps) (hpc : n' ≤ c') (hc : n ≤ c) (vs : List Vis) (k : Nat) (e : Int) (hd : drive m d ps stops = (vs, k, e)) :
    Calls Try.prog 47 #[.pointer q, drvV d, .slice A' n' c', .slice A n c] u fun en u' => ∃ B c2, en = .returned (.tuple #[.slice B vs.length c2, faultV k e]) ∧ Below u.heap.size u u' ∧ Viss u' u'.heap.size B vs.length vs := by
  refine (gdrive_any W.heap.size _ m d A' n' c' ps A n c stops u h.map hp h.stps hc hpc).mono ?_
  rintro en u' ⟨hb, v, rfl, hv⟩
  rw [hd] at hv ⊢
  obtain ⟨B, c2, rfl, _, hr⟩ := hv.read
  exact ⟨B, c2, rfl, hb, hr⟩
end

#print axioms LR.drive_of
end Go.Proofs.Ytpigklkidagolaa.Route
