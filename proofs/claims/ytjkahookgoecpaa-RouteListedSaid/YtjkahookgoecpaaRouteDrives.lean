/-
  RouteDrives walked.
-/
import Derived.Test.YtjkahookgoecpaaRouteLater
import Derived.Test.YtjkahookgoecpaaRecAll
import Derived.Test.YtjkahookgoecpaaLibRows
namespace Go.Proofs.Ytjkahookgoecpaa.Route
open Go.ChangeShapes Go.WideShapes Go.ChangeAt Go.RowKit Go.Proofs.Ytjkahookgoecpaa.Mem Go.Proofs.Ytjkahookgoecpaa.GeoMath Go.Proofs.Ytjkahookgoecpaa.FleetMath Go.Proofs.Ytjkahookgoecpaa.Rec Go.Proofs.Ytjkahookgoecpaa.Geo Go.Proofs.Ytjkahookgoecpaa.Span Go.Proofs.Ytjkahookgoecpaa.Deal Go.Proofs.Ytjkahookgoecpaa.Keep
set_option linter.unusedVariables false

abbrev mkS : Stp := ⟨-4, false⟩
abbrev mkO : FleetMath.Ord := ⟨-3, 0, ⟨0, ⟨0, 0⟩, 0⟩, ⟨0, ⟨0, 0⟩, 0⟩⟩
/-- what stays through RouteDrives: all of LR, the document's map, the two copies with marks behind; and it is behind w3 -/
structure DR (W w3 : World) (q r : Option Addr) (m : Option Mp) (x : Wd) (os : List FleetMath.Ord) (d : Drv) (A : Option Addr) (n : Nat) (stops : List Stp) (gs gl : Nat) (u : World) : Prop where
  lr : LR W q m x os d A n stops u
  rm : MapP u 104 W.heap.size (.pointer r) m
  bs : Blk u gs 35 (stpsV (stops ++ List.replicate 80 mkS))
  bo : Blk u gl 31 (ordsV (os ++ List.replicate 80 mkO))
  on : Below w3.heap.size w3 u
section
variable {W w3 u u' : World} {q r : Option Addr} {m : Option Mp} {x : Wd} {os : List FleetMath.Ord} {d : Drv} {A : Option Addr} {n c : Nat} {stops : List Stp} {gs gl : Nat}
theorem DR.below (h : DR W w3 q r m x os d A n stops gs gl u) (hb : Below u.heap.size u u') : DR W w3 q r m x os d A n stops gs gl u' :=
  ⟨h.lr.below hb, h.rm.keep hb, h.bs.below hb h.bs.lt, h.bo.below hb h.bo.lt, h.on.trans (hb.mono h.on.size)⟩
theorem DR.drew (h : DR W w3 q r m x os d A n stops gs gl u) : DR W w3 q r m x os d A n stops gs gl u.drew := h.below (Below.refl _ _).drew
theorem DR.alloc (h : DR W w3 q r m x os d A n stops gs gl u) (o : Obj) : DR W w3 q r m x os d A n stops gs gl (u.alloc o) := h.below ((Below.refl _ _).alloc (Nat.le_refl _) _)
theorem DR.from (h : DR W w3 q r m x os d A n stops gs gl u) : DR W u q r m x os d A n stops gs gl u := ⟨h.lr, h.rm, h.bs, h.bo, Below.refl _ _⟩
/-- the cells that are read of it -/
theorem DR.cells (h : DR W w3 q r m x os d A n stops gs gl u) : ((u.cell? ⟨W.heap.size + 1, 0, none⟩ = some (.int .i64 d.id) ∧ u.cell? ⟨W.heap.size + 1, 1, none⟩ = some (.int .i64 d.room) ∧ u.cell? ⟨W.heap.size + 1, 2, none⟩ = some (.int .i64 d.home) ∧ u.cell? ⟨W.heap.size + 1, 3, none⟩ = some (.int .i64 d.win.fr) ∧ u.cell? ⟨W.heap.size + 1, 4, none⟩ = some (.int .i64 d.win.to) ∧ u.cell? ⟨W.heap.size + 1, 5, none⟩ = some (.bool d.retired)) ∧ u.cell? ⟨W.heap.size, 3, none⟩ = some (.slice x.os.a x.os.n x.os.c)) ∧ DR W w3 q r m x os d A n stops gs gl u :=
  ⟨⟨h.lr.drv.cells, h.lr.wd.cells.2.2.2.1⟩, h⟩
theorem DR.at_ (h : DR W w3 q r m x os d A n stops gs gl w3) (hb : Below w3.heap.size w3 u) : DR W w3 q r m x os d A n stops gs gl u := h.below hb
theorem DR.drive (h : DR W w3 q r m x os d A n stops gs gl w3) (hu : Below w3.heap.size w3 u) (vs : List Vis) (k : Nat) (e : Int) (hd : drive m d os stops = (vs, k, e)) (hx : x.os.n ≤ maxLen) (hn : n ≤ maxLen) :
    Calls Try.prog 11 #[.pointer q, drvV d, .slice (some ⟨gl, 0, none⟩) x.os.n (x.os.n + 80), .slice (some ⟨gs, 0, none⟩) n (n + 80)] u fun en u' => ∃ B c2, en = .returned (.tuple #[.slice B vs.length c2, faultV k e]) ∧ Below w3.heap.size w3 u' ∧ Below u.heap.size u u' ∧ Hid (OwnK u' u.heap.size 45 6 (.slice B vs.length c2) vs.length (vissV vs)) := by
  have h := h.at_ hu
  refine (gdrive_any W.heap.size _ m d _ _ _ os _ _ _ stops u h.lr.map (frontOrd h.bo (Ords.length h.lr.os0) hx) (frontStp h.bs (Stps.length h.lr.stops0) hn) (by omega) (by omega)).mono ?_
  rintro en u' ⟨hb, v, rfl, hv⟩
  rw [hd] at hv ⊢
  obtain ⟨B, c2, rfl, _, hr⟩ := hv.read
  exact ⟨B, c2, rfl, hu.trans (hb.mono hu.size), hb, hv⟩
theorem DR.cost (h : DR W w3 q r m x os d A n stops gs gl w3) (hu : Below w3.heap.size w3 u) (v : Int) (b : Bool) (hd : optV (cost m d os stops) = .tuple #[.int .i64 v, .bool b]) (hx : x.os.n ≤ maxLen) (hn : n ≤ maxLen) :
    Calls Try.prog 12 #[.pointer q, drvV d, .slice (some ⟨gl, 0, none⟩) x.os.n (x.os.n + 80), .slice (some ⟨gs, 0, none⟩) n (n + 80)] u fun en u' => en = .returned (.tuple #[.int .i64 v, .bool b]) ∧ Below w3.heap.size w3 u' := by
  have h := h.at_ hu
  refine (gcost_any W.heap.size _ m d _ _ _ os _ _ _ stops u h.lr.map (frontOrd h.bo (Ords.length h.lr.os0) hx) (frontStp h.bs (Stps.length h.lr.stops0) hn) (by omega) (by omega)).mono ?_
  rintro en u' ⟨rfl, hb⟩
  rw [hd]
  exact ⟨rfl, hu.trans (hb.mono hu.size)⟩
end
theorem _root_.Go.Proofs.Ytjkahookgoecpaa.Mem.OwnK.read' {w : World} {base k n c : Nat} {e : TypeId} {v : Value} {vs : List Value} {B : Option Addr} (h : OwnK w base e k v n vs) (hv : v = .slice B n c) : Recs w w.heap.size B n k vs := by
  obtain ⟨A, c', rfl, _, hr⟩ := h.read
  injection hv with h1
  rw [← h1]
  exact hr
theorem optV_form7 (o : Option Int) : ∃ v b, optV o = .tuple #[.int .i64 v, .bool b] := by cases o <;> exact ⟨_, _, rfl⟩
theorem below_put2 {B : Nat} {a w : World} (h : Below B a w) (x y : Value) : Below B a ((w.setCell ⟨B, 0, none⟩ x).setCell ⟨B, 1, none⟩ y) := (h.setCell (Nat.le_refl _) _).setCell (Nat.le_refl _) _
/-- a drive was made behind w3: its visits, its fault in a block of its own -/
structure DM (w3 : World) (va : Value) (vs : List Vis) (g k : Nat) (e : Int) (u : World) : Prop where
  on : Below w3.heap.size w3 u
  own : OwnK u w3.heap.size 45 6 va vs.length (vissV vs)
  flt : FBox u g k e
section
variable {w3 u u' : World} {va : Value} {vs : List Vis} {g k : Nat} {e : Int}
theorem DM.below (h : DM w3 va vs g k e u) (hb : Below u.heap.size u u') : DM w3 va vs g k e u' := ⟨h.on.trans (hb.mono h.on.size), h.own.keep hb (Nat.le_refl _), h.flt.below hb⟩
/-- the box of the fault is made behind the call, or ahead of it -/
theorem DM.behind (h1 : Below w3.heap.size w3 u) (h2 : Below u.heap.size u u') (ho : OwnK u' u.heap.size 45 6 va vs.length (vissV vs)) : DM w3 va vs u'.heap.size k e (u'.alloc (.cells #[.int .i64 k, .int .i64 e] 39)) :=
  ⟨(h1.trans (h2.mono h1.size)).alloc (h1.trans (h2.mono h1.size)).size _, (ho.lower h1.size).alloc _, Blk.new u' _ _⟩
theorem box_kept {v : List Value} {t : TypeId} {w w' : World} (hb : Below (w.alloc (.cells v.toArray t)).drew.heap.size (w.alloc (.cells v.toArray t)).drew w') : Blk w' w.heap.size t v := by
  have h : Blk (w.alloc (.cells v.toArray t)).drew w.heap.size t v := Blk.new w t v
  exact h.below hb h.lt
theorem DM.ahead {o : Obj} {v0 v1 : Value} (h2 : Below (w3.alloc o).drew.heap.size (w3.alloc o).drew u') (hf : Blk u' w3.heap.size 39 [v0, v1]) (ho : OwnK u' (w3.alloc o).drew.heap.size 45 6 va vs.length (vissV vs)) :
    DM w3 va vs w3.heap.size k e ((u'.setCell ⟨w3.heap.size, 0, none⟩ (.int .i64 k)).setCell ⟨w3.heap.size, 1, none⟩ (.int .i64 e)) := by
  have h1 : Below w3.heap.size w3 (w3.alloc o).drew := ((Below.refl _ _).alloc (Nat.le_refl _) _).drew
  have h3 : Only w3.heap.size u' ((u'.setCell ⟨w3.heap.size, 0, none⟩ (.int .i64 k)).setCell ⟨w3.heap.size, 1, none⟩ (.int .i64 e)) := ((Only.refl _ _).set 0 _).set 1 _
  have h4 : (w3.alloc o).drew.heap.size = w3.heap.size + 1 := by show (w3.alloc o).heap.size = _; simp
  refine ⟨(h1.trans (h2.mono h1.size)).trans h3.below, (h3.own ho (by omega)).lower h1.size, (hf.put 0 _).put 1 _⟩
end

set_option maxRecDepth 100000 in
set_option maxHeartbeats 4000000 in
theorem routeDrives_walk (x : Wd) (ts : List Int) (os : List FleetMath.Ord) (d : Drv) (A : Option Addr) (n c : Nat) (stops : List Stp) (W : World) (hts : Ints W W.heap.size x.ts.a x.ts.n ts) (hos : Ords W W.heap.size x.os.a x.os.n os) (hst : Stps W W.heap.size A n stops) (hc : n ≤ c) (hro : x.os.n * 80 ≤ 140737488351232) (hrs : n * 16 ≤ 140737488351232) :
    Calls Try.prog 4 #[wdV x, drvV d, .slice A n c] W fun e w' => e = .returned (.bool true) ∧ Below W.heap.size W w' := by
  have HTS := Lib.hid hts
  have HOS := Lib.hid hos
  have HST := Lib.hid hst
  clear hts hos hst
  obtain ⟨m, hm⟩ : ∃ m, mapOf x.n ts = m := ⟨_, rfl⟩
  have HM := Lib.hid hm
  clear hm
  have HB0 : Hid (Below W.heap.size W ((W.alloc (.cells #[.int .i64 x.n, x.ts.v, x.ds.v, x.os.v, x.pl.v] 52)).alloc (.cells #[.int .i64 d.id, .int .i64 d.room, .int .i64 d.home, .int .i64 d.win.fr, .int .i64 d.win.to, .bool d.retired] 33))) := ((Below.refl _ _).alloc (Nat.le_refl _) _).alloc (by simp) _
  have HW0 : Hid (WBox ((W.alloc (.cells #[.int .i64 x.n, x.ts.v, x.ds.v, x.os.v, x.pl.v] 52)).alloc (.cells #[.int .i64 d.id, .int .i64 d.room, .int .i64 d.home, .int .i64 d.win.fr, .int .i64 d.win.to, .bool d.retired] 33)) W.heap.size x) := (WBox.new W x).below ((Below.refl _ _).alloc (Nat.le_refl _) _)
  have HD0 : Hid (DBox ((W.alloc (.cells #[.int .i64 x.n, x.ts.v, x.ds.v, x.os.v, x.pl.v] 52)).alloc (.cells #[.int .i64 d.id, .int .i64 d.room, .int .i64 d.home, .int .i64 d.win.fr, .int .i64 d.win.to, .bool d.retired] 33)) (W.heap.size + 1) d) := by
    have := Blk.new (W.alloc (.cells #[.int .i64 x.n, x.ts.v, x.ds.v, x.os.v, x.pl.v] 52)) 33 [.int .i64 d.id, .int .i64 d.room, .int .i64 d.home, .int .i64 d.win.fr, .int .i64 d.win.to, .bool d.retired]
    rw [World.size_alloc] at this
    exact this
  obtain ⟨⟨vs, fk, fe⟩, hdr⟩ : ∃ r, drive m d os stops = r := ⟨_, rfl⟩
  have HDR := Lib.hid hdr
  clear hdr
  have hnm : x.os.n ≤ 9223372036854775807 := by omega
  have hnm2 : n ≤ 9223372036854775807 := by omega
  go_enter Try.func4, Try.ntmps4
  go_wp2_with fail
  refine (kmaps_any x ts _ (by exact Reads.more (Reads.keep HTS.out HB0.out) HB0.out.size)).mono ?_
  rintro e w1 ⟨hb1, q, r, rfl, hq, hr⟩
  have L1 : Hid (LR W q m x os d A n stops w1) := by
    have HM' := HM.out
    rw [HM'] at hq
    exact ⟨HB0.out.trans (hb1.mono HB0.out.size), hq.lower HB0.out.size, HW0.out.below hb1, HD0.out.below hb1, HOS.out, HST.out⟩
  have R1 : Hid (MapP w1 104 W.heap.size (.pointer r) m) := by
    have HM' := HM.out
    rw [HM'] at hr
    exact hr.lower HB0.out.size
  clear hb1 hq hr HB0 HW0 HD0 HTS HOS HST HM
  go_wp2_with fail
  refine (roomyStp A n c stops w1 mkS L1.out.stps hrs).mono ?_
  rintro e w2 ⟨rfl, hb2, hf2⟩
  have L2 := Lib.hid (L1.out.below hb2)
  have R2 := Lib.hid (R1.out.keep hb2)
  have S2 : Hid (Blk w2 (w1.heap.size + 1) 35 (stpsV (stops ++ List.replicate 80 mkS))) := hf2
  obtain ⟨gs, hgs⟩ : ∃ g, w1.heap.size + 1 = g := ⟨_, rfl⟩
  rw [hgs] at S2 ⊢
  clear hb2 hf2 hgs L1 R1
  obtain ⟨c0, c1, c2, c3, c4⟩ := L2.out.wd.cells
  go_wp2_with fail
  refine (roomyOrd x.os.a x.os.n x.os.c os w2 mkO L2.out.ords hro).mono ?_
  rintro e w3 ⟨rfl, hb3, hf3⟩
  have D3 : Hid (DR W w3 q r m x os d A n stops gs (w2.heap.size + 1) w3) := ⟨L2.out.below hb3, R2.out.keep hb3, S2.out.below hb3 S2.out.lt, hf3, Below.refl _ _⟩
  obtain ⟨gl, hgl⟩ : ∃ g, w2.heap.size + 1 = g := ⟨_, rfl⟩
  rw [hgl] at D3 ⊢
  clear hb3 hf3 hgl L2 R2 S2 c0 c1 c2 c3 c4
  have hi0 : (0 : Int) ≤ (x.os.n : Int) := by omega
  have hi1 : (x.os.n : Int) ≤ (x.os.n : Int) + 80 := by omega
  have hi2 : (0 : Int) ≤ (n : Int) := by omega
  have hi3 : (n : Int) ≤ (n : Int) + 80 := by omega
  have HMX : Hid (x.os.n ≤ maxLen ∧ n ≤ maxLen) := ⟨by unfold maxLen; omega, by unfold maxLen; omega⟩
  go_upto_region 6 with fail
  have HC : Hid (∀ u, Below w3.heap.size w3 u → ((u.cell? ⟨W.heap.size + 1, 0, none⟩ = some (.int .i64 d.id) ∧ u.cell? ⟨W.heap.size + 1, 1, none⟩ = some (.int .i64 d.room) ∧ u.cell? ⟨W.heap.size + 1, 2, none⟩ = some (.int .i64 d.home) ∧ u.cell? ⟨W.heap.size + 1, 3, none⟩ = some (.int .i64 d.win.fr) ∧ u.cell? ⟨W.heap.size + 1, 4, none⟩ = some (.int .i64 d.win.to) ∧ u.cell? ⟨W.heap.size + 1, 5, none⟩ = some (.bool d.retired)) ∧ u.cell? ⟨W.heap.size, 3, none⟩ = some (.slice x.os.a x.os.n x.os.c)) ∧ Below w3.heap.size w3 u) := fun u hu => ⟨(D3.out.at_ hu).cells.1, hu⟩
  go_cut [12, 13] (fun va vf wx => ∃ B c2 g, va = .slice B vs.length c2 ∧ vf = .pointer (some ⟨g, 0, none⟩) ∧ Hid (DM w3 (.slice B vs.length c2) vs g fk fe wx))
  case first =>
    go_region_held3 (fun u => ((u.cell? ⟨W.heap.size + 1, 0, none⟩ = some (.int .i64 d.id) ∧ u.cell? ⟨W.heap.size + 1, 1, none⟩ = some (.int .i64 d.room) ∧ u.cell? ⟨W.heap.size + 1, 2, none⟩ = some (.int .i64 d.home) ∧ u.cell? ⟨W.heap.size + 1, 3, none⟩ = some (.int .i64 d.win.fr) ∧ u.cell? ⟨W.heap.size + 1, 4, none⟩ = some (.int .i64 d.win.to) ∧ u.cell? ⟨W.heap.size + 1, 5, none⟩ = some (.bool d.retired)) ∧ u.cell? ⟨W.heap.size, 3, none⟩ = some (.slice x.os.a x.os.n x.os.c)) ∧ Below w3.heap.size w3 u)
      (first
        | exact HC.out _ (Below.refl _ _).drew
        | exact HC.out _ ((Below.refl _ _).alloc (Nat.le_refl _) _).drew
        | exact HC.out _ (by assumption)
        | exact HC.out _ (Below.drew (by assumption))
        | exact HC.out _ (Below.alloc (by assumption) (Below.size (by assumption)) _)
        | exact HC.out _ (below_put2 (by assumption) _ _))
      (first
        | (go_at_call 11; (refine (D3.out.drive (by first | assumption | exact (Below.refl _ _).drew | exact ((Below.refl _ _).alloc (Nat.le_refl _) _).drew) vs fk fe HDR.out HMX.out.1 HMX.out.2).mono ?_); rintro e w' ⟨B, c2, rfl, hbx, hby, hown⟩; (try (have hbox := Lib.hid (box_kept hby); have hz0 := hbox.out.cell (i := 0) rfl; have hz1 := hbox.out.cell (i := 1) rfl; have hf0 := hbox.out.free 0; have hf1 := hbox.out.free 1))))
    · go_wp2_with fail
      go_meet
      exact ⟨_, _, _, rfl, rfl, DM.behind (Below.refl _ _).drew hby hown.out⟩
    · go_wp2_with fail
      go_meet
      exact ⟨_, _, _, rfl, rfl, DM.ahead hby hbox.out hown.out⟩
  case rest =>
  clear HC
  obtain ⟨B4, c4, g4, rfl, rfl, M4⟩ := hcut
  obtain ⟨w4, rfl⟩ : ∃ w, w = wc := ⟨_, rfl⟩
  have D4 : Hid (DR W w4 q r m x os d A n stops gs gl w4) := (D3.out.at_ M4.out.on).from
  have HDR3 := D3
  clear D3
  go_upto_region 7 with fail
  have HC : Hid (∀ u, Below w4.heap.size w4 u → ((u.cell? ⟨W.heap.size + 1, 0, none⟩ = some (.int .i64 d.id) ∧ u.cell? ⟨W.heap.size + 1, 1, none⟩ = some (.int .i64 d.room) ∧ u.cell? ⟨W.heap.size + 1, 2, none⟩ = some (.int .i64 d.home) ∧ u.cell? ⟨W.heap.size + 1, 3, none⟩ = some (.int .i64 d.win.fr) ∧ u.cell? ⟨W.heap.size + 1, 4, none⟩ = some (.int .i64 d.win.to) ∧ u.cell? ⟨W.heap.size + 1, 5, none⟩ = some (.bool d.retired)) ∧ u.cell? ⟨W.heap.size, 3, none⟩ = some (.slice x.os.a x.os.n x.os.c)) ∧ Below w4.heap.size w4 u) := fun u hu => ⟨(D4.out.at_ hu).cells.1, hu⟩
  go_cut [14, 15] (fun va vf wx => ∃ B c2 g, va = .slice B vs.length c2 ∧ vf = .pointer (some ⟨g, 0, none⟩) ∧ Hid (DM w4 (.slice B vs.length c2) vs g fk fe wx))
  case first =>
    go_region_held3 (fun u => ((u.cell? ⟨W.heap.size + 1, 0, none⟩ = some (.int .i64 d.id) ∧ u.cell? ⟨W.heap.size + 1, 1, none⟩ = some (.int .i64 d.room) ∧ u.cell? ⟨W.heap.size + 1, 2, none⟩ = some (.int .i64 d.home) ∧ u.cell? ⟨W.heap.size + 1, 3, none⟩ = some (.int .i64 d.win.fr) ∧ u.cell? ⟨W.heap.size + 1, 4, none⟩ = some (.int .i64 d.win.to) ∧ u.cell? ⟨W.heap.size + 1, 5, none⟩ = some (.bool d.retired)) ∧ u.cell? ⟨W.heap.size, 3, none⟩ = some (.slice x.os.a x.os.n x.os.c)) ∧ Below w4.heap.size w4 u)
      (first
        | exact HC.out _ (Below.refl _ _).drew
        | exact HC.out _ ((Below.refl _ _).alloc (Nat.le_refl _) _).drew
        | exact HC.out _ (by assumption)
        | exact HC.out _ (Below.drew (by assumption))
        | exact HC.out _ (Below.alloc (by assumption) (Below.size (by assumption)) _)
        | exact HC.out _ (below_put2 (by assumption) _ _))
      (first
        | (go_at_call 11; (refine (D4.out.drive (by first | assumption | exact (Below.refl _ _).drew | exact ((Below.refl _ _).alloc (Nat.le_refl _) _).drew) vs fk fe HDR.out HMX.out.1 HMX.out.2).mono ?_); rintro e w' ⟨B, c2, rfl, hbx, hby, hown⟩; (try (have hbox := Lib.hid (box_kept hby); have hz0 := hbox.out.cell (i := 0) rfl; have hz1 := hbox.out.cell (i := 1) rfl; have hf0 := hbox.out.free 0; have hf1 := hbox.out.free 1))))
    · go_wp2_with fail
      go_meet
      exact ⟨_, _, _, rfl, rfl, DM.behind (Below.refl _ _).drew hby hown.out⟩
    · go_wp2_with fail
      go_meet
      exact ⟨_, _, _, rfl, rfl, DM.ahead hby hbox.out hown.out⟩
  case rest =>
  clear HC
  obtain ⟨B5, c5, g5, rfl, rfl, M5⟩ := hcut
  obtain ⟨w5, rfl⟩ : ∃ w, w = wc := ⟨_, rfl⟩
  have D5 : Hid (DR W w5 q r m x os d A n stops gs gl w5) := (D4.out.at_ M5.out.on).from
  clear D4
  obtain ⟨⟨⟨d0, d1, d2, d3, d4, d5⟩, e0⟩, _⟩ := D5.out.cells
  go_wp2_with fail
  refine (rdrive_any W.heap.size _ m d _ _ _ os A n c stops _ (by exact D5.out.rm) (by exact D5.out.lr.ords) (by exact D5.out.lr.stps) hc).mono ?_
  rintro e w6 ⟨hb6, v6, rfl, hv6⟩
  rw [HDR.out] at hv6 ⊢
  obtain ⟨B6, c6, rfl, _, hr6⟩ := hv6.read
  have M6 : Hid (DM w5 (.slice B6 vs.length c6) vs w6.heap.size fk fe (w6.alloc (.cells #[.int .i64 fk, .int .i64 fe] 39))) := DM.behind (Below.refl _ _) hb6 hv6
  clear hb6 hv6 hr6 d0 d1 d2 d3 d4 d5 e0
  obtain ⟨g6, hg6⟩ : ∃ g, w6.heap.size = g := ⟨_, rfl⟩
  obtain ⟨w7, hw7⟩ : ∃ w, w6.alloc (.cells #[.int .i64 fk, .int .i64 fe] 39) = w := ⟨_, rfl⟩
  rw [hg6] at M6
  go_upto_region 9 with fail
  rw [hw7] at M6
  clear hw7 hg6
  have D7 : Hid (DR W w7 q r m x os d A n stops gs gl w7) := (D5.out.at_ M6.out.on).from
  clear D5
  obtain ⟨cv, cb, hcv⟩ := optV_form7 (cost m d os stops)
  have HCV := Lib.hid hcv
  clear hcv
  have HC : Hid (∀ u, Below w7.heap.size w7 u → ((u.cell? ⟨W.heap.size + 1, 0, none⟩ = some (.int .i64 d.id) ∧ u.cell? ⟨W.heap.size + 1, 1, none⟩ = some (.int .i64 d.room) ∧ u.cell? ⟨W.heap.size + 1, 2, none⟩ = some (.int .i64 d.home) ∧ u.cell? ⟨W.heap.size + 1, 3, none⟩ = some (.int .i64 d.win.fr) ∧ u.cell? ⟨W.heap.size + 1, 4, none⟩ = some (.int .i64 d.win.to) ∧ u.cell? ⟨W.heap.size + 1, 5, none⟩ = some (.bool d.retired)) ∧ u.cell? ⟨W.heap.size, 3, none⟩ = some (.slice x.os.a x.os.n x.os.c)) ∧ Below w7.heap.size w7 u) := fun u hu => ⟨(D7.out.at_ hu).cells.1, hu⟩
  go_cut [18, 19] (fun va vb wx => va = .int .i64 cv ∧ vb = .bool cb ∧ Hid (Below w7.heap.size w7 wx))
  case first =>
    go_region_held3 (fun u => ((u.cell? ⟨W.heap.size + 1, 0, none⟩ = some (.int .i64 d.id) ∧ u.cell? ⟨W.heap.size + 1, 1, none⟩ = some (.int .i64 d.room) ∧ u.cell? ⟨W.heap.size + 1, 2, none⟩ = some (.int .i64 d.home) ∧ u.cell? ⟨W.heap.size + 1, 3, none⟩ = some (.int .i64 d.win.fr) ∧ u.cell? ⟨W.heap.size + 1, 4, none⟩ = some (.int .i64 d.win.to) ∧ u.cell? ⟨W.heap.size + 1, 5, none⟩ = some (.bool d.retired)) ∧ u.cell? ⟨W.heap.size, 3, none⟩ = some (.slice x.os.a x.os.n x.os.c)) ∧ Below w7.heap.size w7 u)
      (first
        | exact HC.out _ (Below.refl _ _).drew
        | exact HC.out _ (by assumption)
        | exact HC.out _ (Below.drew (by assumption)))
      (first
        | (go_at_call 12; (refine (D7.out.cost (by first | assumption | exact (Below.refl _ _).drew) cv cb HCV.out HMX.out.1 HMX.out.2).mono ?_); rintro e w' ⟨rfl, hbx⟩))
    all_goals
      go_wp2_with fail
      go_meet
      exact ⟨rfl, rfl, by assumption⟩
  case rest =>
  clear HC
  obtain ⟨rfl, rfl, HB8⟩ := hcut
  obtain ⟨w8, rfl⟩ : ∃ w, w = wc := ⟨_, rfl⟩
  have D8 : Hid (DR W w8 q r m x os d A n stops gs gl w8) := (D7.out.at_ HB8.out).from
  have M68 := Lib.hid (M6.out.below HB8.out)
  have M58 := Lib.hid ((M5.out.below M6.out.on).below HB8.out)
  have M48 := Lib.hid (((M4.out.below M5.out.on).below M6.out.on).below HB8.out)
  clear D7 M6 HB8
  obtain ⟨⟨⟨d0, d1, d2, d3, d4, d5⟩, e0⟩, _⟩ := D8.out.cells
  go_wp2_with fail
  refine (rcost_any W.heap.size _ m d _ _ _ os A n c stops _ (by exact D8.out.rm) (by exact D8.out.lr.ords) (by exact D8.out.lr.stps) hc).mono ?_
  rintro e w9 ⟨rfl, hb9⟩
  rw [HCV.out]
  have D9 : Hid (DR W w9 q r m x os d A n stops gs gl w9) := (D8.out.at_ hb9).from
  have M69 := Lib.hid (M68.out.below hb9)
  have M59 := Lib.hid (M58.out.below hb9)
  have M49 := Lib.hid (M48.out.below hb9)
  have HBX : Hid (Below w4.heap.size w4 w9) := M59.out.on
  clear D8 M68 M58 M48 hb9 d0 d1 d2 d3 d4 d5 e0
  obtain ⟨a0, a1⟩ := M49.out.flt.cells
  obtain ⟨b0, b1⟩ := M59.out.flt.cells
  obtain ⟨k0, k1⟩ := M69.out.flt.cells
  have VA : Hid (Viss w9 w9.heap.size B4 vs.length vs) := (M49.out.own.read' rfl)
  have VB : Hid (Viss w9 w9.heap.size B5 vs.length vs) := (M59.out.own.read' rfl)
  have VC : Hid (Viss w9 w9.heap.size B6 vs.length vs) := (M69.out.own.read' rfl)
  go_wp2_with fail
  refine (sameVis B4 B6 vs.length c4 c6 vs _ _ w9 VA.out VC.out).mono ?_
  rintro e _ ⟨rfl, dn1, rfl⟩
  go_wp2_with fail
  refine (sameVis B5 B6 vs.length c5 c6 vs _ _ (w9.drewN dn1) (Recs.drewN VB.out dn1) (Recs.drewN VC.out dn1)).mono ?_
  rintro e _ ⟨rfl, dn2, rfl⟩
  have hvm := Recs.le VA.out
  have T0 : Hid (Turns w9 w3.heap.size w4.heap.size B4 vs.length 6 45 w9) := Turns.start M4.out.own HBX.out
  clear a0 a1 b0 b1 k0 k1 VA VB VC
  go_wp2_with fail
  go_loopw [22] (fun iv wr => ∃ k : Nat, k ≤ vs.length ∧ iv = .int .i64 k ∧ Hid (Turns w9 w3.heap.size w4.heap.size B4 vs.length 6 45 wr)) (fun iv _ => vs.length - (intOf iv).toNat)
  case atStart => exact ⟨0, Nat.zero_le _, rfl, T0.out.drewN _⟩
  case round =>
    clear T0
    obtain ⟨k, hk, rfl, HT⟩ := hrel
    by_cases hlt : k < vs.length
    · obtain ⟨g, rfl, hg1, hg2, hall⟩ := HT.out.at_ hlt
      obtain ⟨⟨x0, y0⟩, z0⟩ := hall 0 (by omega)
      obtain ⟨⟨x1, y1⟩, z1⟩ := hall 1 (by omega)
      obtain ⟨⟨x2, y2⟩, z2⟩ := hall 2 (by omega)
      obtain ⟨⟨x3, y3⟩, z3⟩ := hall 3 (by omega)
      obtain ⟨⟨x4, y4⟩, z4⟩ := hall 4 (by omega)
      obtain ⟨⟨x5, y5⟩, z5⟩ := hall 5 (by omega)
      simp only [Nat.add_zero] at y0 z0
      have HG := Lib.hid (And.intro hg1 hg2)
      clear hall hg1 hg2
      go_wp2_with fail
      go_roundw
      case rel => exact ⟨k + 1, by omega, by go_num, (((((HT.out.set HG.out.1 HG.out.2 _ _).set HG.out.1 HG.out.2 _ _).set HG.out.1 HG.out.2 _ _).set HG.out.1 HG.out.2 _ _).set HG.out.1 HG.out.2 _ _).set HG.out.1 HG.out.2 _ _⟩
      case measure => simp [intOf]; omega
    · have hb0 : Below w3.heap.size w3 wr := M49.out.on.trans HT.out.below
      have DZ : Hid (DR W wr q r m x os d A n stops gs gl wr) := (HDR3.out.at_ hb0).from
      have VB : Hid (Viss wr wr.heap.size B5 vs.length vs) := (HT.out.own M59.out.own (Nat.le_refl _)).read' rfl
      have VC : Hid (Viss wr wr.heap.size B6 vs.length vs) := (HT.out.own M69.out.own M5.out.on.size).read' rfl
      clear hb0 HT M49 M59 M69 M4 M5 HDR3 HBX
      go_wp2_with fail
      refine (sameVis B5 B6 vs.length c5 c6 vs _ _ wr VB.out VC.out).mono ?_
      rintro e _ ⟨rfl, dn3, rfl⟩
      have DY : Hid (DR W (wr.drewN dn3) q r m x os d A n stops gs gl (wr.drewN dn3)) := (DZ.out.at_ (below_drewN (Below.refl _ _) _)).from
      clear DZ VB VC
      go_wp2_with fail
      refine (intactStp A gs n c stops W.heap.size mkS _ (by exact Recs.keep DY.out.lr.stops0 DY.out.lr.old) (by omega) (by exact DY.out.bs) (by exact DY.out.lr.old.size)).mono ?_
      rintro e wa ⟨rfl, hb⟩
      have DX : Hid (DR W wa q r m x os d A n stops gs gl wa) := (DY.out.at_ hb).from
      clear DY hb
      obtain ⟨⟨_, e0⟩, _⟩ := DX.out.cells
      go_wp2_with fail
      refine (intactOrd x.os.a gl x.os.n x.os.c os W.heap.size mkO _ (by exact Recs.keep DX.out.lr.os0 DX.out.lr.old) (by omega) (by exact DX.out.bo) (by exact DX.out.lr.old.size)).mono ?_
      rintro e wb ⟨rfl, hb⟩
      have DW : Hid (DR W wb q r m x os d A n stops gs gl wb) := (DX.out.at_ hb).from
      clear DX hb e0
      go_wp2_with fail
      refine (runs_any _).mono ?_
      rintro e wz ⟨rfl, hb⟩
      have LZ : Hid (Below W.heap.size W wz) := DW.out.lr.old.trans (hb.mono DW.out.lr.old.size)
      clear hb DW
      go_wp2_with fail
      go_ret
      exact ⟨rfl, LZ.out⟩

#print axioms routeDrives_walk
end Go.Proofs.Ytjkahookgoecpaa.Route
