/-
  RouteFaults walked.
-/
import Derived.Test.YtjkahookgoecpaaRouteDrives
import Derived.Test.YtjkahookgoecpaaRouteMathsB
import Derived.Test.YtjkahookgoecpaaLibRows
namespace Go.Proofs.Ytjkahookgoecpaa.Route
open Go.ChangeShapes Go.WideShapes Go.ChangeAt Go.RowKit Go.Proofs.Ytjkahookgoecpaa.Mem Go.Proofs.Ytjkahookgoecpaa.GeoMath Go.Proofs.Ytjkahookgoecpaa.FleetMath Go.Proofs.Ytjkahookgoecpaa.Rec Go.Proofs.Ytjkahookgoecpaa.Geo Go.Proofs.Ytjkahookgoecpaa.Span Go.Proofs.Ytjkahookgoecpaa.Deal Go.Proofs.Ytjkahookgoecpaa.Keep
set_option linter.unusedVariables false

section
variable {W w3 u : World} {q : Option Addr} {m : Option Mp} {x : Wd} {os : List FleetMath.Ord} {d : Drv} {A : Option Addr} {n : Nat} {stops : List Stp}
theorem grown_box {a w' : World} {v v' : Value} {g lo : Nat} {t : TypeId} {vs : List Value} (hg : a.grownBy w' v.ownBlock) (ho : v'.ownBlock = v.ownBlock ∨ v'.ownBlock = some a.heap.size) (hb : Blk a g t vs) (hn : v.ownBlock ≠ some g) (hlo : lo ≤ g) : Blk w' g t vs ∧ v'.ownBlock ≠ some g ∧ lo ≤ g := by
  refine ⟨(hg.block g hb.lt fun e => hn e.symm).trans hb, ?_, hlo⟩
  rcases ho with h | h
  · rw [h]; exact hn
  · rw [h]
    intro e
    injection e with e
    have := hb.lt
    omega
/-- which world is it? -/
theorem at_world (w : World) {ops : Array Oper} {o : Oper} {a : Act} {K : Act → World → Prop} {Q : Exit → Act → World → Prop} {E : Prop} (h : if Region.wanted o (yielded ops a.tmps) = true then Oper.wp Try.prog o a w K Q else E) : if Region.wanted o (yielded ops a.tmps) = true then Oper.wp Try.prog o a w K Q else E := h
theorem at_calls (w : World) {f : Nat} {args : Array Value} {Q : Ending → World → Prop} (h : Calls Try.prog f args w Q) : Calls Try.prog f args w Q := h
theorem below_put2g {B g : Nat} {a w : World} (h : Below B a w) (hg : B ≤ g) (x y : Value) : Below B a ((w.setCell ⟨g, 0, none⟩ x).setCell ⟨g, 1, none⟩ y) := (h.setCell hg _).setCell hg _
theorem stps_own {w : World} {base n c : Nat} {A : Option Addr} {l l' : List Stp} (h : OwnK w base 35 2 (.slice A n c) n ([] ++ stpsV l ++ stpsV l')) : Stps w w.heap.size A n (l ++ l') ∧ n ≤ c := by
  obtain ⟨A', c', e1, hc, hr⟩ := h.read
  injection e1 with e1 _ e2
  subst e1; subst e2
  rw [List.nil_append, ← stpsV_append] at hr
  exact ⟨hr, hc⟩
theorem _root_.Go.Proofs.Ytjkahookgoecpaa.Mem.OwnK.cap {w : World} {base k n c : Nat} {e : TypeId} {vs : List Value} {B : Option Addr} (h : OwnK w base e k (.slice B n c) n vs) : n ≤ c := by
  obtain ⟨A, c', e1, hc, _⟩ := h.read
  injection e1 with _ _ e1
  omega
theorem _root_.Go.Proofs.Ytjkahookgoecpaa.Mem.OwnK.lt {w : World} {base k n : Nat} {e : TypeId} {v : Value} {vs : List Value} (h : OwnK w base e k v n vs) : v.ownBlock ≠ some w.heap.size := by
  rcases h.blk with ⟨rfl, _⟩ | ⟨g, cap, cur, rfl, _, hb, _⟩
  · intro e; cases e
  · intro e
    injection e with e
    have := hb.lt
    simp only at e
    omega
/-- the box of the fault was made earlier -/
theorem DM.early {w' u2 : World} {va : Value} {vs : List Vis} {g k : Nat} {e : Int} {v0 v1 : Value} (h1 : Below w3.heap.size w3 w') (hu : w3.heap.size ≤ u2.heap.size) (hg : w3.heap.size ≤ g) (hgu : g < u2.heap.size) (hf : Blk w' g 39 [v0, v1]) (ho : OwnK w' u2.heap.size 45 6 va vs.length (vissV vs)) :
    DM w3 va vs g k e ((w'.setCell ⟨g, 0, none⟩ (.int .i64 k)).setCell ⟨g, 1, none⟩ (.int .i64 e)) := by
  have h3 : Only g w' ((w'.setCell ⟨g, 0, none⟩ (.int .i64 k)).setCell ⟨g, 1, none⟩ (.int .i64 e)) := ((Only.refl _ _).set 0 _).set 1 _
  exact ⟨h1.trans (h3.below.mono hg), (h3.own ho hgu).lower hu, (hf.put 0 _).put 1 _⟩
/-- a drive through other stops, at any world behind w3 -/
theorem LR.drive_on (h : LR W q m x os d A n stops w3) (hu : Below w3.heap.size w3 u) {A' : Option Addr} {n' c' B' : Nat} {stops' : List Stp} (hs : Stps u B' A' n' stops') (hB : B' ≤ u.heap.size) (hcc : n' ≤ c') (vs : List Vis) (k : Nat) (e : Int) (hd : drive m d os stops' = (vs, k, e)) :
    Calls Try.prog 11 #[.pointer q, drvV d, .slice x.os.a x.os.n x.os.c, .slice A' n' c'] u fun en u' => ∃ B c2, en = .returned (.tuple #[.slice B vs.length c2, faultV k e]) ∧ Below w3.heap.size w3 u' ∧ Below u.heap.size u u' ∧ Hid (OwnK u' u.heap.size 45 6 (.slice B vs.length c2) vs.length (vissV vs)) := by
  have h := h.below hu
  refine (gdrive_any W.heap.size _ m d _ _ _ os A' n' c' stops' u h.map h.ords (Recs.more hs hB) hcc x.os.h).mono ?_
  rintro en u' ⟨hb, v, rfl, hv⟩
  rw [hd] at hv ⊢
  obtain ⟨B, c2, rfl, _, hr⟩ := hv.read
  exact ⟨B, c2, rfl, hu.trans (hb.mono hu.size), hb, hv⟩
theorem LR.cells (h : LR W q m x os d A n stops u) : (u.cell? ⟨W.heap.size + 1, 0, none⟩ = some (.int .i64 d.id) ∧ u.cell? ⟨W.heap.size + 1, 1, none⟩ = some (.int .i64 d.room) ∧ u.cell? ⟨W.heap.size + 1, 2, none⟩ = some (.int .i64 d.home) ∧ u.cell? ⟨W.heap.size + 1, 3, none⟩ = some (.int .i64 d.win.fr) ∧ u.cell? ⟨W.heap.size + 1, 4, none⟩ = some (.int .i64 d.win.to) ∧ u.cell? ⟨W.heap.size + 1, 5, none⟩ = some (.bool d.retired)) ∧ u.cell? ⟨W.heap.size, 3, none⟩ = some (.slice x.os.a x.os.n x.os.c) := ⟨h.drv.cells, h.wd.cells.2.2.2.1⟩
end

set_option maxRecDepth 100000 in
set_option maxHeartbeats 4000000 in
theorem routeFaults_walk (x : Wd) (ts : List Int) (os : List FleetMath.Ord) (d : Drv) (A : Option Addr) (n c : Nat) (stops : List Stp) (A2 : Option Addr) (n2 c2 : Nat) (more : List Stp) (W : World) (hts : Ints W W.heap.size x.ts.a x.ts.n ts) (hos : Ords W W.heap.size x.os.a x.os.n os) (hst : Stps W W.heap.size A n stops) (hc : n ≤ c) (hmo : Stps W W.heap.size A2 n2 more) (hc2 : n2 ≤ c2) (hcm : c ≤ 9223372036854775807) (hcm2 : c2 ≤ 9223372036854775807) :
    Calls Try.prog 9 #[wdV x, drvV d, .slice A n c, .slice A2 n2 c2] W fun e w' => e = .returned (.bool true) ∧ Below W.heap.size W w' := by
  have HTS := Lib.hid hts
  have HOS := Lib.hid hos
  have HST := Lib.hid hst
  have HMO := Lib.hid hmo
  have HLS := Lib.hid hst.length
  clear hts hos hst hmo
  obtain ⟨m, hm⟩ : ∃ m, mapOf x.n ts = m := ⟨_, rfl⟩
  have HM := Lib.hid hm
  clear hm
  have HB0 : Hid (Below W.heap.size W ((W.alloc (.cells #[.int .i64 x.n, x.ts.v, x.ds.v, x.os.v, x.pl.v] 52)).alloc (.cells #[.int .i64 d.id, .int .i64 d.room, .int .i64 d.home, .int .i64 d.win.fr, .int .i64 d.win.to, .bool d.retired] 33))) := ((Below.refl _ _).alloc (Nat.le_refl _) _).alloc (by simp) _
  have HW0 : Hid (WBox ((W.alloc (.cells #[.int .i64 x.n, x.ts.v, x.ds.v, x.os.v, x.pl.v] 52)).alloc (.cells #[.int .i64 d.id, .int .i64 d.room, .int .i64 d.home, .int .i64 d.win.fr, .int .i64 d.win.to, .bool d.retired] 33)) W.heap.size x) := (WBox.new W x).below ((Below.refl _ _).alloc (Nat.le_refl _) _)
  have HD0 : Hid (DBox ((W.alloc (.cells #[.int .i64 x.n, x.ts.v, x.ds.v, x.os.v, x.pl.v] 52)).alloc (.cells #[.int .i64 d.id, .int .i64 d.room, .int .i64 d.home, .int .i64 d.win.fr, .int .i64 d.win.to, .bool d.retired] 33)) (W.heap.size + 1) d) := by
    have := Blk.new (W.alloc (.cells #[.int .i64 x.n, x.ts.v, x.ds.v, x.os.v, x.pl.v] 52)) 33 [.int .i64 d.id, .int .i64 d.room, .int .i64 d.home, .int .i64 d.win.fr, .int .i64 d.win.to, .bool d.retired]
    rw [World.size_alloc] at this
    exact this
  obtain ⟨⟨vs, fk, fe⟩, hdr⟩ : ∃ r, drive m d os stops = r := ⟨_, rfl⟩
  have HDR := Lib.hid hdr
  have HCS := Lib.hid (drive_cases hdr)
  clear hdr
  have hnm : n ≤ 9223372036854775807 := by omega
  have hnm2 : n2 ≤ 9223372036854775807 := by omega
  go_enter Try.func9, Try.ntmps9
  go_wp2_with fail
  refine (kmaps_any x ts _ (by exact Reads.more (Reads.keep HTS.out HB0.out) HB0.out.size)).mono ?_
  rintro e w1 ⟨hb1, q, r, rfl, hq, _⟩
  have L1 : Hid (LR W q m x os d A n stops w1) := by
    have HM' := HM.out
    rw [HM'] at hq
    exact ⟨HB0.out.trans (hb1.mono HB0.out.size), hq.lower HB0.out.size, HW0.out.below hb1, HD0.out.below hb1, HOS.out, HST.out⟩
  clear hb1 hq HB0 HW0 HD0 HTS HOS HST HM
  obtain ⟨⟨d0, d1, d2, d3, d4, d5⟩, e0⟩ := L1.out.cells
  go_wp2_with fail
  refine (LR.drive_on L1.out (Below.refl _ _) L1.out.stps (Nat.le_refl _) hc vs fk fe HDR.out).mono ?_
  rintro e w2 ⟨B, c5, rfl, hb, _, _⟩
  have L2 := Lib.hid ((L1.out.below hb).alloc (.cells #[.int .i64 fk, .int .i64 fe] 39))
  have F2 : Hid (FBox (w2.alloc (.cells #[.int .i64 fk, .int .i64 fe] 39)) w2.heap.size fk fe) := Blk.new w2 _ _
  clear hb L1 d0 d1 d2 d3 d4 d5 e0
  obtain ⟨gf, hgf⟩ : ∃ g, w2.heap.size = g := ⟨_, rfl⟩
  obtain ⟨w3, hw3⟩ : ∃ w, w2.alloc (.cells #[.int .i64 fk, .int .i64 fe] 39) = w := ⟨_, rfl⟩
  go_upto_region 5 with fail
  rw [hgf, hw3] at F2
  rw [hw3] at L2
  clear hgf hw3
  obtain ⟨z0, z1⟩ := F2.out.cells
  go_wp2_with fail
  refine (fgood_any fk fe _).mono ?_
  rintro e w4 ⟨rfl, hb⟩
  have L4 := Lib.hid (L2.out.below hb)
  have F4 := Lib.hid (F2.out.below hb)
  clear hb L2 F2 z0 z1
  obtain ⟨z0, z1⟩ := F4.out.cells
  rcases HCS.out with ⟨rfl, rfl⟩ | ⟨rfl, rfl⟩ | ⟨rfl, hfk⟩ | ⟨h0, h1, h18, hkn, hk80, hpre, hall⟩
  · go_wp2_with fail
    refine (fgood_any 0 0 _).mono ?_
    rintro e w5 ⟨rfl, hb⟩
    have L5 := Lib.hid (L4.out.below hb)
    clear hb L4 F4 z0 z1
    go_wp2_with fail
    refine (runs_any _).mono ?_
    rintro e wz ⟨rfl, hb⟩
    have LZ : Hid (Below W.heap.size W wz) := L5.out.old.trans (hb.mono L5.out.old.size)
    clear hb
    go_wp2_with fail
    go_ret
    exact ⟨rfl, LZ.out⟩
  · go_wp2_with fail
    refine (fgood_any 0 1 _).mono ?_
    rintro e w5 ⟨rfl, hb⟩
    have L5 := Lib.hid (L4.out.below hb)
    have F5 := Lib.hid (F4.out.below hb)
    clear hb L4 F4 z0 z1
    obtain ⟨z0, z1⟩ := F5.out.cells
    go_wp2_with fail
    refine (runs_any _).mono ?_
    rintro e wz ⟨rfl, hb⟩
    have LZ : Hid (Below W.heap.size W wz) := L5.out.old.trans (hb.mono L5.out.old.size)
    clear hb
    go_wp2_with fail
    go_ret
    exact ⟨rfl, LZ.out⟩
  · have hfn : fk = n := by rw [hfk]; exact HLS.out
    clear hfk
    subst hfn
    go_wp2_with fail
    refine (fgood_any fk 18 _).mono ?_
    rintro e w5 ⟨rfl, hb⟩
    have L5 := Lib.hid (L4.out.below hb)
    have F5 := Lib.hid (F4.out.below hb)
    clear hb L4 F4 z0 z1
    obtain ⟨z0, z1⟩ := F5.out.cells
    go_wp2_with fail
    refine (runs_any _).mono ?_
    rintro e wz ⟨rfl, hb⟩
    have LZ : Hid (Below W.heap.size W wz) := L5.out.old.trans (hb.mono L5.out.old.size)
    clear hb
    go_wp2_with fail
    go_ret
    exact ⟨rfl, LZ.out⟩
  have hkn' : fk < n := by have := HLS.out; omega
  clear hkn
  have g0 : (fe == 0) = false := by simpa using h0
  have g1 : (fe == 1) = false := by simpa using h1
  have g18 : (fe == 18) = false := by simpa using h18
  have g2 : decide ((n : Int) ≤ (fk : Int)) = false := decide_eq_false (by omega)
  have HPRE := Lib.hid hpre
  have HALL := Lib.hid hall
  clear h0 h1 h18 hpre hall HCS
  obtain ⟨us, gk, ge, hdg, hgg⟩ : ∃ us gk ge, drive m d os (stops.take fk) = (us, gk, ge) ∧ ((gk = 0 ∧ ge = 0) ∨ (gk = fk ∧ ge = 18)) := by
    obtain ⟨us, h | h⟩ := HPRE.out
    · exact ⟨us, 0, 0, h, .inl ⟨rfl, rfl⟩⟩
    · exact ⟨us, fk, 18, h, .inr ⟨rfl, rfl⟩⟩
  have HDG := Lib.hid hdg
  have HGG := Lib.hid hgg
  have HDH : Hid (drive m d os (stops.take (fk + 1)) = ([], fk, fe)) := by
    have := HALL.out [] (by simp; omega)
    rw [List.append_nil] at this
    exact this
  clear hdg hgg HPRE
  obtain ⟨b, off, _, rfl, _⟩ := Stps.at_ L4.out.stps hkn'
  have hi0 : (0 : Int) ≤ (fk : Int) := by omega
  have hi1 : (fk : Int) ≤ (c : Int) := by omega
  obtain ⟨k1, hk1⟩ : ∃ k1 : Nat, k1 = fk + 1 := ⟨_, rfl⟩
  have hk2 : (fk : Int) + 1 = (k1 : Int) := by omega
  have hi2 : (0 : Int) ≤ (k1 : Int) := by omega
  have hi3 : (k1 : Int) ≤ (c : Int) := by omega
  have hi4 : k1 ≤ n := by omega
  have hi5 : IntKind.i64.wrap (k1 : Int) = (k1 : Int) := IntWalk.i64_in _ (by omega)
  have HK1 := Lib.hid hk1
  rw [← hk1] at HDH
  clear hk1
  go_upto_region 7 with fail
  clear z0 z1
  have HC : Hid (∀ u, Below w4.heap.size w4 u → (((u.cell? ⟨W.heap.size + 1, 0, none⟩ = some (.int .i64 d.id) ∧ u.cell? ⟨W.heap.size + 1, 1, none⟩ = some (.int .i64 d.room) ∧ u.cell? ⟨W.heap.size + 1, 2, none⟩ = some (.int .i64 d.home) ∧ u.cell? ⟨W.heap.size + 1, 3, none⟩ = some (.int .i64 d.win.fr) ∧ u.cell? ⟨W.heap.size + 1, 4, none⟩ = some (.int .i64 d.win.to) ∧ u.cell? ⟨W.heap.size + 1, 5, none⟩ = some (.bool d.retired)) ∧ u.cell? ⟨W.heap.size, 3, none⟩ = some (.slice x.os.a x.os.n x.os.c)) ∧ u.cell? ⟨gf, 0, none⟩ = some (.int .i64 fk)) ∧ Below w4.heap.size w4 u) := fun u hu => ⟨⟨(L4.out.below hu).cells, (F4.out.below hu).cells.1⟩, hu⟩
  have HS : Hid (∀ u, Below w4.heap.size w4 u → Stps u W.heap.size (some ⟨b, off, none⟩) fk (stops.take fk) ∧ W.heap.size ≤ u.heap.size) := fun u hu => ⟨stps_front (Recs.keep L4.out.stops0 (L4.out.below hu).old) (by omega), (L4.out.below hu).old.size⟩
  go_cut [14, 15] (fun va vf wx => ∃ B c2 g, va = .slice B us.length c2 ∧ vf = .pointer (some ⟨g, 0, none⟩) ∧ Hid (DM w4 (.slice B us.length c2) us g gk ge wx))
  case first =>
    go_region_held3 (fun u => (((u.cell? ⟨W.heap.size + 1, 0, none⟩ = some (.int .i64 d.id) ∧ u.cell? ⟨W.heap.size + 1, 1, none⟩ = some (.int .i64 d.room) ∧ u.cell? ⟨W.heap.size + 1, 2, none⟩ = some (.int .i64 d.home) ∧ u.cell? ⟨W.heap.size + 1, 3, none⟩ = some (.int .i64 d.win.fr) ∧ u.cell? ⟨W.heap.size + 1, 4, none⟩ = some (.int .i64 d.win.to) ∧ u.cell? ⟨W.heap.size + 1, 5, none⟩ = some (.bool d.retired)) ∧ u.cell? ⟨W.heap.size, 3, none⟩ = some (.slice x.os.a x.os.n x.os.c)) ∧ u.cell? ⟨gf, 0, none⟩ = some (.int .i64 fk)) ∧ Below w4.heap.size w4 u)
      (first
        | exact HC.out _ (Below.refl _ _).drew
        | exact HC.out _ ((Below.refl _ _).alloc (Nat.le_refl _) _).drew
        | exact HC.out _ (by assumption)
        | exact HC.out _ (Below.drew (by assumption))
        | exact HC.out _ (Below.alloc (by assumption) (Below.size (by assumption)) _)
        | exact HC.out _ (below_put2 (by assumption) _ _))
      (first
        | (go_at_call 11; (refine (LR.drive_on L4.out (by first | assumption | exact (Below.refl _ _).drew | exact ((Below.refl _ _).alloc (Nat.le_refl _) _).drew) (HS.out _ (by first | assumption | exact (Below.refl _ _).drew | exact ((Below.refl _ _).alloc (Nat.le_refl _) _).drew)).1 (HS.out _ (by first | assumption | exact (Below.refl _ _).drew | exact ((Below.refl _ _).alloc (Nat.le_refl _) _).drew)).2 (by omega) us gk ge HDG.out).mono ?_); rintro e w' ⟨B, c2, rfl, hbx, hby, hown⟩; (try (have hbox := Lib.hid (box_kept hby); have hz0 := hbox.out.cell (i := 0) rfl; have hz1 := hbox.out.cell (i := 1) rfl; have hf0 := hbox.out.free 0; have hf1 := hbox.out.free 1))))
    · go_wp2_with fail
      go_meet
      exact ⟨_, _, _, rfl, rfl, DM.behind (Below.refl _ _).drew hby hown.out⟩
    · go_wp2_with fail
      go_meet
      exact ⟨_, _, _, rfl, rfl, DM.ahead hby hbox.out hown.out⟩
  case rest =>
  clear HC HS
  obtain ⟨B7, c7, g7, rfl, rfl, M7⟩ := hcut
  obtain ⟨w5, rfl⟩ : ∃ w, w = wc := ⟨_, rfl⟩
  have L5 := Lib.hid (L4.out.below M7.out.on)
  have F5 := Lib.hid (F4.out.below M7.out.on)
  clear L4 F4
  go_upto_region 8 with fail
  have HC : Hid (∀ u, Below w5.heap.size w5 u → (((u.cell? ⟨W.heap.size + 1, 0, none⟩ = some (.int .i64 d.id) ∧ u.cell? ⟨W.heap.size + 1, 1, none⟩ = some (.int .i64 d.room) ∧ u.cell? ⟨W.heap.size + 1, 2, none⟩ = some (.int .i64 d.home) ∧ u.cell? ⟨W.heap.size + 1, 3, none⟩ = some (.int .i64 d.win.fr) ∧ u.cell? ⟨W.heap.size + 1, 4, none⟩ = some (.int .i64 d.win.to) ∧ u.cell? ⟨W.heap.size + 1, 5, none⟩ = some (.bool d.retired)) ∧ u.cell? ⟨W.heap.size, 3, none⟩ = some (.slice x.os.a x.os.n x.os.c)) ∧ u.cell? ⟨gf, 0, none⟩ = some (.int .i64 fk)) ∧ Below w5.heap.size w5 u) := fun u hu => ⟨⟨(L5.out.below hu).cells, (F5.out.below hu).cells.1⟩, hu⟩
  have HS : Hid (∀ u, Below w5.heap.size w5 u → Stps u W.heap.size (some ⟨b, off, none⟩) k1 (stops.take k1) ∧ W.heap.size ≤ u.heap.size) := fun u hu => ⟨stps_front (Recs.keep L5.out.stops0 (L5.out.below hu).old) (by omega), (L5.out.below hu).old.size⟩
  go_cut [16, 17] (fun va vf wx => ∃ B c2 g, va = .slice B ([] : List Vis).length c2 ∧ vf = .pointer (some ⟨g, 0, none⟩) ∧ Hid (DM w5 (.slice B ([] : List Vis).length c2) ([] : List Vis) g fk fe wx))
  case first =>
    go_region_held3 (fun u => (((u.cell? ⟨W.heap.size + 1, 0, none⟩ = some (.int .i64 d.id) ∧ u.cell? ⟨W.heap.size + 1, 1, none⟩ = some (.int .i64 d.room) ∧ u.cell? ⟨W.heap.size + 1, 2, none⟩ = some (.int .i64 d.home) ∧ u.cell? ⟨W.heap.size + 1, 3, none⟩ = some (.int .i64 d.win.fr) ∧ u.cell? ⟨W.heap.size + 1, 4, none⟩ = some (.int .i64 d.win.to) ∧ u.cell? ⟨W.heap.size + 1, 5, none⟩ = some (.bool d.retired)) ∧ u.cell? ⟨W.heap.size, 3, none⟩ = some (.slice x.os.a x.os.n x.os.c)) ∧ u.cell? ⟨gf, 0, none⟩ = some (.int .i64 fk)) ∧ Below w5.heap.size w5 u)
      (first
        | exact HC.out _ (Below.refl _ _).drew
        | exact HC.out _ ((Below.refl _ _).alloc (Nat.le_refl _) _).drew
        | exact HC.out _ (by assumption)
        | exact HC.out _ (Below.drew (by assumption))
        | exact HC.out _ (Below.alloc (by assumption) (Below.size (by assumption)) _)
        | exact HC.out _ (below_put2 (by assumption) _ _))
      (first
        | (go_at_call 11; (refine (LR.drive_on L5.out (by first | assumption | exact (Below.refl _ _).drew | exact ((Below.refl _ _).alloc (Nat.le_refl _) _).drew) (HS.out _ (by first | assumption | exact (Below.refl _ _).drew | exact ((Below.refl _ _).alloc (Nat.le_refl _) _).drew)).1 (HS.out _ (by first | assumption | exact (Below.refl _ _).drew | exact ((Below.refl _ _).alloc (Nat.le_refl _) _).drew)).2 (by omega) ([] : List Vis) fk fe HDH.out).mono ?_); rintro e w' ⟨B, c2, rfl, hbx, hby, hown⟩; (try (have hbox := Lib.hid (box_kept hby); have hz0 := hbox.out.cell (i := 0) rfl; have hz1 := hbox.out.cell (i := 1) rfl; have hf0 := hbox.out.free 0; have hf1 := hbox.out.free 1))))
    · go_wp2_with fail
      go_meet
      exact ⟨_, _, _, rfl, rfl, DM.behind (Below.refl _ _).drew hby hown.out⟩
    · go_wp2_with fail
      go_meet
      exact ⟨_, _, _, rfl, rfl, DM.ahead hby hbox.out hown.out⟩
  case rest =>
  clear HC HS
  obtain ⟨B8, c8, g8, rfl, rfl, M8⟩ := hcut
  obtain ⟨w6, rfl⟩ : ∃ w, w = wc := ⟨_, rfl⟩
  have L6 := Lib.hid (L5.out.below M8.out.on)
  have F6 := Lib.hid (F5.out.below M8.out.on)
  have G6 := Lib.hid (M7.out.below M8.out.on)
  clear L5 F5 M7
  obtain ⟨z0, z1⟩ := G6.out.flt.cells
  go_upto_region 9 with fail
  go_cut [127] (fun b wx => b = .bool false ∧ Hid (Below w6.heap.size w6 wx))
  case first =>
    go_wp2_with fail
    refine (fgood_any gk ge _).mono ?_
    rintro e w7 ⟨rfl, hb⟩
    have HB7 := Lib.hid hb
    have F7 := Lib.hid (F6.out.below hb)
    have G7 := Lib.hid (G6.out.below hb)
    have H7 := Lib.hid (M8.out.below hb)
    clear hb z0 z1
    obtain ⟨y0, y1⟩ := H7.out.flt.cells
    obtain ⟨f0, f1⟩ := F7.out.cells
    rcases HGG.out with ⟨rfl, rfl⟩ | ⟨rfl, rfl⟩
    · go_wp2_with fail
      go_meet
      exact ⟨rfl, HB7⟩
    · obtain ⟨z0, z1⟩ := G7.out.flt.cells
      go_wp2_with fail
      go_meet
      exact ⟨rfl, HB7⟩
  case rest =>
  obtain ⟨rfl, HB7⟩ := hcut
  obtain ⟨w7, rfl⟩ : ∃ w, w = wc := ⟨_, rfl⟩
  have L7 := Lib.hid (L6.out.below HB7.out)
  have F7 := Lib.hid (F6.out.below HB7.out)
  clear HB7 L6 F6 G6 M8 z0 z1
  obtain ⟨f0, f1⟩ := F7.out.cells
  obtain ⟨k9, hk9⟩ : ∃ k : Nat, k + 1 = 80 - fk := ⟨80 - fk - 1, by omega⟩
  obtain ⟨k8, hk8⟩ : ∃ k : Nat, k = k9 + 1 := ⟨_, rfl⟩
  have hj0 : (80 : Int) - (fk : Int) = (k8 : Int) := by omega
  have hj1 : (k8 : Int) - 1 = (k9 : Int) := by omega
  have hj2 : IntKind.i64.wrap (k8 : Int) = (k8 : Int) := IntWalk.i64_in _ (by omega)
  have hj3 : IntKind.i64.wrap (k9 : Int) = (k9 : Int) := IntWalk.i64_in _ (by omega)
  have hj4 : (0 : Int) ≤ (k9 : Int) := by omega
  have HK9 : Hid (fk + 1 + k9 ≤ 80) := by show _ ≤ _; omega
  clear hk8 hk9
  go_upto_if 134 with fail
  go_cut [3] (fun vm wx => wx = w7 ∧ ∃ n3 c3 : Nat, vm = .slice A2 n3 c3 ∧ Hid (n3 ≤ n2 ∧ n3 ≤ c3 ∧ n3 ≤ k9))
  case first =>
    by_cases hgt : k9 < n2
    · obtain ⟨b2, off2, _, rfl, _⟩ := Stps.at_ HMO.out (by omega : 0 < n2)
      have hl0 : (k9 : Int) < (n2 : Int) := by omega
      have hl1 : (k9 : Int) ≤ (c2 : Int) := by omega
      go_wp2_with fail
      go_meet
      exact ⟨rfl, _, _, rfl, by omega, by omega, Nat.le_refl _⟩
    · have hl0 : ¬ (k9 : Int) < (n2 : Int) := by omega
      go_wp2_with fail
      go_meet
      exact ⟨rfl, _, _, rfl, Nat.le_refl _, hc2, by omega⟩
  case rest =>
  obtain ⟨rfl, n3, c3, rfl, HN3⟩ := hcut
  obtain ⟨w7, rfl⟩ : ∃ w, w = wc := ⟨_, rfl⟩
  have hn3 : n3 ≤ 80 := by have := HN3.out.2.2; have := HK9.out; omega
  have hk1b : k1 ≤ 80 := by have := HK1.out; have := HK9.out; omega
  have HS1 : Hid (∀ u, Below w7.heap.size w7 u → Stps u W.heap.size (some ⟨b, off, none⟩) k1 (stops.take k1)) := fun u hu => stps_front (Recs.keep L7.out.stops0 (L7.out.below hu).old) (by omega)
  have HS2 : Hid (∀ u, Below w7.heap.size w7 u → Stps u W.heap.size A2 n3 (more.take n3)) := fun u hu => stps_front (Recs.keep HMO.out (L7.out.below hu).old) HN3.out.1
  have HC : Hid (∀ u, Below w7.heap.size w7 u → (((u.cell? ⟨W.heap.size + 1, 0, none⟩ = some (.int .i64 d.id) ∧ u.cell? ⟨W.heap.size + 1, 1, none⟩ = some (.int .i64 d.room) ∧ u.cell? ⟨W.heap.size + 1, 2, none⟩ = some (.int .i64 d.home) ∧ u.cell? ⟨W.heap.size + 1, 3, none⟩ = some (.int .i64 d.win.fr) ∧ u.cell? ⟨W.heap.size + 1, 4, none⟩ = some (.int .i64 d.win.to) ∧ u.cell? ⟨W.heap.size + 1, 5, none⟩ = some (.bool d.retired)) ∧ u.cell? ⟨W.heap.size, 3, none⟩ = some (.slice x.os.a x.os.n x.os.c)) ∧ u.cell? ⟨gf, 0, none⟩ = some (.int .i64 fk)) ∧ Below w7.heap.size w7 u) := fun u hu => ⟨⟨(L7.out.below hu).cells, (F7.out.below hu).cells.1⟩, hu⟩
  have HDI : Hid (drive m d os (stops.take k1 ++ more.take n3) = ([], fk, fe)) := by
    have h1 := HK1.out
    rw [h1]
    exact HALL.out _ (by have := HK9.out; have := HN3.out.2.2; rw [List.length_take]; omega)
  have O1 : Hid (OwnK (w7.alloc (.cells #[] 35)).drew w7.heap.size 35 2 (.slice (some ⟨w7.heap.size, 0, none⟩) 0 0) 0 []) := (OwnK.new0 w7 _ _ _ (Nat.le_refl _)).drew
  have O2 : Hid (OwnK ((w7.alloc (.cells #[.int .i64 0, .int .i64 0] 39)).alloc (.cells #[] 35)).drew w7.heap.size 35 2 (.slice (some ⟨w7.heap.size + 1, 0, none⟩) 0 0) 0 []) := by
    have := (OwnK.new0 (w7.alloc (.cells #[.int .i64 0, .int .i64 0] 39)) w7.heap.size 35 2 (by simp)).drew
    rw [World.size_alloc] at this
    exact this
  have O3 : Hid (OwnK ((w7.alloc (.cells #[] 35)).alloc (.cells #[.int .i64 0, .int .i64 0] 39)).drew w7.heap.size 35 2 (.slice (some ⟨w7.heap.size, 0, none⟩) 0 0) 0 []) := ((OwnK.new0 w7 _ _ _ (Nat.le_refl _)).alloc _).drew
  have X2 : Hid (Blk ((w7.alloc (.cells #[.int .i64 0, .int .i64 0] 39)).alloc (.cells #[] 35)).drew w7.heap.size 39 [.int .i64 0, .int .i64 0]) := by
    have := Blk.new w7 39 [.int .i64 0, .int .i64 0]
    exact this.below ((Below.refl _ _).alloc (Nat.le_refl _) _).drew this.lt
  have X3 : Hid (Blk ((w7.alloc (.cells #[] 35)).alloc (.cells #[.int .i64 0, .int .i64 0] 39)).drew (w7.heap.size + 1) 39 [.int .i64 0, .int .i64 0]) := by
    have := Blk.new (w7.alloc (.cells #[] 35)) 39 [.int .i64 0, .int .i64 0]
    rw [World.size_alloc] at this
    exact this
  clear f0 f1
  have BD0 : Hid (Below w7.heap.size w7 w7.drew) := (Below.refl _ _).drew
  have BD1 : Hid (Below w7.heap.size w7 (w7.alloc (.cells #[] 35)).drew) := ((Below.refl _ _).alloc (Nat.le_refl _) _).drew
  have BD2 : Hid (Below w7.heap.size w7 (w7.alloc (.cells #[.int .i64 0, .int .i64 0] 39)).drew) := ((Below.refl _ _).alloc (Nat.le_refl _) _).drew
  have BD3 : Hid (Below w7.heap.size w7 ((w7.alloc (.cells #[.int .i64 0, .int .i64 0] 39)).alloc (.cells #[] 35)).drew) := (((Below.refl _ _).alloc (Nat.le_refl _) _).alloc (by simp) _).drew
  have BD4 : Hid (Below w7.heap.size w7 ((w7.alloc (.cells #[] 35)).alloc (.cells #[.int .i64 0, .int .i64 0] 39)).drew) := (((Below.refl _ _).alloc (Nat.le_refl _) _).alloc (by simp) _).drew
  go_upto_region 13 with fail
  go_cut [19] (fun vf wx => ∃ g, vf = .pointer (some ⟨g, 0, none⟩) ∧ Hid (Below w7.heap.size w7 wx ∧ FBox wx g fk fe))
  case first =>
    go_region_held3 (fun u => (((u.cell? ⟨W.heap.size + 1, 0, none⟩ = some (.int .i64 d.id) ∧ u.cell? ⟨W.heap.size + 1, 1, none⟩ = some (.int .i64 d.room) ∧ u.cell? ⟨W.heap.size + 1, 2, none⟩ = some (.int .i64 d.home) ∧ u.cell? ⟨W.heap.size + 1, 3, none⟩ = some (.int .i64 d.win.fr) ∧ u.cell? ⟨W.heap.size + 1, 4, none⟩ = some (.int .i64 d.win.to) ∧ u.cell? ⟨W.heap.size + 1, 5, none⟩ = some (.bool d.retired)) ∧ u.cell? ⟨W.heap.size, 3, none⟩ = some (.slice x.os.a x.os.n x.os.c)) ∧ u.cell? ⟨gf, 0, none⟩ = some (.int .i64 fk)) ∧ Below w7.heap.size w7 u)
      (first
        | with_reducible exact HC.out _ BD0.out
        | with_reducible exact HC.out _ BD1.out
        | with_reducible exact HC.out _ BD2.out
        | with_reducible exact HC.out _ BD3.out
        | with_reducible exact HC.out _ BD4.out
        | with_reducible exact HC.out _ hb8
        | with_reducible exact HC.out _ hb2
        | with_reducible exact HC.out _ hb1
        | with_reducible exact HC.out _ (Below.alloc hb8 (Below.size hb8) _)
        | with_reducible exact HC.out _ (Below.alloc hb2 (Below.size hb2) _)
        | with_reducible exact HC.out _ (Below.alloc hb1 (Below.size hb1) _)
        | with_reducible exact HC.out _ (below_put2g hb8 X8.out.2 _ _)
        | (trace "S NOT SHOWN"; trace_state; fail))
      (first
        | ((with_reducible refine at_world (w7.alloc (.cells #[] 35)).drew ?_); refine step_append_ks (by rfl) _ _ Try.underlying53 infoStp rfl (by omega) (by rfl) (base := w7.heap.size) O1.out (by rfl) (HS1.out _ (((Below.refl _ _).alloc (Nat.le_refl _) _).drew)) (by rfl) (stpsV_one _) (by unfold maxLen; omega) (by omega) (w0 := w7) (B0 := w7.heap.size) (((Below.refl _ _).alloc (Nat.le_refl _) _).drew) (Below.size (((Below.refl _ _).alloc (Nat.le_refl _) _).drew)) (Below.size (((Below.refl _ _).alloc (Nat.le_refl _) _).drew)) (Nat.le_refl _) ?_; intro v1 w1 HV1 HB1 HG1 HO1; have hb1 := HB1.out; obtain ⟨A9, c9, rfl⟩ := HV1.out.slice; have HV1n : Hid (OwnK w1 w7.heap.size 35 2 (.slice A9 k1 c9) k1 ([] ++ stpsV (stops.take k1))) := (by have h := HV1.out; rw [Nat.zero_add] at h; exact h))
        | ((with_reducible refine at_world ((w7.alloc (.cells #[.int .i64 0, .int .i64 0] 39)).alloc (.cells #[] 35)).drew ?_); refine step_append_ks (by rfl) _ _ Try.underlying53 infoStp rfl (by omega) (by rfl) (base := w7.heap.size) O2.out (by rfl) (HS1.out _ ((((Below.refl _ _).alloc (Nat.le_refl _) _).alloc (by simp) _).drew)) (by rfl) (stpsV_one _) (by unfold maxLen; omega) (by omega) (w0 := w7) (B0 := w7.heap.size) ((((Below.refl _ _).alloc (Nat.le_refl _) _).alloc (by simp) _).drew) (Below.size ((((Below.refl _ _).alloc (Nat.le_refl _) _).alloc (by simp) _).drew)) (Below.size ((((Below.refl _ _).alloc (Nat.le_refl _) _).alloc (by simp) _).drew)) (Nat.le_refl _) ?_; intro v1 w1 HV1 HB1 HG1 HO1; have hb1 := HB1.out; have X1 := Lib.hid (grown_box HG1.out HO1.out X2.out (by simp [Value.ownBlock]) (Nat.le_refl w7.heap.size)); obtain ⟨A9, c9, rfl⟩ := HV1.out.slice; have HV1n : Hid (OwnK w1 w7.heap.size 35 2 (.slice A9 k1 c9) k1 ([] ++ stpsV (stops.take k1))) := (by have h := HV1.out; rw [Nat.zero_add] at h; exact h))
        | ((with_reducible refine at_world ((w7.alloc (.cells #[] 35)).alloc (.cells #[.int .i64 0, .int .i64 0] 39)).drew ?_); refine step_append_ks (by rfl) _ _ Try.underlying53 infoStp rfl (by omega) (by rfl) (base := w7.heap.size) O3.out (by rfl) (HS1.out _ ((((Below.refl _ _).alloc (Nat.le_refl _) _).alloc (by simp) _).drew)) (by rfl) (stpsV_one _) (by unfold maxLen; omega) (by omega) (w0 := w7) (B0 := w7.heap.size) ((((Below.refl _ _).alloc (Nat.le_refl _) _).alloc (by simp) _).drew) (Below.size ((((Below.refl _ _).alloc (Nat.le_refl _) _).alloc (by simp) _).drew)) (Below.size ((((Below.refl _ _).alloc (Nat.le_refl _) _).alloc (by simp) _).drew)) (Nat.le_refl _) ?_; intro v1 w1 HV1 HB1 HG1 HO1; have hb1 := HB1.out; have X1 := Lib.hid (grown_box HG1.out HO1.out X3.out (by simp [Value.ownBlock]) (Nat.le_succ w7.heap.size)); obtain ⟨A9, c9, rfl⟩ := HV1.out.slice; have HV1n : Hid (OwnK w1 w7.heap.size 35 2 (.slice A9 k1 c9) k1 ([] ++ stpsV (stops.take k1))) := (by have h := HV1.out; rw [Nat.zero_add] at h; exact h))
        | (have hX1 := X1; (with_reducible refine at_world w1 ?_); refine step_append_ks (by rfl) _ _ Try.underlying53 infoStp rfl (by omega) (by rfl) (base := w7.heap.size) HV1.out (by rfl) (HS2.out _ hb1) (by rfl) (stpsV_one _) (by unfold maxLen; omega) (by omega) (w0 := w7) (B0 := w7.heap.size) hb1 (Below.size hb1) (Below.size hb1) (Nat.le_refl _) ?_; intro v2 w2 HV2 HB2 HG2 HO2; have hb2 := HB2.out; have X4 := Lib.hid (grown_box HG2.out HO2.out X1.out.1 X1.out.2.1 X1.out.2.2); obtain ⟨A10, c10, rfl⟩ := HV2.out.slice; have HS9 : Hid (Stps w2 w2.heap.size A10 (k1 + n3) (stops.take k1 ++ more.take n3) ∧ k1 + n3 ≤ c10) := (by have h := stps_own HV2.out; (try rw [Nat.zero_add] at h); exact h))
        | ((with_reducible refine at_world w1 ?_); refine step_append_ks (by rfl) _ _ Try.underlying53 infoStp rfl (by omega) (by rfl) (base := w7.heap.size) HV1.out (by rfl) (HS2.out _ hb1) (by rfl) (stpsV_one _) (by unfold maxLen; omega) (by omega) (w0 := w7) (B0 := w7.heap.size) hb1 (Below.size hb1) (Below.size hb1) (Nat.le_refl _) ?_; intro v2 w2 HV2 HB2 HG2 HO2; have hb2 := HB2.out; obtain ⟨A10, c10, rfl⟩ := HV2.out.slice; have HS9 : Hid (Stps w2 w2.heap.size A10 (k1 + n3) (stops.take k1 ++ more.take n3) ∧ k1 + n3 ≤ c10) := (by have h := stps_own HV2.out; (try rw [Nat.zero_add] at h); exact h))
        | ((with_reducible refine at_world (w1.alloc (.cells #[.int .i64 0, .int .i64 0] 39)) ?_); refine step_append_ks (by rfl) _ _ Try.underlying53 infoStp rfl (by omega) (by rfl) (base := w7.heap.size) (HV1n.out.alloc _) (by rfl) (HS2.out _ (hb1.alloc hb1.size _)) (by rfl) (stpsV_one _) (by unfold maxLen; omega) (by omega) (w0 := w7) (B0 := w7.heap.size) (hb1.alloc hb1.size _) (Below.size (hb1.alloc hb1.size _)) (Below.size (hb1.alloc hb1.size _)) (Nat.le_refl _) ?_; intro v2 w2 HV2 HB2 HG2 HO2; have hb2 := HB2.out; have X4 := Lib.hid (grown_box HG2.out HO2.out (Blk.new w1 39 [.int .i64 0, .int .i64 0]) HV1n.out.lt hb1.size); obtain ⟨A10, c10, rfl⟩ := HV2.out.slice; have HS9 : Hid (Stps w2 w2.heap.size A10 (k1 + n3) (stops.take k1 ++ more.take n3) ∧ k1 + n3 ≤ c10) := (by have h := stps_own HV2.out; (try rw [Nat.zero_add] at h); exact h))
        | (have hX4 := X4; go_at_call 11; (with_reducible refine at_calls w2 ?_); (refine (LR.drive_on L7.out hb2 HS9.out.1 (Nat.le_refl _) HS9.out.2 [] fk fe HDI.out).mono ?_); rintro e w8 ⟨B9, c11, rfl, hb8, hby, _⟩; have X8 : Hid (Blk w8 _ _ _ ∧ _) := ⟨X4.out.1.below hby X4.out.1.lt, X4.out.2.2⟩; have hz0 := X8.out.1.cell (i := 0) rfl; have hz1 := X8.out.1.cell (i := 1) rfl; have hf0 := X8.out.1.free 0; have hf1 := X8.out.1.free 1)
        | (go_at_call 11; (with_reducible refine at_calls w2 ?_); (refine (LR.drive_on L7.out hb2 HS9.out.1 (Nat.le_refl _) HS9.out.2 [] fk fe HDI.out).mono ?_); rintro e w8 ⟨B9, c11, rfl, hb8, hby, _⟩; skip)
        | (go_at_call 11; (with_reducible refine at_calls (w2.alloc (.cells #[.int .i64 0, .int .i64 0] 39)) ?_); (refine (LR.drive_on L7.out (hb2.alloc hb2.size _) (Recs.alloc HS9.out.1 (Nat.le_refl _) _) (by simp) HS9.out.2 [] fk fe HDI.out).mono ?_); rintro e w8 ⟨B9, c11, rfl, hb8, hby, _⟩; have X8 : Hid (Blk w8 _ _ _ ∧ _) := ⟨(Blk.new w2 39 [.int .i64 0, .int .i64 0]).below hby (Blk.new w2 39 [.int .i64 0, .int .i64 0]).lt, hb2.size⟩; have hz0 := X8.out.1.cell (i := 0) rfl; have hz1 := X8.out.1.cell (i := 1) rfl; have hf0 := X8.out.1.free 0; have hf1 := X8.out.1.free 1))
    all_goals
      go_wp2_with fail
      go_meet
      first
        | exact ⟨_, rfl, hb8.alloc hb8.size _, Blk.new w8 _ _⟩
        | exact ⟨_, rfl, below_put2g hb8 X8.out.2 _ _, (X8.out.1.put 0 _).put 1 _⟩
  case rest =>
  clear HC HS1 HS2 O1 O2 O3 X2 X3
  obtain ⟨g9, rfl, HB9⟩ := hcut
  obtain ⟨w9, rfl⟩ : ∃ w, w = wc := ⟨_, rfl⟩
  have L9 := Lib.hid (L7.out.below HB9.out.1)
  have F9 := Lib.hid (F7.out.below HB9.out.1)
  obtain ⟨f0, f1⟩ := F9.out.cells
  obtain ⟨y0, y1⟩ := HB9.out.2.cells
  clear L7 F7 HB9
  go_wp2_with fail
  refine (runs_any _).mono ?_
  rintro e wz ⟨rfl, hb⟩
  have LZ : Hid (Below W.heap.size W wz) := L9.out.old.trans (hb.mono L9.out.old.size)
  clear hb
  go_wp2_with fail
  go_ret
  exact ⟨rfl, LZ.out⟩

#print axioms routeFaults_walk
end Go.Proofs.Ytjkahookgoecpaa.Route
