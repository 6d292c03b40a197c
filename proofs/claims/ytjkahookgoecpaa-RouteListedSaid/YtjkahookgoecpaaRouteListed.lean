/-
  RouteListed walked.
-/
import Derived.Test.YtjkahookgoecpaaRouteFaults
namespace Go.Proofs.Ytjkahookgoecpaa.FleetMath
open Go.Proofs.Ytjkahookgoecpaa.GeoMath
/-- an order that a stop names -/
def usedB (stops : List Stp) (o : Ord) : Bool := stops.any fun s => decide (s.ord = o.id)
theorem drive_congr {m : Option Mp} {d : Drv} {os ps : List Ord} {stops : List Stp} (h : (drive m d os stops).2.2 ≠ 1) (hk : known m ps = true) (hf : ∀ s ∈ stops, find os s.ord = find ps s.ord) : drive m d ps stops = drive m d os stops := by
  obtain ⟨m', rfl, e1, e2, e3⟩ := drive_args h
  rw [drive_arg e1 e2 e3, drive_arg e1 hk e3, driveM_congr hf]
theorem drive_turned {m : Option Mp} {d : Drv} {os : List Ord} {stops : List Stp} (h : (drive m d os stops).2.2 ≠ 1) : drive m d os.reverse stops = drive m d os stops := by
  obtain ⟨m', rfl, e1, e2, e3⟩ := drive_args h
  exact drive_congr h (known_reverse e2) fun s _ => find_reverse (known_iff.1 e2).2.2 _
theorem drive_some {m : Option Mp} {d : Drv} {os : List Ord} {stops : List Stp} (h : (drive m d os stops).2.2 ≠ 1) : drive m d (os.filter (usedB stops)).reverse stops = drive m d os stops := by
  obtain ⟨m', rfl, e1, e2, e3⟩ := drive_args h
  have hd := (known_iff.1 e2).2.2
  refine drive_congr h (known_reverse (known_filter e2 _)) fun s hs => ?_
  rw [← find_reverse (hd.filter _)]
  refine find_filter hd _ _ fun o _ he => ?_
  unfold usedB
  rw [List.any_eq_true]
  exact ⟨s, hs, by simpa using he.symm⟩
end Go.Proofs.Ytjkahookgoecpaa.FleetMath
namespace Go.Proofs.Ytjkahookgoecpaa.Route
open Go.ChangeShapes Go.WideShapes Go.ChangeAt Go.RowKit Go.Proofs.Ytjkahookgoecpaa.Mem Go.Proofs.Ytjkahookgoecpaa.GeoMath Go.Proofs.Ytjkahookgoecpaa.FleetMath Go.Proofs.Ytjkahookgoecpaa.Rec Go.Proofs.Ytjkahookgoecpaa.Geo Go.Proofs.Ytjkahookgoecpaa.Span Go.Proofs.Ytjkahookgoecpaa.Deal Go.Proofs.Ytjkahookgoecpaa.Keep
set_option linter.unusedVariables false
abbrev ordL (o : FleetMath.Ord) : List Value := [.int .i64 o.id, .int .i64 o.size, .int .i64 o.pick.place, .int .i64 o.pick.win.fr, .int .i64 o.pick.win.to, .int .i64 o.pick.serv, .int .i64 o.drop.place, .int .i64 o.drop.win.fr, .int .i64 o.drop.win.to, .int .i64 o.drop.serv]
theorem ordsV_single (o : FleetMath.Ord) : ordsV [o] = ordL o := rfl
/-- two lists of orders of the call's own, apart from one another -/
structure Rows2 (w2 : World) (sv tv : Value) (ss tt : List FleetMath.Ord) (u : World) : Prop where
  on : Below w2.heap.size w2 u
  s : OwnK u w2.heap.size 31 10 sv ss.length (ordsV ss)
  t : OwnK u w2.heap.size 31 10 tv tt.length (ordsV tt)
  ne : ∀ g, sv.ownBlock = some g → tv.ownBlock ≠ some g
section
variable {w2 u u' : World} {sv tv v' : Value} {ss tt : List FleetMath.Ord} {o : FleetMath.Ord}
theorem Rows2.start (w2 : World) : Rows2 w2 (.slice none 0 0) (.slice none 0 0) [] [] w2 := ⟨Below.refl _ _, OwnK.nil _ _ _ _, OwnK.nil _ _ _ _, fun g h => by cases h⟩
theorem Rows2.below (h : Rows2 w2 sv tv ss tt u) (hb : Below u.heap.size u u') : Rows2 w2 sv tv ss tt u' := ⟨h.on.trans (hb.mono h.on.size), h.s.keep hb (Nat.le_refl _), h.t.keep hb (Nat.le_refl _), h.ne⟩
theorem own_lt {w : World} {base k n : Nat} {e : TypeId} {v : Value} {vs : List Value} (h : OwnK w base e k v n vs) {g : Nat} (hg : v.ownBlock = some g) : base ≤ g ∧ g < w.heap.size := by
  rcases h.blk with ⟨rfl, _⟩ | ⟨g', cap, cur, rfl, h1, hb, _⟩
  · cases hg
  · have : g' = g := by simpa [Value.ownBlock] using hg
    subst this
    exact ⟨h1, hb.lt⟩
/-- an order appended onto the second list -/
theorem Rows2.addT (h : Rows2 w2 sv tv ss tt u) (ho : OwnK u' w2.heap.size 31 10 v' (tt.length + 1) (ordsV tt ++ ordL o)) (hg : u.grownBy u' tv.ownBlock) (hn : v'.ownBlock = tv.ownBlock ∨ v'.ownBlock = some u.heap.size) : Rows2 w2 sv v' ss (tt ++ [o]) u' := by
  refine ⟨h.t.below h.on hg h.on.size (Nat.le_refl _), h.s.other hg fun g e => h.ne g e, ?_, fun g e => ?_⟩
  · rw [ordsV_append, ordsV_single, List.length_append]
    exact ho
  · rcases hn with hn | hn
    · rw [hn]; exact h.ne g e
    · rw [hn]
      intro e2
      injection e2 with e2
      have := own_lt h.s e
      omega
theorem Rows2.swap (h : Rows2 w2 sv tv ss tt u) : Rows2 w2 tv sv tt ss u := ⟨h.on, h.t, h.s, fun g e e2 => h.ne g e2 e⟩
theorem Rows2.addS (h : Rows2 w2 sv tv ss tt u) (ho : OwnK u' w2.heap.size 31 10 v' (ss.length + 1) (ordsV ss ++ ordL o)) (hg : u.grownBy u' sv.ownBlock) (hn : v'.ownBlock = sv.ownBlock ∨ v'.ownBlock = some u.heap.size) : Rows2 w2 v' tv (ss ++ [o]) tt u' := (h.swap.addT ho hg hn).swap
end
theorem ordL_one (o : FleetMath.Ord) : ∀ v ∈ ordL o, v.oneCell' = true := by
  have := ordsV_one [o]
  rwa [ordsV_single] at this
section
variable {W u : World} {q : Option Addr} {m : Option Mp} {x : Wd} {os : List FleetMath.Ord} {d : Drv} {A : Option Addr} {n : Nat} {stops : List Stp}
/-- a drive over other orders -/
theorem LR.drive_of (h : LR W q m x os d A n stops u) {A' : Option Addr} {n' c' c : Nat} {ps : List FleetMath.Ord} (hp : Ords u u.heap.size A' n' ps) (hpc : n' ≤ c') (hc : n ≤ c) (vs : List Vis) (k : Nat) (e : Int) (hd : drive m d ps stops = (vs, k, e)) :
    Calls Try.prog 11 #[.pointer q, drvV d, .slice A' n' c', .slice A n c] u fun en u' => ∃ B c2, en = .returned (.tuple #[.slice B vs.length c2, faultV k e]) ∧ Below u.heap.size u u' ∧ Viss u' u'.heap.size B vs.length vs := by
  refine (gdrive_any W.heap.size _ m d A' n' c' ps A n c stops u h.map hp h.stps hc hpc).mono ?_
  rintro en u' ⟨hb, v, rfl, hv⟩
  rw [hd] at hv ⊢
  obtain ⟨B, c2, rfl, _, hr⟩ := hv.read
  exact ⟨B, c2, rfl, hb, hr⟩
end

set_option maxRecDepth 100000 in
set_option maxHeartbeats 4000000 in
theorem routeListed_walk (x : Wd) (ts : List Int) (os : List FleetMath.Ord) (d : Drv) (A : Option Addr) (n c : Nat) (stops : List Stp) (W : World) (hts : Ints W W.heap.size x.ts.a x.ts.n ts) (hos : Ords W W.heap.size x.os.a x.os.n os) (hst : Stps W W.heap.size A n stops) (hc : n ≤ c) :
    Calls Try.prog 8 #[wdV x, drvV d, .slice A n c] W fun e w' => e = .returned (.bool true) ∧ Below W.heap.size W w' := by
  have HTS := Lib.hid hts
  have HOS := Lib.hid hos
  have HST := Lib.hid hst
  have HLO := Lib.hid hos.length
  have hnm := Recs.le hst
  clear hts hos hst
  obtain ⟨m, hm⟩ : ∃ m, mapOf x.n ts = m := ⟨_, rfl⟩
  have HM := Lib.hid hm
  clear hm
  have HB0 : Hid (Below W.heap.size W ((W.alloc (.cells #[.int .i64 x.n, x.ts.v, x.ds.v, x.os.v, x.pl.v] 52)).alloc (.cells #[.int .i64 d.id, .int .i64 d.room, .int .i64 d.home, .int .i64 d.win.fr, .int .i64 d.win.to, .bool d.retired] 33))) := ((Below.refl _ _).alloc (Nat.le_refl _) _).alloc (by simp) _
  have HW0 : Hid (WBox ((W.alloc (.cells #[.int .i64 x.n, x.ts.v, x.ds.v, x.os.v, x.pl.v] 52)).alloc (.cells #[.int .i64 d.id, .int .i64 d.room, .int .i64 d.home, .int .i64 d.win.fr, .int .i64 d.win.to, .bool d.retired] 33)) W.heap.size x) := (WBox.new W x).below ((Below.refl _ _).alloc (Nat.le_refl _) _)
  have HD0 : Hid (DBox ((W.alloc (.cells #[.int .i64 x.n, x.ts.v, x.ds.v, x.os.v, x.pl.v] 52)).alloc (.cells #[.int .i64 d.id, .int .i64 d.room, .int .i64 d.home, .int .i64 d.win.fr, .int .i64 d.win.to, .bool d.retired] 33)) (W.heap.size + 1) d) := by
    have := Blk.new (W.alloc (.cells #[.int .i64 x.n, x.ts.v, x.ds.v, x.os.v, x.pl.v] 52)) 33 [.int .i64 d.id, .int .i64 d.room, .int .i64 d.home, .int .i64 d.win.fr, .int .i64 d.win.to, .bool d.retired]
    rw [World.size_alloc] at this
    exact this
  obtain ⟨⟨vs, fk, fe⟩, hdr⟩ : ∃ r, drive m d os stops = r := ⟨_, rfl⟩
  have HDR := Lib.hid hdr
  clear hdr
  go_enter Try.func8, Try.ntmps8
  go_wp2_with fail
  refine (kmaps_any x ts _ (by exact Reads.more (Reads.keep HTS.out HB0.out) HB0.out.size)).mono ?_
  rintro e w1 ⟨hb1, q, r, rfl, hq, _⟩
  have L1 : Hid (LR W q m x os d A n stops w1) := by
    have HM' := HM.out
    rw [HM'] at hq
    exact ⟨HB0.out.trans (hb1.mono HB0.out.size), hq.lower HB0.out.size, HW0.out.below hb1, HD0.out.below hb1, HOS.out, HST.out⟩
  clear hb1 hq HB0 HW0 HD0 HTS HOS HST HM
  obtain ⟨⟨d0, d1, d2, d3, d4, d5⟩, e0⟩ := L1.out.cells
  go_wp2_with fail
  refine (LR.drive_of L1.out L1.out.ords x.os.h hc vs fk fe HDR.out).mono ?_
  rintro e w2 ⟨B, c5, rfl, hb, hvs⟩
  have L2 := Lib.hid ((L1.out.below hb).alloc (.cells #[.int .i64 fk, .int .i64 fe] 39))
  have F2 : Hid (FBox (w2.alloc (.cells #[.int .i64 fk, .int .i64 fe] 39)) w2.heap.size fk fe) := Blk.new w2 _ _
  have V2 : Hid (Viss (w2.alloc (.cells #[.int .i64 fk, .int .i64 fe] 39)) (w2.alloc (.cells #[.int .i64 fk, .int .i64 fe] 39)).heap.size B vs.length vs) := Recs.more (Recs.alloc hvs (Nat.le_refl _) _) (by simp)
  clear hb hvs L1 d0 d1 d2 d3 d4 d5 e0
  obtain ⟨gf, hgf⟩ : ∃ g, w2.heap.size = g := ⟨_, rfl⟩
  obtain ⟨w3, hw3⟩ : ∃ w, w2.alloc (.cells #[.int .i64 fk, .int .i64 fe] 39) = w := ⟨_, rfl⟩
  go_upto_region 5 with fail
  rw [hgf, hw3] at F2
  rw [hw3] at L2 V2
  clear hgf hw3
  have z1 := F2.out.cells.2
  by_cases he : fe = 1
  · have hz : vs = [] := by
      have := drive_empty (m := m) (d := d) (os := os) (stops := stops) (by rw [HDR.out]; simp only; omega)
      rw [HDR.out] at this
      exact this
    subst hz
    subst he
    simp only [List.length_nil]
    go_wp2_with fail
    refine (runs_any _).mono ?_
    rintro e w4 ⟨rfl, hb⟩
    have LZ : Hid (Below W.heap.size W w4) := L2.out.old.trans (hb.mono L2.out.old.size)
    clear hb
    go_wp2_with fail
    go_ret
    exact ⟨rfl, LZ.out⟩
  have HNE : Hid ((drive m d os stops).2.2 ≠ 1) := by
    show _ ≠ _
    rw [HDR.out]
    exact he
  have HT : Hid (drive m d os.reverse stops = (vs, fk, fe)) := by rw [drive_turned HNE.out]; exact HDR.out
  have HSM : Hid (drive m d (os.filter (usedB stops)).reverse stops = (vs, fk, fe)) := by rw [drive_some HNE.out]; exact HDR.out
  have hn40 : x.os.n ≤ 40 := by
    obtain ⟨m', _, _, h2, _⟩ := drive_args HNE.out
    have := (known_iff.1 h2).1
    have := HLO.out
    omega
  have e1 : (fe == 1) = false := by simpa using he
  have c3 := L2.out.cells.2
  clear he
  go_wp2_with fail
  go_loopw [12, 13, 14] (fun sv tv iv wr => ∃ (r : Nat) (iz : Int), r ≤ x.os.n ∧ Hid (iz + 1 = (r : Int)) ∧ iv = .int .i64 iz ∧ Hid (Rows2 w3 sv tv ((os.drop r).filter (usedB stops)).reverse (os.drop r).reverse wr)) (fun _ _ iv _ => (intOf iv + 1).toNat)
  case atStart =>
    refine ⟨x.os.n, (x.os.n : Int) - 1, Nat.le_refl _, (by show (x.os.n : Int) - 1 + 1 = _; omega), by go_num, ?_⟩
    have : os.drop x.os.n = [] := List.drop_of_length_le (by have := HLO.out; omega)
    rw [this]
    exact Rows2.start w3
  case round =>
    clear c3
    obtain ⟨r, iz, hr, HIZ, rfl, HR⟩ := hrel
    have L := Lib.hid (L2.out.below HR.out.on)
    have c3 := L.out.cells.2
    rcases Nat.eq_zero_or_pos r with hr0 | hr0
    · subst hr0
      have hiz : iz = -1 := by have := HIZ.out; omega
      subst hiz
      have hz : os.drop 0 = os := List.drop_zero
      rw [hz] at HR
      obtain ⟨At, ct, rfl, hct, hxt⟩ := HR.out.t.read
      obtain ⟨As, cs, rfl, hcs, hxs⟩ := HR.out.s.read
      have HCT := Lib.hid hct
      have HCS := Lib.hid hcs
      clear hct hcs hxt hxs
      have HOT : Hid (Ords wr wr.heap.size At os.reverse.length os.reverse) := HR.out.t.read' rfl
      have HOS : Hid (Ords wr wr.heap.size As (os.filter (usedB stops)).reverse.length (os.filter (usedB stops)).reverse) := HR.out.s.read' rfl
      obtain ⟨nt, hnt⟩ : ∃ k, os.reverse.length = k := ⟨_, rfl⟩
      obtain ⟨ns, hns⟩ : ∃ k, (os.filter (usedB stops)).reverse.length = k := ⟨_, rfl⟩
      rw [hnt] at HOT HCT ⊢
      rw [hns] at HOS HCS ⊢
      clear hnt hns
      have V3 : Hid (Viss wr wr.heap.size B vs.length vs) := Recs.more (Recs.keep V2.out HR.out.on) HR.out.on.size
      have F3 := Lib.hid (F2.out.below HR.out.on)
      clear hz V2 F2 L2 HR
      obtain ⟨⟨d0, d1, d2, d3, d4, d5⟩, e0⟩ := L.out.cells
      go_wp2_with fail
      refine (LR.drive_of L.out HOT.out HCT.out hc vs fk fe HT.out).mono ?_
      rintro e w5 ⟨B5, c6, rfl, hb, hvs⟩
      have L5 := Lib.hid ((L.out.below hb).alloc (.cells #[.int .i64 fk, .int .i64 fe] 39))
      have F5 := Lib.hid ((F3.out.below hb).below ((Below.refl _ _).alloc (Nat.le_refl _) (.cells #[.int .i64 fk, .int .i64 fe] 39)))
      have G5 : Hid (FBox (w5.alloc (.cells #[.int .i64 fk, .int .i64 fe] 39)) w5.heap.size fk fe) := Blk.new w5 _ _
      have V5 : Hid (Viss (w5.alloc (.cells #[.int .i64 fk, .int .i64 fe] 39)) w5.heap.size B vs.length vs) := Recs.alloc (Recs.more (Recs.keep V3.out hb) hb.size) (Nat.le_refl _) _
      have U5 : Hid (Viss (w5.alloc (.cells #[.int .i64 fk, .int .i64 fe] 39)) w5.heap.size B5 vs.length vs) := Recs.alloc hvs (Nat.le_refl _) _
      have O5 : Hid (Ords (w5.alloc (.cells #[.int .i64 fk, .int .i64 fe] 39)) (w5.alloc (.cells #[.int .i64 fk, .int .i64 fe] 39)).heap.size As ns (os.filter (usedB stops)).reverse) := Recs.more (Recs.alloc (Recs.more (Recs.keep HOS.out hb) hb.size) (Nat.le_refl _) _) (by simp)
      clear hb hvs L F3 V3 HOT HOS d0 d1 d2 d3 d4 d5 e0 c3
      obtain ⟨⟨d0, d1, d2, d3, d4, d5⟩, e0⟩ := L5.out.cells
      go_wp2_with fail
      refine (LR.drive_of L5.out O5.out HCS.out hc vs fk fe HSM.out).mono ?_
      rintro e w6 ⟨B6, c7, rfl, hb, hvs⟩
      have L6 := Lib.hid ((L5.out.below hb).alloc (.cells #[.int .i64 fk, .int .i64 fe] 39))
      have F6 := Lib.hid ((F5.out.below hb).below ((Below.refl _ _).alloc (Nat.le_refl _) (.cells #[.int .i64 fk, .int .i64 fe] 39)))
      have G6 := Lib.hid ((G5.out.below hb).below ((Below.refl _ _).alloc (Nat.le_refl _) (.cells #[.int .i64 fk, .int .i64 fe] 39)))
      have H6 : Hid (FBox (w6.alloc (.cells #[.int .i64 fk, .int .i64 fe] 39)) w6.heap.size fk fe) := Blk.new w6 _ _
      have hs56 : w5.heap.size ≤ w6.heap.size := by have := hb.size; simp at this; omega
      have V6 : Hid (Viss (w6.alloc (.cells #[.int .i64 fk, .int .i64 fe] 39)) w6.heap.size B vs.length vs) := Recs.alloc (Recs.more (Recs.keep V5.out (hb.mono (by simp))) hs56) (Nat.le_refl _) _
      have U6 : Hid (Viss (w6.alloc (.cells #[.int .i64 fk, .int .i64 fe] 39)) w6.heap.size B5 vs.length vs) := Recs.alloc (Recs.more (Recs.keep U5.out (hb.mono (by simp))) hs56) (Nat.le_refl _) _
      have T6 : Hid (Viss (w6.alloc (.cells #[.int .i64 fk, .int .i64 fe] 39)) w6.heap.size B6 vs.length vs) := Recs.alloc hvs (Nat.le_refl _) _
      clear hb hvs L5 F5 G5 V5 U5 O5 hs56 d0 d1 d2 d3 d4 d5 e0
      obtain ⟨f0, f1⟩ := F6.out.cells
      obtain ⟨g0, g1⟩ := G6.out.cells
      obtain ⟨h0, h1⟩ := H6.out.cells
      go_wp2_with fail
      refine (sameVis B B5 vs.length c5 c6 vs _ _ _ V6.out U6.out).mono ?_
      rintro e _ ⟨rfl, dn1, rfl⟩
      go_wp2_with fail
      refine (sameVis B B6 vs.length c5 c7 vs _ _ _ (Recs.drewN V6.out dn1) (Recs.drewN T6.out dn1)).mono ?_
      rintro e _ ⟨rfl, dn2, rfl⟩
      go_wp2_with fail
      refine (runs_any _).mono ?_
      rintro e w7 ⟨rfl, hb⟩
      have hl := below_drewN (below_drewN L6.out.old dn1) dn2
      have LZ : Hid (Below W.heap.size W w7) := by
        first
          | exact hl.trans (hb.mono hl.size)
          | exact (below_drewN L6.out.old _).trans (hb.mono (below_drewN L6.out.old _).size)
      clear hb hl
      go_wp2_with fail
      go_ret
      exact ⟨rfl, LZ.out⟩
    · obtain ⟨k, rfl⟩ : ∃ k, r = k + 1 := ⟨r - 1, by omega⟩
      have hiz : iz = (k : Int) := by have := HIZ.out; omega
      subst hiz
      have hk : k < x.os.n := by omega
      obtain ⟨b, off, o, eA, hbW, ho, hdk, q0, q1, q2, q3, q4, q5, q6, q7, q8, q9⟩ := Ords.at_ L.out.ords hk
      have HRT : Hid (OwnK (wr.alloc (.cells #[.int .i64 o.id, .int .i64 o.size, .int .i64 o.pick.place, .int .i64 o.pick.win.fr, .int .i64 o.pick.win.to, .int .i64 o.pick.serv, .int .i64 o.drop.place, .int .i64 o.drop.win.fr, .int .i64 o.drop.win.to, .int .i64 o.drop.serv] 31)) w3.heap.size 31 10 u13 (os.drop (k + 1)).reverse.length (ordsV (os.drop (k + 1)).reverse)) := HR.out.t.alloc _
      have HBX : Hid (Blk (wr.alloc (.cells #[.int .i64 o.id, .int .i64 o.size, .int .i64 o.pick.place, .int .i64 o.pick.win.fr, .int .i64 o.pick.win.to, .int .i64 o.pick.serv, .int .i64 o.drop.place, .int .i64 o.drop.win.fr, .int .i64 o.drop.win.to, .int .i64 o.drop.serv] 31)) wr.heap.size 31 (ordL o)) := Blk.new wr _ _
      have HR1 := Lib.hid (HR.out.below ((Below.refl _ _).alloc (Nat.le_refl _) (.cells #[.int .i64 o.id, .int .i64 o.size, .int .i64 o.pick.place, .int .i64 o.pick.win.fr, .int .i64 o.pick.win.to, .int .i64 o.pick.serv, .int .i64 o.drop.place, .int .i64 o.drop.win.fr, .int .i64 o.drop.win.to, .int .i64 o.drop.serv] 31)))
      have HDK : Hid (os.drop k = o :: os.drop (k + 1)) := hdk
      have hlen : (os.drop (k + 1)).reverse.length ≤ 40 := by rw [List.length_reverse, List.length_drop]; have := HLO.out; omega
      have hlen2 : ((os.drop (k + 1)).filter (usedB stops)).reverse.length ≤ 40 := by
        rw [List.length_reverse]
        have := List.length_filter_le (usedB stops) (os.drop (k + 1))
        rw [List.length_reverse] at hlen
        omega
      clear ho hdk hbW
      rw [eA] at c3
      have HEA := Lib.hid eA
      clear eA
      have hki : (k : Int) < (x.os.n : Int) := by omega
      have hki0 : (0 : Int) ≤ (k : Int) := by omega
      go_wp2_with (at_builtin; refine wpList_append_ko (o := ⟨some 62, _, _, _, _, _⟩) rfl (.tmp 55) (.tmp 61) Try.underlying36 infoOrd rfl (by decide) rfl HRT.out rfl HBX.out rfl rfl (ordL_one o) (by unfold maxLen; omega) (by omega) HR1.out.on.size ?_; intro vB wB HO HG HN; have HRB := Lib.hid (HR1.out.addT HO.out HG.out HN.out); clear HO HG HN)
      have HTT : Hid ((os.drop (k + 1)).reverse ++ [o] = (os.drop k).reverse) := by
        rw [HDK.out]
        exact (List.reverse_cons).symm
      rw [HTT.out] at HRB
      clear HRT HBX HR1 HR L c3 q0 q1 q2 q3 q4 q5 q6 q7 q8 q9 hlen HTT HIZ
      go_loopw [15, 16] (fun uv kv wk => ∃ (kk : Nat) (ub : Bool), kk ≤ n ∧ uv = .bool ub ∧ kv = .int .i64 kk ∧ Hid (ub = (stops.take kk).any (fun s => decide (s.ord = o.id))) ∧ Hid (Rows2 w3 u12 vB ((os.drop (k + 1)).filter (usedB stops)).reverse (os.drop k).reverse wk)) (fun _ kv _ => n - (intOf kv).toNat)
      case atStart => exact ⟨0, false, Nat.zero_le _, rfl, rfl, (rfl : false = _), HRB⟩
      case round =>
        clear HRB
        obtain ⟨kk, ub, hkk, rfl, rfl, HU, HR⟩ := hrel
        have L := Lib.hid (L2.out.below HR.out.on)
        have c3 := L.out.cells.2
        have eA := HEA.out
        rw [eA] at c3
        clear eA
        by_cases hlt : kk < n
        · obtain ⟨b2, off2, o2, eA2, hbW, ho2, hdk2, q0, _, _, _, _, _, _, _, _, _⟩ := Ords.at_ L.out.ords hk
          have hoo : o2 = o := by
            have h1 := HDK.out
            rw [hdk2] at h1
            injection h1
          subst hoo
          rw [HEA.out] at eA2
          injection eA2 with eA2
          injection eA2 with e3 e4 _
          subst e3
          subst e4
          obtain ⟨b3, off3, s, rfl, _, hs, _, p0, _⟩ := Stps.at_ L.out.stps hlt
          have HS := Lib.hid hs
          clear ho2 hdk2 hbW hs
          have hki2 : (kk : Int) < (n : Int) := by omega
          have HTK : Hid (∀ f : Stp → Bool, (stops.take (kk + 1)).any f = ((stops.take kk).any f || f s)) := fun f => by rw [List.take_add_one, HS.out]; simp
          cases ub with
          | true =>
            go_wp2_with fail
            go_quiet (fail)
            go_wp2_with fail
            go_roundw
            case rel => exact ⟨kk + 1, true, by omega, rfl, by go_num, (by show true = _; rw [HTK.out, ← HU.out]; rfl), HR.out.below (below_drewN (Below.refl _ _) _)⟩
            case measure => simp [intOf]; omega
          | false =>
            obtain ⟨tb, htb⟩ : ∃ tb, (s.ord == o2.id) = tb := ⟨_, rfl⟩
            have HTB : Hid (tb = (stops.take (kk + 1)).any (fun s => decide (s.ord = o2.id))) := by
              show tb = _
              rw [HTK.out, ← HU.out, ← htb]
              by_cases h : s.ord = o2.id <;> simp [h]
            go_wp2_with fail
            go_quiet (fail)
            go_wp2_with fail
            go_roundw
            case rel => exact ⟨kk + 1, tb, by omega, rfl, by go_num, HTB, HR.out.below (below_drewN (Below.refl _ _) _)⟩
            case measure => simp [intOf]; omega
        · have hub : ub = usedB stops o := by
            have h1 := HU.out
            rw [List.take_of_length_le (by have := L.out.stops0.length; omega)] at h1
            exact h1
          have HUB := Lib.hid hub
          clear hub HU
          cases ub with
          | false =>
            have HRF : Hid (Rows2 w3 u12 vB ((os.drop k).filter (usedB stops)).reverse (os.drop k).reverse wr) := by
              have h1 : ((os.drop k).filter (usedB stops)) = ((os.drop (k + 1)).filter (usedB stops)) := by rw [HDK.out, List.filter_cons, ← HUB.out]; rfl
              rw [h1]
              exact HR.out
            go_wp2_with fail
            go_roundw
            case rel => exact ⟨k, (k : Int) - 1, by omega, (by show (k : Int) - 1 + 1 = _; omega), rfl, HRF⟩
            case measure => show ((k : Int) - 1 + 1).toNat < ((k : Int) + 1).toNat; omega
          | true =>
            obtain ⟨b2, off2, o2, eA2, hbW, ho2, hdk2, q0, q1, q2, q3, q4, q5, q6, q7, q8, q9⟩ := Ords.at_ L.out.ords hk
            have hoo : o2 = o := by
              have h1 := HDK.out
              rw [hdk2] at h1
              injection h1
            subst hoo
            rw [HEA.out] at eA2
            injection eA2 with eA2
            injection eA2 with e3 e4 _
            subst e3
            subst e4
            clear ho2 hdk2 hbW
            have HRS : Hid (OwnK (wr.alloc (.cells #[.int .i64 o2.id, .int .i64 o2.size, .int .i64 o2.pick.place, .int .i64 o2.pick.win.fr, .int .i64 o2.pick.win.to, .int .i64 o2.pick.serv, .int .i64 o2.drop.place, .int .i64 o2.drop.win.fr, .int .i64 o2.drop.win.to, .int .i64 o2.drop.serv] 31)) w3.heap.size 31 10 u12 ((os.drop (k + 1)).filter (usedB stops)).reverse.length (ordsV ((os.drop (k + 1)).filter (usedB stops)).reverse)) := HR.out.s.alloc _
            have HBX : Hid (Blk (wr.alloc (.cells #[.int .i64 o2.id, .int .i64 o2.size, .int .i64 o2.pick.place, .int .i64 o2.pick.win.fr, .int .i64 o2.pick.win.to, .int .i64 o2.pick.serv, .int .i64 o2.drop.place, .int .i64 o2.drop.win.fr, .int .i64 o2.drop.win.to, .int .i64 o2.drop.serv] 31)) wr.heap.size 31 (ordL o2)) := Blk.new wr _ _
            have HR1 := Lib.hid (HR.out.below ((Below.refl _ _).alloc (Nat.le_refl _) (.cells #[.int .i64 o2.id, .int .i64 o2.size, .int .i64 o2.pick.place, .int .i64 o2.pick.win.fr, .int .i64 o2.pick.win.to, .int .i64 o2.pick.serv, .int .i64 o2.drop.place, .int .i64 o2.drop.win.fr, .int .i64 o2.drop.win.to, .int .i64 o2.drop.serv] 31)))
            have HFL : Hid (((os.drop (k + 1)).filter (usedB stops)).reverse ++ [o2] = ((os.drop k).filter (usedB stops)).reverse) := by
              rw [HDK.out, List.filter_cons, ← HUB.out]
              exact (List.reverse_cons).symm
            go_wp2_with (at_builtin; refine wpList_append_ko (o := ⟨some 92, _, _, _, _, _⟩) rfl (.tmp 85) (.tmp 91) Try.underlying36 infoOrd rfl (by decide) rfl HRS.out rfl HBX.out rfl rfl (ordL_one o2) (by unfold maxLen; omega) (by omega) HR1.out.on.size ?_; intro vC wC HO HG HN; have HRC := Lib.hid (HR1.out.addS HO.out HG.out HN.out); clear HO HG HN)
            rw [HFL.out] at HRC
            go_roundw
            case rel => exact ⟨k, (k : Int) - 1, by omega, (by show (k : Int) - 1 + 1 = _; omega), rfl, HRC⟩
            case measure => show ((k : Int) - 1 + 1).toNat < ((k : Int) + 1).toNat; omega

#print axioms routeListed_walk
end Go.Proofs.Ytjkahookgoecpaa.Route
