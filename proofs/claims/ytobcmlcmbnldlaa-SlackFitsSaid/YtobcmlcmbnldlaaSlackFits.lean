/-
  SlackFits walked.
-/
import Derived.Test.YtobcmlcmbnldlaaSlackTells
import Derived.Test.YtobcmlcmbnldlaaSlackRFits
namespace Go.Proofs.Ytobcmlcmbnldlaa.Slack
open Go.ChangeShapes Go.WideShapes Go.ChangeAt Go.RowKit Go.Proofs.Ytobcmlcmbnldlaa.Mem Go.Proofs.Ytobcmlcmbnldlaa.GeoMath Go.Proofs.Ytobcmlcmbnldlaa.FleetMath Go.Proofs.Ytobcmlcmbnldlaa.Rec Go.Proofs.Ytobcmlcmbnldlaa.Geo Go.Proofs.Ytobcmlcmbnldlaa.Span Go.Proofs.Ytobcmlcmbnldlaa.Deal Go.Proofs.Ytobcmlcmbnldlaa.Keep Go.Proofs.Ytobcmlcmbnldlaa.Route
set_option linter.unusedVariables false

/-- what stays through SlackFits -/
structure FT (W : World) (q r : Option Addr) (m : Option Mp) (x : Wd) (os : List FleetMath.Ord) (d : Drv) (A : Option Addr) (n : Nat) (stops : List Stp) (o : FleetMath.Ord) (i j : Int) (u : World) : Prop where
  lr : LR W q m x os d A n stops u
  rm : MapP u 106 W.heap.size (.pointer r) m
  ab : Blk u (W.heap.size + 2) 59 [.int .i64 i, .int .i64 j]
  ob : OBox u (W.heap.size + 3) o
section
variable {W u u' : World} {q r : Option Addr} {m : Option Mp} {x : Wd} {os : List FleetMath.Ord} {d : Drv} {A : Option Addr} {n c : Nat} {stops : List Stp} {o : FleetMath.Ord} {i j : Int}
theorem FT.below (h : FT W q r m x os d A n stops o i j u) (hb : Below u.heap.size u u') : FT W q r m x os d A n stops o i j u' := ⟨h.lr.below hb, h.rm.keep hb, h.ab.below hb h.ab.lt, h.ob.below hb⟩
theorem FT.cells (h : FT W q r m x os d A n stops o i j u) : (((u.cell? ⟨W.heap.size + 1, 0, none⟩ = some (.int .i64 d.id) ∧ u.cell? ⟨W.heap.size + 1, 1, none⟩ = some (.int .i64 d.room) ∧ u.cell? ⟨W.heap.size + 1, 2, none⟩ = some (.int .i64 d.home) ∧ u.cell? ⟨W.heap.size + 1, 3, none⟩ = some (.int .i64 d.win.fr) ∧ u.cell? ⟨W.heap.size + 1, 4, none⟩ = some (.int .i64 d.win.to) ∧ u.cell? ⟨W.heap.size + 1, 5, none⟩ = some (.bool d.retired)) ∧ u.cell? ⟨W.heap.size, 3, none⟩ = some (.slice x.os.a x.os.n x.os.c)) ∧
    (u.cell? ⟨W.heap.size + 2, 0, none⟩ = some (.int .i64 i) ∧ u.cell? ⟨W.heap.size + 2, 1, none⟩ = some (.int .i64 j))) ∧ (u.cell? ⟨W.heap.size + 3, 0, none⟩ = some (.int .i64 o.id) ∧ u.cell? ⟨W.heap.size + 3, 1, none⟩ = some (.int .i64 o.size) ∧ u.cell? ⟨W.heap.size + 3, 2, none⟩ = some (.int .i64 o.pick.place) ∧ u.cell? ⟨W.heap.size + 3, 3, none⟩ = some (.int .i64 o.pick.win.fr) ∧ u.cell? ⟨W.heap.size + 3, 4, none⟩ = some (.int .i64 o.pick.win.to) ∧ u.cell? ⟨W.heap.size + 3, 5, none⟩ = some (.int .i64 o.pick.serv) ∧ u.cell? ⟨W.heap.size + 3, 6, none⟩ = some (.int .i64 o.drop.place) ∧ u.cell? ⟨W.heap.size + 3, 7, none⟩ = some (.int .i64 o.drop.win.fr) ∧ u.cell? ⟨W.heap.size + 3, 8, none⟩ = some (.int .i64 o.drop.win.to) ∧ u.cell? ⟨W.heap.size + 3, 9, none⟩ = some (.int .i64 o.drop.serv)) :=
  ⟨⟨h.lr.cells, h.ab.cell rfl, h.ab.cell rfl⟩, h.ob.cells⟩
theorem FT.gfits (h : FT W q r m x os d A n stops o i j u) (hc : n ≤ c) (hr : x.os.n * 80 ≤ 140737488351232) (hr' : n * 16 ≤ 140737488351232) (b : Bool) (hb : fits m d os stops o i j = b) :
    Calls Try.prog 14 #[.pointer q, drvV d, .slice x.os.a x.os.n x.os.c, .slice A n c, ordV o, .int .i64 i, .int .i64 j] u fun e u' => e = .returned (.bool b) ∧ Below u.heap.size u u' := by
  rw [← hb]
  exact gfits_any W.heap.size _ m d _ _ _ os A n c stops o i j u h.lr.map h.lr.ords h.lr.stps hc x.os.h hr hr'
theorem FT.rfits (h : FT W q r m x os d A n stops o i j u) (hc : n ≤ c) (hr : x.os.n * 80 ≤ 140737488351232) (hr' : n * 16 ≤ 140737488351232) (b : Bool) (hb : fits m d os stops o i j = b) :
    Calls Try.prog 20 #[.pointer r, drvV d, .slice x.os.a x.os.n x.os.c, .slice A n c, ordV o, .int .i64 i, .int .i64 j] u fun e u' => e = .returned (.bool b) ∧ Below u.heap.size u u' := by
  rw [← hb]
  exact rfits_any W.heap.size _ m d _ _ _ os A n c stops o i j u h.rm h.lr.ords h.lr.stps hc hr hr'
end

set_option maxRecDepth 100000 in
set_option maxHeartbeats 4000000 in
theorem slackFits_walk (x : Wd) (ts : List Int) (os : List FleetMath.Ord) (d : Drv) (A : Option Addr) (n c : Nat) (stops : List Stp) (i j : Int) (o : FleetMath.Ord) (W : World) (hts : Ints W W.heap.size x.ts.a x.ts.n ts) (hos : Ords W W.heap.size x.os.a x.os.n os) (hst : Stps W W.heap.size A n stops) (hc : n ≤ c) (hro : x.os.n * 80 ≤ 140737488351232) (hrs : n * 16 ≤ 140737488351232) :
    Calls Try.prog 6 #[wdV x, drvV d, .slice A n c, .agg #[.int .i64 i, .int .i64 j], ordV o] W fun e w' => e = .returned (.bool true) ∧ Below W.heap.size W w' := by
  have HTS := Lib.hid hts
  have HOS := Lib.hid hos
  have HST := Lib.hid hst
  clear hts hos hst
  obtain ⟨m, hm⟩ : ∃ m, mapOf x.n ts = m := ⟨_, rfl⟩
  have HM := Lib.hid hm
  clear hm
  obtain ⟨fb, hfb⟩ : ∃ b, fits m d os stops o i j = b := ⟨_, rfl⟩
  have HFB := Lib.hid hfb
  clear hfb
  have F0 : Hid (Below W.heap.size W ((((W.alloc (.cells #[.int .i64 x.n, x.ts.v, x.ds.v, x.os.v, x.pl.v] 50)).alloc (.cells #[.int .i64 d.id, .int .i64 d.room, .int .i64 d.home, .int .i64 d.win.fr, .int .i64 d.win.to, .bool d.retired] 33)).alloc (.cells #[.int .i64 i, .int .i64 j] 59)).alloc (.cells #[.int .i64 o.id, .int .i64 o.size, .int .i64 o.pick.place, .int .i64 o.pick.win.fr, .int .i64 o.pick.win.to, .int .i64 o.pick.serv, .int .i64 o.drop.place, .int .i64 o.drop.win.fr, .int .i64 o.drop.win.to, .int .i64 o.drop.serv] 31)) ∧ WBox ((((W.alloc (.cells #[.int .i64 x.n, x.ts.v, x.ds.v, x.os.v, x.pl.v] 50)).alloc (.cells #[.int .i64 d.id, .int .i64 d.room, .int .i64 d.home, .int .i64 d.win.fr, .int .i64 d.win.to, .bool d.retired] 33)).alloc (.cells #[.int .i64 i, .int .i64 j] 59)).alloc (.cells #[.int .i64 o.id, .int .i64 o.size, .int .i64 o.pick.place, .int .i64 o.pick.win.fr, .int .i64 o.pick.win.to, .int .i64 o.pick.serv, .int .i64 o.drop.place, .int .i64 o.drop.win.fr, .int .i64 o.drop.win.to, .int .i64 o.drop.serv] 31)) W.heap.size x ∧ DBox ((((W.alloc (.cells #[.int .i64 x.n, x.ts.v, x.ds.v, x.os.v, x.pl.v] 50)).alloc (.cells #[.int .i64 d.id, .int .i64 d.room, .int .i64 d.home, .int .i64 d.win.fr, .int .i64 d.win.to, .bool d.retired] 33)).alloc (.cells #[.int .i64 i, .int .i64 j] 59)).alloc (.cells #[.int .i64 o.id, .int .i64 o.size, .int .i64 o.pick.place, .int .i64 o.pick.win.fr, .int .i64 o.pick.win.to, .int .i64 o.pick.serv, .int .i64 o.drop.place, .int .i64 o.drop.win.fr, .int .i64 o.drop.win.to, .int .i64 o.drop.serv] 31)) (W.heap.size + 1) d ∧ Blk ((((W.alloc (.cells #[.int .i64 x.n, x.ts.v, x.ds.v, x.os.v, x.pl.v] 50)).alloc (.cells #[.int .i64 d.id, .int .i64 d.room, .int .i64 d.home, .int .i64 d.win.fr, .int .i64 d.win.to, .bool d.retired] 33)).alloc (.cells #[.int .i64 i, .int .i64 j] 59)).alloc (.cells #[.int .i64 o.id, .int .i64 o.size, .int .i64 o.pick.place, .int .i64 o.pick.win.fr, .int .i64 o.pick.win.to, .int .i64 o.pick.serv, .int .i64 o.drop.place, .int .i64 o.drop.win.fr, .int .i64 o.drop.win.to, .int .i64 o.drop.serv] 31)) (W.heap.size + 2) 59 [.int .i64 i, .int .i64 j] ∧ OBox ((((W.alloc (.cells #[.int .i64 x.n, x.ts.v, x.ds.v, x.os.v, x.pl.v] 50)).alloc (.cells #[.int .i64 d.id, .int .i64 d.room, .int .i64 d.home, .int .i64 d.win.fr, .int .i64 d.win.to, .bool d.retired] 33)).alloc (.cells #[.int .i64 i, .int .i64 j] 59)).alloc (.cells #[.int .i64 o.id, .int .i64 o.size, .int .i64 o.pick.place, .int .i64 o.pick.win.fr, .int .i64 o.pick.win.to, .int .i64 o.pick.serv, .int .i64 o.drop.place, .int .i64 o.drop.win.fr, .int .i64 o.drop.win.to, .int .i64 o.drop.serv] 31)) (W.heap.size + 3) o) := by
    have b1 := WBox.new W x
    have b2 := Blk.new (W.alloc (.cells #[.int .i64 x.n, x.ts.v, x.ds.v, x.os.v, x.pl.v] 50)) 33 [.int .i64 d.id, .int .i64 d.room, .int .i64 d.home, .int .i64 d.win.fr, .int .i64 d.win.to, .bool d.retired]
    have b3 := Blk.new ((W.alloc (.cells #[.int .i64 x.n, x.ts.v, x.ds.v, x.os.v, x.pl.v] 50)).alloc (.cells #[.int .i64 d.id, .int .i64 d.room, .int .i64 d.home, .int .i64 d.win.fr, .int .i64 d.win.to, .bool d.retired] 33)) 59 [.int .i64 i, .int .i64 j]
    have b4 := Blk.new (((W.alloc (.cells #[.int .i64 x.n, x.ts.v, x.ds.v, x.os.v, x.pl.v] 50)).alloc (.cells #[.int .i64 d.id, .int .i64 d.room, .int .i64 d.home, .int .i64 d.win.fr, .int .i64 d.win.to, .bool d.retired] 33)).alloc (.cells #[.int .i64 i, .int .i64 j] 59)) 31 (ordL o)
    simp only [World.size_alloc] at b2 b3 b4
    refine ⟨((((Below.refl _ _).alloc (Nat.le_refl _) _).alloc (by simp) _).alloc (by simp; omega) _).alloc (by simp; omega) _, ((b1.below ((Below.refl _ _).alloc (Nat.le_refl _) _)).below ((Below.refl _ _).alloc (Nat.le_refl _) _)).below ((Below.refl _ _).alloc (Nat.le_refl _) _), ?_, ?_, b4⟩
    · exact (DBox.below (d := d) b2 ((Below.refl _ _).alloc (Nat.le_refl _) _)).below ((Below.refl _ _).alloc (Nat.le_refl _) _)
    · exact b3.below ((Below.refl _ _).alloc (Nat.le_refl _) _) b3.lt
  have hnm2 : n ≤ 9223372036854775807 := by omega
  go_enter Try.func6, Try.ntmps6
  go_wp2_with fail
  refine (kmaps_any x ts _ (by exact Reads.more (Reads.keep HTS.out F0.out.1) F0.out.1.size)).mono ?_
  rintro e w1 ⟨hb1, q, r, rfl, hq, hr⟩
  have L1 : Hid (FT W q r m x os d A n stops o i j w1) := by
    have HM' := HM.out
    rw [HM'] at hq hr
    obtain ⟨hb0, hw0, hd0, ha0, ho0⟩ := F0.out
    exact ⟨⟨hb0.trans (hb1.mono hb0.size), hq.lower hb0.size, hw0.below hb1, hd0.below hb1, HOS.out, HST.out⟩, hr.lower hb0.size, ha0.below hb1 ha0.lt, ho0.below hb1⟩
  clear hb1 hq hr F0 HTS HOS HST HM
  go_upto_region 2 with fail
  have HC : Hid (∀ u, Below w1.heap.size w1 u → (((((u.cell? ⟨W.heap.size + 1, 0, none⟩ = some (.int .i64 d.id) ∧ u.cell? ⟨W.heap.size + 1, 1, none⟩ = some (.int .i64 d.room) ∧ u.cell? ⟨W.heap.size + 1, 2, none⟩ = some (.int .i64 d.home) ∧ u.cell? ⟨W.heap.size + 1, 3, none⟩ = some (.int .i64 d.win.fr) ∧ u.cell? ⟨W.heap.size + 1, 4, none⟩ = some (.int .i64 d.win.to) ∧ u.cell? ⟨W.heap.size + 1, 5, none⟩ = some (.bool d.retired)) ∧ u.cell? ⟨W.heap.size, 3, none⟩ = some (.slice x.os.a x.os.n x.os.c)) ∧ (u.cell? ⟨W.heap.size + 2, 0, none⟩ = some (.int .i64 i) ∧ u.cell? ⟨W.heap.size + 2, 1, none⟩ = some (.int .i64 j))) ∧ (u.cell? ⟨W.heap.size + 3, 0, none⟩ = some (.int .i64 o.id) ∧ u.cell? ⟨W.heap.size + 3, 1, none⟩ = some (.int .i64 o.size) ∧ u.cell? ⟨W.heap.size + 3, 2, none⟩ = some (.int .i64 o.pick.place) ∧ u.cell? ⟨W.heap.size + 3, 3, none⟩ = some (.int .i64 o.pick.win.fr) ∧ u.cell? ⟨W.heap.size + 3, 4, none⟩ = some (.int .i64 o.pick.win.to) ∧ u.cell? ⟨W.heap.size + 3, 5, none⟩ = some (.int .i64 o.pick.serv) ∧ u.cell? ⟨W.heap.size + 3, 6, none⟩ = some (.int .i64 o.drop.place) ∧ u.cell? ⟨W.heap.size + 3, 7, none⟩ = some (.int .i64 o.drop.win.fr) ∧ u.cell? ⟨W.heap.size + 3, 8, none⟩ = some (.int .i64 o.drop.win.to) ∧ u.cell? ⟨W.heap.size + 3, 9, none⟩ = some (.int .i64 o.drop.serv))))) := fun u hu => (L1.out.below hu).cells
  have ebb : (fb == fb) = true := by simp
  go_cut [10] (fun b wx => b = .bool true ∧ Hid (Below w1.heap.size w1 wx))
  case first =>
    go_region_held3 (fun u => (((((u.cell? ⟨W.heap.size + 1, 0, none⟩ = some (.int .i64 d.id) ∧ u.cell? ⟨W.heap.size + 1, 1, none⟩ = some (.int .i64 d.room) ∧ u.cell? ⟨W.heap.size + 1, 2, none⟩ = some (.int .i64 d.home) ∧ u.cell? ⟨W.heap.size + 1, 3, none⟩ = some (.int .i64 d.win.fr) ∧ u.cell? ⟨W.heap.size + 1, 4, none⟩ = some (.int .i64 d.win.to) ∧ u.cell? ⟨W.heap.size + 1, 5, none⟩ = some (.bool d.retired)) ∧ u.cell? ⟨W.heap.size, 3, none⟩ = some (.slice x.os.a x.os.n x.os.c)) ∧ (u.cell? ⟨W.heap.size + 2, 0, none⟩ = some (.int .i64 i) ∧ u.cell? ⟨W.heap.size + 2, 1, none⟩ = some (.int .i64 j))) ∧ (u.cell? ⟨W.heap.size + 3, 0, none⟩ = some (.int .i64 o.id) ∧ u.cell? ⟨W.heap.size + 3, 1, none⟩ = some (.int .i64 o.size) ∧ u.cell? ⟨W.heap.size + 3, 2, none⟩ = some (.int .i64 o.pick.place) ∧ u.cell? ⟨W.heap.size + 3, 3, none⟩ = some (.int .i64 o.pick.win.fr) ∧ u.cell? ⟨W.heap.size + 3, 4, none⟩ = some (.int .i64 o.pick.win.to) ∧ u.cell? ⟨W.heap.size + 3, 5, none⟩ = some (.int .i64 o.pick.serv) ∧ u.cell? ⟨W.heap.size + 3, 6, none⟩ = some (.int .i64 o.drop.place) ∧ u.cell? ⟨W.heap.size + 3, 7, none⟩ = some (.int .i64 o.drop.win.fr) ∧ u.cell? ⟨W.heap.size + 3, 8, none⟩ = some (.int .i64 o.drop.win.to) ∧ u.cell? ⟨W.heap.size + 3, 9, none⟩ = some (.int .i64 o.drop.serv)))))
      (first
        | exact HC.out _ (Below.refl _ _).drew
        | exact HC.out _ (by assumption)
        | exact HC.out _ (Below.drew (by assumption)))
      (first
        | (go_at_call 14; (refine ((L1.out.below (Below.refl _ _).drew).gfits hc hro hrs fb HFB.out).mono ?_); rintro e w' ⟨rfl, hbx⟩; have hb2 := (Below.refl w1.heap.size w1).drew.trans hbx)
        | (go_at_call 20; (refine ((L1.out.below hb2).rfits hc hro hrs fb HFB.out).mono ?_); rintro e w' ⟨rfl, hby⟩; have hb3 := hb2.trans (hby.mono hb2.size))
        | (go_at_call 3; (refine (runs_any _).mono ?_); rintro e w' ⟨rfl, hbz⟩; have hb4 := hb3.trans (hbz.mono hb3.size)))
    all_goals
      go_wp2_with fail
      go_meet
      exact ⟨rfl, hb4⟩
  case rest =>
  obtain ⟨rfl, HB2⟩ := hcut
  have LZ : Hid (Below W.heap.size W wc) := L1.out.lr.old.trans (HB2.out.mono L1.out.lr.old.size)
  clear HC L1 HB2
  go_wp2_with fail
  go_ret
  exact ⟨rfl, LZ.out⟩

#print axioms slackFits_walk
end Go.Proofs.Ytobcmlcmbnldlaa.Slack
