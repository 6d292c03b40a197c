/-
  The program's route.Drive, walked.
-/
import Derived.Test.YtfejnohcggoepaaRoutePStop
import Derived.Test.YtfejnohcggoepaaRouteRDrive
import Derived.Test.YtfejnohcggoepaaDealPDriver
import Derived.Test.YtfejnohcggoepaaDealPKnown
namespace Go.Proofs.Ytfejnohcggoepaa.Route
open Go.ChangeShapes Go.WideShapes Go.ChangeAt Go.RowKit Go.Proofs.Ytfejnohcggoepaa.Mem Go.Proofs.Ytfejnohcggoepaa.GeoMath Go.Proofs.Ytfejnohcggoepaa.FleetMath Go.Proofs.Ytfejnohcggoepaa.Rec Go.Proofs.Ytfejnohcggoepaa.Geo Go.Proofs.Ytfejnohcggoepaa.Span Go.Proofs.Ytfejnohcggoepaa.Deal

theorem gdriver_v (base : Nat) (pv : Value) (m : Option Mp) (d : Drv) (v : Int) (w : World) (h : MapP w 78 base pv m) (hv : drvE m d = v) :
    Calls Try.prog 34 #[pv, drvV d] w (Gives w (.int .i64 v)) := by rw [← hv]; exact gdriver_any base pv m d w h
theorem gknown_v (base : Nat) (pv : Value) (m : Option Mp) (A : Option Addr) (n c : Nat) (os : List FleetMath.Ord) (b : Bool) (w : World) (hnc : n ≤ c) (h : MapP w 78 base pv m) (hl : Ords w w.heap.size A n os) (hb : known m os = b) :
    Calls Try.prog 35 #[pv, .slice A n c] w (Gives w (.bool b)) := by rw [← hb]; exact gknown_any base pv m A n c os w hnc h hl
theorem step_err_ne {m : Mp} {d : Drv} {os : List FleetMath.Ord} {seen : List Stp} {st : St} {s : Stp} {x : Int} (h : FleetMath.step m d os seen st s = .error x) : x ≠ 0 := by
  unfold FleetMath.step at h
  split at h
  · injection h with h; omega
  · split at h
    · injection h with h; omega
    · split at h
      · injection h with h; omega
      · split at h
        · injection h with h; omega
        · split at h
          · injection h with h; omega
          · cases h
theorem _root_.Go.Proofs.Ytfejnohcggoepaa.FleetMath.Upto.made {m : Mp} {d : Drv} {os : List FleetMath.Ord} {stops : List Stp} {k : Nat} {st st' : St} {vs : List Vis} {s : Stp} {v : Vis} (h : Upto m d os stops k st vs) (hs : stops[k]? = some s) (hk : ∀ o ∈ os, OrdOk m o) (hst : FleetMath.step m d os (stops.take k) st s = .ok (st', v)) : Upto m d os stops (k + 1) st' (vs ++ [v]) := by
  obtain ⟨o, hm⟩ := step_ok.1 hst
  have := h.next hs (hk o (find_some hm.find).1) hm.find hm.new hm.first hm.load hm.serve
  rw [← hm.st', ← hm.arrive, ← hm.vload] at this
  have e : v = ⟨s, v.arrive, v.start, v.leave, v.load⟩ := by
    have := hm.stop
    cases v
    subst this
    rfl
  rw [e]
  exact this
/-- a block of another type is no own row -/
theorem _root_.Go.Proofs.Ytfejnohcggoepaa.Mem.OwnK.not_blk {w : World} {base k n g : Nat} {e t : TypeId} {v : Value} {vs xs : List Value} (h : OwnK w base e k v n vs) (hb : Blk w g t xs) (hne : t ≠ e) : v.ownBlock ≠ some g := by
  intro hv
  rcases h.blk with ⟨rfl, _⟩ | ⟨g', cap, cur, rfl, _, hB, _⟩
  · cases hv
  · have : g' = g := by simpa [Value.ownBlock] using hv
    subst this
    unfold Blk at hb hB
    rw [hb] at hB
    injection hB with hB
    injection hB with _ hB
    exact hne hB
theorem But.own {w u : World} {base k n g : Nat} {e t : TypeId} {v : Value} {vs xs : List Value} (h : But g w u) (ho : OwnK w base e k v n vs) (hb : Blk w g t xs) (hne : t ≠ e) : OwnK u base e k v n vs := by
  have hn := ho.not_blk hb hne
  obtain ⟨⟨hl, ho⟩, hm⟩ := ho
  refine ⟨⟨hl, ?_⟩, hm⟩
  rcases ho with ho | ⟨g', cap, cur, rfl, hg', hh, hr⟩
  · exact .inl ho
  · have hlt : g' < w.heap.size := by
      rcases Nat.lt_or_ge g' w.heap.size with hlt | hge
      · exact hlt
      · rw [Array.getElem?_eq_none hge] at hh; cases hh
    refine .inr ⟨g', cap, cur, rfl, hg', (h.other g' hlt fun e => hn ?_).trans hh, hr⟩
    rw [e]; rfl
/-- what stays through Drive's loop -/
structure PS (w : World) (gt : Nat) (q : Option Addr) (d : Drv) (A : Option Addr) (n c : Nat) (st : St) (u : World) : Prop where
  old : Below w.heap.size w u
  flt : Blk u (w.heap.size + 1) 49 [.int .i64 0, .int .i64 0]
  tour : TBox u gt q d A n c st
  far : w.heap.size + 2 ≤ gt
/-- the fault, written at the return -/
theorem put_fault {w u : World} (ho : Below w.heap.size w u) (hf : Blk u (w.heap.size + 1) 49 [.int .i64 0, .int .i64 0]) (a b : Int) :
    (u.cell? ⟨w.heap.size + 1, 0, none⟩ = some (.int .i64 0) ∧ u.frozen? ⟨w.heap.size + 1, 0, none⟩ = false) ∧
    ((u.setCell ⟨w.heap.size + 1, 0, none⟩ (.int .i64 a)).cell? ⟨w.heap.size + 1, 1, none⟩ = some (.int .i64 0) ∧ (u.setCell ⟨w.heap.size + 1, 0, none⟩ (.int .i64 a)).frozen? ⟨w.heap.size + 1, 1, none⟩ = false) ∧
    (((u.setCell ⟨w.heap.size + 1, 0, none⟩ (.int .i64 a)).setCell ⟨w.heap.size + 1, 1, none⟩ (.int .i64 b)).cell? ⟨w.heap.size + 1, 0, none⟩ = some (.int .i64 a) ∧ ((u.setCell ⟨w.heap.size + 1, 0, none⟩ (.int .i64 a)).setCell ⟨w.heap.size + 1, 1, none⟩ (.int .i64 b)).cell? ⟨w.heap.size + 1, 1, none⟩ = some (.int .i64 b)) ∧
    Below w.heap.size w ((u.setCell ⟨w.heap.size + 1, 0, none⟩ (.int .i64 a)).setCell ⟨w.heap.size + 1, 1, none⟩ (.int .i64 b)) := by
  have f1 := hf.put 0 (.int .i64 a)
  have f2 := f1.put 1 (.int .i64 b)
  exact ⟨⟨hf.cell rfl, hf.free 0⟩, ⟨f1.cell rfl, f1.free 1⟩, ⟨f2.cell rfl, f2.cell rfl⟩, (ho.setCell (Nat.le_succ _) _).setCell (Nat.le_succ _) _⟩
/-- ahead of the loop: the driver, the fault -/
structure PF (w : World) (d : Drv) (u : World) : Prop where
  old : Below w.heap.size w u
  drv : DBox u w.heap.size d
  flt : Blk u (w.heap.size + 1) 49 [.int .i64 0, .int .i64 0]
theorem PF.next {w u u' : World} {d : Drv} (h : PF w d u) (hb : Below u.heap.size u u') : PF w d u' := ⟨h.old.trans (hb.mono h.old.size), h.drv.below hb, h.flt.below hb h.flt.lt⟩
theorem PF.alloc {w u : World} {d : Drv} (h : PF w d u) (o : Obj) : PF w d (u.alloc o) := h.next ((Below.refl _ _).alloc (Nat.le_refl _) _)
section
variable {w u u' : World} {gt : Nat} {q : Option Addr} {d : Drv} {A : Option Addr} {n c : Nat} {st st' : St}
theorem PS.next (h : PS w gt q d A n c st u) (hb : Below u.heap.size u u') : PS w gt q d A n c st u' := ⟨h.old.trans (hb.mono h.old.size), h.flt.below hb h.flt.lt, h.tour.below hb, h.far⟩
theorem PS.alloc (h : PS w gt q d A n c st u) (o : Obj) : PS w gt q d A n c st (u.alloc o) := h.next ((Below.refl _ _).alloc (Nat.le_refl _) _)
theorem PS.turn (h : PS w gt q d A n c st u) (ht : TBox u' gt q d A n c st') (hb : But gt u u') : PS w gt q d A n c st' u' := by
  have h1 := h.far
  have h2 := h.flt.lt
  exact ⟨h.old.trans (hb.below.mono (by omega)), (hb.other _ h2 (by omega)).trans h.flt, ht, h.far⟩
theorem PS.grow {v : Value} {k : Nat} {vs : List Value} (h : PS w gt q d A n c st u) (ho : OwnK u (w.heap.size + 2) 44 6 v k vs) (hg : u.grownBy u' v.ownBlock) : PS w gt q d A n c st u' := by
  have h1 := h.flt.lt
  have h2 := Blk.lt h.tour
  have hm : Below (w.heap.size + 2) u u' := OwnK.below (Below.refl (w.heap.size + 2) u) ho hg (by omega) (Nat.le_refl _)
  exact ⟨ho.below h.old hg h.old.size (by omega), (hm.block _ (by omega)).trans h.flt, (hg.block gt h2 (fun e => ho.not_blk h.tour (by decide) e.symm)).trans h.tour, h.far⟩
theorem PS.own {v : Value} {k : Nat} {vs : List Value} (h : OwnK u (w.heap.size + 2) 44 6 v k vs) (a b : Value) :
    OwnK ((u.setCell ⟨w.heap.size + 1, 0, none⟩ a).setCell ⟨w.heap.size + 1, 1, none⟩ b) w.heap.size 44 6 v k vs := by
  have : OwnK ((u.setCell ⟨w.heap.size + 1, 0, none⟩ a).setCell ⟨w.heap.size + 1, 1, none⟩ b) (w.heap.size + 2) 44 6 v k vs :=
    h.same fun g hg _ => (Below.heap_setCell _ _ _ g (by show g ≠ w.heap.size + 1; omega)).trans (Below.heap_setCell _ _ _ g (by show g ≠ w.heap.size + 1; omega))
  exact this.lower (by omega)
end
/-- what a stop tells, and what it leaves behind the world W -/
def resV : Except Int (St × Vis) → Vis
  | .error _ => vis0
  | .ok p => p.2
def resE : Except Int (St × Vis) → Int
  | .error x => x
  | .ok _ => 0
def StopAt (W : World) (g : Nat) (q : Option Addr) (d : Drv) (A : Option Addr) (n c : Nat) (r : Except Int (St × Vis)) (u : World) : Prop :=
  match r with
  | .error _ => Below W.heap.size W u
  | .ok p => TBox u g q d A n c p.1 ∧ But g W u
section
variable {W u u' : World} {g : Nat} {q : Option Addr} {d : Drv} {A : Option Addr} {n c : Nat} {r : Except Int (St × Vis)}
theorem StopAt.but (h : StopAt W g q d A n c r u) (hg : g < W.heap.size) : But g W u := by
  cases r with
  | error x => exact But.of h (Nat.le_of_lt hg)
  | ok p => exact h.2
theorem StopAt.alloc (h : StopAt W g q d A n c r u) (hg : g < W.heap.size) (o : Obj) : StopAt W g q d A n c r (u.alloc o) := by
  cases r with
  | error x => exact Below.alloc h (Below.size h) o
  | ok p => exact ⟨h.1.below ((Below.refl _ _).alloc (Nat.le_refl _) _), h.2.next ((Below.refl _ _).alloc (Nat.le_refl _) _) (Nat.le_trans (Nat.le_of_lt hg) h.2.size)⟩
theorem StopAt.put (h : StopAt W g q d A n c r u) (hg : g < W.heap.size) (x : Vis) : StopAt W g q d A n c r (putV u W.heap.size x) := by
  cases r with
  | error x => exact putV_below h (Nat.le_refl _) _
  | ok p => exact ⟨Only.blk (g := W.heap.size) (((((((Only.refl _ _).set _ _).set _ _).set _ _).set _ _).set _ _).set _ _) h.1 (Nat.ne_of_lt hg), putV_but h.2 (Nat.le_refl _) (Nat.le_of_lt hg) _⟩
end
theorem pstop_qb (base bm mn : Nat) (ml : List Int) (d : Drv) (A : Option Addr) (n c : Nat) (os : List FleetMath.Ord) (st : St) (g : Nat) (s : Stp) (A' : Option Addr) (k c' : Nat) (seen : List Stp) (r : Except Int (St × Vis)) (W u : World) (hb : Below W.heap.size W u)
    (ht : TBox W g (some ⟨bm, 0, none⟩) d A n c st) (hm : MapAt W 78 base bm mn ml) (hmn : mn ≤ 12) (hmap : IsMap mn ml) (ho : Ords W W.heap.size A n os) (hs : Stps W W.heap.size A' k seen) (hok : ∀ o ∈ os, OrdOk ⟨mn, ml⟩ o)
    (lf1 : 0 ≤ st.left) (lf2 : st.left ≤ 2000000) (ll1 : -1000000 ≤ st.load) (ll2 : st.load ≤ 1000000) (hr : FleetMath.step ⟨mn, ml⟩ d os seen st s = r) :
    Calls Try.prog 36 #[.pointer (some ⟨g, 0, none⟩), stpV s, .slice A' k c'] u fun e w' => e = .returned (.tuple #[visV (resV r), .int .i64 (resE r)]) ∧ StopAt W g (some ⟨bm, 0, none⟩) d A n c r w' ∧ But g u w' := by
  have hgt := Blk.lt ht
  have hgu := Nat.lt_of_lt_of_le hgt hb.size
  refine (pstop_any base bm mn ml d A n c os st g s A' k c' seen u (ht.below hb) (hm.keep hb (Nat.le_refl _)) hmn hmap (Recs.more (Recs.keep ho hb) hb.size) (Recs.more (Recs.keep hs hb) hb.size) hok lf1 lf2 ll1 ll2).mono ?_
  rw [hr]
  intro e w' h
  cases r with
  | error x => exact ⟨h.1, hb.trans (h.2.mono hb.size), But.of h.2 (Nat.le_of_lt hgu)⟩
  | ok p =>
    obtain ⟨h1, h2, h3⟩ := h
    exact ⟨h1, ⟨h2, (hb.mono (Nat.le_of_lt hgt)).trans h3.below, Nat.le_trans hb.size h3.size, fun q hq hn => (h3.other q (Nat.lt_of_lt_of_le hq hb.size) hn).trans (hb.block q hq)⟩, h3⟩
theorem vbox_ahead {W w' : World} {g : Nat} (hb : But g (W.alloc (.cells #[.int .i64 0, .bool false, .int .i64 0, .int .i64 0, .int .i64 0, .int .i64 0] 44)).drew w') (hg : g < W.heap.size) : VBox w' W.heap.size vis0 := by
  have h : VBox (W.alloc (.cells #[.int .i64 0, .bool false, .int .i64 0, .int .i64 0, .int .i64 0, .int .i64 0] 44)).drew W.heap.size vis0 := Blk.new W _ _
  exact (hb.other _ (Blk.lt h) (Nat.ne_of_gt hg)).trans h
theorem make_vis (n : Nat) (hn : n ≤ 80) : ∃ ca : Array Value, (∀ u : World, (Instr.makeSlice 45 (.int .i64 0) (.int .i64 (n : Int))).run Try.prog u = .ok (.slice (some ⟨u.heap.size, 0, none⟩) 0 n) (u.alloc (.cells ca 44))) ∧
    ∀ (u : World) (base : Nat), base ≤ u.heap.size → OwnK (u.alloc (.cells ca 44)) base 44 6 (.slice (some ⟨u.heap.size, 0, none⟩) 0 n) 0 [] := by
  obtain ⟨i0, hi, hz0, hz1, hz2⟩ := info_parts infoVis
  refine ⟨_, fun u => ?_, fun u base hb => ⟨World.ownsRow_made u _ n hb (by unfold maxLen; omega) (size_madeCells (Value.agg #[.int .i64 0, .bool false, .int .i64 0, .int .i64 0, .int .i64 0, .int .i64 0]).cells (n * 6)), Nat.zero_le _⟩⟩
  have h := run_make (P := Try.prog) u 45 44 i0 _ Try.underlying45 hi hz0 .i64 .i64 0 (n : Int) (Int.le_refl _) (by omega) (by rw [hz2]; omega) (by omega)
  rw [hz1] at h
  simpa using h

set_option maxRecDepth 100000 in
set_option maxHeartbeats 4000000 in
theorem gdrive_any (base : Nat) (pv : Value) (m : Option Mp) (d : Drv) (A : Option Addr) (n c : Nat) (os : List FleetMath.Ord) (A' : Option Addr) (n' c' : Nat) (stops : List Stp) (w : World) (h : MapP w 78 base pv m) (ho : Ords w w.heap.size A n os) (hs : Stps w w.heap.size A' n' stops) (hcc : n' ≤ c') (hnc : n ≤ c) :
    Calls Try.prog 21 #[pv, drvV d, .slice A n c, .slice A' n' c'] w (DriveOk w (drive m d os stops)) := by
  have HM := Lib.hid h
  have HOS := Lib.hid ho
  have HST := Lib.hid hs
  have HLS := Lib.hid hs.length
  have hnm := Recs.le ho
  have hnm' := Recs.le hs
  obtain ⟨q, hq⟩ : ∃ q, pv = .pointer q := by
    rcases h with ⟨rfl, _⟩ | ⟨b, _, _, rfl, _⟩
    · exact ⟨_, rfl⟩
    · exact ⟨_, rfl⟩
  subst hq
  clear h ho hs
  obtain ⟨v1, hv1⟩ : ∃ v, drvE m d = v := ⟨_, rfl⟩
  obtain ⟨b2, hb2⟩ : ∃ v, known m os = v := ⟨_, rfl⟩
  have V1 := Lib.hid hv1
  have V2 := Lib.hid hb2
  have HBAD : Hid (v1 ≠ 0 ∨ b2 = false ∨ 80 < n' → drive m d os stops = ([], 0, 1)) := fun hx => drive_bad (by rw [hv1, hb2, HLS.out]; exact hx)
  clear hv1 hb2
  have F0 : Hid (PF w d (DX w d)) := by
    have b1 : Below w.heap.size w (DX w d) := ((Below.refl _ _).alloc (Nat.le_refl _) _).alloc (by simp) _
    have f := Blk.new (w.alloc (.cells #[.int .i64 d.id, .int .i64 d.room, .int .i64 d.home, .int .i64 d.win.fr, .int .i64 d.win.to, .bool d.retired] 33)) 49 [.int .i64 0, .int .i64 0]
    rw [World.size_alloc] at f
    exact ⟨b1, DBox.below (d := d) (Blk.new w _ _) ((Below.refl _ _).alloc (Nat.le_refl _) _), f⟩
  by_cases h80 : 80 < n'
  · have HD := Lib.hid (HBAD.out (.inr (.inr h80)))
    go_enter Try.func21, Try.ntmps21
    go_wp2_with fail
    refine bodyPost_ret (v := .tuple #[.slice none 0 0, faultV 0 1]) ?_ rfl (drive_fault HD.out (((Below.refl _ _).alloc (Nat.le_refl _) _).alloc (by simp) _))
    simp [results, Try.results21, go_sem]
  have hn80 : n' ≤ 80 := by omega
  clear h80
  go_enter Try.func21, Try.ntmps21
  go_wp2_with fail
  refine (gdriver_v base _ m d v1 _ (by exact HM.out.keep F0.out.old) V1.out).mono ?_
  rintro e w1 ⟨rfl, hb⟩
  have F1 := Lib.hid (F0.out.next hb)
  clear hb F0
  by_cases h1 : v1 = 0
  case neg =>
    obtain ⟨n1, n2⟩ : (v1 == 0) = false ∧ (v1 != 0) = true := by simp [h1]
    have HD := Lib.hid (HBAD.out (.inl h1))
    obtain ⟨⟨p0, f0⟩, ⟨p1, f1⟩, ⟨r0, r1⟩, hbp⟩ := put_fault F1.out.old F1.out.flt 0 1
    have HBP := Lib.hid hbp
    clear hbp h1
    go_wp2_with fail
    refine bodyPost_ret (v := .tuple #[.slice none 0 0, faultV 0 1]) ?_ rfl (drive_fault HD.out HBP.out)
    simp [results, Try.results21, go_sem, r0, r1]
  subst h1
  go_wp2_with fail
  refine (gknown_v base _ m A n c os b2 _ hnc (by exact HM.out.keep F1.out.old) (by exact Recs.more (Recs.keep HOS.out F1.out.old) F1.out.old.size) V2.out).mono ?_
  rintro e w2 ⟨rfl, hb⟩
  have F2 := Lib.hid (F1.out.next hb)
  clear hb F1
  cases b2 with
  | false =>
    have HD := Lib.hid (HBAD.out (.inr (.inl rfl)))
    obtain ⟨⟨p0, f0⟩, ⟨p1, f1⟩, ⟨r0, r1⟩, hbp⟩ := put_fault F2.out.old F2.out.flt 0 1
    have HBP := Lib.hid hbp
    clear hbp
    go_wp2_with fail
    refine bodyPost_ret (v := .tuple #[.slice none 0 0, faultV 0 1]) ?_ rfl (drive_fault HD.out HBP.out)
    simp [results, Try.results21, go_sem, r0, r1]
  | true =>
  clear HBAD
  obtain ⟨m', hm', hdk⟩ := drvE_ok.1 V1.out
  subst hm'
  obtain ⟨mn, ml⟩ := m'
  have HOK := Lib.hid (known_ok V2.out)
  have HU0 : Hid (Upto ⟨mn, ml⟩ d os stops 0 (st0 d) []) := Upto.start hdk
  clear hdk
  obtain ⟨bm, hbm⟩ := map_ptr HM.out
  subst hbm
  obtain ⟨ca, hmk, hown⟩ := make_vis n' hn80
  have HOWN := Lib.hid (hown w2 (w.heap.size + 2) (by have := F2.out.flt.lt; omega))
  have F3 := Lib.hid (F2.out.alloc (.cells ca 44))
  obtain ⟨d0, d1, d2, d3, d4, d5⟩ := F3.out.drv.cells
  clear hown
  go_wp2_with fail
  obtain ⟨gt, hgt⟩ : ∃ x, w2.heap.size + 1 = x := ⟨_, rfl⟩
  obtain ⟨w3, hw3⟩ : ∃ u, (w2.alloc (.cells ca 44)).alloc (.cells #[.pointer (some ⟨bm, 0, none⟩), .int .i64 d.id, .int .i64 d.room, .int .i64 d.home, .int .i64 d.win.fr, .int .i64 d.win.to, .bool d.retired, .slice A n c, .int .i64 d.home, .int .i64 d.win.fr, .int .i64 0] 96) = u := ⟨_, rfl⟩
  have P0 : Hid (PS w gt (some ⟨bm, 0, none⟩) d A n c (st0 d) w3) := by
    have f := Blk.new (w2.alloc (.cells ca 44)) 96 [.pointer (some ⟨bm, 0, none⟩), .int .i64 d.id, .int .i64 d.room, .int .i64 d.home, .int .i64 d.win.fr, .int .i64 d.win.to, .bool d.retired, .slice A n c, .int .i64 d.home, .int .i64 d.win.fr, .int .i64 0]
    rw [World.size_alloc, hgt] at f
    have F4 := F3.out.alloc (.cells #[.pointer (some ⟨bm, 0, none⟩), .int .i64 d.id, .int .i64 d.room, .int .i64 d.home, .int .i64 d.win.fr, .int .i64 d.win.to, .bool d.retired, .slice A n c, .int .i64 d.home, .int .i64 d.win.fr, .int .i64 0] 96)
    have hlt := F2.out.flt.lt
    rw [hw3] at F4
    rw [← hw3]
    rw [← hw3] at F4
    exact ⟨F4.old, F4.flt, f, by omega⟩
  have HO0 : Hid (OwnK w3 (w.heap.size + 2) 44 6 (.slice (some ⟨w2.heap.size, 0, none⟩) 0 n') 0 []) := by
    rw [← hw3]; exact HOWN.out.alloc _
  rw [hw3, hgt]
  clear hw3 hmk F3 F2 HOWN d0 d1 d2 d3 d4 d5 hgt
  go_loopw [10, 45] (fun vv iv wr => ∃ (k : Nat) (st : St) (vs : List Vis), k ≤ n' ∧ iv = .int .i64 k ∧ Hid (PS w gt (some ⟨bm, 0, none⟩) d A n c st wr) ∧ Hid (OwnK wr (w.heap.size + 2) 44 6 vv k (vissV vs)) ∧ Hid (Upto ⟨mn, ml⟩ d os stops k st vs)) (fun _ iv _ => n' - (intOf iv).toNat)
  case atStart => exact ⟨0, st0 d, [], Nat.zero_le _, rfl, P0, HO0, HU0⟩
  case round =>
    clear P0 HO0 HU0
    obtain ⟨k, st, vs, hk, rfl, P1, HO, HU⟩ := hrel
    by_cases hlt : k < n'
    case neg =>
      have e : k = n' := by omega
      subst e
      have HD := Lib.hid (by have := HU.out; rw [← HLS.out] at this; exact this.done V1.out V2.out (by rw [HLS.out]; exact hn80))
      have l10 := P1.out.tour.cells.2.2.2.2.2.2.2.2.2.2
      by_cases hl : 0 < st.load
      · have HD2 : Hid (drive (some ⟨mn, ml⟩) d os stops = ([], k, 18)) := by
          have := HD.out
          rw [if_pos hl, HLS.out] at this
          exact this
        obtain ⟨⟨p0, f0⟩, ⟨p1, f1⟩, ⟨r0, r1⟩, hbp⟩ := put_fault P1.out.old P1.out.flt k 18
        have HBP := Lib.hid hbp
        clear hbp HD
        go_wp2_with fail
        refine bodyPost_ret (v := .tuple #[.slice none 0 0, faultV k 18]) ?_ rfl (drive_fault HD2.out HBP.out)
        simp [results, Try.results21, go_sem, r0, r1]
      · have HD2 : Hid (drive (some ⟨mn, ml⟩) d os stops = (vs, 0, 0)) := by
          have := HD.out
          rw [if_neg hl] at this
          exact this
        obtain ⟨⟨p0, f0⟩, ⟨p1, f1⟩, ⟨r0, r1⟩, hbp⟩ := put_fault P1.out.old P1.out.flt 0 0
        have HF : Hid (DriveOk w (drive (some ⟨mn, ml⟩) d os stops) (.returned (.tuple #[u10, faultV 0 0])) ((wr.setCell ⟨w.heap.size + 1, 0, none⟩ (.int .i64 0)).setCell ⟨w.heap.size + 1, 1, none⟩ (.int .i64 0))) := by
          show DriveOk _ _ _ _
          rw [HD2.out]
          refine ⟨hbp, u10, rfl, ?_⟩
          have := PS.own HO.out (.int .i64 0) (.int .i64 0)
          simp only [HU.out.len]
          exact this
        clear hbp HD HD2
        go_wp2_with fail
        refine bodyPost_ret (v := .tuple #[u10, faultV 0 0]) ?_ rfl HF.out
        simp [results, Try.results21, go_sem, r0, r1]
    obtain ⟨b, off, s, rfl, hbw, hs, _, c0, c1⟩ := Stps.at_ (Recs.keep HST.out P1.out.old) hlt
    have HS := Lib.hid hs
    clear hs
    obtain ⟨r, hr⟩ : ∃ r, FleetMath.step ⟨mn, ml⟩ d os (stops.take k) st s = r := ⟨_, rfl⟩
    have HR := Lib.hid hr
    clear hr
    have HG := Lib.hid (Blk.lt P1.out.tour)
    have hk0 : (0 : Int) ≤ (k : Int) := by omega
    have hkc : (k : Int) ≤ (c' : Int) := by omega
    go_upto_region 8 with fail
    go_cut [13, 14] (fun bv ev wx => ∃ gb, bv = .pointer (some ⟨gb, 0, none⟩) ∧ ev = .int .i64 (resE r) ∧ Hid (StopAt wr gt (some ⟨bm, 0, none⟩) d A n c r wx) ∧ Hid (VBox wx gb (resV r)))
    case first =>
      have HCA : Hid (∀ ob, (wr.alloc ob).cell? ⟨b, off + k * 2, none⟩ = some (.int .i64 s.ord) ∧ (wr.alloc ob).cell? ⟨b, off + k * 2 + 1, none⟩ = some (.bool s.drop)) := fun ob => by
        have hb2 : Below w.heap.size w (wr.alloc ob) := P1.out.old.alloc P1.out.old.size _
        obtain ⟨b', off', s', e1, _, hs', _, h0, h1⟩ := Stps.at_ (Recs.keep HST.out hb2) hlt
        injection e1 with e1
        injection e1 with e1 e2
        subst e1
        subst e2
        have := HS.out
        rw [this] at hs'
        injection hs' with hs'
        subst hs'
        exact ⟨h0, h1⟩
      have k3 := fun o => (HCA.out o).1
      have k4 := fun o => (HCA.out o).2
      have HL := Lib.hid (HU.out.load)
      have HCALL : Hid (∀ u, Below wr.heap.size wr u → Calls Try.prog 36 #[.pointer (some ⟨gt, 0, none⟩), stpV s, .slice (some ⟨b, off, none⟩) k c'] u fun e w' => e = .returned (.tuple #[visV (resV r), .int .i64 (resE r)]) ∧ StopAt wr gt (some ⟨bm, 0, none⟩) d A n c r w' ∧ But gt u w') := fun u hu =>
        pstop_qb base bm mn ml d A n c os st gt s (some ⟨b, off, none⟩) k c' (stops.take k) r wr u hu P1.out.tour ((map_at HM.out).1.keep P1.out.old (Nat.le_refl _)) (map_at HM.out).2.1 (map_at HM.out).2.2 (Recs.more (Recs.keep HOS.out P1.out.old) P1.out.old.size) (stps_front (Recs.more (Recs.keep HST.out P1.out.old) P1.out.old.size) hk) HOK.out HU.out.left.1 HU.out.left.2 (by have := HL.out.1; omega) (by have := HL.out.2; omega) HR.out
      go_region_with (go_at_call 36; (refine (HCALL.out _ (by first | exact (Below.refl _ _).drew | exact ((Below.refl _ _).alloc (Nat.le_refl _) _).drew)).mono ?_); rintro e w' ⟨rfl, hst, hbt⟩; (try (have hbox := Lib.hid (vbox_ahead hbt HG.out); have hcs := cell_apart wr.heap.size; have hfs := frozen_set; have hff := Blk.free hbox.out; obtain ⟨x0, x1, x2, x3, x4, x5⟩ := hbox.out.cells)))
      all_goals
        go_wp2_with fail
        go_meet
        first
          | (have hbox' := hbox.out; exact ⟨_, rfl, rfl, hst.put HG.out _, putV_box hbox' _⟩)
          | exact ⟨_, rfl, rfl, hst.alloc HG.out _, Blk.new w' _ _⟩
    case rest =>
    obtain ⟨gb, rfl, rfl, HA, HVB⟩ := hcut
    obtain ⟨w5, rfl⟩ : ∃ u, u = wc := ⟨_, rfl⟩
    clear c0 c1
    cases r with
    | error x =>
      have HA' : Hid (Below wr.heap.size wr w5) := HA.out
      have P5 := Lib.hid (P1.out.next HA'.out)
      have hx := step_err_ne HR.out
      obtain ⟨n1, n2⟩ : (x == 0) = false ∧ (x != 0) = true := by simp [hx]
      have HD := Lib.hid (HU.out.fault HS.out HR.out V1.out V2.out (by rw [HLS.out]; exact hn80))
      obtain ⟨⟨p0, f0⟩, ⟨p1, f1⟩, ⟨r0, r1⟩, hbp⟩ := put_fault P5.out.old P5.out.flt k x
      have HBP := Lib.hid hbp
      clear hbp hx HA HVB
      simp only [resE]
      go_wp2_with fail
      refine bodyPost_ret (v := .tuple #[.slice none 0 0, faultV k x]) ?_ rfl (drive_fault HD.out HBP.out)
      simp [results, Try.results21, go_sem, r0, r1]
    | ok p =>
    obtain ⟨st', v⟩ := p
    have HA' : Hid (TBox w5 gt (some ⟨bm, 0, none⟩) d A n c st' ∧ But gt wr w5) := HA.out
    have P5 := Lib.hid (P1.out.turn HA'.out.1 HA'.out.2)
    have HO5 := Lib.hid (HA'.out.2.own HO.out P1.out.tour (by decide))
    have HV5 : Hid (VBox w5 gb v) := HVB.out
    have HUN := Lib.hid (HU.out.made HS.out HOK.out HR.out)
    clear HA HA' HVB P1 HO HG HR
    simp only [resE]
    obtain ⟨v0, v1, v2, v3, v4, v5⟩ := HV5.out.cells
    have P6 := Lib.hid (P5.out.alloc (.cells #[.int .i64 v.stop.ord, .bool v.stop.drop, .int .i64 v.arrive, .int .i64 v.start, .int .i64 v.leave, .int .i64 v.load] 44))
    have HO6 := Lib.hid (HO5.out.alloc (.cells #[.int .i64 v.stop.ord, .bool v.stop.drop, .int .i64 v.arrive, .int .i64 v.start, .int .i64 v.leave, .int .i64 v.load] 44))
    have HV6 : Hid (VBox (w5.alloc (.cells #[.int .i64 v.stop.ord, .bool v.stop.drop, .int .i64 v.arrive, .int .i64 v.start, .int .i64 v.leave, .int .i64 v.load] 44)) w5.heap.size v) := Blk.new w5 _ _
    have hone : ∀ u ∈ [Value.int .i64 v.stop.ord, .bool v.stop.drop, .int .i64 v.arrive, .int .i64 v.start, .int .i64 v.leave, .int .i64 v.load], u.oneCell' = true := by
      intro u hu
      simp only [List.mem_cons, List.not_mem_nil, or_false] at hu
      rcases hu with rfl | rfl | rfl | rfl | rfl | rfl <;> rfl
    have HONE := Lib.hid hone
    have HSZ : Hid (w.heap.size + 2 ≤ (w5.alloc (.cells #[.int .i64 v.stop.ord, .bool v.stop.drop, .int .i64 v.arrive, .int .i64 v.start, .int .i64 v.leave, .int .i64 v.load] 44)).heap.size) := by have := P6.out.flt.lt; show _ ≤ _; omega
    clear hone P5 HO5
    go_wp2_with (at_builtin; refine wpList_append_k (o := ⟨some 67, _, _, _, _, _⟩) rfl (.tmp 64) (.tmp 66) Try.underlying45 infoVis rfl (by decide) rfl HO6.out rfl HV6.out rfl rfl HONE.out (by unfold maxLen; omega) (by omega) P6.out.old P6.out.old.size HSZ.out (by omega) ?_; intro vB wB HOC HBC HGC; have P7 := Lib.hid (P6.out.grow HO6.out HGC.out))
    go_roundw
    case rel => exact ⟨k + 1, st', vs ++ [v], by omega, by go_num, P7, (by show OwnK _ _ _ _ _ _ _; rw [visV_snoc]; exact HOC.out), HUN⟩
    case measure => simp [intOf]; omega

#print axioms gdrive_any
end Go.Proofs.Ytfejnohcggoepaa.Route
