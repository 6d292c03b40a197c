/-
  The program's route, walked: a tour's stop.
-/
import Derived.Test.YtfejnohcggoepaaRouteSmall
import Derived.Test.YtfejnohcggoepaaMaths
import Derived.Test.YtfejnohcggoepaaDealRs
import Derived.Test.YtfejnohcggoepaaLibRows
import Derived.Deep.RegionLaw
import Derived.Deep.RegionHeld3
import Derived.Deep.DeepCutAuto
namespace Go.Proofs.Ytfejnohcggoepaa.Route
open Go.ChangeShapes Go.WideShapes Go.ChangeAt Go.RowKit Go.Proofs.Ytfejnohcggoepaa.Mem Go.Proofs.Ytfejnohcggoepaa.GeoMath Go.Proofs.Ytfejnohcggoepaa.FleetMath Go.Proofs.Ytfejnohcggoepaa.Rec Go.Proofs.Ytfejnohcggoepaa.Geo Go.Proofs.Ytfejnohcggoepaa.Span Go.Proofs.Ytfejnohcggoepaa.Deal

/-- w' is w but for what block g holds, and for what is new -/
structure But (g : Nat) (w w' : World) : Prop where
  below : Below g w w'
  size : w.heap.size ≤ w'.heap.size
  other : ∀ h, h < w.heap.size → h ≠ g → w'.heap[h]? = w.heap[h]?
section
variable {g : Nat} {w u u' : World}
theorem But.of (h : Below w.heap.size w u) (hg : g ≤ w.heap.size) : But g w u := ⟨h.mono hg, h.size, fun _ hl _ => h.block _ hl⟩
theorem But.set (h : But g w u) (i : Nat) (x : Value) : But g w (u.setCell ⟨g, i, none⟩ x) :=
  ⟨h.below.setCell (Nat.le_refl _) _, by simpa using h.size, fun q hq hn => (Below.heap_setCell u _ _ _ hn).trans (h.other q hq hn)⟩
theorem But.new (h : But g w u) {b : Nat} (hb : w.heap.size ≤ b) (hg : g ≤ b) (i : Nat) (x : Value) : But g w (u.setCell ⟨b, i, none⟩ x) :=
  ⟨h.below.setCell hg _, by simpa using h.size, fun q hq hn => (Below.heap_setCell u _ _ _ (by show q ≠ b; omega)).trans (h.other q hq hn)⟩
theorem But.next (h : But g w u) (hb : Below u.heap.size u u') (hg : g ≤ u.heap.size) : But g w u' :=
  ⟨h.below.trans (hb.mono hg), Nat.le_trans h.size hb.size, fun q hq hn => (hb.block q (Nat.lt_of_lt_of_le hq h.size)).trans (h.other q hq hn)⟩
end
theorem putV_but {g b : Nat} {w u : World} (h : But g w u) (hb : w.heap.size ≤ b) (hg : g ≤ b) (x : Vis) : But g w (putV u b x) :=
  (((((h.new hb hg _ _).new hb hg _ _).new hb hg _ _).new hb hg _ _).new hb hg _ _).new hb hg _ _

/-- what a stop leaves -/
def StopOk (w : World) (g : Nat) (q : Option Addr) (d : Drv) (A : Option Addr) (n c : Nat) (r : Except Int (St × Vis)) (e : Ending) (w' : World) : Prop :=
  match r with
  | .error x => e = .returned (.tuple #[visV vis0, .int .i64 x]) ∧ Below w.heap.size w w'
  | .ok p => e = .returned (.tuple #[visV p.2, .int .i64 0]) ∧ TBox w' g q d A n c p.1 ∧ But g w w'
theorem stop_err {w w' : World} {g : Nat} {q : Option Addr} {d : Drv} {A : Option Addr} {n c : Nat} {r : Except Int (St × Vis)} {x : Int} (h : r = .error x) (hb : Below w.heap.size w w') : StopOk w g q d A n c r (.returned (.tuple #[visV vis0, .int .i64 x])) w' := by
  subst h; exact ⟨rfl, hb⟩
theorem stop_done {w w' : World} {g : Nat} {q : Option Addr} {d : Drv} {A : Option Addr} {n c : Nat} {r : Except Int (St × Vis)} {st : St} {v : Vis} (h : r = .ok (st, v)) (ht : TBox w' g q d A n c st) (hb : But g w w') : StopOk w g q d A n c r (.returned (.tuple #[visV v, .int .i64 0])) w' := by
  subst h; exact ⟨rfl, ht, hb⟩
/-- what stays through a stop: the boxes of the stop and of the answer -/
structure SS (w : World) (s : Stp) (u : World) : Prop where
  old : Below w.heap.size w u
  stp : Blk u w.heap.size 36 [.int .i64 s.ord, .bool s.drop]
  res : VBox u (w.heap.size + 1) vis0
section
variable {w u u' : World} {s : Stp}
theorem SS.next (h : SS w s u) (hb : Below u.heap.size u u') : SS w s u' := ⟨h.old.trans (hb.mono h.old.size), h.stp.below hb h.stp.lt, h.res.below hb⟩
theorem SS.drew (h : SS w s u) : SS w s u.drew := h.next (Below.refl _ _).drew
theorem SS.alloc (h : SS w s u) (o : Obj) : SS w s (u.alloc o) := h.next ((Below.refl _ _).alloc (Nat.le_refl _) _)
theorem SS.bad (h : SS w s u) : Below w.heap.size w (putV u (w.heap.size + 1) vis0) := putV_below h.old (Nat.le_succ _) vis0
theorem SS.put (h : SS w s u) {b : Nat} (hb : w.heap.size + 2 ≤ b) (i : Nat) (x : Value) : SS w s (u.setCell ⟨b, i, none⟩ x) :=
  ⟨h.old.setCell (Nat.le_trans (by omega) hb) _, (Below.heap_setCell u _ _ _ (by show w.heap.size ≠ b; omega)).trans h.stp, (Below.heap_setCell u _ _ _ (by show w.heap.size + 1 ≠ b; omega)).trans h.res⟩
theorem SS.size (h : SS w s u) : w.heap.size + 2 ≤ u.heap.size := by have := Blk.lt h.res; omega
end
theorem cell_far {g h : Nat} (hne : g ≠ h) : ∀ (u : World) (i j : Nat) (v : Value), (u.setCell ⟨g, i, none⟩ v).cell? ⟨h, j, none⟩ = u.cell? ⟨h, j, none⟩ := fun u i j v => World.cell?_setCell_other u _ _ v fun e => hne (by injection e)
/-- a site written into a block -/
abbrev putS (u : World) (g : Nat) (si : Site) : World := ((((u.setCell ⟨g, 0, none⟩ (.int .i64 si.place)).setCell ⟨g, 1, none⟩ (.int .i64 si.win.fr)).setCell ⟨g, 2, none⟩ (.int .i64 si.win.to)).setCell ⟨g, 3, none⟩ (.int .i64 si.serv))
theorem putS_box {u : World} {g : Nat} {x : Site} (h : SBox u g x) (si : Site) : SBox (putS u g si) g si := by
  unfold SBox at h ⊢
  exact ((((h.put 0 (.int .i64 si.place)).put 1 (.int .i64 si.win.fr)).put 2 (.int .i64 si.win.to)).put 3 (.int .i64 si.serv))
theorem putS_ss {w u : World} {g : Nat} {s : Stp} (h : SS w s u) (hb : w.heap.size + 2 ≤ g) (si : Site) : SS w s (putS u g si) := ((((h.put hb _ _).put hb _ _).put hb _ _).put hb _ _)
theorem found_form (r : Option FleetMath.Ord) : ∃ o ok, foundV r = .tuple #[ordV o, .bool ok] ∧ (ok = true → r = some o) ∧ (ok = false → r = none) := by
  cases r with
  | none => exact ⟨ord0, false, rfl, fun h => (by cases h), fun _ => rfl⟩
  | some o => exact ⟨o, true, rfl, fun _ => rfl, fun h => (by cases h)⟩
theorem visit_form (a : Int) (o : Option (Int × Int)) : ∃ v ok, visitV a o = .tuple #[visV v, .bool ok] ∧ (ok = true → ∃ b l, o = some (b, l) ∧ v = ⟨⟨0, false⟩, a, b, l, 0⟩) ∧ (ok = false → o = none) := by
  cases o with
  | none => exact ⟨vis0, false, rfl, fun h => (by cases h), fun _ => rfl⟩
  | some p => exact ⟨⟨⟨0, false⟩, a, p.1, p.2, 0⟩, true, rfl, fun _ => ⟨p.1, p.2, rfl, rfl⟩, fun h => (by cases h)⟩
theorem pfind_qb (A : Option Addr) (n c : Nat) (os : List FleetMath.Ord) (id : Int) (o : FleetMath.Ord) (ok : Bool) (u0 u : World) (hb : Below u0.heap.size u0 u) (ho : Ords u0 u0.heap.size A n os) (hf : foundV (find os id) = .tuple #[ordV o, .bool ok]) :
    Calls Try.prog 60 #[.slice A n c, .int .i64 id] u fun e w' => e = .returned (.tuple #[ordV o, .bool ok]) ∧ Below u0.heap.size u0 w' ∧ Below u.heap.size u w' := by
  rw [← hf]
  exact (pfind_any A n c os id u (Recs.more (Recs.keep ho hb) hb.size)).mono fun e w' ⟨h1, h2⟩ => ⟨h1, hb.trans (h2.mono hb.size), h2⟩
theorem box_stays {v : List Value} {t : TypeId} {w w' : World} (hb : Below (w.alloc (.cells v.toArray t)).drew.heap.size (w.alloc (.cells v.toArray t)).drew w') : Blk w' w.heap.size t v := by
  have h : Blk (w.alloc (.cells v.toArray t)).drew w.heap.size t v := Blk.new w t v
  exact h.below hb h.lt
theorem pvisit_v (base bm mn : Nat) (ml : List Int) (d : Drv) (A : Option Addr) (n c : Nat) (st : St) (g : Nat) (si : Site) (v : Vis) (ok : Bool) (w : World) (ht : TBox w g (some ⟨bm, 0, none⟩) d A n c st) (hm : MapAt w 78 base bm mn ml) (hn : mn ≤ 12) (hmap : IsMap mn ml)
    (lf1 : 0 ≤ st.left) (lf2 : st.left ≤ 2000000) (sv1 : 0 ≤ si.serv) (sv2 : si.serv ≤ 1000000) (hv : visitV (st.left + time ⟨mn, ml⟩ st.at_ si.place) (FleetMath.served ⟨mn, ml⟩ st.at_ st.left si d.win.to) = .tuple #[visV v, .bool ok]) :
    Calls Try.prog 62 #[.pointer (some ⟨g, 0, none⟩), siteV si] w (Gives w (.tuple #[visV v, .bool ok])) := by
  rw [← hv]; exact pvisit_any base bm mn ml d A n c st g si w ht hm hn hmap lf1 lf2 sv1 sv2

set_option maxRecDepth 100000 in
set_option maxHeartbeats 4000000 in
theorem pstop_any (base bm mn : Nat) (ml : List Int) (d : Drv) (A : Option Addr) (n c : Nat) (os : List FleetMath.Ord) (st : St) (g : Nat) (s : Stp) (A' : Option Addr) (k c' : Nat) (seen : List Stp) (w : World)
    (ht : TBox w g (some ⟨bm, 0, none⟩) d A n c st) (hm : MapAt w 78 base bm mn ml) (hmn : mn ≤ 12) (hmap : IsMap mn ml) (ho : Ords w w.heap.size A n os) (hs : Stps w w.heap.size A' k seen) (hok : ∀ o ∈ os, OrdOk ⟨mn, ml⟩ o)
    (lf1 : 0 ≤ st.left) (lf2 : st.left ≤ 2000000) (ll1 : -1000000 ≤ st.load) (ll2 : st.load ≤ 1000000) :
    Calls Try.prog 36 #[.pointer (some ⟨g, 0, none⟩), stpV s, .slice A' k c'] w (StopOk w g (some ⟨bm, 0, none⟩) d A n c (FleetMath.step ⟨mn, ml⟩ d os seen st s)) := by
  have HT := Lib.hid ht
  have HM := Lib.hid hm
  have HMAP := Lib.hid hmap
  have HO := Lib.hid ho
  have HS := Lib.hid hs
  have HOK := Lib.hid hok
  have HG := Lib.hid (Blk.lt ht)
  obtain ⟨r, hr⟩ : ∃ r, FleetMath.step ⟨mn, ml⟩ d os seen st s = r := ⟨_, rfl⟩
  rw [hr]
  have HR := Lib.hid hr
  obtain ⟨o, ok, hfv, hf1, hf0⟩ := found_form (find os s.ord)
  have HFV := Lib.hid hfv
  have HF1 := Lib.hid hf1
  have HF0 := Lib.hid hf0
  clear ht hm hmap ho hs hok hr hfv hf1 hf0
  go_enter Try.func36, Try.ntmps36
  go_upto_region 1 with fail
  obtain ⟨u0, hu0⟩ : ∃ u, (w.alloc (.cells #[.int .i64 s.ord, .bool s.drop] 36)).alloc (.cells #[.int .i64 0, .bool false, .int .i64 0, .int .i64 0, .int .i64 0, .int .i64 0] 44) = u := ⟨_, rfl⟩
  have b1 : Below w.heap.size w (w.alloc (.cells #[.int .i64 s.ord, .bool s.drop] 36)) := (Below.refl _ _).alloc (Nat.le_refl _) _
  have S0 : Hid (SS w s u0) := by
    have f0 : Blk (w.alloc (.cells #[.int .i64 s.ord, .bool s.drop] 36)) w.heap.size 36 [.int .i64 s.ord, .bool s.drop] := Blk.new w _ _
    have f := Blk.new (w.alloc (.cells #[.int .i64 s.ord, .bool s.drop] 36)) 44 [.int .i64 0, .bool false, .int .i64 0, .int .i64 0, .int .i64 0, .int .i64 0]
    rw [World.size_alloc] at f
    rw [← hu0]
    exact ⟨b1.alloc b1.size _, f0.below ((Below.refl _ _).alloc (Nat.le_refl _) _) f0.lt, f⟩
  rw [hu0]
  clear b1 hu0
  have HC : Hid (∀ u, Below u0.heap.size u0 u → (u.cell? ⟨g, 7, none⟩ = some (.slice A n c) ∧ u.cell? ⟨w.heap.size, 0, none⟩ = some (.int .i64 s.ord)) ∧ Below u0.heap.size u0 u) := fun u hu => by
    have h1 := S0.out.next hu
    have h2 := (HT.out.below h1.old).cells
    exact ⟨⟨h2.2.2.2.2.2.2.2.1, h1.stp.cell rfl⟩, hu⟩
  have HO0 : Hid (Ords u0 u0.heap.size A n os) := Recs.more (Recs.keep HO.out S0.out.old) S0.out.old.size
  go_cut [8, 9] (fun ov bv wx => ∃ go, ov = .pointer (some ⟨go, 0, none⟩) ∧ bv = .bool ok ∧ Hid (w.heap.size + 2 ≤ go) ∧ Hid (SS w s wx) ∧ Hid (OBox wx go o))
  case first =>
    have HCA : Hid (∀ o, (u0.alloc o).cell? ⟨g, 7, none⟩ = some (.slice A n c) ∧ (u0.alloc o).cell? ⟨w.heap.size, 0, none⟩ = some (.int .i64 s.ord)) := fun o => (HC.out _ ((Below.refl _ _).alloc (Nat.le_refl _) o)).1
    obtain ⟨k1, k2⟩ := (HC.out _ (Below.refl _ _)).1
    have k3 := fun o => (HCA.out o).1
    have k4 := fun o => (HCA.out o).2
    go_region_with (go_at_call 60; (refine (pfind_qb A n c os s.ord o ok u0 _ (by first | assumption | exact (Below.refl _ _).drew | exact ((Below.refl _ _).alloc (Nat.le_refl _) _).drew) HO0.out HFV.out).mono ?_); rintro e w' ⟨rfl, hbx, hby⟩; (try (have hbox := Lib.hid (box_stays hby); have hcs := cell_apart u0.heap.size; have hfs := frozen_set; have hff := hbox.out.free; obtain ⟨x0, x1, x2, x3, x4, x5, x6, x7, x8, x9⟩ := zero_cells hbox.out)))
    all_goals
      go_wp2_with fail
      go_meet
      first
        | exact ⟨_, rfl, rfl, Nat.le_trans S0.out.size hbx.size, (S0.out.next hbx).alloc _, Blk.new w' _ _⟩
        | exact ⟨_, rfl, rfl, S0.out.size, S0.out.next (putO_below hbx (Nat.le_refl _) o), putO_box hbox.out o⟩
  case rest =>
  obtain ⟨go, rfl, rfl, HGO, S1, HX1⟩ := hcut
  obtain ⟨w1, rfl⟩ : ∃ u, u = wc := ⟨_, rfl⟩
  clear S0 HO0 HC HFV
  cases ok with
  | false =>
    have HD : Hid (r = .error 8) := by show r = _; rw [← HR.out]; exact step_none (HF0.out rfl)
    have HB := Lib.hid S1.out.bad
    have hcs := cell_apart (w.heap.size + 1)
    have hfs := frozen_set
    have hff := Blk.free S1.out.res
    obtain ⟨x0, x1, x2, x3, x4, x5⟩ := S1.out.res.cells
    have HRS := Lib.hid (putV_box S1.out.res vis0).cells
    go_wp2_with fail
    refine bodyPost_ret (v := .tuple #[visV vis0, .int .i64 8]) ?_ rfl (stop_err HD.out HB.out)
    obtain ⟨r0, r1, r2, r3, r4, r5⟩ := HRS.out
    simp [results, Try.results36, go_sem, r0, r1, r2, r3, r4, r5]
  | true =>
  have HFO := Lib.hid (HF1.out rfl)
  have HKO := Lib.hid (HOK.out o (find_some HFO.out).1)
  clear HF1 HF0 HOK
  obtain ⟨t1, ht1⟩ : ∃ b, decide (s ∈ seen) = b := ⟨_, rfl⟩
  have T1 := Lib.hid ht1
  clear ht1
  obtain ⟨y0, y1⟩ : w1.cell? ⟨w.heap.size, 0, none⟩ = some (.int .i64 s.ord) ∧ w1.cell? ⟨w.heap.size, 1, none⟩ = some (.bool s.drop) := ⟨S1.out.stp.cell rfl, S1.out.stp.cell rfl⟩
  go_wp2_with fail
  refine (pcontains_v A' k c' seen s _ t1 (Recs.more (Recs.keep HS.out S1.out.old) S1.out.old.size) T1.out).mono ?_
  rintro e w2 ⟨rfl, hb⟩
  have S2 := Lib.hid (S1.out.next hb)
  have HX2 := Lib.hid (HX1.out.below hb)
  clear hb y0 y1 S1 HX1
  cases t1 with
  | true =>
    have HD : Hid (r = .error 16) := by show r = _; rw [← HR.out]; exact step_twice HFO.out (of_decide_eq_true T1.out)
    have HB := Lib.hid S2.out.bad
    have hcs := cell_apart (w.heap.size + 1)
    have hfs := frozen_set
    have hff := Blk.free S2.out.res
    obtain ⟨x0, x1, x2, x3, x4, x5⟩ := S2.out.res.cells
    have HRS := Lib.hid (putV_box S2.out.res vis0).cells
    go_wp2_with fail
    refine bodyPost_ret (v := .tuple #[visV vis0, .int .i64 16]) ?_ rfl (stop_err HD.out HB.out)
    obtain ⟨r0, r1, r2, r3, r4, r5⟩ := HRS.out
    simp [results, Try.results36, go_sem, r0, r1, r2, r3, r4, r5]
  | false =>
  have HNEW := Lib.hid (of_decide_eq_false T1.out)
  clear T1
  obtain ⟨t2, ht2⟩ : ∃ b, decide (Stp.mk s.ord false ∈ seen) = b := ⟨_, rfl⟩
  have T2 := Lib.hid ht2
  clear ht2
  obtain ⟨y0, y1⟩ : w2.cell? ⟨w.heap.size, 0, none⟩ = some (.int .i64 s.ord) ∧ w2.cell? ⟨w.heap.size, 1, none⟩ = some (.bool s.drop) := ⟨S2.out.stp.cell rfl, S2.out.stp.cell rfl⟩
  go_upto_region 6 with fail
  go_cut [32] (fun bv wx => ∃ t3 : Bool, bv = .bool t3 ∧ Hid (t3 = true → s.drop = true ∧ t2 = false) ∧ Hid (t3 = false → s.drop = true → t2 = true) ∧ Hid (SS w s wx) ∧ Hid (OBox wx go o))
  case first =>
    cases hsd : s.drop with
    | false =>
      rw [hsd] at y1
      go_wp2_with fail
      go_meet
      exact ⟨false, rfl, fun h => (by cases h), fun _ h => (by rw [hsd] at h; cases h), S2, HX2⟩
    | true =>
      rw [hsd] at y1
      go_wp2_with fail
      refine (pcontains_v A' k c' seen ⟨s.ord, false⟩ _ t2 (Recs.more (Recs.keep HS.out S2.out.old) S2.out.old.size) T2.out).mono ?_
      rintro e w3 ⟨rfl, hb⟩
      have S3 := Lib.hid (S2.out.next hb)
      have HX3 := Lib.hid (HX2.out.below hb)
      clear hb
      go_wp2_with fail
      go_meet
      exact ⟨!t2, rfl, fun h => ⟨hsd, by simpa using h⟩, fun h _ => by simpa using h, S3, HX3⟩
  case rest =>
  obtain ⟨t3, rfl, HT3, HT3n, S3, HX3⟩ := hcut
  obtain ⟨w3, rfl⟩ : ∃ u, u = wc := ⟨_, rfl⟩
  clear S2 HX2 y0 y1
  cases t3 with
  | true =>
    have HF17 := Lib.hid (HT3.out (by trivial))
    have HD : Hid (r = .error 17) := by show r = _; rw [← HR.out]; exact step_first HFO.out HNEW.out HF17.out.1 (of_decide_eq_false (by rw [T2.out]; exact HF17.out.2))
    have HB := Lib.hid S3.out.bad
    have hcs := cell_apart (w.heap.size + 1)
    have hfs := frozen_set
    have hff := Blk.free S3.out.res
    obtain ⟨x0, x1, x2, x3, x4, x5⟩ := S3.out.res.cells
    have HRS := Lib.hid (putV_box S3.out.res vis0).cells
    go_wp2_with fail
    refine bodyPost_ret (v := .tuple #[visV vis0, .int .i64 17]) ?_ rfl (stop_err HD.out HB.out)
    obtain ⟨r0, r1, r2, r3, r4, r5⟩ := HRS.out
    simp [results, Try.results36, go_sem, r0, r1, r2, r3, r4, r5]
  | false =>
  have HFST : Hid (s.drop = true → Stp.mk s.ord false ∈ seen) := fun h => of_decide_eq_true (by rw [T2.out]; exact HT3n.out (by trivial) h)
  clear HT3 HT3n T2
  obtain ⟨sz1, sz2⟩ := HKO.out.size
  obtain ⟨o0, o1, o2, o3, o4, o5, o6, o7, o8, o9⟩ := HX3.out.cells
  have HT3 := Lib.hid (HT.out.below S3.out.old)
  have l10 := HT3.out.cells.2.2.2.2.2.2.2.2.2.2
  go_upto_region 8 with fail
  go_cut [10, 11] (fun sv lv wx => ∃ gs, sv = .pointer (some ⟨gs, 0, none⟩) ∧ lv = .int .i64 (st.load + o.size) ∧ Hid (w.heap.size + 2 ≤ gs) ∧ Hid (gs ≠ go) ∧ Hid (SS w s wx) ∧ Hid (OBox wx go o) ∧ Hid (SBox wx gs o.pick))
  case first =>
    have HCA : Hid (∀ ob, (w3.alloc ob).cell? ⟨go, 1, none⟩ = some (.int .i64 o.size) ∧ (w3.alloc ob).cell? ⟨go, 2, none⟩ = some (.int .i64 o.pick.place) ∧ (w3.alloc ob).cell? ⟨go, 3, none⟩ = some (.int .i64 o.pick.win.fr) ∧ (w3.alloc ob).cell? ⟨go, 4, none⟩ = some (.int .i64 o.pick.win.to) ∧ (w3.alloc ob).cell? ⟨go, 5, none⟩ = some (.int .i64 o.pick.serv) ∧ (w3.alloc ob).cell? ⟨g, 10, none⟩ = some (.int .i64 st.load)) := fun ob => by
      have hb : Below w3.heap.size w3 (w3.alloc ob) := (Below.refl _ _).alloc (Nat.le_refl _) _
      obtain ⟨_, h1, h2, h3, h4, h5, _⟩ := (HX3.out.below hb).cells
      exact ⟨h1, h2, h3, h4, h5, (HT3.out.below hb).cells.2.2.2.2.2.2.2.2.2.2⟩
    have k1 := fun ob => (HCA.out ob).1
    have k2 := fun ob => (HCA.out ob).2.1
    have k3 := fun ob => (HCA.out ob).2.2.1
    have k4 := fun ob => (HCA.out ob).2.2.2.1
    have k5 := fun ob => (HCA.out ob).2.2.2.2.1
    have k6 := fun ob => (HCA.out ob).2.2.2.2.2
    go_region
    all_goals
      go_wp2_with fail
      go_meet
      exact ⟨_, rfl, rfl, S3.out.size, Nat.ne_of_gt (Blk.lt HX3.out), (S3.out.alloc _).drew, (HX3.out.below ((Below.refl _ _).alloc (Nat.le_refl _) _)).below (Below.refl _ _).drew, Blk.new w3 _ _⟩
  case rest =>
  obtain ⟨gs, rfl, rfl, HGS, HNE, S4, HX4, HY4⟩ := hcut
  obtain ⟨w4, rfl⟩ : ∃ u, u = wc := ⟨_, rfl⟩
  clear S3 HX3 HT3 l10 o0 o1 o2 o3 o4 o5 o6 o7 o8 o9
  have HT4 := Lib.hid (HT.out.below S4.out.old)
  have l10 := HT4.out.cells.2.2.2.2.2.2.2.2.2.2
  obtain ⟨o0, o1, o2, o3, o4, o5, o6, o7, o8, o9⟩ := HX4.out.cells
  obtain ⟨z0, z1, z2, z3⟩ := HY4.out.cells
  have y1 : w4.cell? ⟨w.heap.size, 1, none⟩ = some (.bool s.drop) := S4.out.stp.cell rfl
  obtain ⟨si, hsi⟩ : ∃ x, siteOf o s = x := ⟨_, rfl⟩
  have HSI := Lib.hid hsi
  obtain ⟨ld, hld⟩ : ∃ x, loadOf o s st.load = x := ⟨_, rfl⟩
  have HLD := Lib.hid hld
  have hsv : 0 ≤ si.serv ∧ si.serv ≤ 1000000 := by
    rw [← hsi]
    unfold siteOf
    split
    · exact HKO.out.dropS
    · exact HKO.out.pickS
  obtain ⟨sv1, sv2⟩ := hsv
  have hlb : -2000000 ≤ ld ∧ ld ≤ 2000000 := by
    rw [← hld]
    unfold loadOf
    split <;> omega
  obtain ⟨ld1, ld2⟩ := hlb
  clear hsi hld
  go_upto_if 54 with fail
  go_cut [11] (fun lv wx => lv = .int .i64 ld ∧ Hid (SS w s wx) ∧ Hid (SBox wx gs si))
  case first =>
    cases hsd : s.drop with
    | false =>
      have h1 : st.load + o.size = ld := by rw [← HLD.out]; unfold loadOf; rw [hsd]; rfl
      have h2 : o.pick = si := by rw [← HSI.out]; unfold siteOf; rw [hsd]; rfl
      have HY5 : Hid (SBox w4 gs si) := by rw [← h2]; exact HY4.out
      rw [hsd] at y1
      clear h2
      go_wp2_with fail
      go_meet
      exact ⟨by rw [h1], S4, HY5⟩
    | true =>
      have h1 : st.load - o.size = ld := by rw [← HLD.out]; unfold loadOf; rw [hsd]; rfl
      have h2 : o.drop = si := by rw [← HSI.out]; unfold siteOf; rw [hsd]; rfl
      rw [hsd] at y1
      have hcs := cell_apart gs
      have hfs := frozen_set
      have hff := Blk.free HY4.out
      have HS5 := Lib.hid (putS_ss S4.out HGS.out o.drop).drew
      have HY5 : Hid (SBox (putS w4 gs o.drop).drew gs si) := by
        have := putS_box HY4.out o.drop
        rw [h2] at this ⊢
        exact this
      have hca := cell_far HNE.out
      have hcb := cell_far (g := gs) (h := g) (by have := HGS.out; have := HG.out; omega)
      clear h2
      go_wp2_with fail
      go_region
      all_goals
        go_wp2_with fail
        go_meet
        exact ⟨rfl, HS5, HY5⟩
  case rest =>
  obtain ⟨rfl, S5, HY5⟩ := hcut
  obtain ⟨w5, rfl⟩ : ∃ u, u = wc := ⟨_, rfl⟩
  clear S4 HX4 HY4 HT4 l10 o0 o1 o2 o3 o4 o5 o6 o7 o8 o9 z0 z1 z2 z3 y1 sz1 sz2
  have HT5 := Lib.hid (HT.out.below S5.out.old)
  have l2 := HT5.out.cells.2.2.1
  by_cases hroom : d.room < ld
  · have HRM := Lib.hid hroom
    have HD : Hid (r = .error 14) := by show r = _; rw [← HR.out]; exact step_load HFO.out HNEW.out HFST.out (by rw [HLD.out]; exact HRM.out)
    have HB := Lib.hid S5.out.bad
    have hcs := cell_apart (w.heap.size + 1)
    have hfs := frozen_set
    have hff := Blk.free S5.out.res
    obtain ⟨x0, x1, x2, x3, x4, x5⟩ := S5.out.res.cells
    have HRS := Lib.hid (putV_box S5.out.res vis0).cells
    go_wp2_with fail
    refine bodyPost_ret (v := .tuple #[visV vis0, .int .i64 14]) ?_ rfl (stop_err HD.out HB.out)
    obtain ⟨r0, r1, r2, r3, r4, r5⟩ := HRS.out
    simp [results, Try.results36, go_sem, r0, r1, r2, r3, r4, r5]
  have HRM : Hid (loadOf o s st.load ≤ d.room) := by show _ ≤ _; rw [HLD.out]; omega
  obtain ⟨tt, htt⟩ : ∃ t, time ⟨mn, ml⟩ st.at_ si.place = t := ⟨_, rfl⟩
  have HTT := Lib.hid htt
  obtain ⟨tb1, tb2⟩ := time_bounds HMAP.out st.at_ si.place
  rw [htt] at tb1 tb2
  obtain ⟨v, vok, hvv, hv1, hv0⟩ := visit_form (st.left + time ⟨mn, ml⟩ st.at_ si.place) (FleetMath.served ⟨mn, ml⟩ st.at_ st.left si d.win.to)
  rw [htt] at hv1
  have HVV := Lib.hid hvv
  have HV1 := Lib.hid hv1
  have HV0 := Lib.hid hv0
  obtain ⟨z0, z1, z2, z3⟩ := HY5.out.cells
  clear htt hvv hv1 hv0
  go_wp2_with fail
  refine (pvisit_v base bm mn ml d A n c st g si v vok _ (by exact HT5.out) (by exact HM.out.keep S5.out.old (Nat.le_refl _)) hmn HMAP.out lf1 lf2 sv1 sv2 HVV.out).mono ?_
  rintro e w6 ⟨rfl, hb⟩
  have S6 := Lib.hid (S5.out.next hb)
  have HY6 := Lib.hid (HY5.out.below hb)
  clear hb S5 HY5 HT5 l2 z0 z1 z2 z3 HVV
  cases vok with
  | false =>
    have S7 := Lib.hid (S6.out.alloc (.cells #[.int .i64 v.stop.ord, .bool v.stop.drop, .int .i64 v.arrive, .int .i64 v.start, .int .i64 v.leave, .int .i64 v.load] 44))
    have HLT := Lib.hid (HV0.out rfl)
    clear HV1 HV0
    have HD : Hid (r = .error 15) := by show r = _; rw [← HR.out]; exact step_tardy HFO.out HNEW.out HFST.out HRM.out (by rw [HSI.out]; exact HLT.out)
    have HB := Lib.hid S7.out.bad
    have hcs := cell_apart (w.heap.size + 1)
    have hfs := frozen_set
    have hff := Blk.free S7.out.res
    obtain ⟨x0, x1, x2, x3, x4, x5⟩ := S7.out.res.cells
    have HRS := Lib.hid (putV_box S7.out.res vis0).cells
    go_wp2_with fail
    refine bodyPost_ret (v := .tuple #[visV vis0, .int .i64 15]) ?_ rfl (stop_err HD.out HB.out)
    obtain ⟨r0, r1, r2, r3, r4, r5⟩ := HRS.out
    simp [results, Try.results36, go_sem, r0, r1, r2, r3, r4, r5]
  | true =>
  obtain ⟨b, l, hser, rfl⟩ := HV1.out rfl
  have HD : Hid (r = .ok (⟨si.place, l, ld⟩, ⟨s, st.left + tt, b, l, ld⟩)) := by
    have := step_made HFO.out HNEW.out HFST.out HRM.out (by rw [HSI.out]; exact hser)
    rw [HR.out, HSI.out, HLD.out, HTT.out] at this
    exact this
  clear hser HV1 HV0 HNEW HFST HRM HFO HKO HR
  have S7 := Lib.hid (S6.out.alloc (.cells #[.int .i64 0, .bool false, .int .i64 (st.left + tt), .int .i64 b, .int .i64 l, .int .i64 0] 44))
  obtain ⟨y0, y1⟩ : (w6.alloc (.cells #[.int .i64 0, .bool false, .int .i64 (st.left + tt), .int .i64 b, .int .i64 l, .int .i64 0] 44)).cell? ⟨w.heap.size, 0, none⟩ = some (.int .i64 s.ord) ∧ (w6.alloc (.cells #[.int .i64 0, .bool false, .int .i64 (st.left + tt), .int .i64 b, .int .i64 l, .int .i64 0] 44)).cell? ⟨w.heap.size, 1, none⟩ = some (.bool s.drop) := ⟨S7.out.stp.cell rfl, S7.out.stp.cell rfl⟩
  go_upto_region 17 with fail
  have S8 := Lib.hid (S6.out.alloc (.cells #[.int .i64 s.ord, .bool s.drop, .int .i64 (st.left + tt), .int .i64 b, .int .i64 l, .int .i64 ld] 44))
  have HY8 : Hid (SBox (w6.alloc (.cells #[.int .i64 s.ord, .bool s.drop, .int .i64 (st.left + tt), .int .i64 b, .int .i64 l, .int .i64 ld] 44)) gs si) := HY6.out.below ((Below.refl _ _).alloc (Nat.le_refl _) _)
  have HV8 : Hid (VBox (w6.alloc (.cells #[.int .i64 s.ord, .bool s.drop, .int .i64 (st.left + tt), .int .i64 b, .int .i64 l, .int .i64 ld] 44)) w6.heap.size ⟨s, st.left + tt, b, l, ld⟩) := Blk.new w6 _ _
  have HGV : Hid (w.heap.size + 2 ≤ w6.heap.size) := S6.out.size
  obtain ⟨u, hu⟩ : ∃ u, w6.alloc (.cells #[.int .i64 s.ord, .bool s.drop, .int .i64 (st.left + tt), .int .i64 b, .int .i64 l, .int .i64 ld] 44) = u := ⟨_, rfl⟩
  obtain ⟨gv, hgv⟩ : ∃ q, w6.heap.size = q := ⟨_, rfl⟩
  rw [hgv] at HV8 HGV ⊢
  rw [hu] at S8 HY8 HV8 ⊢
  clear hu hgv S7 S6 HY6 y0 y1
  have HT8 := Lib.hid (HT.out.below S8.out.old)
  obtain ⟨m0, m1, m2, m3, m4, m5, m6, m7, m8, m9, m10⟩ := HT8.out.cells
  obtain ⟨z0, z1, z2, z3⟩ := HY8.out.cells
  have v4 := HV8.out.cells.2.2.2.2.1
  go_cut [] (fun wx => Hid (VBox wx gv ⟨s, st.left + tt, b, l, ld⟩) ∧ Hid (VBox wx (w.heap.size + 1) vis0) ∧ Hid (TBox wx g (some ⟨bm, 0, none⟩) d A n c ⟨si.place, l, ld⟩) ∧ Hid (But g w wx))
  case first =>
    have HBU : Hid (But g w (((u.setCell ⟨g, 8, none⟩ (.int .i64 si.place)).setCell ⟨g, 9, none⟩ (.int .i64 l)).setCell ⟨g, 10, none⟩ (.int .i64 ld))) := (((But.of S8.out.old (Nat.le_of_lt HG.out)).set _ _).set _ _).set _ _
    have HTU : Hid (TBox (((u.setCell ⟨g, 8, none⟩ (.int .i64 si.place)).setCell ⟨g, 9, none⟩ (.int .i64 l)).setCell ⟨g, 10, none⟩ (.int .i64 ld)) g (some ⟨bm, 0, none⟩) d A n c ⟨si.place, l, ld⟩) := ((Blk.put HT8.out 8 _).put 9 _).put 10 _
    have HON : Hid (Only g u (((u.setCell ⟨g, 8, none⟩ (.int .i64 si.place)).setCell ⟨g, 9, none⟩ (.int .i64 l)).setCell ⟨g, 10, none⟩ (.int .i64 ld))) := (((Only.refl _ _).set _ _).set _ _).set _ _
    have HVU := Lib.hid (HON.out.blk HV8.out (by have := HG.out; have := HGV.out; omega))
    have HRU := Lib.hid (HON.out.blk S8.out.res (by have := HG.out; omega))
    have hcs := cell_apart g
    have hfs := frozen_set
    have hff := Blk.free HT8.out
    have hca := cell_far (g := g) (h := gs) (by have := HGS.out; have := HG.out; omega)
    have hcb := cell_far (g := g) (h := gv) (by have := HGV.out; have := HG.out; omega)
    clear HON
    go_region
    all_goals
      go_wp2_with fail
      go_meet
      exact ⟨HVU, HRU, HTU, HBU.out.next (Below.refl _ _).drew (Nat.le_trans (Nat.le_of_lt HG.out) HBU.out.size)⟩
  case rest =>
  obtain ⟨HV9, HR9, HT9, HB9⟩ := hcut
  obtain ⟨w9, rfl⟩ : ∃ u, u = wc := ⟨_, rfl⟩
  clear S8 HY8 HV8 HT8 m0 m1 m2 m3 m4 m5 m6 m7 m8 m9 m10 z0 z1 z2 z3 v4
  have HBX : Hid (But g w (putV w9 (w.heap.size + 1) ⟨s, st.left + tt, b, l, ld⟩)) := putV_but HB9.out (Nat.le_succ _) (by have := HG.out; omega) _
  have HTX : Hid (TBox (putV w9 (w.heap.size + 1) ⟨s, st.left + tt, b, l, ld⟩) g (some ⟨bm, 0, none⟩) d A n c ⟨si.place, l, ld⟩) :=
    Only.blk (g := w.heap.size + 1) ((((((((Only.refl _ _).set _ _).set _ _).set _ _).set _ _).set _ _).set _ _)) HT9.out (by have := HG.out; omega)
  have HRS := Lib.hid (putV_box HR9.out ⟨s, st.left + tt, b, l, ld⟩).cells
  have hcs := cell_apart (w.heap.size + 1)
  have hfs := frozen_set
  have hff := Blk.free HR9.out
  obtain ⟨x0, x1, x2, x3, x4, x5⟩ := HR9.out.cells
  obtain ⟨v0, v1, v2, v3, v4, v5⟩ := HV9.out.cells
  go_wp2_with fail
  refine bodyPost_ret (v := .tuple #[visV ⟨s, st.left + tt, b, l, ld⟩, .int .i64 0]) ?_ rfl (stop_done HD.out HTX.out HBX.out)
  obtain ⟨r0, r1, r2, r3, r4, r5⟩ := HRS.out
  simp [results, Try.results36, go_sem, r0, r1, r2, r3, r4, r5]

#print axioms pstop_any
end Go.Proofs.Ytfejnohcggoepaa.Route
