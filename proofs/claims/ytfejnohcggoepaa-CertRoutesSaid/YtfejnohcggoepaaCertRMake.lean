/-
  The document's own answer to chapter 10, walked: Make.
-/
import Derived.Test.YtfejnohcggoepaaCertRDrv
import Derived.Test.YtfejnohcggoepaaCertMaths
import Derived.Test.YtfejnohcggoepaaCertNews
import Derived.Test.YtfejnohcggoepaaRouteKeep
namespace Go.Proofs.Ytfejnohcggoepaa.Cert
open Go.ChangeShapes Go.WideShapes Go.ChangeAt Go.RowKit Go.Proofs.Ytfejnohcggoepaa.Mem Go.Proofs.Ytfejnohcggoepaa.GeoMath Go.Proofs.Ytfejnohcggoepaa.FleetMath Go.Proofs.Ytfejnohcggoepaa.PlanMath Go.Proofs.Ytfejnohcggoepaa.CertMath Go.Proofs.Ytfejnohcggoepaa.Rec Go.Proofs.Ytfejnohcggoepaa.Geo Go.Proofs.Ytfejnohcggoepaa.Span Go.Proofs.Ytfejnohcggoepaa.Deal Go.Proofs.Ytfejnohcggoepaa.Route Go.Proofs.Ytfejnohcggoepaa.Plan
set_option linter.unusedVariables false
set_option linter.unusedSimpArgs false

/-- what Make leaves: a certificate in new memory, the fault -/
structure Made (w w' : World) (v : Value) (l : List CM) (c : List (List Vis)) : Prop where
  new : NewC w w' v l
  vss : l.map (·.vs) = c
  few : ∀ r ∈ l, r.n * 48 ≤ 140737488351232
def MakeOk (w : World) (r : List (List Vis) × Nat × Int) (e : Ending) (w' : World) : Prop :=
  ∃ v l, e = .returned (.tuple #[v, faultV r.2.1 r.2.2]) ∧ Made w w' v l r.1
theorem make_fault {w w' : World} {k : Nat} {e : Int} {r : List (List Vis) × Nat × Int} (h : r = ([], k, e)) (hb : Below w.heap.size w w') : MakeOk w r (.returned (.tuple #[.slice none 0 0, faultV k e])) w' := by
  subst h
  exact ⟨_, [], rfl, ⟨⟨hb, OwnK.nil _ _ _ _, (fun r h => by cases h), List.Pairwise.nil⟩, rfl, fun r h => by cases h⟩⟩
/-- the world with the fault's box -/
abbrev FX (w : World) : World := w.alloc (.cells #[.int .i64 0, .int .i64 0] 49)
/-- Make's state: ahead of a route -/
structure MS (w : World) (p : List RM) (v : Value) (wr : World) (l : List CM) (k : Nat) : Prop where
  new : NewC (FX w) wr v l
  few : ∀ r ∈ l, r.n * 48 ≤ 140737488351232
  len : l.length = k
section
variable {w wr w' : World} {p : List RM} {v v' : Value} {l : List CM} {k : Nat}
theorem FX.below (w : World) : Below w.heap.size w (FX w) := (Below.refl _ _).alloc (Nat.le_refl _) _
theorem FX.size (w : World) : (FX w).heap.size = w.heap.size + 1 := by simp
theorem MS.old (h : MS w p v wr l k) : Below w.heap.size w wr := (FX.below w).trans (h.new.old.mono (FX.below w).size)
theorem MS.box (h : MS w p v wr l k) : Blk wr w.heap.size 49 [.int .i64 0, .int .i64 0] := (Blk.new w 49 [.int .i64 0, .int .i64 0]).below h.new.old (by rw [FX.size]; omega)
theorem MS.puts (h : MS w p v wr l k) (a b : Value) : (wr.cell? ⟨w.heap.size, 0, none⟩ = some (.int .i64 0) ∧ wr.frozen? ⟨w.heap.size, 0, none⟩ = false) ∧ ((wr.setCell ⟨w.heap.size, 0, none⟩ a).cell? ⟨w.heap.size, 1, none⟩ = some (.int .i64 0) ∧ (wr.setCell ⟨w.heap.size, 0, none⟩ a).frozen? ⟨w.heap.size, 1, none⟩ = false) ∧
    ((wr.setCell ⟨w.heap.size, 0, none⟩ a).setCell ⟨w.heap.size, 1, none⟩ b).cell? ⟨w.heap.size, 0, none⟩ = some a ∧ ((wr.setCell ⟨w.heap.size, 0, none⟩ a).setCell ⟨w.heap.size, 1, none⟩ b).cell? ⟨w.heap.size, 1, none⟩ = some b := by
  have f1 := h.box.put 0 a
  have f2 := f1.put 1 b
  exact ⟨⟨h.box.cell rfl, h.box.free 0⟩, ⟨f1.cell rfl, f1.free 1⟩, f2.cell rfl, f2.cell rfl⟩
theorem MS.keep (h : MS w p v wr l k) (hb : Below wr.heap.size wr w') : MS w p v w' l k := ⟨h.new.keep hb, h.few, h.len⟩
theorem MS.start (w : World) (p : List RM) : MS w p (.slice none 0 0) (FX w) [] 0 := ⟨NewC.nil _, (fun r h => by cases h), rfl⟩
theorem NewC.put (h : NewC (FX w) wr v l) (a b : Value) : NewC w ((wr.setCell ⟨w.heap.size, 0, none⟩ a).setCell ⟨w.heap.size, 1, none⟩ b) v l := by
  have hs : ∀ g, (FX w).heap.size ≤ g → g < wr.heap.size → ((wr.setCell ⟨w.heap.size, 0, none⟩ a).setCell ⟨w.heap.size, 1, none⟩ b).heap[g]? = wr.heap[g]? := fun g hg _ => by
    have := FX.size w
    exact (Below.heap_setCell _ _ _ g (by show g ≠ w.heap.size; omega)).trans (Below.heap_setCell _ _ _ g (by show g ≠ w.heap.size; omega))
  have hl := (FX.below w).size
  exact ⟨(((FX.below w).trans (h.old.mono hl)).setCell (Nat.le_refl _) _).setCell (Nat.le_refl _) _, (h.own.same hs).lower hl, fun r hr => ⟨((h.each r hr).1.same hs).lower hl, (h.each r hr).2⟩, h.apart⟩
end

/-- the document's Drive, called somewhere behind w3 -/
theorem drive_at {base : Nat} {q : Option Addr} {m : Option Mp} {d : Drv} {A2 : Option Addr} {n2 c2 : Nat} {os : List FleetMath.Ord} {x : RM} {w3 u : World} (hu : Below w3.heap.size w3 u) (hm : MapP w3 107 base (.pointer q) m) (ho : Ords w3 w3.heap.size A2 n2 os) (hs : Stps w3 w3.heap.size x.a x.n x.rt.stops) (hc : x.n ≤ x.c)
    {vs : List Vis} {k : Nat} {e : Int} (hd : drive m d os x.rt.stops = (vs, k, e)) :
    Calls Try.prog 31 #[.pointer q, drvV d, .slice A2 n2 c2, .slice x.a x.n x.c] u fun en u' => ∃ B c2, en = .returned (.tuple #[.slice B vs.length c2, faultV k e]) ∧ Below w3.heap.size w3 u' ∧ Below u.heap.size u u' ∧ Hid (OwnK u' u.heap.size 44 6 (.slice B vs.length c2) vs.length (vissV vs)) := by
  refine (rdrive_any base _ m d A2 n2 c2 os x.a x.n x.c x.rt.stops u (hm.keep hu) (Recs.more (Recs.keep ho hu) hu.size) (Recs.more (Recs.keep hs hu) hu.size) hc).mono ?_
  rintro en u' ⟨hb, v, rfl, hv⟩
  rw [hd] at hv ⊢
  obtain ⟨B, c2, rfl, _, hr⟩ := hv.read
  exact ⟨B, c2, rfl, hu.trans (hb.mono hu.size), hb, hv⟩

set_option maxRecDepth 100000 in
set_option maxHeartbeats 8000000 in
theorem rmake_any (base : Nat) (pv : Value) (m : Option Mp) (A : Option Addr) (n c : Nat) (ds : List Drv) (A2 : Option Addr) (n2 c2 : Nat) (os : List FleetMath.Ord) (A3 : Option Addr) (n3 c3 : Nat) (l : List RM) (w : World)
    (h : MapP w 107 base pv m) (hd : Drvs w w.heap.size A n ds) (ho : Ords w w.heap.size A2 n2 os) (hl : Plns w w.heap.size A3 n3 l) :
    Calls Try.prog 16 #[pv, .slice A n c, .slice A2 n2 c2, .slice A3 n3 c3] w (MakeOk w (makeC m ds os (l.map (·.rt)))) := by
  have hm := Recs.le hl.rows
  have HD := Lib.hid hd
  have HO := Lib.hid ho
  have HP := Lib.hid hl
  have HL := Lib.hid hl.length
  have HM := Lib.hid h
  have HS0 := Lib.hid (MS.start w l)
  have HB0 := Lib.hid (FX.below w)
  obtain ⟨rw', hrw⟩ : ∃ r, wellC m ds os (l.map (·.rt)) = r := ⟨_, rfl⟩
  have HW := Lib.hid hrw
  obtain ⟨q, hq⟩ : ∃ q, pv = .pointer q := by
    rcases h with ⟨rfl, _⟩ | ⟨b, _, _, rfl, _⟩
    · exact ⟨_, rfl⟩
    · exact ⟨_, rfl⟩
  subst hq
  clear h hd ho hl hrw
  go_enter Try.func16, Try.ntmps16
  go_wp2_with fail
  refine (rwell_any base _ m A n c ds A2 n2 c2 os A3 n3 c3 l rw' _ (by exact HM.out.keep HB0.out) (by exact Recs.more (Recs.keep HD.out HB0.out) HB0.out.size) (by exact Recs.more (Recs.keep HO.out HB0.out) HB0.out.size) (by exact (HP.out.keep HB0.out).more HB0.out.size) HW.out).mono ?_
  rintro e w1 ⟨rfl, hb1⟩
  have HS1 := Lib.hid (HS0.out.keep hb1)
  clear hb1 HS0
  cases rw' with
  | false =>
    have HF := Lib.hid (makeC_no HW.out)
    obtain ⟨⟨m0, f0⟩, ⟨m1, f1⟩, q0, q1⟩ := HS1.out.puts (.int .i64 0) (.int .i64 1)
    go_wp2_with fail
    (try simp only [Exit.inBlock, Exit.then])
    refine bodyPost_ret (v := .tuple #[.slice none 0 0, faultV 0 1]) ?_ rfl (make_fault HF.out ((HS1.out.old.setCell (Nat.le_refl _) _).setCell (Nat.le_refl _) _))
    simp [results, Try.results16, go_sem, q0, q1]
  | true =>
    have hn8 : n3 ≤ 8 := by
      obtain ⟨_, _, _, _, h4, _⟩ := wellC_parts HW.out
      have := rightP_few h4
      rw [List.length_map, HL.out] at this
      exact this
    obtain ⟨X, hX⟩ : ∃ X, makeFrom m ds os 0 (l.map (·.rt)) = X := ⟨_, rfl⟩
    have HX0 : Hid (X = pre [] (makeFrom m ds os 0 ((l.map (·.rt)).drop 0))) := Lib.hid (by rw [List.drop_zero, hX]; exact pre_start X)
    have HX := Lib.hid hX
    clear hX
    go_wp2_with fail
    go_loopw [10, 11] (fun v i wr => ∃ (k : Nat) (l' : List CM), k ≤ n3 ∧ i = .int .i64 k ∧ Hid (MS w l v wr l' k) ∧ Hid (X = pre (l'.map (·.vs)) (makeFrom m ds os k ((l.map (·.rt)).drop k)))) (fun _ i _ => n3 - (intOf i).toNat)
    case atStart => exact ⟨0, [], Nat.zero_le _, rfl, HS1, HX0⟩
    case round =>
      clear HX0 HS1
      obtain ⟨k, l', hk, rfl, HS, HK⟩ := hrel
      by_cases hlt : k < n3
      · obtain ⟨b, off, x, rfl, hbb, hx, hdr, c0, c1, c2', hst, hxc⟩ := (HP.out.keep HS.out.old).at_ hlt
        have HXX := Lib.hid hx
        have HPD : Hid ((l.map (·.rt)).drop k = x.rt :: (l.map (·.rt)).drop (k + 1)) := by
          show _ = _
          rw [← List.map_drop, hdr, List.map_cons, List.map_drop]
        obtain ⟨od, hod⟩ : ∃ r, drvOf ds x.rt.drv = r := ⟨_, rfl⟩
        have HOD := Lib.hid hod
        clear hx hdr hst hod
        go_wp2_with fail
        refine (rdrv_any A n c ds x.rt.drv od _ (by exact Recs.more (Recs.keep HD.out HS.out.old) HS.out.old.size) HOD.out).mono ?_
        rintro e w2 ⟨rfl, hb2⟩
        have HS2 := Lib.hid (HS.out.keep hb2)
        clear hb2 HS c0 c1 c2'
        cases od with
        | none =>
          have hv : drvOV none = .tuple #[.agg #[.int .i64 0, .int .i64 0, .int .i64 0, .int .i64 0, .int .i64 0, .bool false], .bool false] := rfl
          rw [hv]
          clear hv
          have HF := Lib.hid (makeC_err HW.out (HX.out.trans (mk_none HK.out HPD.out HOD.out)))
          have HS3 : Hid (MS w l u10 (w2.alloc (.cells #[.int .i64 0, .int .i64 0, .int .i64 0, .int .i64 0, .int .i64 0, .bool false] 33)) l' k) := HS2.out.keep ((Below.refl _ _).alloc (Nat.le_refl _) _)
          obtain ⟨⟨m0, f0⟩, ⟨m1, f1⟩, q0, q1⟩ := HS3.out.puts (.int .i64 k) (.int .i64 8)
          go_wp2_with fail
          (try simp only [Exit.inBlock, Exit.then])
          refine bodyPost_ret (v := .tuple #[.slice none 0 0, faultV k 8]) ?_ rfl (make_fault HF.out ((HS3.out.old.setCell (Nat.le_refl _) _).setCell (Nat.le_refl _) _))
          simp [results, Try.results16, go_sem, q0, q1]
        | some d =>
          have hv : drvOV (some d) = .tuple #[drvV d, .bool true] := rfl
          rw [hv]
          clear hv
          obtain ⟨vs, fk, fe, hdr⟩ : ∃ vs fk fe, drive m d os x.rt.stops = (vs, fk, fe) := ⟨_, _, _, rfl⟩
          have HDR := Lib.hid hdr
          have hv80 : vs.length ≤ 80 := by have := drive_few m d os x.rt.stops; rw [hdr] at this; exact this
          have HS3 : Hid (MS w l u10 (w2.alloc (.cells #[.int .i64 d.id, .int .i64 d.room, .int .i64 d.home, .int .i64 d.win.fr, .int .i64 d.win.to, .bool d.retired] 33)) l' k) := HS2.out.keep ((Below.refl _ _).alloc (Nat.le_refl _) _)
          have HX3 : Hid (DBox (w2.alloc (.cells #[.int .i64 d.id, .int .i64 d.room, .int .i64 d.home, .int .i64 d.win.fr, .int .i64 d.win.to, .bool d.retired] 33)) w2.heap.size d) := Blk.new w2 _ _
          obtain ⟨gd, hgd⟩ : ∃ g, w2.heap.size = g := ⟨_, rfl⟩
          obtain ⟨w3, hw3⟩ : ∃ w, w2.alloc (.cells #[.int .i64 d.id, .int .i64 d.room, .int .i64 d.home, .int .i64 d.win.fr, .int .i64 d.win.to, .bool d.retired] 33) = w := ⟨_, rfl⟩
          clear hdr HS2
          go_upto_region 10 with fail
          rw [hgd] at HX3
          rw [hw3] at HS3 HX3
          clear hw3 hgd
          have HDV : Hid (∀ u, Below w3.heap.size w3 u → Calls Try.prog 31 #[.pointer q, drvV d, .slice A2 n2 c2, .slice x.a x.n x.c] u fun en u' => ∃ B c2, en = .returned (.tuple #[.slice B vs.length c2, faultV fk fe]) ∧ Below w3.heap.size w3 u' ∧ Below u.heap.size u u' ∧ Hid (OwnK u' u.heap.size 44 6 (.slice B vs.length c2) vs.length (vissV vs))) :=
            Lib.hid fun u hu => drive_at hu (HM.out.keep HS3.out.old) (Recs.more (Recs.keep HO.out HS3.out.old) HS3.out.old.size) (Recs.more (((HP.out.keep HS3.out.old).cells HXX.out).2.2.2.2.1) HS3.out.old.size) hxc HDR.out
          have HC : Hid (∀ u, Below w3.heap.size w3 u → (u.cell? ⟨gd, 0, none⟩ = some (.int .i64 d.id) ∧ u.cell? ⟨gd, 1, none⟩ = some (.int .i64 d.room) ∧ u.cell? ⟨gd, 2, none⟩ = some (.int .i64 d.home) ∧ u.cell? ⟨gd, 3, none⟩ = some (.int .i64 d.win.fr) ∧ u.cell? ⟨gd, 4, none⟩ = some (.int .i64 d.win.to) ∧ u.cell? ⟨gd, 5, none⟩ = some (.bool d.retired)) ∧ u.cell? ⟨b, off + k * 3 + 2, none⟩ = some (.slice x.a x.n x.c)) :=
            Lib.hid fun u hu => ⟨(HX3.out.below hu).cells, ((HP.out.keep (HS3.out.old.trans (hu.mono HS3.out.old.size))).cells HXX.out).2.2.2.1⟩
          go_cut [14, 15] (fun va vf wx => ∃ B c2 g, va = .slice B vs.length c2 ∧ vf = .pointer (some ⟨g, 0, none⟩) ∧ Hid (DM w3 (.slice B vs.length c2) vs g fk fe wx))
          case first =>
            go_region_held3 (fun u => (u.cell? ⟨gd, 0, none⟩ = some (.int .i64 d.id) ∧ u.cell? ⟨gd, 1, none⟩ = some (.int .i64 d.room) ∧ u.cell? ⟨gd, 2, none⟩ = some (.int .i64 d.home) ∧ u.cell? ⟨gd, 3, none⟩ = some (.int .i64 d.win.fr) ∧ u.cell? ⟨gd, 4, none⟩ = some (.int .i64 d.win.to) ∧ u.cell? ⟨gd, 5, none⟩ = some (.bool d.retired)) ∧ u.cell? ⟨b, off + k * 3 + 2, none⟩ = some (.slice x.a x.n x.c))
              (first
                | exact HC.out _ (Below.refl _ _).drew
                | exact HC.out _ ((Below.refl _ _).alloc (Nat.le_refl _) _).drew
                | exact HC.out _ (by assumption)
                | exact HC.out _ (Below.drew (by assumption))
                | exact HC.out _ (Below.alloc (by assumption) (Below.size (by assumption)) _)
                | exact HC.out _ (below_put2 (by assumption) _ _))
              (first
                | (go_at_call 31; (refine (HDV.out _ (by first | assumption | exact (Below.refl _ _).drew | exact ((Below.refl _ _).alloc (Nat.le_refl _) _).drew)).mono ?_); rintro e w' ⟨B, c2, rfl, hbx, hby, hown⟩; (try (have hbox := Lib.hid (box_kept hby); have hz0 := hbox.out.cell (i := 0) rfl; have hz1 := hbox.out.cell (i := 1) rfl; have hf0 := hbox.out.free 0; have hf1 := hbox.out.free 1))))
            · go_wp2_with fail
              go_meet
              exact ⟨_, _, _, rfl, rfl, DM.behind (Below.refl _ _).drew hby hown.out⟩
            · go_wp2_with fail
              go_meet
              exact ⟨_, _, _, rfl, rfl, DM.ahead hby hbox.out hown.out⟩
          case rest =>
          clear HC HDV
          obtain ⟨B4, c4, g4, rfl, rfl, M4⟩ := hcut
          obtain ⟨w4, rfl⟩ : ∃ w, w = wc := ⟨_, rfl⟩
          have HRW : Hid (RowC (FX w) w4 u10 l' ⟨vs, B4, vs.length, c4⟩) := HS3.out.new.row M4.out.on M4.out.own
          have HS4 := Lib.hid (HS3.out.keep M4.out.on)
          obtain ⟨a0, a1⟩ := M4.out.flt.cells
          clear HX3 HS3 M4
          by_cases he : fe = 0
          · subst he
            have HN : Hid (X = pre ((l' ++ [(⟨vs, B4, vs.length, c4⟩ : CM)]).map (·.vs)) (makeFrom m ds os (k + 1) ((l.map (·.rt)).drop (k + 1)))) := Lib.hid (by
              rw [List.map_append]
              exact mk_next HK.out HPD.out HOD.out HDR.out)
            have HR5 : Hid (RowC (FX w) (w4.alloc (.cells #[.slice B4 vs.length c4] 45)) u10 l' ⟨vs, B4, vs.length, c4⟩) := HRW.out.keep ((Below.refl _ _).alloc (Nat.le_refl _) _)
            have HB5 : Hid (Blk (w4.alloc (.cells #[.slice B4 vs.length c4] 45)) w4.heap.size 45 [.slice B4 vs.length c4]) := Blk.new w4 _ _
            have hlk : l'.length = k := HS4.out.len
            clear HRW
            go_wp2_with (at_builtin; refine wpList_append_ko (o := ⟨some 65, _, _, _, _, _⟩) rfl (.tmp 62) (.tmp 64) Try.underlying47 infoVs rfl (by decide) rfl HR5.out.cert.own rfl HB5.out rfl rfl (cmL_one ⟨vs, B4, vs.length, c4⟩) (by unfold maxLen; omega) (by omega) HR5.out.cert.old.size ?_; intro vB wB HO2 HG2 HN2; have HQ := Lib.hid (HR5.out.push HO2.out HG2.out HN2.out); clear HO2 HG2 HN2)
            go_roundw
            case rel =>
              refine ⟨k + 1, l' ++ [⟨vs, B4, vs.length, c4⟩], by omega, by go_num, Lib.hid ⟨HQ.out, fun r hr => ?_, by rw [List.length_append, hlk]; rfl⟩, HN⟩
              rcases List.mem_append.1 hr with hr | hr
              · exact HS4.out.few r hr
              · obtain rfl : r = _ := by simpa using hr
                show vs.length * 48 ≤ _
                omega
            case measure => simp [intOf]; omega
          · have HF := Lib.hid (makeC_err HW.out (HX.out.trans (mk_fault (e := fe) HK.out HPD.out HOD.out (by rw [HDR.out]) he)))
            have e1 : (fe != 0) = true := by simpa using he
            obtain ⟨⟨m0, f0⟩, ⟨m1, f1⟩, q0, q1⟩ := HS4.out.puts (.int .i64 k) (.int .i64 fe)
            clear HRW
            go_wp2_with fail
            go_region
            all_goals
              go_wp2_with fail
              (try simp only [Exit.inBlock, Exit.then])
              refine bodyPost_ret (v := .tuple #[.slice none 0 0, faultV k fe]) ?_ rfl (make_fault HF.out ?_)
              · simp [results, Try.results16, go_sem, q0, q1]
              · first
                  | exact ((HS4.out.old.drew).setCell (Nat.le_refl _) _).setCell (Nat.le_refl _) _
                  | exact (((HS4.out.old).setCell (Nat.le_refl _) _).setCell (Nat.le_refl _) _).drew
      · have hke : l.length ≤ k := by rw [HL.out]; omega
        have HF := Lib.hid (makeC_ok HW.out (HX.out.trans (mk_end HK.out (by rw [List.length_map]; exact hke))))
        obtain ⟨⟨m0, f0⟩, ⟨m1, f1⟩, q0, q1⟩ := HS.out.puts (.int .i64 0) (.int .i64 0)
        clear HK
        go_wp2_with fail
        (try simp only [Exit.inBlock, Exit.then])
        refine bodyPost_ret (v := .tuple #[u10, faultV 0 0]) ?_ rfl ?_
        · simp [results, Try.results16, go_sem, q0, q1]
        · rw [HF.out]
          exact ⟨_, l', rfl, NewC.put HS.out.new _ _, rfl, HS.out.few⟩
#print axioms rmake_any
end Go.Proofs.Ytfejnohcggoepaa.Cert
