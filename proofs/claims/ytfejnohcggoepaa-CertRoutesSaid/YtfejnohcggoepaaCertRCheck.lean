/-
  The document's own answer to chapter 10, walked: Check.
-/
import Derived.Test.YtfejnohcggoepaaCertROne
import Derived.Test.YtfejnohcggoepaaCertRMake
namespace Go.Proofs.Ytfejnohcggoepaa.Cert
open Go.ChangeShapes Go.WideShapes Go.ChangeAt Go.RowKit Go.Proofs.Ytfejnohcggoepaa.Mem Go.Proofs.Ytfejnohcggoepaa.GeoMath Go.Proofs.Ytfejnohcggoepaa.FleetMath Go.Proofs.Ytfejnohcggoepaa.PlanMath Go.Proofs.Ytfejnohcggoepaa.CertMath Go.Proofs.Ytfejnohcggoepaa.Rec Go.Proofs.Ytfejnohcggoepaa.Geo Go.Proofs.Ytfejnohcggoepaa.Span Go.Proofs.Ytfejnohcggoepaa.Deal Go.Proofs.Ytfejnohcggoepaa.Route Go.Proofs.Ytfejnohcggoepaa.Plan
set_option linter.unusedVariables false
set_option linter.unusedSimpArgs false

theorem check_ends {w w' : World} {k : Nat} {e : Int} {r : Nat × Int} (h : r = (k, e)) (hb : Below w.heap.size w w') : Gives w (faultV r.1 r.2) (.returned (faultV k e)) w' := by subst h; exact ⟨rfl, hb⟩
/-- Check's state: the fault's box stays -/
def CK (w wr : World) : Prop := Below (FX w).heap.size (FX w) wr
section
variable {w wr w' : World}
theorem CK.old (h : CK w wr) : Below w.heap.size w wr := (FX.below w).trans (Below.mono h (FX.below w).size)
theorem CK.box (h : CK w wr) : Blk wr w.heap.size 49 [.int .i64 0, .int .i64 0] := (Blk.new w 49 [.int .i64 0, .int .i64 0]).below h (by rw [FX.size]; omega)
theorem CK.keep (h : CK w wr) (hb : Below wr.heap.size wr w') : CK w w' := Below.trans h (hb.mono (Below.size h))
theorem CK.puts (h : CK w wr) (a b : Value) : (wr.cell? ⟨w.heap.size, 0, none⟩ = some (.int .i64 0) ∧ wr.frozen? ⟨w.heap.size, 0, none⟩ = false) ∧ ((wr.setCell ⟨w.heap.size, 0, none⟩ a).cell? ⟨w.heap.size, 1, none⟩ = some (.int .i64 0) ∧ (wr.setCell ⟨w.heap.size, 0, none⟩ a).frozen? ⟨w.heap.size, 1, none⟩ = false) ∧
    ((wr.setCell ⟨w.heap.size, 0, none⟩ a).setCell ⟨w.heap.size, 1, none⟩ b).cell? ⟨w.heap.size, 0, none⟩ = some a ∧ ((wr.setCell ⟨w.heap.size, 0, none⟩ a).setCell ⟨w.heap.size, 1, none⟩ b).cell? ⟨w.heap.size, 1, none⟩ = some b := by
  have f1 := h.box.put 0 a
  have f2 := f1.put 1 b
  exact ⟨⟨h.box.cell rfl, h.box.free 0⟩, ⟨f1.cell rfl, f1.free 1⟩, f2.cell rfl, f2.cell rfl⟩
end

set_option maxRecDepth 100000 in
set_option maxHeartbeats 8000000 in
theorem rcheck_any (base : Nat) (pv : Value) (m : Option Mp) (A : Option Addr) (n c : Nat) (ds : List Drv) (A2 : Option Addr) (n2 c2 : Nat) (os : List FleetMath.Ord) (A3 : Option Addr) (n3 c3 : Nat) (l : List RM) (A5 : Option Addr) (n5 c5 : Nat) (cl : List CM) (w : World)
    (h : MapP w 107 base pv m) (hd : Drvs w w.heap.size A n ds) (ho : Ords w w.heap.size A2 n2 os) (hl : Plns w w.heap.size A3 n3 l) (hcl : Crts w w.heap.size A5 n5 cl) :
    Calls Try.prog 18 #[pv, .slice A n c, .slice A2 n2 c2, .slice A3 n3 c3, .slice A5 n5 c5] w (Gives w (faultV (checkC m ds os (l.map (·.rt)) (cl.map (·.vs))).1 (checkC m ds os (l.map (·.rt)) (cl.map (·.vs))).2)) := by
  have hm := Recs.le hl.rows
  have hm5 := Recs.le hcl.rows
  have HD := Lib.hid hd
  have HO := Lib.hid ho
  have HP := Lib.hid hl
  have HL := Lib.hid hl.length
  have HC5 := Lib.hid hcl
  have HL5 := Lib.hid hcl.length
  have HM := Lib.hid h
  have HS0 : Hid (CK w (FX w)) := Lib.hid (Below.refl _ _)
  have HB0 := Lib.hid (FX.below w)
  obtain ⟨rw', hrw⟩ : ∃ r, wellC m ds os (l.map (·.rt)) = r := ⟨_, rfl⟩
  have HW := Lib.hid hrw
  obtain ⟨q, hq⟩ : ∃ q, pv = .pointer q := by
    rcases h with ⟨rfl, _⟩ | ⟨b, _, _, rfl, _⟩
    · exact ⟨_, rfl⟩
    · exact ⟨_, rfl⟩
  subst hq
  obtain ⟨X, hX⟩ : ∃ X, checkC m ds os (l.map (·.rt)) (cl.map (·.vs)) = X := ⟨_, rfl⟩
  have HX := Lib.hid hX
  rw [hX]
  clear h hd ho hl hrw hcl hX
  go_enter Try.func18, Try.ntmps18
  go_wp2_with fail
  refine (rwell_any base _ m A n c ds A2 n2 c2 os A3 n3 c3 l rw' _ (by exact HM.out.keep HB0.out) (by exact Recs.more (Recs.keep HD.out HB0.out) HB0.out.size) (by exact Recs.more (Recs.keep HO.out HB0.out) HB0.out.size) (by exact (HP.out.keep HB0.out).more HB0.out.size) HW.out).mono ?_
  rintro e w1 ⟨rfl, hb1⟩
  have HS1 := Lib.hid (HS0.out.keep hb1)
  clear hb1 HS0
  cases rw' with
  | false =>
    have HF := Lib.hid (HX.out.symm.trans (checkC_no HW.out))
    obtain ⟨⟨m0, f0⟩, ⟨m1, f1⟩, q0, q1⟩ := HS1.out.puts (.int .i64 0) (.int .i64 1)
    go_wp2_with fail
    (try simp only [Exit.inBlock, Exit.then])
    refine bodyPost_ret (v := faultV 0 1) ?_ rfl (check_ends HF.out ((HS1.out.old.setCell (Nat.le_refl _) _).setCell (Nat.le_refl _) _))
    simp [results, Try.results18, go_sem, q0, q1]
  | true =>
    obtain ⟨mm, rfl, _, hkn, hrt, hdr, _⟩ := wellC_parts HW.out
    have HKN := Lib.hid hkn
    have HRT := Lib.hid hrt
    have HDR := Lib.hid hdr
    clear hkn hrt hdr
    by_cases hlen : n5 = n3
    · subst hlen
      have HX0 : Hid (X = checkFrom mm ds os 0 ((l.map (·.rt)).drop 0) ((cl.map (·.vs)).drop 0)) := Lib.hid (by
        rw [List.drop_zero, List.drop_zero, ← HX.out]
        exact checkC_go HW.out (by rw [List.length_map, List.length_map, HL.out, HL5.out]))
      go_wp2_with fail
      go_loopw [11] (fun i wr => ∃ (k : Nat), k ≤ n5 ∧ i = .int .i64 k ∧ Hid (CK w wr) ∧ Hid (X = checkFrom mm ds os k ((l.map (·.rt)).drop k) ((cl.map (·.vs)).drop k))) (fun i _ => n5 - (intOf i).toNat)
      case atStart => exact ⟨0, Nat.zero_le _, rfl, HS1, HX0⟩
      case round =>
        clear HX0 HS1
        obtain ⟨k, hk, rfl, HS, HK⟩ := hrel
        by_cases hlt : k < n5
        · obtain ⟨b, off, x, rfl, hbb, hx, hdr, c0, c1, c2', hst, hxc⟩ := (HP.out.keep HS.out.old).at_ hlt
          obtain ⟨b5, off5, y, rfl, hbb5, hy, hdy, _⟩ := (HC5.out.keep HS.out.old).at_ hlt
          have HXX := Lib.hid hx
          have HYY := Lib.hid hy
          have h80 : x.n ≤ 80 := by
            have h1 := boundR_len (rightP_bound HRT.out (List.mem_map.2 ⟨x, List.mem_of_getElem? hx, rfl⟩))
            rw [hst.length] at h1
            exact h1
          have HPD : Hid ((l.map (·.rt)).drop k = x.rt :: (l.map (·.rt)).drop (k + 1)) := by
            show _ = _
            rw [← List.map_drop, hdr, List.map_cons, List.map_drop]
          have HCD : Hid ((cl.map (·.vs)).drop k = y.vs :: (cl.map (·.vs)).drop (k + 1)) := by
            show _ = _
            rw [← List.map_drop, hdy, List.map_cons, List.map_drop]
          obtain ⟨od, hod⟩ : ∃ r, drvOf ds x.rt.drv = r := ⟨_, rfl⟩
          have HOD := Lib.hid hod
          clear hx hdr hst hod hy hdy
          go_wp2_with fail
          refine (rdrv_any A n c ds x.rt.drv od _ (by exact Recs.more (Recs.keep HD.out HS.out.old) HS.out.old.size) HOD.out).mono ?_
          rintro e w2 ⟨rfl, hb2⟩
          have HS2 := Lib.hid (HS.out.keep hb2)
          clear hb2 HS c0 c1 c2'
          cases od with
          | none =>
            have hv : drvOV none = .tuple #[.agg #[.int .i64 0, .int .i64 0, .int .i64 0, .int .i64 0, .int .i64 0, .bool false], .bool false] := rfl
            rw [hv]
            clear hv
            have HF := Lib.hid (ck_none HK.out HPD.out HCD.out HOD.out)
            have HS3 : Hid (CK w (w2.alloc (.cells #[.int .i64 0, .int .i64 0, .int .i64 0, .int .i64 0, .int .i64 0, .bool false] 33))) := HS2.out.keep ((Below.refl _ _).alloc (Nat.le_refl _) _)
            obtain ⟨⟨m0, f0⟩, ⟨m1, f1⟩, q0, q1⟩ := HS3.out.puts (.int .i64 k) (.int .i64 8)
            go_wp2_with fail
            (try simp only [Exit.inBlock, Exit.then])
            refine bodyPost_ret (v := faultV k 8) ?_ rfl (check_ends HF.out ((HS3.out.old.setCell (Nat.le_refl _) _).setCell (Nat.le_refl _) _))
            simp [results, Try.results18, go_sem, q0, q1]
          | some d =>
            have hv : drvOV (some d) = .tuple #[drvV d, .bool true] := rfl
            rw [hv]
            clear hv
            obtain ⟨fe, hfe⟩ : ∃ e, oneC mm d os x.rt.stops y.vs = e := ⟨_, rfl⟩
            have HFE := Lib.hid hfe
            have HDE : Hid (drvE (some mm) d = 0) := HDR.out d (List.mem_of_find?_eq_some HOD.out)
            have HS3 : Hid (CK w (w2.alloc (.cells #[.int .i64 d.id, .int .i64 d.room, .int .i64 d.home, .int .i64 d.win.fr, .int .i64 d.win.to, .bool d.retired] 33))) := HS2.out.keep ((Below.refl _ _).alloc (Nat.le_refl _) _)
            have HX3 : Hid (DBox (w2.alloc (.cells #[.int .i64 d.id, .int .i64 d.room, .int .i64 d.home, .int .i64 d.win.fr, .int .i64 d.win.to, .bool d.retired] 33)) w2.heap.size d) := Blk.new w2 _ _
            obtain ⟨gd, hgd⟩ : ∃ g, w2.heap.size = g := ⟨_, rfl⟩
            obtain ⟨w3, hw3⟩ : ∃ w, w2.alloc (.cells #[.int .i64 d.id, .int .i64 d.room, .int .i64 d.home, .int .i64 d.win.fr, .int .i64 d.win.to, .bool d.retired] 33) = w := ⟨_, rfl⟩
            clear hfe HS2
            go_upto_region 11 with fail
            rw [hgd] at HX3
            rw [hw3] at HS3 HX3
            clear hw3 hgd
            have HDV : Hid (∀ u, Below w3.heap.size w3 u → Calls Try.prog 33 #[.pointer q, drvV d, .slice A2 n2 c2, .slice x.a x.n x.c, .slice y.a y.n y.c] u fun en u' => en = .returned (.int .i64 fe) ∧ Below w3.heap.size w3 u') :=
              Lib.hid fun u hu => (rone_any base q mm d A2 n2 c2 os x.a x.n x.c x.rt.stops y.a y.n y.c y.vs fe u hxc (HM.out.keep (HS3.out.old.trans (hu.mono HS3.out.old.size))) HDE.out HKN.out (Recs.more (Recs.keep HO.out (HS3.out.old.trans (hu.mono HS3.out.old.size))) (Nat.le_trans HS3.out.old.size hu.size))
                (Recs.more (((HP.out.keep (HS3.out.old.trans (hu.mono HS3.out.old.size))).cells HXX.out).2.2.2.2.1) (Nat.le_trans HS3.out.old.size hu.size)) h80 (Recs.more (((HC5.out.keep (HS3.out.old.trans (hu.mono HS3.out.old.size))).cells HYY.out).2.2.1) (Nat.le_trans HS3.out.old.size hu.size)) HFE.out).mono fun en u' hx => ⟨hx.1, hu.trans (hx.2.mono hu.size)⟩
            have HC : Hid (∀ u, Below w3.heap.size w3 u → (u.cell? ⟨gd, 0, none⟩ = some (.int .i64 d.id) ∧ u.cell? ⟨gd, 1, none⟩ = some (.int .i64 d.room) ∧ u.cell? ⟨gd, 2, none⟩ = some (.int .i64 d.home) ∧ u.cell? ⟨gd, 3, none⟩ = some (.int .i64 d.win.fr) ∧ u.cell? ⟨gd, 4, none⟩ = some (.int .i64 d.win.to) ∧ u.cell? ⟨gd, 5, none⟩ = some (.bool d.retired)) ∧ u.cell? ⟨b, off + k * 3 + 2, none⟩ = some (.slice x.a x.n x.c) ∧ u.cell? ⟨b5, off5 + k, none⟩ = some (.slice y.a y.n y.c)) :=
              Lib.hid fun u hu => ⟨(HX3.out.below hu).cells, ((HP.out.keep (HS3.out.old.trans (hu.mono HS3.out.old.size))).cells HXX.out).2.2.2.1, ((HC5.out.keep (HS3.out.old.trans (hu.mono HS3.out.old.size))).cells HYY.out).2.1⟩
            go_cut [14] (fun va wx => va = .int .i64 fe ∧ Hid (Below w3.heap.size w3 wx))
            case first =>
              go_region_held3 (fun u => (u.cell? ⟨gd, 0, none⟩ = some (.int .i64 d.id) ∧ u.cell? ⟨gd, 1, none⟩ = some (.int .i64 d.room) ∧ u.cell? ⟨gd, 2, none⟩ = some (.int .i64 d.home) ∧ u.cell? ⟨gd, 3, none⟩ = some (.int .i64 d.win.fr) ∧ u.cell? ⟨gd, 4, none⟩ = some (.int .i64 d.win.to) ∧ u.cell? ⟨gd, 5, none⟩ = some (.bool d.retired)) ∧ u.cell? ⟨b, off + k * 3 + 2, none⟩ = some (.slice x.a x.n x.c) ∧ u.cell? ⟨b5, off5 + k, none⟩ = some (.slice y.a y.n y.c))
                (first
                  | exact HC.out _ (Below.refl _ _).drew
                  | exact HC.out _ (by assumption)
                  | exact HC.out _ (Below.drew (by assumption)))
                (first
                  | (go_at_call 33; (refine (HDV.out _ (by first | assumption | exact (Below.refl _ _).drew)).mono ?_); rintro e w' ⟨rfl, hbx⟩))
              all_goals
                go_wp2_with fail
                go_meet
                exact ⟨rfl, by assumption⟩
            case rest =>
            clear HC HDV
            obtain ⟨rfl, HB4⟩ := hcut
            obtain ⟨w4, rfl⟩ : ∃ w, w = wc := ⟨_, rfl⟩
            have HS4 := Lib.hid (HS3.out.keep HB4.out)
            clear HX3 HS3 HB4
            by_cases he : fe = 0
            · subst he
              have HN := Lib.hid (ck_next HK.out HPD.out HCD.out HOD.out HFE.out)
              go_wp2_with fail
              go_roundw
              case rel => exact ⟨k + 1, by omega, by go_num, HS4, HN⟩
              case measure => simp [intOf]; omega
            · have HF := Lib.hid (ck_fault HK.out HPD.out HCD.out HOD.out HFE.out he)
              have e1 : (fe != 0) = true := by simpa using he
              obtain ⟨⟨m0, f0⟩, ⟨m1, f1⟩, q0, q1⟩ := HS4.out.puts (.int .i64 k) (.int .i64 fe)
              go_wp2_with fail
              (try simp only [Exit.inBlock, Exit.then])
              refine bodyPost_ret (v := faultV k fe) ?_ rfl (check_ends HF.out ((HS4.out.old.setCell (Nat.le_refl _) _).setCell (Nat.le_refl _) _))
              simp [results, Try.results18, go_sem, q0, q1]
        · have HF := Lib.hid (ck_end HK.out (by rw [List.length_map, HL.out]; omega))
          obtain ⟨⟨m0, f0⟩, ⟨m1, f1⟩, q0, q1⟩ := HS.out.puts (.int .i64 0) (.int .i64 0)
          clear HK
          go_wp2_with fail
          (try simp only [Exit.inBlock, Exit.then])
          refine bodyPost_ret (v := faultV 0 0) ?_ rfl (check_ends HF.out ((HS.out.old.setCell (Nat.le_refl _) _).setCell (Nat.le_refl _) _))
          simp [results, Try.results18, go_sem, q0, q1]
    · have HF := Lib.hid (HX.out.symm.trans (checkC_len HW.out (by rw [List.length_map, List.length_map, HL.out, HL5.out]; exact hlen)))
      obtain ⟨⟨m0, f0⟩, ⟨m1, f1⟩, q0, q1⟩ := HS1.out.puts (.int .i64 0) (.int .i64 4)
      have e1 : ((n5 : Int) != (n3 : Int)) = true := by simp only [bne_iff_ne, ne_eq]; omega
      go_wp2_with fail
      (try simp only [Exit.inBlock, Exit.then])
      refine bodyPost_ret (v := faultV 0 4) ?_ rfl (check_ends HF.out ((HS1.out.old.setCell (Nat.le_refl _) _).setCell (Nat.le_refl _) _))
      simp [results, Try.results18, go_sem, q0, q1]
#print axioms rcheck_any
end Go.Proofs.Ytfejnohcggoepaa.Cert
