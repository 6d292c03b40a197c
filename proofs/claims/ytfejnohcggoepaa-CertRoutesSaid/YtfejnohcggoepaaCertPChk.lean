/-
  The program's cert.Check, walked.
-/
import Derived.Test.YtfejnohcggoepaaCertPMake
import Derived.Test.YtfejnohcggoepaaCertFollows
namespace Go.Proofs.Ytfejnohcggoepaa.Cert
open Go.ChangeShapes Go.WideShapes Go.ChangeAt Go.RowKit Go.Proofs.Ytfejnohcggoepaa.Mem Go.Proofs.Ytfejnohcggoepaa.GeoMath Go.Proofs.Ytfejnohcggoepaa.FleetMath Go.Proofs.Ytfejnohcggoepaa.PlanMath Go.Proofs.Ytfejnohcggoepaa.CertMath Go.Proofs.Ytfejnohcggoepaa.Rec Go.Proofs.Ytfejnohcggoepaa.Geo Go.Proofs.Ytfejnohcggoepaa.Span Go.Proofs.Ytfejnohcggoepaa.Deal Go.Proofs.Ytfejnohcggoepaa.Route Go.Proofs.Ytfejnohcggoepaa.Plan
set_option linter.unusedVariables false
set_option linter.unusedSimpArgs false

theorem chk_ends {w w' : World} {k : Nat} {e : Int} {r : Nat × Int} (h : r = (k, e)) (hb : Below w.heap.size w w') : Gives w (faultV r.1 r.2) (.returned (faultV k e)) w' := by subst h; exact ⟨rfl, hb⟩
section
variable {m : Mp} {ds : List Drv} {os : List FleetMath.Ord} {p : List Rte} {k : Nat} {r : Rte} {c : List (List Vis)} {v : List Vis} {X : Nat × Int} {e : Int}
theorem ckR_fault (h : X = checkFrom m ds os k (p.drop k) (c.drop k)) (hp : p.drop k = r :: p.drop (k + 1)) (hc : c.drop k = v :: c.drop (k + 1)) (hd : checkR m ds os r v = e) (hn : e ≠ 0) : X = (k, e) := by
  cases hx : drvOf ds r.drv with
  | none =>
    rw [checkR_none hx] at hd
    subst hd
    exact ck_none h hp hc hx
  | some d =>
    rw [checkR_some hx] at hd
    exact ck_fault h hp hc hx hd hn
theorem ckR_next (h : X = checkFrom m ds os k (p.drop k) (c.drop k)) (hp : p.drop k = r :: p.drop (k + 1)) (hc : c.drop k = v :: c.drop (k + 1)) (hd : checkR m ds os r v = 0) : X = checkFrom m ds os (k + 1) (p.drop (k + 1)) (c.drop (k + 1)) := by
  cases hx : drvOf ds r.drv with
  | none =>
    rw [checkR_none hx] at hd
    cases hd
  | some d =>
    rw [checkR_some hx] at hd
    exact ck_next h hp hc hx hd
end

set_option maxRecDepth 100000 in
set_option maxHeartbeats 8000000 in
theorem pchk_any (base : Nat) (pv : Value) (m : Option Mp) (A : Option Addr) (n c : Nat) (ds : List Drv) (A2 : Option Addr) (n2 c2 : Nat) (os : List FleetMath.Ord) (A3 : Option Addr) (n3 c3 : Nat) (l : List RM) (A5 : Option Addr) (n5 c5 : Nat) (cl : List CM) (w : World) (hnc : n ≤ c) (hnc2 : n2 ≤ c2)
    (h : MapP w 78 base pv m) (hd : Drvs w w.heap.size A n ds) (ho : Ords w w.heap.size A2 n2 os) (hl : Plns w w.heap.size A3 n3 l) (hcl : Crts w w.heap.size A5 n5 cl) :
    Calls Try.prog 13 #[pv, .slice A n c, .slice A2 n2 c2, .slice A3 n3 c3, .slice A5 n5 c5] w (Gives w (faultV (checkC m ds os (l.map (·.rt)) (cl.map (·.vs))).1 (checkC m ds os (l.map (·.rt)) (cl.map (·.vs))).2)) := by
  have hm := Recs.le hl.rows
  have hm5 := Recs.le hcl.rows
  have HD := Lib.hid hd
  have HO := Lib.hid ho
  have HP := Lib.hid hl
  have HL := Lib.hid hl.length
  have HC5 := Lib.hid hcl
  have HL5 := Lib.hid hcl.length
  have HM := Lib.hid h
  obtain ⟨rw', hrw⟩ : ∃ r, wellC m ds os (l.map (·.rt)) = r := ⟨_, rfl⟩
  have HW := Lib.hid hrw
  obtain ⟨q, hq⟩ : ∃ q, pv = .pointer q := by
    rcases h with ⟨rfl, _⟩ | ⟨b, _, _, rfl, _⟩
    · exact ⟨_, rfl⟩
    · exact ⟨_, rfl⟩
  subst hq
  obtain ⟨X, hX⟩ : ∃ X, checkC m ds os (l.map (·.rt)) (cl.map (·.vs)) = X := ⟨_, rfl⟩
  have HX := Lib.hid hX
  rw [hX]
  have HS0 : Hid (Below (GX w q A n c A2 n2 c2).heap.size (GX w q A n c A2 n2 c2) (GX w q A n c A2 n2 c2)) := Below.refl _ _
  have HB0 := Lib.hid (GX.below (w := w) (q := q) (A := A) (n := n) (c := c) (A2 := A2) (n2 := n2) (c2 := c2))
  clear h hd ho hl hrw hcl hX
  go_enter Try.func13, Try.ntmps13
  go_wp2_with fail
  refine (ptogether_any base q m A n c ds A2 n2 c2 os A3 n3 c3 l rw' _ hnc hnc2 (by exact HM.out.keep HB0.out) (by exact Recs.more (Recs.keep HD.out HB0.out) HB0.out.size) (by exact Recs.more (Recs.keep HO.out HB0.out) HB0.out.size) (by exact (HP.out.keep HB0.out).more HB0.out.size) HW.out).mono ?_
  rintro e w1 ⟨rfl, hb1⟩
  have HS1 := Lib.hid (gx_next HS0.out hb1)
  clear hb1 HS0 HB0
  cases rw' with
  | false =>
    have HF := Lib.hid (HX.out.symm.trans (checkC_no HW.out))
    obtain ⟨⟨m0, f0⟩, ⟨m1, f1⟩, q0, q1⟩ := gx_puts HS1.out (.int .i64 0) (.int .i64 1)
    go_wp2_with fail
    (try simp only [Exit.inBlock, Exit.then])
    refine bodyPost_ret (v := faultV 0 1) ?_ rfl (chk_ends HF.out (((gx_old HS1.out).setCell (Nat.le_refl _) _).setCell (Nat.le_refl _) _))
    simp [results, Try.results13, go_sem, q0, q1]
  | true =>
    obtain ⟨mm, rfl, _, hkn, hrt, hdr, _⟩ := wellC_parts HW.out
    obtain ⟨mn, ml⟩ := mm
    have HOK := Lib.hid (known_ok hkn)
    have HRT := Lib.hid hrt
    have HDR := Lib.hid hdr
    obtain ⟨bm, hbm⟩ := map_ptr HM.out
    subst hbm
    clear hkn hrt hdr
    by_cases hlen : n5 = n3
    · subst hlen
      have HX0 : Hid (X = checkFrom ⟨mn, ml⟩ ds os 0 ((l.map (·.rt)).drop 0) ((cl.map (·.vs)).drop 0)) := Lib.hid (by
        rw [List.drop_zero, List.drop_zero, ← HX.out]
        exact checkC_go HW.out (by rw [List.length_map, List.length_map, HL.out, HL5.out]))
      go_wp2_with fail
      go_loopw [32] (fun i wr => ∃ (k : Nat), k ≤ n5 ∧ i = .int .i64 k ∧ Hid (Below (GX w (some ⟨bm, 0, none⟩) A n c A2 n2 c2).heap.size (GX w (some ⟨bm, 0, none⟩) A n c A2 n2 c2) wr) ∧ Hid (X = checkFrom ⟨mn, ml⟩ ds os k ((l.map (·.rt)).drop k) ((cl.map (·.vs)).drop k))) (fun i _ => n5 - (intOf i).toNat)
      case atStart => exact ⟨0, Nat.zero_le _, rfl, HS1, HX0⟩
      case round =>
        clear HX0 HS1
        obtain ⟨k, hk, rfl, HS, HK⟩ := hrel
        by_cases hlt : k < n5
        · obtain ⟨b, off, x, rfl, hbb, hx, hdr, c0, c1, c2', hst, hxc⟩ := (HP.out.keep (gx_old HS.out)).at_ hlt
          obtain ⟨b5, off5, y, rfl, hbb5, hy, hdy, _⟩ := (HC5.out.keep (gx_old HS.out)).at_ hlt
          have HXX := Lib.hid hx
          have HYY := Lib.hid hy
          have h80 : x.n ≤ 80 := by
            have h1 := boundR_len (rightP_bound HRT.out (List.mem_map.2 ⟨x, List.mem_of_getElem? hx, rfl⟩))
            rw [hst.length] at h1
            exact h1
          have HPD : Hid ((l.map (·.rt)).drop k = x.rt :: (l.map (·.rt)).drop (k + 1)) := by
            show _ = _
            rw [← List.map_drop, hdr, List.map_cons, List.map_drop]
          have HCD : Hid ((cl.map (·.vs)).drop k = y.vs :: (cl.map (·.vs)).drop (k + 1)) := by
            show _ = _
            rw [← List.map_drop, hdy, List.map_cons, List.map_drop]
          obtain ⟨fe, hfe⟩ : ∃ e, checkR ⟨mn, ml⟩ ds os x.rt y.vs = e := ⟨_, rfl⟩
          have HFE := Lib.hid hfe
          have HS2 : Hid (Below (GX w (some ⟨bm, 0, none⟩) A n c A2 n2 c2).heap.size (GX w (some ⟨bm, 0, none⟩) A n c A2 n2 c2) (wr.alloc (.cells #[.int .i64 x.rt.drv, .int .i64 x.rt.served, .slice x.a x.n x.c] 40))) := gx_next HS.out ((Below.refl _ _).alloc (Nat.le_refl _) _)
          have HR2 : Hid (RBox (wr.alloc (.cells #[.int .i64 x.rt.drv, .int .i64 x.rt.served, .slice x.a x.n x.c] 40)) wr.heap.size x) := Blk.new wr _ _
          clear hx hdr hst hy hdy hfe
          go_upto_region 9 with fail
          obtain ⟨w3, hw3⟩ : ∃ u, wr.alloc (.cells #[.int .i64 x.rt.drv, .int .i64 x.rt.served, .slice x.a x.n x.c] 40) = u := ⟨_, rfl⟩
          obtain ⟨gr, hgr⟩ : ∃ g, wr.heap.size = g := ⟨_, rfl⟩
          rw [hw3] at HS2 HR2 ⊢
          rw [hgr] at HR2 ⊢
          clear hw3 hgr HS c0 c1 c2'
          have HDV : Hid (∀ u, Below w3.heap.size w3 u → Calls Try.prog 27 #[fleetV (some ⟨bm, 0, none⟩) A n c A2 n2 c2, rteV x, .slice y.a y.n y.c] u fun en u' => en = .returned (.int .i64 fe) ∧ Below w3.heap.size w3 u') :=
            Lib.hid fun u hu => by
              have hb0 := (gx_old HS2.out).trans (hu.mono (gx_old HS2.out).size)
              refine (pcheck_any base bm mn ml A n c ds A2 n2 c2 os x y.a y.n y.c y.vs fe u hxc h80 (HM.out.keep hb0) (Recs.more (Recs.keep HD.out hb0) hb0.size) (Recs.more (Recs.keep HO.out hb0) hb0.size) (Recs.more (((HP.out.keep hb0).cells HXX.out).2.2.2.2.1) hb0.size) (Recs.more (((HC5.out.keep hb0).cells HYY.out).2.2.1) hb0.size) HDR.out HOK.out HFE.out).mono ?_
              exact fun en u' hx => ⟨hx.1, hu.trans (hx.2.mono hu.size)⟩
          have HC : Hid (∀ u, Below w3.heap.size w3 u → (u.cell? ⟨w.heap.size + 1, 0, none⟩ = some (.pointer (some ⟨bm, 0, none⟩)) ∧ u.cell? ⟨w.heap.size + 1, 1, none⟩ = some (.slice A n c) ∧ u.cell? ⟨w.heap.size + 1, 2, none⟩ = some (.slice A2 n2 c2)) ∧ (u.cell? ⟨gr, 0, none⟩ = some (.int .i64 x.rt.drv) ∧ u.cell? ⟨gr, 1, none⟩ = some (.int .i64 x.rt.served) ∧ u.cell? ⟨gr, 2, none⟩ = some (.slice x.a x.n x.c)) ∧ u.cell? ⟨b5, off5 + k, none⟩ = some (.slice y.a y.n y.c)) :=
            Lib.hid fun u hu => ⟨(gx_box (gx_next HS2.out hu)).cells, (HR2.out.below hu).cells, ((HC5.out.keep ((gx_old HS2.out).trans (hu.mono (gx_old HS2.out).size))).cells HYY.out).2.1⟩
          go_cut [14] (fun va wx => va = .int .i64 fe ∧ Hid (Below w3.heap.size w3 wx))
          case first =>
            go_region_held3 (fun u => (u.cell? ⟨w.heap.size + 1, 0, none⟩ = some (.pointer (some ⟨bm, 0, none⟩)) ∧ u.cell? ⟨w.heap.size + 1, 1, none⟩ = some (.slice A n c) ∧ u.cell? ⟨w.heap.size + 1, 2, none⟩ = some (.slice A2 n2 c2)) ∧ (u.cell? ⟨gr, 0, none⟩ = some (.int .i64 x.rt.drv) ∧ u.cell? ⟨gr, 1, none⟩ = some (.int .i64 x.rt.served) ∧ u.cell? ⟨gr, 2, none⟩ = some (.slice x.a x.n x.c)) ∧ u.cell? ⟨b5, off5 + k, none⟩ = some (.slice y.a y.n y.c))
              (first
                | exact HC.out _ (Below.refl _ _).drew
                | exact HC.out _ (by assumption)
                | exact HC.out _ (Below.drew (by assumption)))
              (first
                | (go_at_call 27; (refine (HDV.out _ (by first | assumption | exact (Below.refl _ _).drew)).mono ?_); rintro e w' ⟨rfl, hbx⟩))
            all_goals
              go_wp2_with fail
              go_meet
              exact ⟨rfl, by assumption⟩
          case rest =>
          clear HC HDV
          obtain ⟨rfl, HB4⟩ := hcut
          obtain ⟨w4, rfl⟩ : ∃ w, w = wc := ⟨_, rfl⟩
          have HS4 := Lib.hid (gx_next HS2.out HB4.out)
          clear HR2 HS2 HB4
          by_cases he : fe = 0
          · subst he
            have HN := Lib.hid (ckR_next HK.out HPD.out HCD.out HFE.out)
            go_wp2_with fail
            go_roundw
            case rel => exact ⟨k + 1, by omega, by go_num, HS4, HN⟩
            case measure => simp [intOf]; omega
          · have HF := Lib.hid (ckR_fault HK.out HPD.out HCD.out HFE.out he)
            have e1 : (fe != 0) = true := by simpa using he
            obtain ⟨⟨m0, f0⟩, ⟨m1, f1⟩, q0, q1⟩ := gx_puts HS4.out (.int .i64 k) (.int .i64 fe)
            go_wp2_with fail
            (try simp only [Exit.inBlock, Exit.then])
            refine bodyPost_ret (v := faultV k fe) ?_ rfl (chk_ends HF.out (((gx_old HS4.out).setCell (Nat.le_refl _) _).setCell (Nat.le_refl _) _))
            simp [results, Try.results13, go_sem, q0, q1]
        · have HF := Lib.hid (ck_end HK.out (by rw [List.length_map, HL.out]; omega))
          obtain ⟨⟨m0, f0⟩, ⟨m1, f1⟩, q0, q1⟩ := gx_puts HS.out (.int .i64 0) (.int .i64 0)
          clear HK
          go_wp2_with fail
          (try simp only [Exit.inBlock, Exit.then])
          refine bodyPost_ret (v := faultV 0 0) ?_ rfl (chk_ends HF.out (((gx_old HS.out).setCell (Nat.le_refl _) _).setCell (Nat.le_refl _) _))
          simp [results, Try.results13, go_sem, q0, q1]
    · have HF := Lib.hid (HX.out.symm.trans (checkC_len HW.out (by rw [List.length_map, List.length_map, HL.out, HL5.out]; exact hlen)))
      obtain ⟨⟨m0, f0⟩, ⟨m1, f1⟩, q0, q1⟩ := gx_puts HS1.out (.int .i64 0) (.int .i64 4)
      have e1 : ((n5 : Int) != (n3 : Int)) = true := by simp only [bne_iff_ne, ne_eq]; omega
      go_wp2_with fail
      (try simp only [Exit.inBlock, Exit.then])
      refine bodyPost_ret (v := faultV 0 4) ?_ rfl (chk_ends HF.out (((gx_old HS1.out).setCell (Nat.le_refl _) _).setCell (Nat.le_refl _) _))
      simp [results, Try.results13, go_sem, q0, q1]
#print axioms pchk_any
end Go.Proofs.Ytfejnohcggoepaa.Cert
