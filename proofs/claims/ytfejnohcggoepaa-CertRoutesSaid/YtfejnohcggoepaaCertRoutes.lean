/-
  A certificate's lists are the visits of each route driven by itself: CertRoutes, walked.
-/
import Derived.Test.YtfejnohcggoepaaCertWalks
import Derived.Deep.RegionHeld3
namespace Go.Proofs.Ytfejnohcggoepaa.Cert
open Go.ChangeShapes Go.WideShapes Go.ChangeAt Go.RowKit Go.Proofs.Ytfejnohcggoepaa.Mem Go.Proofs.Ytfejnohcggoepaa.GeoMath Go.Proofs.Ytfejnohcggoepaa.FleetMath Go.Proofs.Ytfejnohcggoepaa.PlanMath Go.Proofs.Ytfejnohcggoepaa.CertMath Go.Proofs.Ytfejnohcggoepaa.Rec Go.Proofs.Ytfejnohcggoepaa.Geo Go.Proofs.Ytfejnohcggoepaa.Span Go.Proofs.Ytfejnohcggoepaa.Deal Go.Proofs.Ytfejnohcggoepaa.Keep Go.Proofs.Ytfejnohcggoepaa.Route Go.Proofs.Ytfejnohcggoepaa.Plan
set_option linter.unusedVariables false
set_option linter.unusedSimpArgs false

section
variable {m : Option Mp} {ds : List Drv} {os : List FleetMath.Ord} {p : List Rte} {cs c : List (List Vis)} {i j k : Nat} {e : Int} {r : Rte} {d : Drv}
theorem makeC_good (h : makeC m ds os p = (cs, k, 0)) : wellC m ds os p = true ∧ makeFrom m ds os 0 p = .ok cs := by
  unfold makeC at h
  split at h
  · rename_i hw
    split at h
    · rename_i hf
      injection h with _ h
      injection h with _ h
      exact absurd h (makeFrom_err hf)
    · rename_i hf
      injection h with h _
      rw [← h]
      exact ⟨hw, hf⟩
  · injection h with _ h
    injection h with _ h
    cases h
theorem makeFrom_at (h : makeFrom m ds os i p = .ok c) (hr : p[j]? = some r) : ∃ d, drvOf ds r.drv = some d ∧ (drive m d os r.stops).2.2 = 0 ∧ c[j]? = some (drive m d os r.stops).1 := by
  induction p generalizing i j c with
  | nil => cases hr
  | cons s t ih =>
    rw [makeFrom] at h
    split at h
    · cases h
    rename_i d hd
    split at h
    · cases h
    rename_i h0
    split at h
    · cases h
    rename_i c' hc
    injection h with h
    subst h
    cases j with
    | zero =>
      simp only [List.getElem?_cons_zero, Option.some.injEq] at hr
      subst hr
      exact ⟨d, hd, Decidable.not_not.1 h0, rfl⟩
    | succ j =>
      obtain ⟨d', h1, h2, h3⟩ := ih (j := j) hc (by simpa using hr)
      exact ⟨d', h1, h2, by simpa using h3⟩
theorem makeFrom_le (h : makeFrom m ds os i p = .error (k, e)) : k ≤ i + p.length := by
  induction p generalizing i with
  | nil => rw [makeFrom] at h; cases h
  | cons s t ih =>
    rw [makeFrom] at h
    split at h
    · injection h with h; injection h with h _; simp only [List.length_cons]; omega
    split at h
    · injection h with h; injection h with h _; simp only [List.length_cons]; omega
    split at h
    · rename_i hx
      injection h with h
      rw [h] at hx
      have := ih hx
      simp only [List.length_cons]; omega
    · cases h
theorem makeC_le (h : makeC m ds os p = (cs, k, e)) : k ≤ p.length := by
  unfold makeC at h
  split at h
  · split at h
    · rename_i hf
      injection h with _ h
      injection h with h _
      have := makeFrom_le hf
      omega
    · injection h with _ h; injection h with h _; omega
  · injection h with _ h; injection h with h _; omega
theorem drv_same (h : DistD ds) (hd : ds[j]? = some d) : drvOf ds d.id = some d := by
  refine drvOf_at (k := j) (fun i q hi hq e => ?_) hd rfl
  have h1 := (List.getElem?_eq_some_iff.1 hd)
  have h2 := (List.getElem?_eq_some_iff.1 hq)
  obtain ⟨a1, a2⟩ := h1
  obtain ⟨b1, b2⟩ := h2
  have := List.pairwise_iff_getElem.1 h i j b1 a1 hi
  rw [a2, b2] at this
  exact this e
end
/-- the program's Drive, called somewhere behind w3 -/
theorem gdrive_at {base : Nat} {q : Option Addr} {m : Option Mp} {d : Drv} {A2 : Option Addr} {n2 c2 : Nat} {os : List FleetMath.Ord} {x : RM} {w3 u : World} (hu : Below w3.heap.size w3 u) (hm : MapP w3 78 base (.pointer q) m) (ho : Ords w3 w3.heap.size A2 n2 os) (hs : Stps w3 w3.heap.size x.a x.n x.rt.stops) (hc : x.n ≤ x.c) (hc2 : n2 ≤ c2)
    {vs : List Vis} {k : Nat} {e : Int} (hd : drive m d os x.rt.stops = (vs, k, e)) :
    Calls Try.prog 21 #[.pointer q, drvV d, .slice A2 n2 c2, .slice x.a x.n x.c] u fun en u' => ∃ B c2, en = .returned (.tuple #[.slice B vs.length c2, faultV k e]) ∧ Below w3.heap.size w3 u' ∧ Below u.heap.size u u' ∧ Hid (OwnK u' u.heap.size 44 6 (.slice B vs.length c2) vs.length (vissV vs)) := by
  refine (gdrive_any base _ m d A2 n2 c2 os x.a x.n x.c x.rt.stops u (hm.keep hu) (Recs.more (Recs.keep ho hu) hu.size) (Recs.more (Recs.keep hs hu) hu.size) hc hc2).mono ?_
  rintro en u' ⟨hb, v, rfl, hv⟩
  rw [hd] at hv ⊢
  obtain ⟨B, c2, rfl, _, hr⟩ := hv.read
  exact ⟨B, c2, rfl, hu.trans (hb.mono hu.size), hb, hv⟩

set_option maxRecDepth 100000 in
set_option maxHeartbeats 8000000 in
theorem certRoutes_walk (x : Wd) (ts : List Int) (ds : List Drv) (os : List FleetMath.Ord) (ps : List RM) (W : World) (hts : Ints W W.heap.size x.ts.a x.ts.n ts) (hds : Drvs W W.heap.size x.ds.a x.ds.n ds) (hos : Ords W W.heap.size x.os.a x.os.n os) (hps : Plns W W.heap.size x.pl.a x.pl.n ps) :
    Calls Try.prog 8 #[wdV x] W fun e w' => e = .returned (.bool true) ∧ Below W.heap.size W w' := by
  have HTS := Lib.hid hts
  have HDS := Lib.hid hds
  have HOS := Lib.hid hos
  have HPS := Lib.hid hps
  have HDL := Lib.hid hds.length
  have HPL := Lib.hid hps.length
  have hdm := Recs.le hds
  have hpm := Recs.le hps.rows
  clear hts hds hos hps
  obtain ⟨m, hm⟩ : ∃ m, mapOf x.n ts = m := ⟨_, rfl⟩
  have HM := Lib.hid hm
  clear hm
  obtain ⟨⟨cs, fk, fe⟩, hmk⟩ : ∃ z, makeC m ds os (ps.map (·.rt)) = z := ⟨_, rfl⟩
  have HMK := Lib.hid hmk
  have hfk : fk ≤ x.pl.n := by
    have := makeC_le hmk
    rw [List.length_map, HPL.out] at this
    exact this
  clear hmk
  have HB0 : Hid (Below W.heap.size W (W.alloc (.cells #[.int .i64 x.n, x.ts.v, x.ds.v, x.os.v, x.pl.v] 58))) := (Below.refl _ _).alloc (Nat.le_refl _) _
  have HW0 := Lib.hid (WBox.new W x)
  go_enter Try.func8, Try.ntmps8
  go_wp2_with fail
  refine (kmaps_any x ts _ (by exact Reads.more (Reads.keep HTS.out HB0.out) HB0.out.size)).mono ?_
  intro e w1 hmo
  obtain ⟨q, r, rfl, hcr⟩ := CR.start (n0 := 0) HB0.out HW0.out HDS.out HOS.out HPS.out HM.out hmo
  have C1 := Lib.hid hcr
  clear hmo hcr HB0 HW0
  obtain ⟨x0, x1, x2, x3, x4⟩ := C1.out.wd.cells
  go_wp2_with fail
  refine (use_make C1.out HMK.out).mono ?_
  rintro e w2 ⟨Ba, ca, la, rfl, ha2⟩
  have A2 := Lib.hid ha2
  have C2 : Hid (CR W q r m x ds os ps (w2.alloc (.cells #[.int .i64 fk, .int .i64 fe] 49))) := (C1.out.below ha2.new.old).below ((Below.refl _ _).alloc (Nat.le_refl _) _)
  have F2 : Hid (FBox (w2.alloc (.cells #[.int .i64 fk, .int .i64 fe] 49)) w2.heap.size fk fe) := Blk.new w2 _ _
  have D2 : Hid (Below w2.heap.size w2 (w2.alloc (.cells #[.int .i64 fk, .int .i64 fe] 49))) := (Below.refl _ _).alloc (Nat.le_refl _) _
  clear ha2 x0 x1 x2 x3 x4
  go_upto_region 5 with fail
  obtain ⟨w3, hw3⟩ : ∃ u, w2.alloc (.cells #[.int .i64 fk, .int .i64 fe] 49) = u := ⟨_, rfl⟩
  rw [hw3] at C2 F2 D2 ⊢
  obtain ⟨gf, hgf⟩ : ∃ g, w2.heap.size = g := ⟨_, rfl⟩
  rw [hgf] at F2 ⊢
  clear hw3 hgf
  have A3 := Lib.hid (A2.out.keep D2.out)
  clear A2 D2 C1
  obtain ⟨f0, f1⟩ := F2.out.cells
  by_cases he : fe = 0
  case neg =>
    have hcs : cs = [] := makeC_none HMK.out he
    subst hcs
    have e1 : (fe == 0) = false := by simpa using he
    go_wp2_with fail
    refine (good_v e1 _).mono ?_
    rintro e w4 ⟨rfl, hb4⟩
    have C4 := Lib.hid (C2.out.below hb4)
    have F4 := Lib.hid (F2.out.below hb4)
    clear hb4 C2 F2 A3 f0 f1 e1 he
    obtain ⟨f0, f1⟩ := F4.out.cells
    have x4 : w4.cell? ⟨W.heap.size, 4, none⟩ = some (.slice x.pl.a x.pl.n x.pl.c) := C4.out.wd.cells.2.2.2.2
    obtain ⟨pn, hpn⟩ : ∃ k, x.pl.n = k := ⟨_, rfl⟩
    rw [hpn] at x4 hfk
    clear hpn
    have hfi : (fk : Int) ≤ (pn : Int) := by omega
    have hf0 : (0 : Int) ≤ (fk : Int) := by omega
    simp only [List.length_nil]
    go_wp2_with fail
    refine (use_runs _).mono ?_
    rintro e w5 ⟨rfl, hb5⟩
    have C5 := Lib.hid (C4.out.below hb5)
    clear hb5
    go_wp2_with fail
    go_ret
    exact ⟨rfl, C5.out.old⟩
  subst he
  obtain ⟨hwl, hmf⟩ := makeC_good HMK.out
  obtain ⟨_, _, _, _, _, _, hdist⟩ := wellC_parts hwl
  have HMF := Lib.hid hmf
  have HDI := Lib.hid hdist
  have hlen : cs.length = x.pl.n := by rw [makeFrom_len hmf, List.length_map, HPL.out]
  clear hwl hmf hdist hfk
  obtain ⟨pn, hpn⟩ : ∃ k, x.pl.n = k := ⟨_, rfl⟩
  obtain ⟨dn, hdn⟩ : ∃ k, x.ds.n = k := ⟨_, rfl⟩
  have HPN := Lib.hid hpn
  have HDN := Lib.hid hdn
  rw [hpn] at hlen hpm
  rw [hdn] at hdm
  rw [hlen]
  have HAC : Hid (Crts w3 w3.heap.size Ba pn la ∧ la.map (·.vs) = cs) := by
    have := A3.out.crts.1
    rw [hlen] at this
    exact ⟨this, A3.out.vss⟩
  have e1 : ((0 : Int) == 0) = true := rfl
  clear hpn hdn hlen A3
  go_wp2_with fail
  refine (good_v e1 _).mono ?_
  rintro e w4 ⟨rfl, hb4⟩
  have C4 := Lib.hid (C2.out.below hb4)
  have HA4 : Hid (Crts w4 w4.heap.size Ba pn la ∧ la.map (·.vs) = cs) := ⟨(HAC.out.1.keep hb4).more hb4.size, HAC.out.2⟩
  clear hb4 C2 F2 HAC f0 f1 e1
  have x4 : w4.cell? ⟨W.heap.size, 4, none⟩ = some (.slice x.pl.a pn x.pl.c) := by
    have := C4.out.wd.cells.2.2.2.2
    rw [← HPN.out]; exact this
  go_wp2_with fail
  clear x4
  go_loopw [8] (fun iv wr => ∃ i : Nat, i ≤ pn ∧ iv = .int .i64 i ∧ Hid (Below w4.heap.size w4 wr)) (fun iv _ => pn - (intOf iv).toNat)
  case atStart => exact ⟨0, Nat.zero_le _, rfl, Below.refl _ _⟩
  case round =>
    obtain ⟨i, hi, rfl, HB⟩ := hrel
    by_cases hlt : i < pn
    · obtain ⟨b3, off3, y, hA3, hbb3, hy, _, p0, _, p2, hst, hyc⟩ := (C4.out.plns).at_ (i := i) (by rw [HPN.out]; exact hlt)
      obtain ⟨b5, off5, z, hA5, hbb5, hz, _, z0, hzv, hzc, _⟩ := HA4.out.1.at_ hlt
      have HYY := Lib.hid hy
      have HZZ := Lib.hid hz
      have HSY := Lib.hid hst
      have hpi : (ps.map (·.rt))[i]? = some y.rt := by rw [List.getElem?_map, hy]; rfl
      obtain ⟨d0, hd0, hdr0, hci⟩ := makeFrom_at HMF.out hpi
      have HD0 := Lib.hid hd0
      obtain ⟨⟨vs, dk, de⟩, hdr⟩ : ∃ t, drive m d0 os y.rt.stops = t := ⟨_, rfl⟩
      rw [hdr] at hdr0 hci
      have hde : de = 0 := hdr0
      subst hde
      have HDR := Lib.hid hdr
      have HZV : Hid (z.vs = vs) := by
        have h1 : (la.map (·.vs))[i]? = some z.vs := by rw [List.getElem?_map, hz]; rfl
        rw [HA4.out.2, hci] at h1
        injection h1 with h1
        exact h1.symm
      have hii : (i : Int) < (pn : Int) := by omega
      have HPC : Hid (∀ u, Below w4.heap.size w4 u → (u.cell? ⟨b3, off3 + i * 3, none⟩ = some (.int .i64 y.rt.drv) ∧ u.cell? ⟨b3, off3 + i * 3 + 2, none⟩ = some (.slice y.a y.n y.c)) ∧ u.cell? ⟨b5, off5 + i, none⟩ = some (.slice z.a z.n z.c) ∧ Viss u u.heap.size z.a z.n vs) := fun u hu => by
        have h0 := C4.out.plns.keep hu
        rw [hA3] at h0
        obtain ⟨_, h1, _, h2, _⟩ := h0.cells hy
        have h3 := HA4.out.1.keep hu
        rw [hA5] at h3
        obtain ⟨_, h4, h5, _⟩ := h3.cells hz
        rw [HZV.out] at h5
        exact ⟨⟨h1, h2⟩, h4, h5.more hu.size⟩
      have HPA := Lib.hid hA3
      subst hA5
      clear hy hz hst hpi hd0 hdr0 hci hdr p0 p2 z0 hzv hzc hA3 hyc
      have HYC : Hid (y.n ≤ y.c) := (C4.out.plns.each y (List.mem_of_getElem? HYY.out)).2.1
      go_wp2_with fail
      go_loopw [9, 10] (fun fv kv wr => ∃ (k : Nat) (fb : Bool), k ≤ dn ∧ kv = .int .i64 k ∧ fv = .bool fb ∧ Hid (Below w4.heap.size w4 wr) ∧ Hid (fb = true ∨ ∀ j p, j < k → ds[j]? = some p → p.id ≠ y.rt.drv)) (fun _ kv _ => dn - (intOf kv).toNat)
      case atStart => exact ⟨0, false, Nat.zero_le _, rfl, rfl, HB, Lib.hid (.inr fun j p hj => absurd hj (by omega))⟩
      case round =>
        clear HB
        obtain ⟨k, fb, hk, rfl, rfl, HB, HF⟩ := hrel
        have CB := Lib.hid (C4.out.below HB.out)
        by_cases hlk : k < dn
        · obtain ⟨b, off, d, hA, hbb, hd, _, g0, g1, g2, g3, g4, g5⟩ := Drvs.at_ (CB.out.drvs) (i := k) (by rw [HDN.out]; exact hlk)
          have HDD := Lib.hid hd
          have HDA := Lib.hid hA
          have hkk : (k : Int) < (dn : Int) := by omega
          have HXC : Hid (∀ u, Below w4.heap.size w4 u → (u.cell? ⟨W.heap.size, 2, none⟩ = some (.slice (some ⟨b, off, none⟩) dn x.ds.c) ∧ u.cell? ⟨W.heap.size, 3, none⟩ = some (.slice x.os.a x.os.n x.os.c) ∧ u.cell? ⟨W.heap.size, 4, none⟩ = some (.slice (some ⟨b3, off3, none⟩) pn x.pl.c)) ∧ (u.cell? ⟨b, off + k * 6, none⟩ = some (.int .i64 d.id) ∧ u.cell? ⟨b, off + k * 6 + 1, none⟩ = some (.int .i64 d.room) ∧ u.cell? ⟨b, off + k * 6 + 2, none⟩ = some (.int .i64 d.home) ∧ u.cell? ⟨b, off + k * 6 + 3, none⟩ = some (.int .i64 d.win.fr) ∧ u.cell? ⟨b, off + k * 6 + 4, none⟩ = some (.int .i64 d.win.to) ∧ u.cell? ⟨b, off + k * 6 + 5, none⟩ = some (.bool d.retired)) ∧ (u.cell? ⟨b3, off3 + i * 3, none⟩ = some (.int .i64 y.rt.drv) ∧ u.cell? ⟨b3, off3 + i * 3 + 2, none⟩ = some (.slice y.a y.n y.c))) := fun u hu => by
            have hc := (C4.out.below hu)
            obtain ⟨_, _, h2, h3, h4⟩ := hc.wd.cells
            have hdv := hc.drvs
            rw [HDA.out] at hdv
            obtain ⟨b', off', d', e', _, hd', _, hg⟩ := Drvs.at_ hdv (i := k) (by rw [HDN.out]; exact hlk)
            injection e' with e'
            injection e' with e1 e2
            subst e1; subst e2
            rw [HDD.out] at hd'
            injection hd' with hd'
            subst hd'
            refine ⟨⟨?_, h3, ?_⟩, hg, (HPC.out u hu).1⟩
            · rw [← HDA.out, ← HDN.out]; exact h2
            · rw [← HPA.out, ← HPN.out]; exact h4
          clear hd hA g0 g1 g2 g3 g4 g5
          obtain ⟨⟨x2, x3, x4⟩, ⟨g0, g1, g2, g3, g4, g5⟩, ⟨p0, p2⟩⟩ := HXC.out _ HB.out
          by_cases hid : d.id = y.rt.drv
          case neg =>
            have e1 : (d.id != y.rt.drv) = true := by simpa using hid
            have HF2 : Hid (fb = true ∨ ∀ j p, j < k + 1 → ds[j]? = some p → p.id ≠ y.rt.drv) := by
              rcases HF.out with h | h
              · exact .inl h
              · refine .inr fun j p hj hp => ?_
                by_cases e : j = k
                · subst e
                  rw [HDD.out] at hp
                  injection hp with hp
                  rw [← hp]
                  exact hid
                · exact h j p (by omega) hp
            clear hid HF
            have HBQ := HB
            go_wp2_with fail
            go_quiet (fail)
            go_wp2_with fail
            go_roundw
            case rel => exact ⟨k + 1, fb, by omega, by go_num, rfl, below_drewN HB.out _, HF2⟩
            case measure => simp [intOf]; omega
          have HDE : Hid (d = d0) := by
            have h1 := drv_same HDI.out HDD.out
            rw [hid, HD0.out] at h1
            injection h1 with h1
            exact h1.symm
          have e1 : (d.id != y.rt.drv) = false := by simpa using hid
          clear hid
          go_wp2_with fail
          go_quiet (fail)
          go_upto_region 17 with fail
          have HB5 : Hid (Below w4.heap.size w4 (wr.drewN nq)) := below_drewN HB.out _
          obtain ⟨w5, hw5⟩ : ∃ u, wr.drewN nq = u := ⟨_, rfl⟩
          rw [hw5] at HB5 ⊢
          have C5 := Lib.hid (C4.out.below HB5.out)
          clear hw5 x2 x3 x4 g0 g1 g2 g3 g4 g5 p0 p2 e1 HB CB
          have HDV : Hid (∀ u, Below w5.heap.size w5 u → Calls Try.prog 21 #[.pointer q, drvV d, .slice x.os.a x.os.n x.os.c, .slice y.a y.n y.c] u fun en u' => ∃ B c2, en = .returned (.tuple #[.slice B vs.length c2, faultV dk 0]) ∧ Below w5.heap.size w5 u' ∧ Below u.heap.size u u' ∧ Hid (OwnK u' u.heap.size 44 6 (.slice B vs.length c2) vs.length (vissV vs))) :=
            Lib.hid fun u hu => gdrive_at hu C5.out.map C5.out.ords (Recs.more (Recs.keep HSY.out HB5.out) HB5.out.size) HYC.out x.os.h (by rw [HDE.out]; exact HDR.out)
          have HC : Hid (∀ u, Below w5.heap.size w5 u → (u.cell? ⟨W.heap.size, 2, none⟩ = some (.slice (some ⟨b, off, none⟩) dn x.ds.c) ∧ u.cell? ⟨W.heap.size, 3, none⟩ = some (.slice x.os.a x.os.n x.os.c) ∧ u.cell? ⟨W.heap.size, 4, none⟩ = some (.slice (some ⟨b3, off3, none⟩) pn x.pl.c)) ∧ (u.cell? ⟨b, off + k * 6, none⟩ = some (.int .i64 d.id) ∧ u.cell? ⟨b, off + k * 6 + 1, none⟩ = some (.int .i64 d.room) ∧ u.cell? ⟨b, off + k * 6 + 2, none⟩ = some (.int .i64 d.home) ∧ u.cell? ⟨b, off + k * 6 + 3, none⟩ = some (.int .i64 d.win.fr) ∧ u.cell? ⟨b, off + k * 6 + 4, none⟩ = some (.int .i64 d.win.to) ∧ u.cell? ⟨b, off + k * 6 + 5, none⟩ = some (.bool d.retired)) ∧ (u.cell? ⟨b3, off3 + i * 3, none⟩ = some (.int .i64 y.rt.drv) ∧ u.cell? ⟨b3, off3 + i * 3 + 2, none⟩ = some (.slice y.a y.n y.c))) := fun u hu => HXC.out u (HB5.out.trans (hu.mono HB5.out.size))
          go_cut [11, 12] (fun va vf wx => ∃ B c2 g, va = .slice B vs.length c2 ∧ vf = .pointer (some ⟨g, 0, none⟩) ∧ Hid (DM w5 (.slice B vs.length c2) vs g dk 0 wx))
          case first =>
            go_region_held3 (fun u => (u.cell? ⟨W.heap.size, 2, none⟩ = some (.slice (some ⟨b, off, none⟩) dn x.ds.c) ∧ u.cell? ⟨W.heap.size, 3, none⟩ = some (.slice x.os.a x.os.n x.os.c) ∧ u.cell? ⟨W.heap.size, 4, none⟩ = some (.slice (some ⟨b3, off3, none⟩) pn x.pl.c)) ∧ (u.cell? ⟨b, off + k * 6, none⟩ = some (.int .i64 d.id) ∧ u.cell? ⟨b, off + k * 6 + 1, none⟩ = some (.int .i64 d.room) ∧ u.cell? ⟨b, off + k * 6 + 2, none⟩ = some (.int .i64 d.home) ∧ u.cell? ⟨b, off + k * 6 + 3, none⟩ = some (.int .i64 d.win.fr) ∧ u.cell? ⟨b, off + k * 6 + 4, none⟩ = some (.int .i64 d.win.to) ∧ u.cell? ⟨b, off + k * 6 + 5, none⟩ = some (.bool d.retired)) ∧ (u.cell? ⟨b3, off3 + i * 3, none⟩ = some (.int .i64 y.rt.drv) ∧ u.cell? ⟨b3, off3 + i * 3 + 2, none⟩ = some (.slice y.a y.n y.c)))
              (first
                | exact HC.out _ (Below.refl _ _).drew
                | exact HC.out _ ((Below.refl _ _).alloc (Nat.le_refl _) _).drew
                | exact HC.out _ (by assumption)
                | exact HC.out _ (Below.drew (by assumption))
                | exact HC.out _ (Below.alloc (by assumption) (Below.size (by assumption)) _)
                | exact HC.out _ (below_put2 (by assumption) _ _))
              (first
                | (go_at_call 21; (refine (HDV.out _ (by first | assumption | exact (Below.refl _ _).drew | exact ((Below.refl _ _).alloc (Nat.le_refl _) _).drew)).mono ?_); rintro e w' ⟨B, c2, rfl, hbx, hby, hown⟩; (try (have hbox := Lib.hid (box_kept hby); have hz0 := hbox.out.cell (i := 0) rfl; have hz1 := hbox.out.cell (i := 1) rfl; have hf0 := hbox.out.free 0; have hf1 := hbox.out.free 1))))
            · go_wp2_with fail
              go_meet
              exact ⟨_, _, _, rfl, rfl, DM.behind (Below.refl _ _).drew hby hown.out⟩
            · go_wp2_with fail
              go_meet
              exact ⟨_, _, _, rfl, rfl, DM.ahead hby hbox.out hown.out⟩
          case rest =>
          clear HC HDV HXC
          obtain ⟨B6, c6, g6, rfl, rfl, M6⟩ := hcut
          obtain ⟨w6, rfl⟩ : ∃ w, w = wc := ⟨_, rfl⟩
          have HB6 := Lib.hid (HB5.out.trans (M6.out.on.mono HB5.out.size))
          obtain ⟨a0, a1⟩ := M6.out.flt.cells
          have e1 : ((0 : Int) == 0) = true := rfl
          clear C5
          go_wp2_with fail
          refine (good_v e1 _).mono ?_
          rintro e w7 ⟨rfl, hb7⟩
          have HB7 := Lib.hid (HB6.out.trans (hb7.mono HB6.out.size))
          have M7 := Lib.hid (M6.out.below hb7)
          clear hb7 a0 a1 e1 HB6 M6 HB5
          obtain ⟨B7, c7, eB, _, hr7⟩ := M7.out.own.read
          injection eB with e1 _ _
          subst e1
          have HV7 := Lib.hid hr7
          obtain ⟨_, hz0, hzv⟩ := HPC.out _ HB7.out
          have HZ7 := Lib.hid hzv
          clear hr7 hzv
          go_wp2_with fail
          refine (sameVisD _ _ _ _ _ _ vs vs true _ _ _ (by exact HV7.out) (by exact HZ7.out) (decide_eq_true rfl)).mono ?_
          rintro e w8 ⟨rfl, d8, hw8⟩
          have HB8 := Lib.hid (HB7.out.trans ((drewN_below hw8).mono HB7.out.size))
          clear hw8 hz0 HV7 HZ7 M7 HB7
          go_wp2_with fail
          go_roundw
          case rel => exact ⟨k + 1, true, by omega, by go_num, rfl, HB8, Lib.hid (.inl rfl)⟩
          case measure => simp [intOf]; omega
        · have hfb : fb = true := by
            rcases HF.out with h | h
            · exact h
            · exfalso
              have := drvOf_no (ds := ds) (id := y.rt.drv) fun j p hj hp => h j p (by have := HDL.out; have := HDN.out; omega) hp
              rw [HD0.out] at this
              cases this
          subst hfb
          have x2 : wr.cell? ⟨W.heap.size, 2, none⟩ = some (.slice x.ds.a dn x.ds.c) := by
            have := CB.out.wd.cells.2.2.1
            rw [← HDN.out]; exact this
          clear HF CB
          go_wp2_with fail
          go_roundw
          case rel => exact ⟨i + 1, by omega, by go_num, HB⟩
          case measure => simp [intOf]; omega
    · have C5 := Lib.hid (C4.out.below HB.out)
      clear HB
      go_wp2_with fail
      refine (use_runs _).mono ?_
      rintro e w5 ⟨rfl, hb5⟩
      have C6 := Lib.hid (C5.out.below hb5)
      clear hb5
      go_wp2_with fail
      go_ret
      exact ⟨rfl, C6.out.old⟩
#print axioms certRoutes_walk
end Go.Proofs.Ytfejnohcggoepaa.Cert
