/-
  The document's own answer to chapter 7, walked: Cost.
-/
import Derived.Test.YtjkahookgoecpaaRouteRDrive
import Derived.Test.YtjkahookgoecpaaMaths
namespace Go.Proofs.Ytjkahookgoecpaa.FleetMath
open Go.Proofs.Ytjkahookgoecpaa.GeoMath
/-- the time that a drive takes, from a place on -/
def costM (m : Mp) (os : List Ord) : Int → List Stp → Int
  | _, [] => 0
  | a, s :: r => time m a (siteAt os s).place + costM m os (siteAt os s).place r
/-- what a drive costs, where nothing is wrong with it -/
def cost (m : Option Mp) (d : Drv) (os : List Ord) (stops : List Stp) : Option Int :=
  match m with
  | none => none
  | some m' => if (drive m d os stops).2.2 = 0 then some (costM m' os d.home stops) else none
theorem costM_bound {m : Mp} {os : List Ord} (hm : ∀ a b, 0 ≤ time m a b ∧ time m a b ≤ 1000000) (a : Int) (l : List Stp) : 0 ≤ costM m os a l ∧ costM m os a l ≤ 1000000 * (l.length : Int) := by
  induction l generalizing a with
  | nil => simp [costM]
  | cons s r ih =>
    have h1 := hm a (siteAt os s).place
    have h2 := ih (siteAt os s).place
    simp only [costM, List.length_cons]
    omega
theorem drive_fine {m : Option Mp} {d : Drv} {os : List Ord} {stops : List Stp} (h : (drive m d os stops).2.2 = 0) : ∃ m' st, m = some m' ∧ run m' d os [] (st0 d) stops = .ok (st, (drive m d os stops).1) ∧ stops.length ≤ 80 ∧ known m os = true ∧ drvE m d = 0 := by
  cases m with
  | none => simp [drive] at h
  | some m' =>
    by_cases hb : drvE (some m') d ≠ 0 ∨ known (some m') os = false ∨ 80 < stops.length
    · rw [drive_bad hb] at h
      simp at h
    · have h1 : drvE (some m') d = 0 := Decidable.not_not.1 fun hx => hb (.inl hx)
      have h2 : known (some m') os = true := by
        cases hk : known (some m') os
        · exact absurd (.inr (.inl hk)) hb
        · rfl
      have h3 : stops.length ≤ 80 := by
        have : ¬ 80 < stops.length := fun hx => hb (.inr (.inr hx))
        omega
      rw [drive_arg h1 h2 h3] at h ⊢
      unfold driveM at h ⊢
      cases hr : run m' d os [] (st0 d) stops with
      | error x =>
        obtain ⟨k, e⟩ := x
        obtain ⟨s, _, hs, st1, vs, _, hst⟩ := run_fault hr
        rw [hr] at h
        simp only at h
        subst h
        exfalso
        unfold step at hst
        split at hst
        · injection hst with hst; omega
        · split at hst
          · injection hst with hst; omega
          · split at hst
            · injection hst with hst; omega
            · split at hst
              · injection hst with hst; omega
              · split at hst
                · injection hst with hst; omega
                · cases hst
      | ok p =>
        obtain ⟨st, vs⟩ := p
        rw [hr] at h
        simp only at h ⊢
        split at h
        · simp at h
        · rename_i hl
          rw [if_neg hl]
          exact ⟨m', st, rfl, by rw [hr], h3, h2, h1⟩
theorem drive_finds {m : Option Mp} {d : Drv} {os : List Ord} {stops : List Stp} (h : (drive m d os stops).2.2 = 0) {k : Nat} {s : Stp} (hk : stops[k]? = some s) : ∃ o, find os s.ord = some o := by
  obtain ⟨m', st, _, hr, _⟩ := drive_fine h
  obtain ⟨st1, st2, v, _, _, h3, _⟩ := run_at hr hk
  obtain ⟨o, hm⟩ := step_ok.1 h3
  exact ⟨o, hm.find⟩
end Go.Proofs.Ytjkahookgoecpaa.FleetMath
namespace Go.Proofs.Ytjkahookgoecpaa.Route
open Go.ChangeShapes Go.WideShapes Go.ChangeAt Go.RowKit Go.Proofs.Ytjkahookgoecpaa.Mem Go.Proofs.Ytjkahookgoecpaa.GeoMath Go.Proofs.Ytjkahookgoecpaa.FleetMath Go.Proofs.Ytjkahookgoecpaa.Rec Go.Proofs.Ytjkahookgoecpaa.Geo Go.Proofs.Ytjkahookgoecpaa.Span Go.Proofs.Ytjkahookgoecpaa.Deal

theorem gives_optv {o : Option Int} {w w' : World} {v : Value} (h : v = optV o) (hb : Below w.heap.size w w') : Gives w (optV o) (.returned v) w' := ⟨by rw [h], hb⟩
theorem find_idx {os : List FleetMath.Ord} {id : Int} {o : FleetMath.Ord} (h : find os id = some o) : ∃ i, findI os id = some i ∧ os[i]? = some o := by
  rw [find_findI] at h
  cases hf : findI os id with
  | none => rw [hf] at h; cases h
  | some i => rw [hf] at h; exact ⟨i, rfl, h⟩

/-- the place of a site that is at hand as a value -/
theorem field_place (a b c d : Int) (u : World) : (Instr.field 29 (.agg #[.int .i64 a, .int .i64 b, .int .i64 c, .int .i64 d]) 0).run Try.prog u = .ok (.int .i64 a) u := by
  obtain ⟨i, hi, hz0, hz1, hz2⟩ := info_parts infoInt
  simp [Instr.field, run_underlying Try.underlying29, part, asAgg, sizeOf, typeInfo, hi, hz1]

set_option maxRecDepth 100000 in
set_option maxHeartbeats 4000000 in
theorem rcost_any (base : Nat) (pv : Value) (m : Option Mp) (d : Drv) (A : Option Addr) (n c : Nat) (os : List FleetMath.Ord) (A' : Option Addr) (n' c' : Nat) (stops : List Stp) (w : World) (h : MapP w 104 base pv m) (ho : Ords w w.heap.size A n os) (hs : Stps w w.heap.size A' n' stops) (hcc : n' ≤ c') :
    Calls Try.prog 17 #[pv, drvV d, .slice A n c, .slice A' n' c'] w (Gives w (optV (cost m d os stops))) := by
  have b0 : Below w.heap.size w (w.alloc (.cells #[.int .i64 d.id, .int .i64 d.room, .int .i64 d.home, .int .i64 d.win.fr, .int .i64 d.win.to, .bool d.retired] 33)) := (Below.refl _ _).alloc (Nat.le_refl _) _
  have HB0 := Lib.hid b0
  have HD0 : Hid (DBox (w.alloc (.cells #[.int .i64 d.id, .int .i64 d.room, .int .i64 d.home, .int .i64 d.win.fr, .int .i64 d.win.to, .bool d.retired] 33)) w.heap.size d) := Blk.new w _ _
  have HM := Lib.hid h
  have HOS := Lib.hid ho
  have HST := Lib.hid hs
  have HLO := Lib.hid ho.length
  have HLS := Lib.hid hs.length
  have hnm := Recs.le ho
  have hnm' := Recs.le hs
  obtain ⟨q, hq⟩ : ∃ q, pv = .pointer q := by
    rcases h with ⟨rfl, _⟩ | ⟨b, _, _, rfl, _⟩
    · exact ⟨_, rfl⟩
    · exact ⟨_, rfl⟩
  subst hq
  obtain ⟨r, hr⟩ : ∃ r, drive m d os stops = r := ⟨_, rfl⟩
  have HR := Lib.hid hr
  clear h ho hs b0 hr
  have HDRV := Lib.hid (rdrive_any base (.pointer q) m d A n c os A' n' c' stops _ (HM.out.keep HB0.out) (Recs.more (Recs.keep HOS.out HB0.out) HB0.out.size) (Recs.more (Recs.keep HST.out HB0.out) HB0.out.size) hcc)
  go_enter Try.func17, Try.ntmps17
  go_wp2_with fail
  refine HDRV.out.mono ?_
  rintro e w1 ⟨hb1, v, rfl, hv⟩
  have HR' := HR.out
  rw [HR'] at hv ⊢
  obtain ⟨A1, c1, rfl, _⟩ := hv.read
  have HB1 : Hid (Below w.heap.size w (w1.alloc (.cells #[.int .i64 (r.2.1 : Int), .int .i64 r.2.2] 39))) := by
    have := HB0.out.trans (hb1.mono HB0.out.size)
    exact this.alloc this.size _
  have HD1 : Hid (DBox (w1.alloc (.cells #[.int .i64 (r.2.1 : Int), .int .i64 r.2.2] 39)) w.heap.size d) := (HD0.out.below hb1).below ((Below.refl _ _).alloc (Nat.le_refl _) _)
  clear hb1 hv HR' HB0 HD0 HDRV
  obtain ⟨ff, hff⟩ : ∃ x, r.2.2 = x := ⟨_, rfl⟩
  rw [hff] at HB1 HD1 ⊢
  by_cases h0 : ff = 0
  case neg =>
    have HC : Hid (cost m d os stops = none) := by
      show cost m d os stops = none
      unfold cost
      split
      · rfl
      · rw [HR.out, hff, if_neg h0]
    obtain ⟨n1, n2⟩ : (ff == 0) = false ∧ (ff != 0) = true := by simp [h0]
    clear h0 hff
    go_wp2_with fail
    go_ret2
    exact gives_optv (by rw [HC.out]; rfl) HB1.out
  subst h0
  have hfine : (drive m d os stops).2.2 = 0 := by rw [HR.out]; exact hff
  obtain ⟨m', st, hm', _, h80, hkn, _⟩ := drive_fine hfine
  subst hm'
  obtain ⟨mn, ml⟩ := m'
  have HC : Hid (cost (some ⟨mn, ml⟩) d os stops = some (costM ⟨mn, ml⟩ os d.home stops)) := by
    show cost _ _ _ _ = _
    unfold cost
    simp only
    rw [if_pos hfine]
  have HFIN : Hid (∀ (k : Nat) (s : Stp), stops[k]? = some s → ∃ o i, find os s.ord = some o ∧ findI os s.ord = some i ∧ os[i]? = some o) := fun k s hk => by
    obtain ⟨o, hfo⟩ := drive_finds hfine hk
    obtain ⟨i, h1, h2⟩ := find_idx hfo
    exact ⟨o, i, hfo, h1, h2⟩
  have hn80 : n' ≤ 80 := by have := HLS.out; omega
  clear hfine hff hkn h80
  obtain ⟨bm, hbm⟩ := map_ptr HM.out
  subst hbm
  have HTB : Hid (∀ a b, 0 ≤ time ⟨mn, ml⟩ a b ∧ time ⟨mn, ml⟩ a b ≤ 1000000) := fun a b => time_bounds (map_at HM.out).2.2 a b
  obtain ⟨d0, d1, d2, d3, d4, d5⟩ := HD1.out.cells
  go_wp2_with fail
  go_loopw [12, 13, 14] (fun cv av iv wr => ∃ (k : Nat) (cc a : Int), k ≤ n' ∧ iv = .int .i64 k ∧ cv = .int .i64 cc ∧ av = .int .i64 a ∧ (0 ≤ cc ∧ cc ≤ 1000000 * (k : Int)) ∧ Hid (Below w.heap.size w wr) ∧ Hid (costM ⟨mn, ml⟩ os d.home stops = cc + costM ⟨mn, ml⟩ os a (stops.drop k))) (fun _ _ iv _ => n' - (intOf iv).toNat)
  case atStart => exact ⟨0, 0, d.home, Nat.zero_le _, rfl, rfl, rfl, ⟨Int.le_refl _, by simp⟩, HB1, by show costM _ _ _ _ = _; simp⟩
  case round =>
    clear HB1 HD1 d0 d1 d2 d3 d4 d5
    obtain ⟨k, cc, a, hk, rfl, rfl, rfl, ⟨hc1, hc2⟩, HB, HE⟩ := hrel
    by_cases hlt : k < n'
    case neg =>
      have HE2 : Hid (optV (cost (some ⟨mn, ml⟩) d os stops) = .tuple #[.int .i64 cc, .bool true]) := by
        show optV _ = _
        rw [HC.out, HE.out, List.drop_of_length_le (by have := HLS.out; omega)]
        simp [costM, optV]
      go_wp2_with fail
      go_ret2
      exact gives_optv HE2.out.symm HB.out
    have HSR : Hid (Stps wr w.heap.size A' n' stops) := Recs.keep HST.out HB.out
    have HOR : Hid (Ords wr w.heap.size A n os) := Recs.keep HOS.out HB.out
    obtain ⟨b, off, s, hA, hbw, hs, hdr, k0, k1⟩ := Stps.at_ HSR.out hlt
    subst hA
    obtain ⟨o, i, hfo, hfi, hoi⟩ := HFIN.out k s hs
    have hin : i < n := by have := (List.getElem?_eq_some_iff.1 hoi).1; have := HLO.out; omega
    obtain ⟨bo, oo, o', hA2, hbo, ho', _, g0, g1, g2, g3, g4, g5, g6, g7, g8, g9⟩ := Ords.at_ HOR.out hin
    subst hA2
    have e' : o' = o := by
      rw [hoi] at ho'
      injection ho' with ho'
      exact ho'.symm
    subst e'
    obtain ⟨pl, hpl⟩ : ∃ p, (siteOf o' s).place = p := ⟨_, rfl⟩
    have HPL := Lib.hid hpl
    obtain ⟨tt, htt⟩ : ∃ t, time ⟨mn, ml⟩ a pl = t := ⟨_, rfl⟩
    have HTT := Lib.hid htt
    obtain ⟨tb1, tb2⟩ := HTB.out a pl
    rw [htt] at tb1 tb2
    have HEN : Hid (costM ⟨mn, ml⟩ os d.home stops = (cc + tt) + costM ⟨mn, ml⟩ os pl (stops.drop (k + 1))) := by
      show costM _ _ _ _ = _
      rw [HE.out, hdr]
      simp only [costM]
      rw [siteAt_of hfo, hpl, htt]
      omega
    have HFD := Lib.hid (rfind_any (some ⟨bo, oo, none⟩) n c os s.ord wr.drew _ (by exact HOR.out))
    rw [hfi] at HFD
    simp only [idxV] at HFD
    have HSI : Hid (Calls Try.prog 34 #[ordV o', stpV s] wr.drew (Gives wr.drew (.agg #[.int .i64 pl, .int .i64 (siteOf o' s).win.fr, .int .i64 (siteOf o' s).win.to, .int .i64 (siteOf o' s).serv]))) := by
      rw [← hpl]
      exact rsite_any o' s wr.drew
    clear hs hdr hfo hfi hoi ho' hpl htt HE
    have hki : (k : Int) < (n' : Int) := by omega
    have hii : (i : Int) < (n : Int) := by omega
    have hfp : ∀ u : World, (Instr.field 29 (.agg #[.int .i64 pl, .int .i64 (siteOf o' s).win.fr, .int .i64 (siteOf o' s).win.to, .int .i64 (siteOf o' s).serv]) 0).run Try.prog u = .ok (.int .i64 pl) u := fun u => field_place _ _ _ _ u
    go_upto_region 9 with fail
    go_cut [15] (fun pv wx => pv = .int .i64 pl ∧ Hid (Below w.heap.size w wx))
    case first =>
      go_region_law (first | (go_simp; go_at_call 32; refine HFD.out.mono ?_; rintro e w' ⟨rfl, rfl⟩) | (go_simp; go_at_call 34; refine HSI.out.mono ?_; rintro e w5 ⟨rfl, hb⟩; have HB5 := Lib.hid (HB.out.drew.trans (hb.mono HB.out.drew.size)); clear hb))
      all_goals
        go_wp2_with fail
        go_meet
        exact ⟨rfl, HB5⟩
    case rest =>
    obtain ⟨rfl, HB6⟩ := hcut
    clear hfp g0 g1 g2 g3 g4 g5 g6 g7 g8 g9 k0 k1 HB HSR HOR HFD HSI
    go_wp2_with fail
    refine (rtime_val' base bm mn ml a pl tt _ (by exact (map_at (HM.out.keep HB6.out)).1) (map_at HM.out).2.1 HTT.out).mono ?_
    rintro e w7 ⟨rr, dd, rfl, hw7⟩
    have HB7 : Hid (Below w.heap.size w w7) := by rw [hw7]; exact below_drewN HB6.out _
    clear hw7 HB6
    go_wp2_with fail
    go_roundw
    case rel => exact ⟨k + 1, cc + tt, pl, by omega, by go_num, rfl, rfl, ⟨by omega, by omega⟩, HB7, HEN⟩
    case measure => simp [intOf]; omega

#print axioms rcost_any
end Go.Proofs.Ytjkahookgoecpaa.Route
