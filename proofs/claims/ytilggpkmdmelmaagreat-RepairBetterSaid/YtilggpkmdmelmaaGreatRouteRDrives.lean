/-
  RouteRDrive, RouteRCost: one text.
-/
import Derived.Test.YtilggpkmdmelmaaGreatRouteRs
import Derived.Test.YtilggpkmdmelmaaGreatDealRServed
import Derived.Deep.RegionLaw
import Derived.Deep.RegionHeld3
import Derived.Deep.DeepCutAuto
import Derived.Test.YtilggpkmdmelmaaGreatMaths
namespace Go.Proofs.YtilggpkmdmelmaaGreat.Route
open Go.ChangeShapes Go.WideShapes Go.ChangeAt Go.RowKit Go.Proofs.YtilggpkmdmelmaaGreat.Mem Go.Proofs.YtilggpkmdmelmaaGreat.GeoMath Go.Proofs.YtilggpkmdmelmaaGreat.FleetMath Go.Proofs.YtilggpkmdmelmaaGreat.Rec Go.Proofs.YtilggpkmdmelmaaGreat.Geo Go.Proofs.YtilggpkmdmelmaaGreat.Span Go.Proofs.YtilggpkmdmelmaaGreat.Deal
theorem rhas_v (A : Option Addr) (n c : Nat) (l : List Stp) (s : Stp) (w : World) (b : Bool) (hl : Stps w w.heap.size A n l) (hb : decide (s ∈ l) = b) :
    Calls Tryz.prog 80 #[.slice A n c, stpV s] w (Gives w (.bool b)) := by rw [← hb]; exact rhas_any A n c l s w hl
theorem rserved_v (base b n : Nat) (l : List Int) (f t0 : Int) (s : Site) (u : Int) (v : Value) (w : World) (h : MapAt w 110 base b n l) (hn : n ≤ 12) (hm : IsMap n l) (ht0 : 0 ≤ t0) (ht1 : t0 ≤ 2000000) (hs0 : 0 ≤ s.serv) (hs1 : s.serv ≤ 1000000) (hv : twoV (FleetMath.served ⟨n, l⟩ f t0 s u) = v) :
    Calls Tryz.prog 81 #[.pointer (some ⟨b, 0, none⟩), .int .i64 f, .int .i64 t0, siteV s, .int .i64 u] w (Gives w v) := by
  rw [← hv]
  exact rserved_any base b n l f t0 s u w h hn hm (by omega) (by omega) hs0 hs1
set_option maxRecDepth 100000 in
set_option maxHeartbeats 4000000 in
theorem rdrive_any (base : Nat) (pv : Value) (m : Option Mp) (d : Drv) (A : Option Addr) (n c : Nat) (os : List FleetMath.Ord) (A' : Option Addr) (n' c' : Nat) (stops : List Stp) (w : World) (h : MapP w 110 base pv m) (ho : Ords w w.heap.size A n os) (hs : Stps w w.heap.size A' n' stops) (hcc : n' ≤ c') :
    Calls Tryz.prog 49 #[pv, drvV d, .slice A n c, .slice A' n' c'] w (DriveOk w (drive m d os stops)) := by
  have S0 := Lib.hid (Stay.start (d := d) h ho hs)
  have HLO := Lib.hid ho.length
  have HLS := Lib.hid hs.length
  have hnm := Recs.le ho
  have hnm' := Recs.le hs
  obtain ⟨q, hq⟩ : ∃ q, pv = .pointer q := by
    rcases h with ⟨rfl, _⟩ | ⟨b, _, _, rfl, _⟩
    · exact ⟨_, rfl⟩
    · exact ⟨_, rfl⟩
  subst hq
  clear h ho hs
  obtain ⟨v1, hv1⟩ : ∃ v, drvE m d = v := ⟨_, rfl⟩
  obtain ⟨b2, hb2⟩ : ∃ v, known m os = v := ⟨_, rfl⟩
  have V1 := Lib.hid hv1
  have V2 := Lib.hid hb2
  have HBAD : Hid (v1 ≠ 0 ∨ b2 = false ∨ 80 < n' → drive m d os stops = ([], 0, 1)) := fun hx => drive_bad (by rw [hv1, hb2, HLS.out]; exact hx)
  clear hv1 hb2
  go_enter Tryz.func49, Tryz.ntmps49
  go_wp2_with fail
  refine (rdriver_v base _ m d v1 _ (by exact S0.out.map) V1.out).mono ?_
  rintro e w1 ⟨rfl, hb⟩
  have S1 := Lib.hid (S0.out.next hb)
  clear hb S0
  obtain ⟨X, hX⟩ : ∃ X, DX w d = X := ⟨_, rfl⟩
  rw [hX] at S1
  clear hX
  obtain ⟨⟨p0, f0⟩, ⟨p1, f1⟩, ⟨r0, r1⟩, hbp⟩ := S1.out.put 0 1
  by_cases h1 : v1 = 0
  case neg =>
    have HD := Lib.hid (HBAD.out (.inl h1))
    obtain ⟨n1, n2⟩ : (v1 == 0) = false ∧ (v1 != 0) = true := by simp [h1]
    have HBP := Lib.hid hbp
    clear h1 hbp
    go_wp2_with fail
    refine bodyPost_ret (v := .tuple #[.slice none 0 0, faultV 0 1]) ?_ rfl (drive_fault HD.out HBP.out)
    simp [results, Tryz.results49, go_sem, r0, r1]
  subst h1
  clear p0 f0 p1 f1 r0 r1 hbp
  go_wp2_with fail
  refine (rknown_v base _ m A n c os b2 _ (by exact S1.out.map) (by exact S1.out.ords) V2.out).mono ?_
  rintro e w2 ⟨rfl, hb⟩
  have S2 := Lib.hid (S1.out.next hb)
  clear hb S1
  obtain ⟨⟨p0, f0⟩, ⟨p1, f1⟩, ⟨r0, r1⟩, hbp⟩ := S2.out.put 0 1
  have HBP := Lib.hid hbp
  clear hbp
  cases b2 with
  | false =>
    have HD := Lib.hid (HBAD.out (.inr (.inl rfl)))
    go_wp2_with fail
    refine bodyPost_ret (v := .tuple #[.slice none 0 0, faultV 0 1]) ?_ rfl (drive_fault HD.out HBP.out)
    simp [results, Tryz.results49, go_sem, r0, r1]
  | true =>
  by_cases h80 : 80 < n'
  · have HD := Lib.hid (HBAD.out (.inr (.inr h80)))
    go_wp2_with fail
    refine bodyPost_ret (v := .tuple #[.slice none 0 0, faultV 0 1]) ?_ rfl (drive_fault HD.out HBP.out)
    simp [results, Tryz.results49, go_sem, r0, r1]
  clear HBAD p0 f0 p1 f1 r0 r1 HBP
  obtain ⟨m', hm', hdk⟩ := drvE_ok.1 V1.out
  subst hm'
  obtain ⟨mn, ml⟩ := m'
  have HOK := Lib.hid (known_ok V2.out)
  have HU0 : Hid (Upto ⟨mn, ml⟩ d os stops 0 (st0 d) []) := Upto.start hdk
  have hn80 : n' ≤ 80 := by omega
  clear hdk h80
  obtain ⟨d0, d1, d2, d3, d4, d5⟩ := S2.out.drv.cells
  go_wp2_with fail
  go_quiet (fail)
  go_wp2
  go_loopw [10, 11, 12, 13, 14] (fun vv av lv dv iv wr => ∃ (k : Nat) (st : St) (vs : List Vis), k ≤ n' ∧ iv = .int .i64 k ∧ av = .int .i64 st.at_ ∧ lv = .int .i64 st.left ∧ dv = .int .i64 st.load ∧
    Hid (Stay w X base (.pointer q) (some ⟨mn, ml⟩) d A n os A' n' stops wr) ∧ Hid (OwnK wr X.heap.size 102 6 vv k (vissV vs)) ∧ Hid (Upto ⟨mn, ml⟩ d os stops k st vs)) (fun _ _ _ _ iv _ => n' - (intOf iv).toNat)
  case atStart => exact ⟨0, st0 d, [], Nat.zero_le _, rfl, rfl, rfl, rfl, S2.out.drewN _, OwnK.nil _ _ _ _, HU0⟩
  case round =>
    clear S2 HU0 d0 d1 d2 d3 d4 d5
    obtain ⟨k, st, vs, hk, rfl, rfl, rfl, rfl, S3, HO, HU⟩ := hrel
    by_cases hlt : k < n'
    case neg =>
      have e : k = n' := by omega
      subst e
      have HD := Lib.hid (by have := HU.out; rw [← HLS.out] at this; exact this.done V1.out V2.out (by rw [HLS.out]; exact hn80))
      by_cases hl : 0 < st.load
      · have HD2 : Hid (drive (some ⟨mn, ml⟩) d os stops = ([], k, 18)) := by
          have := HD.out
          rw [if_pos hl, HLS.out] at this
          exact this
        obtain ⟨⟨p0, f0⟩, ⟨p1, f1⟩, ⟨r0, r1⟩, hbp⟩ := S3.out.put k 18
        have HBP := Lib.hid hbp
        clear hbp HD
        go_wp2_with fail
        refine bodyPost_ret (v := .tuple #[.slice none 0 0, faultV k 18]) ?_ rfl (drive_fault HD2.out HBP.out)
        simp [results, Tryz.results49, go_sem, r0, r1]
      · have HD2 : Hid (drive (some ⟨mn, ml⟩) d os stops = (vs, 0, 0)) := by
          have := HD.out
          rw [if_neg hl] at this
          exact this
        obtain ⟨⟨p0, f0⟩, ⟨p1, f1⟩, ⟨r0, r1⟩, hbp⟩ := S3.out.put 0 0
        have HF : Hid (DriveOk w (drive (some ⟨mn, ml⟩) d os stops) (.returned (.tuple #[u10, faultV 0 0])) ((wr.setCell ⟨w.heap.size + 1, 0, none⟩ (.int .i64 0)).setCell ⟨w.heap.size + 1, 1, none⟩ (.int .i64 0))) := by
          show DriveOk _ _ _ _
          rw [HD2.out]
          refine ⟨hbp, u10, rfl, ?_⟩
          have := S3.out.own HO.out (.int .i64 0) (.int .i64 0)
          simp only [HU.out.len]
          exact this
        clear hbp HD HD2
        go_wp2_with fail
        refine bodyPost_ret (v := .tuple #[u10, faultV 0 0]) ?_ rfl HF.out
        simp [results, Tryz.results49, go_sem, r0, r1]
    obtain ⟨b, off, s, rfl, hbw, hs, _, c0, c1⟩ := Stps.at_ S3.out.stps hlt
    have HS := Lib.hid hs
    clear hs
    have S4 := Lib.hid (S3.out.alloc (.cells #[.int .i64 s.ord, .bool s.drop] 37))
    have HO4 := Lib.hid (HO.out.alloc (.cells #[.int .i64 s.ord, .bool s.drop] 37))
    have hbs : Blk (wr.alloc (.cells #[.int .i64 s.ord, .bool s.drop] 37)) wr.heap.size 37 [.int .i64 s.ord, .bool s.drop] := Blk.new wr _ _
    have HBS := Lib.hid hbs
    clear hbs S3 HO
    have HFD := Lib.hid (rfind_any A n c os s.ord _ _ S4.out.ords)
    cases hf : findI os s.ord with
    | none =>
      have HN := Lib.hid (findI_none hf)
      have HFD2 := HFD.out
      rw [hf] at HFD2
      replace HFD2 := Lib.hid HFD2
      clear hf HFD
      go_wp2_with fail
      refine HFD2.out.mono ?_
      rintro e w' ⟨rfl, rfl⟩
      have HD := Lib.hid (HU.out.fault HS.out (step_none HN.out) V1.out V2.out (by rw [HLS.out]; exact hn80))
      obtain ⟨⟨p0, f0⟩, ⟨p1, f1⟩, ⟨r0, r1⟩, hbp⟩ := S4.out.put k 8
      have HBP := Lib.hid hbp
      clear hbp
      go_wp2_with fail
      refine bodyPost_ret (v := .tuple #[.slice none 0 0, faultV k 8]) ?_ rfl (drive_fault HD.out HBP.out)
      simp [results, Tryz.results49, go_sem, r0, r1]
    | some i =>
    obtain ⟨o, ho, hid, hfo⟩ := findI_some hf
    have HFD2 := HFD.out
    rw [hf] at HFD2
    replace HFD2 := Lib.hid HFD2
    have HFO := Lib.hid hfo
    have HOI := Lib.hid ho
    have hin : i < n := by have := (List.getElem?_eq_some_iff.1 ho).1; have := HLO.out; omega
    have HKO := Lib.hid (HOK.out o (List.mem_of_getElem? ho))
    clear hf HFD ho hid hfo
    obtain ⟨t1, ht1⟩ : ∃ b, decide (s ∈ stops.take k) = b := ⟨_, rfl⟩
    have T1 := Lib.hid ht1
    clear ht1
    go_wp2_with fail
    refine HFD2.out.mono ?_
    rintro e w' ⟨rfl, rfl⟩
    have hxi : ¬ (i : Int) < 0 := by omega
    obtain ⟨y0, y1⟩ : (wr.alloc (.cells #[.int .i64 s.ord, .bool s.drop] 37)).cell? ⟨wr.heap.size, 0, none⟩ = some (.int .i64 s.ord) ∧ (wr.alloc (.cells #[.int .i64 s.ord, .bool s.drop] 37)).cell? ⟨wr.heap.size, 1, none⟩ = some (.bool s.drop) := ⟨HBS.out.cell rfl, HBS.out.cell rfl⟩
    have hk0 : (0 : Int) ≤ (k : Int) := by omega
    have hkc : (k : Int) ≤ (c' : Int) := by omega
    simp only [idxV]
    go_upto_region 12 with fail
    go_cut [67] (fun bv wx => bv = .bool t1 ∧ Hid (Stay w X base (.pointer q) (some ⟨mn, ml⟩) d (A) n os (some ⟨b, off, none⟩) n' stops wx) ∧ Hid (OwnK wx X.heap.size 102 6 u10 k (vissV vs)) ∧ Hid (Blk wx wr.heap.size 37 [.int .i64 s.ord, .bool s.drop]))
    case first =>
      have S4D := Lib.hid S4.out.drew
      have HO4D : Hid (OwnK (wr.alloc (.cells #[.int .i64 s.ord, .bool s.drop] 37)).drew X.heap.size 102 6 u10 k (vissV vs)) := HO4.out.same fun _ _ _ => rfl
      have HBSD : Hid (Blk (wr.alloc (.cells #[.int .i64 s.ord, .bool s.drop] 37)).drew wr.heap.size 37 [.int .i64 s.ord, .bool s.drop]) := HBS.out
      have HCALL := Lib.hid (rhas_v (some ⟨b, off, none⟩) k c' (stops.take k) s _ t1 (stps_front S4D.out.stps (by omega)) T1.out)
      go_region_law (go_simp; go_at_call 80; refine HCALL.out.mono ?_; rintro e w5 ⟨rfl, hb⟩; have S5 := Lib.hid (S4D.out.next hb); have HO5 := Lib.hid (HO4D.out.keep hb (Nat.le_refl _)); have HB5 := Lib.hid (HBSD.out.below hb HBSD.out.lt); clear hb)
      all_goals
        go_wp2_with fail
        go_meet
        exact ⟨rfl, S5, HO5, HB5⟩
    case rest =>
    obtain ⟨rfl, S5, HO5, HB5⟩ := hcut
    clear S4 HO4 HBS y0 y1 c0 c1 HFD2
    cases t1 with
    | true =>
      have HD := Lib.hid (HU.out.fault HS.out (step_twice HFO.out (of_decide_eq_true T1.out)) V1.out V2.out (by rw [HLS.out]; exact hn80))
      obtain ⟨⟨p0, f0⟩, ⟨p1, f1⟩, ⟨r0, r1⟩, hbp⟩ := S5.out.put k 16
      have HBP := Lib.hid hbp
      clear hbp
      go_wp2_with fail
      refine bodyPost_ret (v := .tuple #[.slice none 0 0, faultV k 16]) ?_ rfl (drive_fault HD.out HBP.out)
      simp [results, Tryz.results49, go_sem, r0, r1]
    | false =>
    have HNEW := Lib.hid (of_decide_eq_false T1.out)
    clear T1
    obtain ⟨t2, ht2⟩ : ∃ b, decide (Stp.mk s.ord false ∈ stops.take k) = b := ⟨_, rfl⟩
    have T2 := Lib.hid ht2
    clear ht2
    obtain ⟨y0, y1⟩ : wc.cell? ⟨wr.heap.size, 0, none⟩ = some (.int .i64 s.ord) ∧ wc.cell? ⟨wr.heap.size, 1, none⟩ = some (.bool s.drop) := ⟨HB5.out.cell rfl, HB5.out.cell rfl⟩
    go_upto_region 14 with fail
    go_cut [81] (fun bv wx => ∃ t3 : Bool, bv = .bool t3 ∧ Hid (t3 = true → s.drop = true ∧ t2 = false) ∧ Hid (t3 = false → s.drop = true → t2 = true) ∧ Hid (Stay w X base (.pointer q) (some ⟨mn, ml⟩) d A n os (some ⟨b, off, none⟩) n' stops wx) ∧ Hid (OwnK wx X.heap.size 102 6 u10 k (vissV vs)) ∧ Hid (Blk wx wr.heap.size 37 [.int .i64 s.ord, .bool s.drop]))
    case first =>
      have S5D := Lib.hid S5.out.drew
      have HO5D : Hid (OwnK wc.drew X.heap.size 102 6 u10 k (vissV vs)) := HO5.out.same fun _ _ _ => rfl
      have HB5D : Hid (Blk wc.drew wr.heap.size 37 [.int .i64 s.ord, .bool s.drop]) := HB5.out
      cases hsd : s.drop with
      | false =>
        rw [hsd] at y1
        go_quiet (fail)
        go_wp2_with fail
        go_meet
        exact ⟨false, rfl, fun h => (by cases h), fun _ h => (by rw [hsd] at h; cases h), S5.out.drewN _, HO5.out.drewN _, HB5.out⟩
      | true =>
        rw [hsd] at y1
        have HCALL := Lib.hid (rhas_v (some ⟨b, off, none⟩) k c' (stops.take k) ⟨s.ord, false⟩ _ t2 (stps_front S5D.out.stps (by omega)) T2.out)
        go_region_law (go_simp; go_at_call 80; refine HCALL.out.mono ?_; rintro e w6 ⟨rfl, hb⟩; have S6 := Lib.hid (S5D.out.next hb); have HO6 := Lib.hid (HO5D.out.keep hb (Nat.le_refl _)); have HB6 := Lib.hid (HB5D.out.below hb HB5D.out.lt); clear hb)
        all_goals
          go_wp2_with fail
          go_meet
          exact ⟨!t2, rfl, fun h => ⟨hsd, by simpa using h⟩, fun h _ => by simpa using h, S6, HO6, HB6⟩
    case rest =>
    obtain ⟨t3, rfl, HT3, HT3n, S6, HO6, HB6⟩ := hcut
    clear S5 HO5 HB5 y0 y1
    obtain ⟨w6, rfl⟩ : ∃ w6, w6 = wc := ⟨_, rfl⟩
    cases t3 with
    | true =>
      have HF17 := Lib.hid (HT3.out (by trivial))
      have HD := Lib.hid (HU.out.fault HS.out (step_first HFO.out HNEW.out HF17.out.1 (of_decide_eq_false (by rw [T2.out]; exact HF17.out.2))) V1.out V2.out (by rw [HLS.out]; exact hn80))
      obtain ⟨⟨p0, f0⟩, ⟨p1, f1⟩, ⟨r0, r1⟩, hbp⟩ := S6.out.put k 17
      have HBP := Lib.hid hbp
      clear hbp
      go_wp2_with fail
      refine bodyPost_ret (v := .tuple #[.slice none 0 0, faultV k 17]) ?_ rfl (drive_fault HD.out HBP.out)
      simp [results, Tryz.results49, go_sem, r0, r1]
    | false =>
    have HFST : Hid (s.drop = true → Stp.mk s.ord false ∈ stops.take k) := fun h => of_decide_eq_true (by rw [T2.out]; exact HT3n.out (by trivial) h)
    clear HT3 HT3n T2
    obtain ⟨bo, oo, o', rfl, hbo, ho', _, g0, g1, g2, g3, g4, g5, g6, g7, g8, g9⟩ := Ords.at_ S6.out.ords hin
    have e' : o' = o := by
      have := HOI.out
      rw [this] at ho'
      injection ho' with ho'
      exact ho'.symm
    subst e'
    clear ho'
    have S7 := Lib.hid (S6.out.alloc (.cells #[.int .i64 o'.id, .int .i64 o'.size, .int .i64 o'.pick.place, .int .i64 o'.pick.win.fr, .int .i64 o'.pick.win.to, .int .i64 o'.pick.serv, .int .i64 o'.drop.place, .int .i64 o'.drop.win.fr, .int .i64 o'.drop.win.to, .int .i64 o'.drop.serv] 31))
    have HO7 := Lib.hid (HO6.out.alloc (.cells #[.int .i64 o'.id, .int .i64 o'.size, .int .i64 o'.pick.place, .int .i64 o'.pick.win.fr, .int .i64 o'.pick.win.to, .int .i64 o'.pick.serv, .int .i64 o'.drop.place, .int .i64 o'.drop.win.fr, .int .i64 o'.drop.win.to, .int .i64 o'.drop.serv] 31))
    have HB7 : Hid (Blk (w6.alloc (.cells #[.int .i64 o'.id, .int .i64 o'.size, .int .i64 o'.pick.place, .int .i64 o'.pick.win.fr, .int .i64 o'.pick.win.to, .int .i64 o'.pick.serv, .int .i64 o'.drop.place, .int .i64 o'.drop.win.fr, .int .i64 o'.drop.win.to, .int .i64 o'.drop.serv] 31)) wr.heap.size 37 [.int .i64 s.ord, .bool s.drop]) := HB6.out.below ((Below.refl _ _).alloc (Nat.le_refl _) _) HB6.out.lt
    have HX7 : Hid (OBox (w6.alloc (.cells #[.int .i64 o'.id, .int .i64 o'.size, .int .i64 o'.pick.place, .int .i64 o'.pick.win.fr, .int .i64 o'.pick.win.to, .int .i64 o'.pick.serv, .int .i64 o'.drop.place, .int .i64 o'.drop.win.fr, .int .i64 o'.drop.win.to, .int .i64 o'.drop.serv] 31)) w6.heap.size o') := Blk.new w6 _ _
    obtain ⟨ld, hld⟩ : ∃ l, loadOf o' s st.load = l := ⟨_, rfl⟩
    have HLD := Lib.hid hld
    clear hld
    obtain ⟨sz1, sz2⟩ := HKO.out.size
    have hload := HU.out.load
    obtain ⟨ll1, ll2⟩ := hload
    have y1 : (w6.alloc (.cells #[.int .i64 o'.id, .int .i64 o'.size, .int .i64 o'.pick.place, .int .i64 o'.pick.win.fr, .int .i64 o'.pick.win.to, .int .i64 o'.pick.serv, .int .i64 o'.drop.place, .int .i64 o'.drop.win.fr, .int .i64 o'.drop.win.to, .int .i64 o'.drop.serv] 31)).cell? ⟨wr.heap.size, 1, none⟩ = some (.bool s.drop) := HB7.out.cell rfl
    obtain ⟨o0, o1, o2, o3, o4, o5, o6, o7, o8, o9⟩ := HX7.out.cells
    go_upto_if 89 with fail
    go_cut [13] (fun lv wx => lv = .int .i64 ld ∧ wx = w6.alloc (.cells #[.int .i64 o'.id, .int .i64 o'.size, .int .i64 o'.pick.place, .int .i64 o'.pick.win.fr, .int .i64 o'.pick.win.to, .int .i64 o'.pick.serv, .int .i64 o'.drop.place, .int .i64 o'.drop.win.fr, .int .i64 o'.drop.win.to, .int .i64 o'.drop.serv] 31))
    case first =>
      cases hsd : s.drop with
      | true =>
        have hl : ld = st.load - o'.size := by rw [← HLD.out]; unfold loadOf; rw [hsd]; rfl
        subst hl
        rw [hsd] at y1
        go_wp2_with fail
        go_meet
        exact ⟨rfl, rfl⟩
      | false =>
        have hl : ld = st.load + o'.size := by rw [← HLD.out]; unfold loadOf; rw [hsd]; rfl
        subst hl
        rw [hsd] at y1
        go_wp2_with fail
        go_meet
        exact ⟨rfl, rfl⟩
    case rest =>
    obtain ⟨rfl, hwc⟩ := hcut
    subst hwc
    clear g0 g1 g2 g3 g4 g5 g6 g7 g8 g9 S6 HO6 HB6
    obtain ⟨d0, d1, d2, d3, d4, d5⟩ := S7.out.drv.cells
    have y0 : (w6.alloc (.cells #[.int .i64 o'.id, .int .i64 o'.size, .int .i64 o'.pick.place, .int .i64 o'.pick.win.fr, .int .i64 o'.pick.win.to, .int .i64 o'.pick.serv, .int .i64 o'.drop.place, .int .i64 o'.drop.win.fr, .int .i64 o'.drop.win.to, .int .i64 o'.drop.serv] 31)).cell? ⟨wr.heap.size, 0, none⟩ = some (.int .i64 s.ord) := HB7.out.cell rfl
    by_cases hroom : d.room < ld
    · have HD := Lib.hid (HU.out.fault HS.out (step_load HFO.out HNEW.out HFST.out (by rw [HLD.out]; exact hroom)) V1.out V2.out (by rw [HLS.out]; exact hn80))
      obtain ⟨⟨p0, f0⟩, ⟨p1, f1⟩, ⟨r0, r1⟩, hbp⟩ := S7.out.put k 14
      have HBP := Lib.hid hbp
      clear hbp
      go_wp2_with fail
      refine bodyPost_ret (v := .tuple #[.slice none 0 0, faultV k 14]) ?_ rfl (drive_fault HD.out HBP.out)
      simp [results, Tryz.results49, go_sem, r0, r1]
    obtain ⟨si, hsi⟩ : ∃ x, siteOf o' s = x := ⟨_, rfl⟩
    have HSI := Lib.hid hsi
    have HST := Lib.hid (rsite_any o' s (w6.alloc (.cells #[.int .i64 o'.id, .int .i64 o'.size, .int .i64 o'.pick.place, .int .i64 o'.pick.win.fr, .int .i64 o'.pick.win.to, .int .i64 o'.pick.serv, .int .i64 o'.drop.place, .int .i64 o'.drop.win.fr, .int .i64 o'.drop.win.to, .int .i64 o'.drop.serv] 31)))
    rw [hsi] at HST
    have hsv : 0 ≤ si.serv ∧ si.serv ≤ 1000000 := by
      rw [← hsi]
      unfold siteOf
      split
      · exact HKO.out.dropS
      · exact HKO.out.pickS
    obtain ⟨sv1, sv2⟩ := hsv
    clear hsi
    go_wp2_with fail
    refine HST.out.mono ?_
    rintro e w8 ⟨rfl, hb⟩
    have S8 := Lib.hid ((S7.out.next hb).alloc (.cells #[.int .i64 si.place, .int .i64 si.win.fr, .int .i64 si.win.to, .int .i64 si.serv] 29))
    have HO8 := Lib.hid ((HO7.out.keep hb (Nat.le_refl _)).alloc (.cells #[.int .i64 si.place, .int .i64 si.win.fr, .int .i64 si.win.to, .int .i64 si.serv] 29))
    have HB8 : Hid (Blk (w8.alloc (.cells #[.int .i64 si.place, .int .i64 si.win.fr, .int .i64 si.win.to, .int .i64 si.serv] 29)) wr.heap.size 37 [.int .i64 s.ord, .bool s.drop]) := (HB7.out.below hb HB7.out.lt).below ((Below.refl _ _).alloc (Nat.le_refl _) _) (HB7.out.below hb HB7.out.lt).lt
    have HX8 : Hid (SBox (w8.alloc (.cells #[.int .i64 si.place, .int .i64 si.win.fr, .int .i64 si.win.to, .int .i64 si.serv] 29)) w8.heap.size si) := Blk.new w8 _ _
    have HRG : Hid (∀ g, u10.ownBlock = some g → g < w8.heap.size) := fun g hg => ((HO7.out.keep hb (Nat.le_refl _)).1.lt g hg).2
    clear hb S7 HO7 HB7 HX7 HST d0 d1 d2 d3 d4 d5 y0 y1 o0 o1 o2 o3 o4 o5 o6 o7 o8 o9
    obtain ⟨bm, hbm⟩ := map_ptr S8.out.map
    subst hbm
    obtain ⟨tt, htt⟩ : ∃ t, time ⟨mn, ml⟩ st.at_ si.place = t := ⟨_, rfl⟩
    have HTT := Lib.hid htt
    obtain ⟨tb1, tb2⟩ := time_bounds (map_at S8.out.map).2.2 st.at_ si.place
    rw [htt] at tb1 tb2
    clear htt
    obtain ⟨lf1, lf2⟩ := HU.out.left
    go_wp2_with fail
    refine (rtime_val' base bm mn ml st.at_ si.place tt _ (by exact (map_at S8.out.map).1) (map_at S8.out.map).2.1 HTT.out).mono ?_
    rintro e w9 ⟨rr, dd, rfl, hw9⟩
    have S9 : Hid (Stay w X base (.pointer (some ⟨bm, 0, none⟩)) (some ⟨mn, ml⟩) d (some ⟨bo, oo, none⟩) n os (some ⟨b, off, none⟩) n' stops w9) := by rw [hw9]; exact S8.out.drewN _
    have HO9 : Hid (OwnK w9 X.heap.size 102 6 u10 k (vissV vs)) := by rw [hw9]; exact HO8.out.drewN _
    have HB9 : Hid (Blk w9 wr.heap.size 37 [.int .i64 s.ord, .bool s.drop]) := by rw [hw9]; exact HB8.out
    have HX9 : Hid (SBox w9 w8.heap.size si) := by rw [hw9]; exact HX8.out
    clear hw9 S8 HO8 HB8 HX8
    obtain ⟨d0, d1, d2, d3, d4, d5⟩ := S9.out.drv.cells
    obtain ⟨z0, z1, z2, z3⟩ := HX9.out.cells
    rcases twoV_form (FleetMath.served ⟨mn, ml⟩ st.at_ st.left si d.win.to) with ⟨bb, lv, hsr, htv⟩ | ⟨hsr, htv⟩
    case inr =>
      have HSR := Lib.hid hsr
      have HTV := Lib.hid htv
      clear hsr htv
      go_wp2_with fail
      refine (rserved_v base bm mn ml st.at_ st.left si d.win.to _ _ (by exact (map_at S9.out.map).1) (map_at S9.out.map).2.1 (map_at S9.out.map).2.2 lf1 lf2 sv1 sv2 HTV.out).mono ?_
      rintro e wA ⟨rfl, hb⟩
      have SA := Lib.hid (S9.out.next hb)
      clear hb S9 HO9 HB9 HX9 d0 d1 d2 d3 d4 d5 z0 z1 z2 z3
      have HD := Lib.hid (HU.out.fault HS.out (step_tardy HFO.out HNEW.out HFST.out (by rw [HLD.out]; omega) (by rw [HSI.out]; exact HSR.out)) V1.out V2.out (by rw [HLS.out]; exact hn80))
      obtain ⟨⟨p0, f0⟩, ⟨p1, f1⟩, ⟨r0, r1⟩, hbp⟩ := SA.out.put k 15
      have HBP := Lib.hid hbp
      clear hbp
      go_wp2_with fail
      refine bodyPost_ret (v := .tuple #[.slice none 0 0, faultV k 15]) ?_ rfl (drive_fault HD.out HBP.out)
      simp [results, Tryz.results49, go_sem, r0, r1]
    have HSR := Lib.hid hsr
    have HTV := Lib.hid htv
    clear hsr htv
    go_wp2_with fail
    refine (rserved_v base bm mn ml st.at_ st.left si d.win.to _ _ (by exact (map_at S9.out.map).1) (map_at S9.out.map).2.1 (map_at S9.out.map).2.2 lf1 lf2 sv1 sv2 HTV.out).mono ?_
    rintro e wA ⟨rfl, hb⟩
    have SA := Lib.hid (S9.out.next hb)
    have HOA := Lib.hid (HO9.out.keep hb (Nat.le_refl _))
    have HBA := Lib.hid (HB9.out.below hb HB9.out.lt)
    have HXA := Lib.hid (HX9.out.below hb)
    clear hb S9 HO9 HB9 HX9 d0 d1 d2 d3 d4 d5 z0 z1 z2 z3
    have HUN : Hid (Upto ⟨mn, ml⟩ d os stops (k + 1) ⟨si.place, lv, ld⟩ (vs ++ [⟨s, st.left + tt, bb, lv, ld⟩])) := by
      have := HU.out.next HS.out HKO.out HFO.out HNEW.out HFST.out (by rw [HLD.out]; omega) (by rw [HSI.out]; exact HSR.out)
      rw [HSI.out, HLD.out, HTT.out] at this
      exact this
    obtain ⟨y0, y1⟩ : wA.cell? ⟨wr.heap.size, 0, none⟩ = some (.int .i64 s.ord) ∧ wA.cell? ⟨wr.heap.size, 1, none⟩ = some (.bool s.drop) := ⟨HBA.out.cell rfl, HBA.out.cell rfl⟩
    have SB := Lib.hid (SA.out.alloc (.cells #[.int .i64 s.ord, .bool s.drop, .int .i64 (st.left + tt), .int .i64 bb, .int .i64 lv, .int .i64 ld] 102))
    have HOB := Lib.hid (HOA.out.alloc (.cells #[.int .i64 s.ord, .bool s.drop, .int .i64 (st.left + tt), .int .i64 bb, .int .i64 lv, .int .i64 ld] 102))
    have HVB : Hid (Blk (wA.alloc (.cells #[.int .i64 s.ord, .bool s.drop, .int .i64 (st.left + tt), .int .i64 bb, .int .i64 lv, .int .i64 ld] 102)) wA.heap.size 102 [.int .i64 s.ord, .bool s.drop, .int .i64 (st.left + tt), .int .i64 bb, .int .i64 lv, .int .i64 ld]) := Blk.new wA _ _
    have HXB : Hid (SBox (wA.alloc (.cells #[.int .i64 s.ord, .bool s.drop, .int .i64 (st.left + tt), .int .i64 bb, .int .i64 lv, .int .i64 ld] 102)) w8.heap.size si) := HXA.out.below ((Below.refl _ _).alloc (Nat.le_refl _) _)
    have hone : ∀ u ∈ [Value.int .i64 s.ord, .bool s.drop, .int .i64 (st.left + tt), .int .i64 bb, .int .i64 lv, .int .i64 ld], u.oneCell' = true := by
      intro u hu
      simp only [List.mem_cons, List.not_mem_nil, or_false] at hu
      rcases hu with rfl | rfl | rfl | rfl | rfl | rfl <;> rfl
    have HONE := Lib.hid hone
    clear hone SA HOA HBA HXA
    go_wp2_with (at_builtin; refine wpList_append_k (o := ⟨some 141, _, _, _, _, _⟩) rfl (.tmp 131) (.tmp 140) Tryz.underlying92 infoVis rfl (by decide) rfl HOB.out rfl HVB.out rfl rfl HONE.out (by unfold maxLen; omega) (by omega) SB.out.below SB.out.below.size SB.out.below.size (Nat.le_refl _) ?_; intro vB wB HOC HBC HGC; have SC := Lib.hid (SB.out.grow HOB.out HGC.out); have HXC : SBox wB w8.heap.size si := (HGC.out.block w8.heap.size (Blk.lt HXB.out) (fun e => absurd (HRG.out _ e.symm) (Nat.lt_irrefl _))).trans HXB.out; have z0 := HXC.cells.1; clear HXC)
    go_roundw
    case rel => exact ⟨k + 1, ⟨si.place, lv, ld⟩, vs ++ [⟨s, st.left + tt, bb, lv, ld⟩], by omega, by go_num, rfl, rfl, rfl, SC, (by show OwnK _ _ _ _ _ _ _; rw [visV_snoc]; exact HOC.out), HUN⟩
    case measure => simp [intOf]; omega
end Go.Proofs.YtilggpkmdmelmaaGreat.Route

namespace Go.Proofs.YtilggpkmdmelmaaGreat.Route
open Go.ChangeShapes Go.WideShapes Go.ChangeAt Go.RowKit Go.Proofs.YtilggpkmdmelmaaGreat.Mem Go.Proofs.YtilggpkmdmelmaaGreat.GeoMath Go.Proofs.YtilggpkmdmelmaaGreat.FleetMath Go.Proofs.YtilggpkmdmelmaaGreat.Rec Go.Proofs.YtilggpkmdmelmaaGreat.Geo Go.Proofs.YtilggpkmdmelmaaGreat.Span Go.Proofs.YtilggpkmdmelmaaGreat.Deal
theorem gives_optv {o : Option Int} {w w' : World} {v : Value} (h : v = optV o) (hb : Below w.heap.size w w') : Gives w (optV o) (.returned v) w' := ⟨by rw [h], hb⟩
theorem field_place (a b c d : Int) (u : World) : (Instr.field 29 (.agg #[.int .i64 a, .int .i64 b, .int .i64 c, .int .i64 d]) 0).run Tryz.prog u = .ok (.int .i64 a) u := by
  obtain ⟨i, hi, hz0, hz1, hz2⟩ := info_parts infoInt
  simp [Instr.field, run_underlying Tryz.underlying29, part, asAgg, sizeOf, typeInfo, hi, hz1]
set_option maxRecDepth 100000 in
set_option maxHeartbeats 4000000 in
theorem rcost_any (base : Nat) (pv : Value) (m : Option Mp) (d : Drv) (A : Option Addr) (n c : Nat) (os : List FleetMath.Ord) (A' : Option Addr) (n' c' : Nat) (stops : List Stp) (w : World) (h : MapP w 110 base pv m) (ho : Ords w w.heap.size A n os) (hs : Stps w w.heap.size A' n' stops) (hcc : n' ≤ c') :
    Calls Tryz.prog 31 #[pv, drvV d, .slice A n c, .slice A' n' c'] w (Gives w (optV (cost m d os stops))) := by
  have b0 : Below w.heap.size w (w.alloc (.cells #[.int .i64 d.id, .int .i64 d.room, .int .i64 d.home, .int .i64 d.win.fr, .int .i64 d.win.to, .bool d.retired] 33)) := (Below.refl _ _).alloc (Nat.le_refl _) _
  have HB0 := Lib.hid b0
  have HD0 : Hid (DBox (w.alloc (.cells #[.int .i64 d.id, .int .i64 d.room, .int .i64 d.home, .int .i64 d.win.fr, .int .i64 d.win.to, .bool d.retired] 33)) w.heap.size d) := Blk.new w _ _
  have HM := Lib.hid h
  have HOS := Lib.hid ho
  have HST := Lib.hid hs
  have HLO := Lib.hid ho.length
  have HLS := Lib.hid hs.length
  have hnm := Recs.le ho
  have hnm' := Recs.le hs
  obtain ⟨q, hq⟩ : ∃ q, pv = .pointer q := by
    rcases h with ⟨rfl, _⟩ | ⟨b, _, _, rfl, _⟩
    · exact ⟨_, rfl⟩
    · exact ⟨_, rfl⟩
  subst hq
  obtain ⟨r, hr⟩ : ∃ r, drive m d os stops = r := ⟨_, rfl⟩
  have HR := Lib.hid hr
  clear h ho hs b0 hr
  have HDRV := Lib.hid (rdrive_any base (.pointer q) m d A n c os A' n' c' stops _ (HM.out.keep HB0.out) (Recs.more (Recs.keep HOS.out HB0.out) HB0.out.size) (Recs.more (Recs.keep HST.out HB0.out) HB0.out.size) hcc)
  go_enter Tryz.func31, Tryz.ntmps31
  go_wp2_with fail
  refine HDRV.out.mono ?_
  rintro e w1 ⟨hb1, v, rfl, hv⟩
  have HR' := HR.out
  rw [HR'] at hv ⊢
  obtain ⟨A1, c1, rfl, _⟩ := hv.read
  have HB1 : Hid (Below w.heap.size w (w1.alloc (.cells #[.int .i64 (r.2.1 : Int), .int .i64 r.2.2] 63))) := by
    have := HB0.out.trans (hb1.mono HB0.out.size)
    exact this.alloc this.size _
  have HD1 : Hid (DBox (w1.alloc (.cells #[.int .i64 (r.2.1 : Int), .int .i64 r.2.2] 63)) w.heap.size d) := (HD0.out.below hb1).below ((Below.refl _ _).alloc (Nat.le_refl _) _)
  clear hb1 hv HR' HB0 HD0 HDRV
  obtain ⟨ff, hff⟩ : ∃ x, r.2.2 = x := ⟨_, rfl⟩
  rw [hff] at HB1 HD1 ⊢
  by_cases h0 : ff = 0
  case neg =>
    have HC : Hid (cost m d os stops = none) := by
      show cost m d os stops = none
      unfold cost
      split
      · rfl
      · rw [HR.out, hff, if_neg h0]
    obtain ⟨n1, n2⟩ : (ff == 0) = false ∧ (ff != 0) = true := by simp [h0]
    clear h0 hff
    go_wp2_with fail
    go_ret2
    exact gives_optv (by rw [HC.out]; rfl) HB1.out
  subst h0
  have hfine : (drive m d os stops).2.2 = 0 := by rw [HR.out]; exact hff
  obtain ⟨m', st, hm', _, h80, hkn, _⟩ := drive_fine hfine
  subst hm'
  obtain ⟨mn, ml⟩ := m'
  have HC : Hid (cost (some ⟨mn, ml⟩) d os stops = some (costM ⟨mn, ml⟩ os d.home stops)) := by
    show cost _ _ _ _ = _
    unfold cost
    simp only
    rw [if_pos hfine]
  have HFIN : Hid (∀ (k : Nat) (s : Stp), stops[k]? = some s → ∃ o i, find os s.ord = some o ∧ findI os s.ord = some i ∧ os[i]? = some o) := fun k s hk => by
    obtain ⟨o, hfo⟩ := drive_finds hfine hk
    obtain ⟨i, h1, h2⟩ := find_idx hfo
    exact ⟨o, i, hfo, h1, h2⟩
  have hn80 : n' ≤ 80 := by have := HLS.out; omega
  clear hfine hff hkn h80
  obtain ⟨bm, hbm⟩ := map_ptr HM.out
  subst hbm
  have HTB : Hid (∀ a b, 0 ≤ time ⟨mn, ml⟩ a b ∧ time ⟨mn, ml⟩ a b ≤ 1000000) := fun a b => time_bounds (map_at HM.out).2.2 a b
  obtain ⟨d0, d1, d2, d3, d4, d5⟩ := HD1.out.cells
  go_wp2_with fail
  go_loopw [12, 13, 14] (fun cv av iv wr => ∃ (k : Nat) (cc a : Int), k ≤ n' ∧ iv = .int .i64 k ∧ cv = .int .i64 cc ∧ av = .int .i64 a ∧ (0 ≤ cc ∧ cc ≤ 1000000 * (k : Int)) ∧ Hid (Below w.heap.size w wr) ∧ Hid (costM ⟨mn, ml⟩ os d.home stops = cc + costM ⟨mn, ml⟩ os a (stops.drop k))) (fun _ _ iv _ => n' - (intOf iv).toNat)
  case atStart => exact ⟨0, 0, d.home, Nat.zero_le _, rfl, rfl, rfl, ⟨Int.le_refl _, by simp⟩, HB1, by show costM _ _ _ _ = _; simp⟩
  case round =>
    clear HB1 HD1 d0 d1 d2 d3 d4 d5
    obtain ⟨k, cc, a, hk, rfl, rfl, rfl, ⟨hc1, hc2⟩, HB, HE⟩ := hrel
    by_cases hlt : k < n'
    case neg =>
      have HE2 : Hid (optV (cost (some ⟨mn, ml⟩) d os stops) = .tuple #[.int .i64 cc, .bool true]) := by
        show optV _ = _
        rw [HC.out, HE.out, List.drop_of_length_le (by have := HLS.out; omega)]
        simp [costM, optV]
      go_wp2_with fail
      go_ret2
      exact gives_optv HE2.out.symm HB.out
    have HSR : Hid (Stps wr w.heap.size A' n' stops) := Recs.keep HST.out HB.out
    have HOR : Hid (Ords wr w.heap.size A n os) := Recs.keep HOS.out HB.out
    obtain ⟨b, off, s, hA, hbw, hs, hdr, k0, k1⟩ := Stps.at_ HSR.out hlt
    subst hA
    obtain ⟨o, i, hfo, hfi, hoi⟩ := HFIN.out k s hs
    have hin : i < n := by have := (List.getElem?_eq_some_iff.1 hoi).1; have := HLO.out; omega
    obtain ⟨bo, oo, o', hA2, hbo, ho', _, g0, g1, g2, g3, g4, g5, g6, g7, g8, g9⟩ := Ords.at_ HOR.out hin
    subst hA2
    have e' : o' = o := by
      rw [hoi] at ho'
      injection ho' with ho'
      exact ho'.symm
    subst e'
    obtain ⟨pl, hpl⟩ : ∃ p, (siteOf o' s).place = p := ⟨_, rfl⟩
    have HPL := Lib.hid hpl
    obtain ⟨tt, htt⟩ : ∃ t, time ⟨mn, ml⟩ a pl = t := ⟨_, rfl⟩
    have HTT := Lib.hid htt
    obtain ⟨tb1, tb2⟩ := HTB.out a pl
    rw [htt] at tb1 tb2
    have HEN : Hid (costM ⟨mn, ml⟩ os d.home stops = (cc + tt) + costM ⟨mn, ml⟩ os pl (stops.drop (k + 1))) := by
      show costM _ _ _ _ = _
      rw [HE.out, hdr]
      simp only [costM]
      rw [siteAt_of hfo, hpl, htt]
      omega
    have HFD := Lib.hid (rfind_any (some ⟨bo, oo, none⟩) n c os s.ord wr.drew _ (by exact HOR.out))
    rw [hfi] at HFD
    simp only [idxV] at HFD
    have HSI : Hid (Calls Tryz.prog 50 #[ordV o', stpV s] wr.drew (Gives wr.drew (.agg #[.int .i64 pl, .int .i64 (siteOf o' s).win.fr, .int .i64 (siteOf o' s).win.to, .int .i64 (siteOf o' s).serv]))) := by
      rw [← hpl]
      exact rsite_any o' s wr.drew
    clear hs hdr hfo hfi hoi ho' hpl htt HE
    have hki : (k : Int) < (n' : Int) := by omega
    have hii : (i : Int) < (n : Int) := by omega
    have hfp : ∀ u : World, (Instr.field 29 (.agg #[.int .i64 pl, .int .i64 (siteOf o' s).win.fr, .int .i64 (siteOf o' s).win.to, .int .i64 (siteOf o' s).serv]) 0).run Tryz.prog u = .ok (.int .i64 pl) u := fun u => field_place _ _ _ _ u
    go_upto_region 9 with fail
    go_cut [15] (fun pv wx => pv = .int .i64 pl ∧ Hid (Below w.heap.size w wx))
    case first =>
      go_region_law (first | (go_simp; go_at_call 51; refine HFD.out.mono ?_; rintro e w' ⟨rfl, rfl⟩) | (go_simp; go_at_call 50; refine HSI.out.mono ?_; rintro e w5 ⟨rfl, hb⟩; have HB5 := Lib.hid (HB.out.drew.trans (hb.mono HB.out.drew.size)); clear hb))
      all_goals
        go_wp2_with fail
        go_meet
        exact ⟨rfl, HB5⟩
    case rest =>
    obtain ⟨rfl, HB6⟩ := hcut
    clear hfp g0 g1 g2 g3 g4 g5 g6 g7 g8 g9 k0 k1 HB HSR HOR HFD HSI
    go_wp2_with fail
    refine (rtime_val' base bm mn ml a pl tt _ (by exact (map_at (HM.out.keep HB6.out)).1) (map_at HM.out).2.1 HTT.out).mono ?_
    rintro e w7 ⟨rr, dd, rfl, hw7⟩
    have HB7 : Hid (Below w.heap.size w w7) := by rw [hw7]; exact below_drewN HB6.out _
    clear hw7 HB6
    go_wp2_with fail
    go_roundw
    case rel => exact ⟨k + 1, cc + tt, pl, by omega, by go_num, rfl, rfl, ⟨by omega, by omega⟩, HB7, HEN⟩
    case measure => simp [intOf]; omega
end Go.Proofs.YtilggpkmdmelmaaGreat.Route
