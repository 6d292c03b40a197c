/-
  SlackLimit walked.
-/
import Derived.Test.YtobcmlcmbnldlaaSlackLimitW
import Derived.Test.YtobcmlcmbnldlaaSlackRuns
import Derived.Deep.DeepCutAuto
namespace Go.Proofs.Ytobcmlcmbnldlaa.Slack
open Go.ChangeShapes Go.WideShapes Go.ChangeAt Go.RowKit Go.Proofs.Ytobcmlcmbnldlaa.Mem Go.Proofs.Ytobcmlcmbnldlaa.GeoMath Go.Proofs.Ytobcmlcmbnldlaa.FleetMath Go.Proofs.Ytobcmlcmbnldlaa.Rec Go.Proofs.Ytobcmlcmbnldlaa.Geo Go.Proofs.Ytobcmlcmbnldlaa.Span Go.Proofs.Ytobcmlcmbnldlaa.Deal Go.Proofs.Ytobcmlcmbnldlaa.Keep Go.Proofs.Ytobcmlcmbnldlaa.Route
set_option linter.unusedVariables false

set_option maxRecDepth 100000 in
set_option maxHeartbeats 4000000 in
theorem slackLimit_walk (x : Wd) (ts : List Int) (os : List FleetMath.Ord) (d : Drv) (A : Option Addr) (n c : Nat) (stops : List Stp) (at_ later : Int) (W : World) (hts : Ints W W.heap.size x.ts.a x.ts.n ts) (hos : Ords W W.heap.size x.os.a x.os.n os) (hst : Stps W W.heap.size A n stops) (hc : n ≤ c) (hro : x.os.n * 80 ≤ 140737488351232) :
    Calls Try.prog 8 #[wdV x, drvV d, .slice A n c, .int .i64 at_, .int .i64 later] W fun e w' => e = .returned (.bool true) ∧ Below W.heap.size W w' := by
  have HTS := Lib.hid hts
  have HOS := Lib.hid hos
  have HST := Lib.hid hst
  have HLS := Lib.hid hst.length
  have HLO := Lib.hid hos.length
  have hnm := Recs.le hos
  have hnm' := Recs.le hst
  clear hts hos hst
  obtain ⟨m, hm⟩ : ∃ m, mapOf x.n ts = m := ⟨_, rfl⟩
  have HM := Lib.hid hm
  clear hm
  have HB0 : Hid (Below W.heap.size W ((W.alloc (.cells #[.int .i64 x.n, x.ts.v, x.ds.v, x.os.v, x.pl.v] 50)).alloc (.cells #[.int .i64 d.id, .int .i64 d.room, .int .i64 d.home, .int .i64 d.win.fr, .int .i64 d.win.to, .bool d.retired] 33))) := ((Below.refl _ _).alloc (Nat.le_refl _) _).alloc (by simp) _
  have HW0 : Hid (WBox ((W.alloc (.cells #[.int .i64 x.n, x.ts.v, x.ds.v, x.os.v, x.pl.v] 50)).alloc (.cells #[.int .i64 d.id, .int .i64 d.room, .int .i64 d.home, .int .i64 d.win.fr, .int .i64 d.win.to, .bool d.retired] 33)) W.heap.size x) := (WBox.new W x).below ((Below.refl _ _).alloc (Nat.le_refl _) _)
  have HD0 : Hid (DBox ((W.alloc (.cells #[.int .i64 x.n, x.ts.v, x.ds.v, x.os.v, x.pl.v] 50)).alloc (.cells #[.int .i64 d.id, .int .i64 d.room, .int .i64 d.home, .int .i64 d.win.fr, .int .i64 d.win.to, .bool d.retired] 33)) (W.heap.size + 1) d) := by
    have := Blk.new (W.alloc (.cells #[.int .i64 x.n, x.ts.v, x.ds.v, x.os.v, x.pl.v] 50)) 33 [.int .i64 d.id, .int .i64 d.room, .int .i64 d.home, .int .i64 d.win.fr, .int .i64 d.win.to, .bool d.retired]
    rw [World.size_alloc] at this
    exact this
  obtain ⟨⟨vs, fk, fe⟩, hdr⟩ : ∃ r, drive m d os stops = r := ⟨_, rfl⟩
  have HDR := Lib.hid hdr
  clear hdr
  obtain ⟨xs, hxs⟩ : ∃ xs, (latestR m d os stops).getD [] = xs := ⟨_, rfl⟩
  obtain ⟨rb, hrb⟩ : ∃ b, (latestR m d os stops).isSome = b := ⟨_, rfl⟩
  have HXS := Lib.hid hxs
  have HRB := Lib.hid hrb
  clear hxs hrb
  go_enter Try.func8, Try.ntmps8
  go_wp2_with fail
  refine (kmaps_any x ts _ (by exact Reads.more (Reads.keep HTS.out HB0.out) HB0.out.size)).mono ?_
  rintro e w1 ⟨hb1, q, r, rfl, hq, _⟩
  have L1 : Hid (LR W q m x os d A n stops w1) := by
    have HM' := HM.out
    rw [HM'] at hq
    exact ⟨HB0.out.trans (hb1.mono HB0.out.size), hq.lower HB0.out.size, HW0.out.below hb1, HD0.out.below hb1, HOS.out, HST.out⟩
  clear hb1 hq HB0 HW0 HD0 HTS HOS HST HM
  obtain ⟨c0, c1, c2, c3, c4⟩ := L1.out.wd.cells
  obtain ⟨d0, d1, d2, d3, d4, d5⟩ := L1.out.drv.cells
  go_wp2_with fail
  refine (ldrive W q m x os d d A n c stops vs fk fe _ (by exact L1.out) hc HDR.out).mono ?_
  rintro e w2 ⟨B, c5, rfl, hb, hvs⟩
  have L3' := Lib.hid ((L1.out.below hb).alloc (.cells #[.int .i64 fk, .int .i64 fe] 64))
  have F3' : Hid (FBox (w2.alloc (.cells #[.int .i64 fk, .int .i64 fe] 64)) w2.heap.size fk fe) := Blk.new w2 _ _
  have V3' : Hid (Viss (w2.alloc (.cells #[.int .i64 fk, .int .i64 fe] 64)) (w2.alloc (.cells #[.int .i64 fk, .int .i64 fe] 64)).heap.size B vs.length vs) := Recs.more (Recs.alloc hvs (Nat.le_refl _) _) (by simp)
  clear hb hvs L1 c0 c1 c2 c3 c4 d0 d1 d2 d3 d4 d5
  go_upto_region 5 with fail
  obtain ⟨w3, hw3⟩ : ∃ u, w2.alloc (.cells #[.int .i64 fk, .int .i64 fe] 64) = u := ⟨_, rfl⟩
  obtain ⟨g3, hg3⟩ : ∃ g, w2.heap.size = g := ⟨_, rfl⟩
  rw [hw3] at L3' F3' V3' ⊢
  rw [hg3] at F3' ⊢
  have L3 := L3'
  have F3 := F3'
  have V3 := V3'
  clear hw3 hg3 L3' F3' V3'
  obtain ⟨c0, c1, c2, c3, c4⟩ := L3.out.wd.cells
  obtain ⟨d0, d1, d2, d3, d4, d5⟩ := L3.out.drv.cells
  go_wp2_with fail
  refine (glatest_any W.heap.size _ m d _ _ _ os A n c stops _ (by exact L3.out.map) (by exact L3.out.ords) (by exact L3.out.stps) hc x.os.h).mono ?_
  rintro e w4 ⟨hb4, vl, rfl, hvl⟩
  rw [HXS.out] at hvl
  rw [HRB.out]
  obtain ⟨C, cl, rfl, _, hx4⟩ := hvl.read
  have L4 := Lib.hid (L3.out.below hb4)
  have F4 := Lib.hid (F3.out.below hb4)
  have V4 : Hid (Viss w4 w4.heap.size B vs.length vs) := Recs.more (Recs.keep V3.out hb4) hb4.size
  have X4 : Hid (Ints w4 w4.heap.size C xs.length xs) := hx4
  clear hb4 hvl hx4 L3 F3 V3 c0 c1 c2 c3 c4 d0 d1 d2 d3 d4 d5
  obtain ⟨y0, y1⟩ := F4.out.cells
  by_cases he : fe = 0
  case neg =>
    have hne : (drive m d os stops).2.2 ≠ 0 := by rw [HDR.out]; exact he
    have hz : vs = [] := by
      have := drive_empty hne
      rw [HDR.out] at this
      exact this
    obtain ⟨hx0, hr0⟩ := lat_bad hne
    rw [HXS.out] at hx0
    rw [HRB.out] at hr0
    subst hz; subst hx0; subst hr0
    have e1 : (fe == 0) = false := by simpa using he
    simp only [List.length_nil]
    clear he hne
    go_wp2_with fail
    refine (fgood_any fk fe _).mono ?_
    rintro e w5 ⟨rfl, hb⟩
    have L5 := Lib.hid (L4.out.below hb)
    clear hb L4 F4 V4 X4 y0 y1
    go_wp2_with fail
    refine (runs_any _).mono ?_
    rintro e w6 ⟨rfl, hb⟩
    have LZ : Hid (Below W.heap.size W w6) := L5.out.old.trans (hb.mono L5.out.old.size)
    clear hb
    go_wp2_with fail
    go_ret
    exact ⟨rfl, LZ.out⟩
  subst he
  have hfine : (drive m d os stops).2.2 = 0 := by rw [HDR.out]
  obtain ⟨hr1, hx1, hv1, h80, hlat⟩ := lat_fine hfine
  rw [HRB.out] at hr1
  rw [HXS.out] at hx1 hlat
  rw [HDR.out] at hv1
  simp only at hv1
  rw [HLS.out] at hx1 hv1 h80
  subst hr1
  have HFN := Lib.hid hfine
  have HLAT := Lib.hid hlat
  have HXL := Lib.hid hx1
  have HVL := Lib.hid hv1
  rw [hx1] at X4 ⊢
  rw [hv1] at V4 ⊢
  clear hfine hlat hx1 hv1 HRB
  go_wp2_with fail
  refine (fgood_any fk 0 _).mono ?_
  rintro e w5 ⟨rfl, hb⟩
  have L5 := Lib.hid (L4.out.below hb)
  have V5 : Hid (Viss w5 w5.heap.size B n vs) := Recs.more (Recs.keep V4.out hb) hb.size
  have X5 : Hid (Ints w5 w5.heap.size C n xs) := Reads.more (Reads.keep X4.out hb) hb.size
  clear hb L4 F4 V4 X4 y0 y1
  rcases Nat.eq_zero_or_pos n with hn0 | hn0
  · subst hn0
    go_wp2_with fail
    refine (runs_any _).mono ?_
    rintro e w6 ⟨rfl, hb⟩
    have LZ : Hid (Below W.heap.size W w6) := L5.out.old.trans (hb.mono L5.out.old.size)
    clear hb
    go_wp2_with fail
    go_ret
    exact ⟨rfl, LZ.out⟩
  obtain ⟨n1, hn1⟩ : ∃ n1, n = n1 + 1 := ⟨n - 1, by omega⟩
  have hn2 : (n : Int) - 1 = (n1 : Int) := by omega
  have hn3 : ¬ (n : Int) = 0 := by omega
  have hn4 : ((n : Int) == 0) = false := by simpa using hn3
  have hn5 : n ≠ 0 := by omega
  have HN1 := Lib.hid hn1
  clear hn1
  go_wp2_with fail
  refine (within_val at_ 0 (n1 : Int) _ (Int.le_refl _) (by omega) (by have := HN1.out; omega)).mono ?_
  rintro e w6 ⟨rfl, hb⟩
  have L6 := Lib.hid (L5.out.below hb)
  have V6 : Hid (Viss w6 w6.heap.size B n vs) := Recs.more (Recs.keep V5.out hb) hb.size
  have X6 : Hid (Ints w6 w6.heap.size C n xs) := Reads.more (Reads.keep X5.out hb) hb.size
  obtain ⟨k, hk⟩ : ∃ k : Nat, withinV at_ 0 (n1 : Int) = (k : Int) := by
    have := within_in (a := at_) (lo := 0) (hi := (n1 : Int)) (by omega)
    exact ⟨(withinV at_ 0 (n1 : Int)).toNat, by omega⟩
  have hkn : k < n := by
    have := within_in (a := at_) (lo := 0) (hi := (n1 : Int)) (by omega)
    have := HN1.out
    omega
  rw [hk]
  clear hk hb L5 V5 X5 hn2 hn3 hn4 hn5 HN1
  have hk0 : (0 : Int) ≤ (k : Int) := by omega
  have hk1 : (k : Int) < (n : Int) := by omega
  obtain ⟨bS, oS, s, hA, _, hs, _, _, _⟩ := Stps.at_ L6.out.stps hkn
  subst hA
  obtain ⟨bV, oV, v, hBV, _, hv, _, _, _, _, _, _, _⟩ := Viss.at_ V6.out hkn
  subst hBV
  obtain ⟨bX, oX, l, hCX, hl, _, _, _⟩ := Ints.at_ X6.out hkn
  subst hCX
  obtain ⟨o, hfo⟩ := drive_finds HFN.out hs
  obtain ⟨i0, _, hi0⟩ := find_idx hfo
  have hoid := (find_some hfo).2
  obtain ⟨m', l', hm', hl', hl1, hl2, hv0, hv2, hto, hlim⟩ := limit_drive HFN.out hs (by rw [HDR.out]; exact hv) hi0 hoid
  rw [← HLAT.out m' hm', hl] at hl'
  injection hl' with hl'
  subst hl'
  have hi0n : i0 < x.os.n := by have := (List.getElem?_eq_some_iff.1 hi0).1; have := HLO.out; omega
  have HSK := Lib.hid hs
  have HVK := Lib.hid hv
  have HXK := Lib.hid hl
  have HOI := Lib.hid hi0
  have HID := Lib.hid hoid
  have HL1 := Lib.hid hl1
  have HHAS := Lib.hid hl2
  have HV0 := Lib.hid hv0
  have HV2 := Lib.hid hv2
  have HTO := Lib.hid hto
  have HLIM := Lib.hid hlim
  have HDI : Hid (Dist os) := by
    obtain ⟨_, _, _, _, _, hkk, _⟩ := drive_fine HFN.out
    exact (known_iff.1 hkk).2.2
  clear hs hv hl hfo hi0 hoid hl1 hl2 hv0 hv2 hto hlim hm'
  obtain ⟨c0, c1, c2, c3, c4⟩ := L6.out.wd.cells
  go_upto_region 11 with fail
  go_cut [19] (fun tv wx => ∃ gT cT, tv = .slice (some ⟨gT, 0, none⟩) x.os.n cT ∧ Hid (LM w6 gT cT x.os.n os wx))
  case first =>
    have HY : Hid (Ords (w6.alloc (.cells #[] 31)) w6.heap.size x.os.a x.os.n os) := Recs.alloc L6.out.ords (Nat.le_refl _) _
    have HOW : Hid (OwnK (w6.alloc (.cells #[] 31)) w6.heap.size 31 10 (.slice (some ⟨w6.heap.size, 0, none⟩) 0 0) 0 []) := OwnK.new0 w6 _ _ _ (Nat.le_refl _)
    have HBE : Hid (Below w6.heap.size w6 (w6.alloc (.cells #[] 31))) := (Below.refl _ _).alloc (Nat.le_refl _) _
    have e3 : (w6.alloc (.cells #[] 31)).cell? ⟨W.heap.size, 3, none⟩ = some (.slice x.os.a x.os.n x.os.c) := (L6.out.alloc _).cells.2
    go_wp2_with (at_builtin; refine wpList_append_ks (o := ⟨some 74, _, _, _, _, _⟩) rfl (.tmp 71) (.tmp 73) Try.underlying36 infoOrd rfl (by decide) rfl HOW.out rfl HY.out rfl (ordsV_one _) (by unfold maxLen; omega) (by omega) HBE.out HBE.out.size HBE.out.size (Nat.le_refl _) ?_; intro vB wB HO2 HB2 HG2)
    have HO3 : OwnK wB w6.heap.size 31 10 vB x.os.n (ordsV os) := by
      have := HO2.out
      rw [Nat.zero_add, List.nil_append] at this
      exact this
    obtain ⟨gT, cT, rfl⟩ : ∃ gT cT, vB = .slice (some ⟨gT, 0, none⟩) x.os.n cT := by
      rcases HO3.blk with ⟨_, h0⟩ | ⟨g, cap, cur, e, _⟩
      · omega
      · exact ⟨g, cap, e⟩
    go_meet
    exact ⟨gT, cT, rfl, HB2.out, HO3⟩
  case rest =>
  obtain ⟨gT, cT, rfl, M7⟩ := hcut
  obtain ⟨w7, rfl⟩ : ∃ u, u = wc := ⟨_, rfl⟩
  clear c0 c1 c2 c3 c4
  go_wp2_with fail
  go_loopw [20] (fun iv wr => ∃ (j : Nat) (ps : List FleetMath.Ord), j ≤ x.os.n ∧ iv = .int .i64 (j : Int) ∧ Hid (LM w6 gT cT x.os.n ps wr) ∧ Hid (∀ t : Nat, (ps[t]?).map (·.id) = (os[t]?).map (·.id)) ∧ Hid (j ≤ i0 → ps = os)) (fun iv _ => x.os.n - (intOf iv).toNat)
  case atStart => exact ⟨0, os, Nat.zero_le _, rfl, M7, fun _ => rfl, fun _ => rfl⟩
  case round =>
    clear M7
    obtain ⟨j, ps, hj, rfl, M, HIDS, HPS⟩ := hrel
    by_cases hlt : j < x.os.n
    case neg =>
      have hji : ¬ (j : Int) < (x.os.n : Int) := by omega
      go_wp2_with fail
      refine (runs_any _).mono ?_
      rintro e w8 ⟨rfl, hb⟩
      have LZ : Hid (Below W.heap.size W w8) := by
        have h1 := L6.out.old.trans (M.out.on.mono L6.out.old.size)
        exact h1.trans (hb.mono h1.size)
      clear hb
      go_wp2_with fail
      go_ret
      exact ⟨rfl, LZ.out⟩
    have hji : (j : Int) < (x.os.n : Int) := by omega
    have hj0 : (0 : Int) ≤ (j : Int) := by omega
    obtain ⟨p, hp⟩ : ∃ p, ps[j]? = some p := ⟨_, List.getElem?_eq_getElem (by have := M.out.len; omega)⟩
    have HP := Lib.hid hp
    obtain ⟨p', hp', hpid⟩ : ∃ p', os[j]? = some p' ∧ p'.id = p.id := by
      have h := HIDS.out j
      rw [hp] at h
      cases hq : os[j]? with
      | none => rw [hq] at h; cases h
      | some p' => rw [hq] at h; injection h with h; exact ⟨p', rfl, h.symm⟩
    have HP' := Lib.hid hp'
    have HPI := Lib.hid hpid
    clear hp hp' hpid
    obtain ⟨nb, hnb⟩ : ∃ b, (p.id != s.ord) = b := ⟨_, rfl⟩
    have HNB := Lib.hid hnb
    clear hnb
    have STW : Hid (∀ u, Below wr.heap.size wr u → LR W q m x os d (some ⟨bS, oS, none⟩) n stops u) := fun u hu => L6.out.below (M.out.below hu).on
    go_upto_region 15 with fail
    go_cut [91] (fun bv wx => bv = .bool nb ∧ Hid (Below wr.heap.size wr wx))
    case first =>
      refine wp_region_steps (valRF [81, 82, 83, 84, 85, 86, 87, 88, 89, 90, 91] [.slice (some ⟨gT, 0, none⟩) x.os.n cT, .int .i64 ((j : Nat) : Int), .pointer (some ⟨gT, 0 + j * 10, none⟩), .pointer (some ⟨gT, 0 + j * 10, none⟩), .int .i64 p.id, .slice (some ⟨bS, oS, none⟩) n c, .int .i64 ((k : Nat) : Int), .pointer (some ⟨bS, oS + k * 2, none⟩), .pointer (some ⟨bS, oS + k * 2, none⟩), .int .i64 s.ord, .bool nb]) (by kernel_rfl) (by kernel_rfl) (by kernel_rfl) (fun _ _ => rfl) (by kernel_rfl) valRF.mon ?_ ?_
      · refine ⟨?_, ?_, ?_, ?_, ?_, ?_, ?_, ?_, ?_, ?_, ?_, trivial⟩
        · exact valRF.pureStep rfl 81 rfl rfl (by simp) _ rfl fun listed a u D hI hr hn => exec_move (.inl rfl) (hI.out 19 (by kernel_rfl))
        · exact valRF.pureStep rfl 82 rfl rfl (by simp) _ rfl fun listed a u D hI hr hn => exec_move (.inl rfl) (hI.out 20 (by kernel_rfl))
        · exact valRF.pureStep rfl 83 rfl rfl (by simp) _ rfl fun listed a u D hI hr hn => exec_index_ord rfl (valRF.val hI hr hn 0 (by kernel_rfl) rfl rfl) (valRF.val hI hr hn 1 (by kernel_rfl) rfl rfl) hlt hnm
        · exact valRF.pureStep rfl 84 rfl rfl (by simp) _ rfl fun listed a u D hI hr hn => exec_oid rfl (valRF.val hI hr hn 2 (by kernel_rfl) rfl rfl)
        · exact valRF.pureStep rfl 85 rfl rfl (by simp) _ rfl fun listed a u D hI hr hn => exec_load rfl (valRF.val hI hr hn 3 (by kernel_rfl) rfl rfl) (run_load_i (ord_on (M.out.below (below_drew hI.old)).ords HP.out).1)
        · exact valRF.pureStep rfl 86 rfl rfl (by simp) _ rfl fun listed a u D hI hr hn => exec_move (.inl rfl) (hI.out 2 (by kernel_rfl))
        · exact valRF.pureStep rfl 87 rfl rfl (by simp) _ rfl fun listed a u D hI hr hn => exec_move (.inl rfl) (hI.out 18 (by kernel_rfl))
        · exact valRF.pureStep rfl 88 rfl rfl (by simp) _ rfl fun listed a u D hI hr hn => exec_index_stp rfl (valRF.val hI hr hn 5 (by kernel_rfl) rfl rfl) (valRF.val hI hr hn 6 (by kernel_rfl) rfl rfl) hkn hnm'
        · exact valRF.pureStep rfl 89 rfl rfl (by simp) _ rfl fun listed a u D hI hr hn => exec_sord rfl (valRF.val hI hr hn 7 (by kernel_rfl) rfl rfl)
        · exact valRF.pureStep rfl 90 rfl rfl (by simp) _ rfl fun listed a u D hI hr hn => exec_load rfl (valRF.val hI hr hn 8 (by kernel_rfl) rfl rfl) (run_load_i (stp_on (STW.out u (below_drew hI.old)).stps HSK.out).1)
        · exact valRF.pureStep rfl 91 rfl rfl (by simp) _ rfl fun listed a u D hI hr hn => exec_neqi rfl (valRF.val hI hr hn 4 (by kernel_rfl) rfl rfl) (valRF.val hI hr hn 9 (by kernel_rfl) rfl rfl) HNB.out
      · intro listed a u D hI hall
        have eR : a.tmps.getD 91 undef = .bool nb := (hI.fact 10 ⟨hall 10 (by simp), fun k hk => by cases hk⟩).1
        have hold := below_drew hI.old
        have hl := hI.fill [81, 82, 83, 84, 85, 86, 87, 88, 89, 90, 91] (by kernel_rfl)
        clear hI hall
        obtain ⟨σ, hσ⟩ : ∃ σ : Nat → Value, ∀ t, a.tmps.getD t undef = σ t := ⟨_, fun _ => rfl⟩
        simp only [hσ] at hl eR
        clear hσ
        simp only [List.foldl_cons, List.foldl_nil, List.setIfInBounds_toArray, List.set_cons_zero, List.set_cons_succ, eR] at hl
        subst hl
        go_wp2_with fail
        go_meet
        exact ⟨rfl, hold⟩
    case rest =>
    obtain ⟨rfl, HB8⟩ := hcut
    obtain ⟨w8, rfl⟩ : ∃ u, u = wc := ⟨_, rfl⟩
    have M8 := Lib.hid (M.out.below HB8.out)
    clear HB8 M STW
    cases nb with
    | true =>
      go_wp2_with fail
      go_roundw
      case rel => exact ⟨j + 1, ps, by omega, by go_num, M8, HIDS, fun h => HPS.out (by omega)⟩
      case measure => simp [intOf]; omega
    | false =>
    have hps : p.id = s.ord := by
      have := HNB.out
      simpa using this
    have hij : j = i0 := idx_unique HDI.out HOI.out HP'.out (by rw [HPI.out, hps, HID.out])
    have hpe : ps = os := HPS.out (by omega)
    subst hpe
    subst hij
    have hpo : o = p := by
      have := HP.out
      rw [HOI.out] at this
      injection this
    subst hpo
    clear HP HP' HPI HNB hps HPS
    have LW : Hid (∀ u, Below w8.heap.size w8 u → LR W q m x ps d (some ⟨bS, oS, none⟩) n stops u) := fun u hu => L6.out.below (M8.out.below hu).on
    obtain ⟨_, sd⟩ := stp_on (LW.out w8 (Below.refl _ _)).stps HSK.out
    go_upto_if 100 with fail
    go_cut [21] (fun pv wx => wx = w8 ∧ pv = .pointer (some ⟨gT, j * 10 + sOff s, none⟩))
    case first =>
      cases hd : s.drop with
      | true =>
        have HOF : Hid (sOff s = 6) := by show _ = _; simp [sOff, hd]
        rw [hd] at sd
        clear hd
        go_wp2_with fail
        go_meet
        exact ⟨rfl, by rw [HOF.out]⟩
      | false =>
        have HOF : Hid (sOff s = 2) := by show _ = _; simp [sOff, hd]
        rw [hd] at sd
        clear hd
        go_wp2_with fail
        go_meet
        exact ⟨rfl, by rw [HOF.out]⟩
    case rest =>
    obtain ⟨hwc, rfl⟩ := hcut
    subst hwc
    obtain ⟨w8, rfl⟩ : ∃ u, u = wc := ⟨_, rfl⟩
    obtain ⟨io, hio⟩ : ∃ io, j * 10 + sOff s = io := ⟨_, rfl⟩
    obtain ⟨si, hsi⟩ : ∃ si, siteOf o s = si := ⟨_, rfl⟩
    have SITE : Hid (∀ u, LM w6 gT cT x.os.n ps u → u.cell? ⟨gT, io + 1, none⟩ = some (.int .i64 si.win.fr) ∧ u.cell? ⟨gT, io + 1 + 1, none⟩ = some (.int .i64 si.win.to)) := fun u hu => by
      have := (hu.site (s := s) HOI.out).2
      rw [hio, hsi] at this
      exact this
    have HTURN : Hid (∀ u, LM w6 gT cT x.os.n ps u → u.frozen? ⟨gT, io + 1, none⟩ = false ∧ ∀ t, LM w6 gT cT x.os.n (ps.set j (turnO o s t)) (u.setCell ⟨gT, io + 1, none⟩ (.int .i64 t))) := fun u hu => by
      have := hu.turn (s := s) HOI.out
      rw [hio] at this
      exact this
    rw [hsi] at HHAS HV2 HTO HLIM
    rw [hio]
    clear hio hsi sd
    obtain ⟨vb, hvb⟩ : ∃ b, v.start = b := ⟨_, rfl⟩
    have HVB := Lib.hid hvb
    rw [hvb] at HL1 HV0 HV2 HLIM
    clear hvb
    obtain ⟨til, hto⟩ : ∃ b, si.win.to = b := ⟨_, rfl⟩
    have HTE := Lib.hid hto
    rw [hto] at HV2 HTO HLIM
    clear hto
    -- @@
    go_upto_region 19 with fail
    go_cut [126] (fun bv wx => bv = .bool false ∧ Hid (Below w8.heap.size w8 wx))
    case first =>
      refine wp_region_steps (valRF [105, 106, 107, 108, 109, 110, 111, 112, 113, 114, 115, 116, 117, 118, 119, 120, 121, 122, 123, 124, 125, 126] [.slice (some ⟨bX, oX, none⟩) n cl, .int .i64 ((k : Nat) : Int), .pointer (some ⟨bX, oX + k, none⟩), .int .i64 l, .slice (some ⟨bV, oV, none⟩) n c5, .int .i64 ((k : Nat) : Int), .pointer (some ⟨bV, oV + k * 6, none⟩), .pointer (some ⟨bV, oV + k * 6 + 3, none⟩), .int .i64 vb, .bool false, .bool false, .pointer (some ⟨gT, io, none⟩), .pointer (some ⟨gT, io, none⟩), .pointer (some ⟨gT, io + 1, none⟩), winV si.win, .slice (some ⟨bX, oX, none⟩) n cl, .int .i64 ((k : Nat) : Int), .pointer (some ⟨bX, oX + k, none⟩), .int .i64 l, .bool true, .bool false, .bool false]) (by kernel_rfl) (by kernel_rfl) (by kernel_rfl) (fun _ _ => rfl) (by kernel_rfl) valRF.mon ?_ ?_
      · refine ⟨?_, ?_, ?_, ?_, ?_, ?_, ?_, ?_, ?_, ?_, ?_, ?_, ?_, ?_, ?_, ?_, ?_, ?_, ?_, ?_, ?_, ?_, trivial⟩
        · exact valRF.pureStep rfl 105 rfl rfl (by simp) _ rfl fun listed a u D hI hr hn => exec_move (.inl rfl) (hI.out 16 (by kernel_rfl))
        · exact valRF.pureStep rfl 106 rfl rfl (by simp) _ rfl fun listed a u D hI hr hn => exec_move (.inl rfl) (hI.out 18 (by kernel_rfl))
        · exact valRF.pureStep rfl 107 rfl rfl (by simp) _ rfl fun listed a u D hI hr hn => exec_index_int rfl (valRF.val hI hr hn 0 (by kernel_rfl) rfl rfl) (valRF.val hI hr hn 1 (by kernel_rfl) rfl rfl) hkn
        · exact valRF.pureStep rfl 108 rfl rfl (by simp) _ rfl fun listed a u D hI hr hn => exec_load rfl (valRF.val hI hr hn 2 (by kernel_rfl) rfl rfl) (run_load_i (int_on (Reads.keep X6.out (M8.out.below (below_drew hI.old)).on) HXK.out))
        · exact valRF.pureStep rfl 109 rfl rfl (by simp) _ rfl fun listed a u D hI hr hn => exec_move (.inl rfl) (hI.out 14 (by kernel_rfl))
        · exact valRF.pureStep rfl 110 rfl rfl (by simp) _ rfl fun listed a u D hI hr hn => exec_move (.inl rfl) (hI.out 18 (by kernel_rfl))
        · exact valRF.pureStep rfl 111 rfl rfl (by simp) _ rfl fun listed a u D hI hr hn => exec_index_vis rfl (valRF.val hI hr hn 4 (by kernel_rfl) rfl rfl) (valRF.val hI hr hn 5 (by kernel_rfl) rfl rfl) hkn
        · exact valRF.pureStep rfl 112 rfl rfl (by simp) _ rfl fun listed a u D hI hr hn => exec_vbegin rfl (valRF.val hI hr hn 6 (by kernel_rfl) rfl rfl)
        · exact valRF.pureStep rfl 113 rfl rfl (by simp) _ rfl fun listed a u D hI hr hn => exec_load rfl (valRF.val hI hr hn 7 (by kernel_rfl) rfl rfl) (run_load_i (by rw [← HVB.out]; exact vis_start (Recs.keep V6.out (M8.out.below (below_drew hI.old)).on) HVK.out))
        · exact valRF.pureStep rfl 114 rfl rfl (by simp) _ rfl fun listed a u D hI hr hn => exec_lss rfl (valRF.val hI hr hn 3 (by kernel_rfl) rfl rfl) (valRF.val hI hr hn 8 (by kernel_rfl) rfl rfl) (decide_eq_false (by have := HL1.out; omega))
        · exact valRF.pureStep rfl 115 rfl rfl (by simp) _ rfl fun listed a u D hI hr hn => exec_move (.inl rfl) (valRF.val hI hr hn 9 (by kernel_rfl) rfl rfl)
        · exact valRF.pureStepG 116 rfl rfl (by simp) _ rfl fun listed a u D hI hr hn => ⟨guard_yes (t := 115) rfl (by kernel_rfl) (valRF.val hI hr hn 10 (by kernel_rfl) rfl rfl), exec_move (.inl rfl) (hI.out 21 (by kernel_rfl))⟩
        · exact valRF.pureStepG 117 rfl rfl (by simp) _ rfl fun listed a u D hI hr hn => ⟨guard_yes (t := 115) rfl (by kernel_rfl) (valRF.val hI hr hn 10 (by kernel_rfl) rfl rfl), exec_nil rfl (valRF.val hI hr hn 11 (by kernel_rfl) rfl rfl)⟩
        · exact valRF.pureStepG 118 rfl rfl (by simp) _ rfl fun listed a u D hI hr hn => ⟨guard_yes (t := 115) rfl (by kernel_rfl) (valRF.val hI hr hn 10 (by kernel_rfl) rfl rfl), exec_swin rfl (valRF.val hI hr hn 12 (by kernel_rfl) rfl rfl)⟩
        · exact valRF.pureStepG 119 rfl rfl (by simp) _ rfl fun listed a u D hI hr hn => ⟨guard_yes (t := 115) rfl (by kernel_rfl) (valRF.val hI hr hn 10 (by kernel_rfl) rfl rfl), exec_load rfl (valRF.val hI hr hn 13 (by kernel_rfl) rfl rfl) (run_load_win (SITE.out u (M8.out.below (below_drew hI.old))).1 (SITE.out u (M8.out.below (below_drew hI.old))).2)⟩
        · exact valRF.pureStepG 120 rfl rfl (by simp) _ rfl fun listed a u D hI hr hn => ⟨guard_yes (t := 115) rfl (by kernel_rfl) (valRF.val hI hr hn 10 (by kernel_rfl) rfl rfl), exec_move (.inl rfl) (hI.out 16 (by kernel_rfl))⟩
        · exact valRF.pureStepG 121 rfl rfl (by simp) _ rfl fun listed a u D hI hr hn => ⟨guard_yes (t := 115) rfl (by kernel_rfl) (valRF.val hI hr hn 10 (by kernel_rfl) rfl rfl), exec_move (.inl rfl) (hI.out 18 (by kernel_rfl))⟩
        · exact valRF.pureStepG 122 rfl rfl (by simp) _ rfl fun listed a u D hI hr hn => ⟨guard_yes (t := 115) rfl (by kernel_rfl) (valRF.val hI hr hn 10 (by kernel_rfl) rfl rfl), exec_index_int rfl (valRF.val hI hr hn 15 (by kernel_rfl) rfl rfl) (valRF.val hI hr hn 16 (by kernel_rfl) rfl rfl) hkn⟩
        · exact valRF.pureStepG 123 rfl rfl (by simp) _ rfl fun listed a u D hI hr hn => ⟨guard_yes (t := 115) rfl (by kernel_rfl) (valRF.val hI hr hn 10 (by kernel_rfl) rfl rfl), exec_load rfl (valRF.val hI hr hn 17 (by kernel_rfl) rfl rfl) (run_load_i (int_on (Reads.keep X6.out (M8.out.below (below_drew hI.old)).on) HXK.out))⟩
        · exact valRF.callStepG 124 rfl rfl (by simp) (.bool true) rfl fun listed a u D hI hr hn => ⟨guard_yes (t := 115) rfl (by kernel_rfl) (valRF.val hI hr hn 10 (by kernel_rfl) rfl rfl), _, _, exec_call2 rfl (valRF.val hI hr hn 14 (by kernel_rfl) rfl rfl) (valRF.val hI hr hn 18 (by kernel_rfl) rfl rfl) (by simp [go_sem]), (ghas_any si.win l u).mono fun _ _ h => ⟨by rw [h.1, HHAS.out], h.2⟩⟩
        · exact valRF.pureStepG 125 rfl rfl (by simp) _ rfl fun listed a u D hI hr hn => ⟨guard_yes (t := 115) rfl (by kernel_rfl) (valRF.val hI hr hn 10 (by kernel_rfl) rfl rfl), exec_not rfl rfl (valRF.val hI hr hn 19 (by kernel_rfl) rfl rfl)⟩
        · exact valRF.pureStep rfl 126 rfl rfl (by simp) _ rfl fun listed a u D hI hr hn => exec_pick (b := false) rfl (valRF.val hI hr hn 10 (by kernel_rfl) rfl rfl) (valRF.val hI hr hn 20 (by kernel_rfl) rfl rfl)
      · intro listed a u D hI hall
        have eR : a.tmps.getD 126 undef = .bool false := (hI.fact 21 ⟨hall 21 (by simp), fun k hk => by cases hk⟩).1
        have hold := below_drew hI.old
        have hl := hI.fill [105, 106, 107, 108, 109, 110, 111, 112, 113, 114, 115, 116, 117, 118, 119, 120, 121, 122, 123, 124, 125, 126] (by kernel_rfl)
        clear hI hall
        obtain ⟨σ, hσ⟩ : ∃ σ : Nat → Value, ∀ t, a.tmps.getD t undef = σ t := ⟨_, fun _ => rfl⟩
        simp only [hσ] at hl eR
        clear hσ
        simp only [List.foldl_cons, List.foldl_nil, List.setIfInBounds_toArray, List.set_cons_zero, List.set_cons_succ, eR] at hl
        subst hl
        go_wp2_with fail
        go_meet
        exact ⟨rfl, hold⟩
    case rest =>
    obtain ⟨rfl, HB9⟩ := hcut
    obtain ⟨w9, rfl⟩ : ∃ u, u = wc := ⟨_, rfl⟩
    have M9 := Lib.hid (M8.out.below HB9.out)
    clear HB9 M8 HHAS
    go_upto_region 21 with fail
    go_cut [22] (fun tv wx => tv = .int .i64 (withinV later vb til) ∧ Hid (Below w9.heap.size w9 wx))
    case first =>
      refine wp_region_steps (valRF [127, 128, 129, 130, 131, 132, 133, 134, 135, 136, 137, 138, 22] [.int .i64 later, .slice (some ⟨bV, oV, none⟩) n c5, .int .i64 ((k : Nat) : Int), .pointer (some ⟨bV, oV + k * 6, none⟩), .pointer (some ⟨bV, oV + k * 6 + 3, none⟩), .int .i64 vb, .pointer (some ⟨gT, io, none⟩), .pointer (some ⟨gT, io, none⟩), .pointer (some ⟨gT, io + 1, none⟩), .pointer (some ⟨gT, io + 1 + 1, none⟩), .int .i64 til, .int .i64 (withinV later vb til), .int .i64 (withinV later vb til)]) (by kernel_rfl) (by kernel_rfl) (by kernel_rfl) (fun _ _ => rfl) (by kernel_rfl) valRF.mon ?_ ?_
      · refine ⟨?_, ?_, ?_, ?_, ?_, ?_, ?_, ?_, ?_, ?_, ?_, ?_, ?_, trivial⟩
        · exact valRF.pureStep rfl 127 rfl rfl (by simp) _ rfl fun listed a u D hI hr hn => exec_move (.inl rfl) (hI.out 4 (by kernel_rfl))
        · exact valRF.pureStep rfl 128 rfl rfl (by simp) _ rfl fun listed a u D hI hr hn => exec_move (.inl rfl) (hI.out 14 (by kernel_rfl))
        · exact valRF.pureStep rfl 129 rfl rfl (by simp) _ rfl fun listed a u D hI hr hn => exec_move (.inl rfl) (hI.out 18 (by kernel_rfl))
        · exact valRF.pureStep rfl 130 rfl rfl (by simp) _ rfl fun listed a u D hI hr hn => exec_index_vis rfl (valRF.val hI hr hn 1 (by kernel_rfl) rfl rfl) (valRF.val hI hr hn 2 (by kernel_rfl) rfl rfl) hkn
        · exact valRF.pureStep rfl 131 rfl rfl (by simp) _ rfl fun listed a u D hI hr hn => exec_vbegin rfl (valRF.val hI hr hn 3 (by kernel_rfl) rfl rfl)
        · exact valRF.pureStep rfl 132 rfl rfl (by simp) _ rfl fun listed a u D hI hr hn => exec_load rfl (valRF.val hI hr hn 4 (by kernel_rfl) rfl rfl) (run_load_i (by rw [← HVB.out]; exact vis_start (Recs.keep V6.out (M9.out.below (below_drew hI.old)).on) HVK.out))
        · exact valRF.pureStep rfl 133 rfl rfl (by simp) _ rfl fun listed a u D hI hr hn => exec_move (.inl rfl) (hI.out 21 (by kernel_rfl))
        · exact valRF.pureStep rfl 134 rfl rfl (by simp) _ rfl fun listed a u D hI hr hn => exec_nil rfl (valRF.val hI hr hn 6 (by kernel_rfl) rfl rfl)
        · exact valRF.pureStep rfl 135 rfl rfl (by simp) _ rfl fun listed a u D hI hr hn => exec_swin rfl (valRF.val hI hr hn 7 (by kernel_rfl) rfl rfl)
        · exact valRF.pureStep rfl 136 rfl rfl (by simp) _ rfl fun listed a u D hI hr hn => exec_wto2 rfl (valRF.val hI hr hn 8 (by kernel_rfl) rfl rfl)
        · exact valRF.pureStep rfl 137 rfl rfl (by simp) _ rfl fun listed a u D hI hr hn => exec_load rfl (valRF.val hI hr hn 9 (by kernel_rfl) rfl rfl) (run_load_i (by rw [← HTE.out]; exact (SITE.out u (M9.out.below (below_drew hI.old))).2))
        · exact valRF.callStep rfl 138 rfl rfl (by simp) _ rfl fun listed a u D hI hr hn => ⟨_, _, exec_call3 rfl (valRF.val hI hr hn 0 (by kernel_rfl) rfl rfl) (valRF.val hI hr hn 5 (by kernel_rfl) rfl rfl) (valRF.val hI hr hn 10 (by kernel_rfl) rfl rfl) (by simp [go_sem]), within_val later vb til u HV0.out HV2.out (by have := HTO.out; omega)⟩
        · exact valRF.pureStep rfl 22 rfl rfl (by simp) _ rfl fun listed a u D hI hr hn => exec_move (.inr rfl) (valRF.val hI hr hn 11 (by kernel_rfl) rfl rfl)
      · intro listed a u D hI hall
        have eR : a.tmps.getD 22 undef = .int .i64 (withinV later vb til) := (hI.fact 12 ⟨hall 12 (by simp), fun k hk => by cases hk⟩).1
        have hold := below_drew hI.old
        have hl := hI.fill [127, 128, 129, 130, 131, 132, 133, 134, 135, 136, 137, 138, 22] (by kernel_rfl)
        clear hI hall
        obtain ⟨σ, hσ⟩ : ∃ σ : Nat → Value, ∀ t, a.tmps.getD t undef = σ t := ⟨_, fun _ => rfl⟩
        simp only [hσ] at hl eR
        clear hσ
        simp only [List.foldl_cons, List.foldl_nil, List.setIfInBounds_toArray, List.set_cons_zero, List.set_cons_succ, eR] at hl
        subst hl
        go_wp2_with fail
        go_meet
        exact ⟨rfl, hold⟩
    case rest =>
    obtain ⟨rfl, HB10⟩ := hcut
    obtain ⟨w10, rfl⟩ : ∃ u, u = wc := ⟨_, rfl⟩
    have M10 := Lib.hid (M9.out.below HB10.out)
    clear HB10 M9
    have y0 : w10.cell? ⟨bV, oV + k * 6 + 3, none⟩ = some (.int .i64 vb) := by rw [← HVB.out]; exact vis_start (Recs.keep V6.out M10.out.on) HVK.out
    have y1 : w10.cell? ⟨gT, io + 1 + 1, none⟩ = some (.int .i64 til) := by rw [← HTE.out]; exact (SITE.out w10 M10.out).2
    go_upto_region 22 with fail
    go_cut [154] (fun b wx => wx = w10 ∧ ∃ tb : Bool, b = .bool tb ∧ Hid (tb = true → vb ≤ later ∧ later ≤ til))
    case first =>
      by_cases h1 : vb ≤ later
      · by_cases h2 : later ≤ til
        · go_wp2_with fail
          go_meet
          exact ⟨rfl, _, rfl, fun _ => ⟨h1, h2⟩⟩
        · go_wp2_with fail
          go_meet
          exact ⟨rfl, false, by first | rfl | simp only [decide_false] | simp [h2], fun h => by cases h⟩
      · go_wp2_with fail
        go_meet
        exact ⟨rfl, false, rfl, fun h => by cases h⟩
    case rest =>
    obtain ⟨hwc, tb, rfl, HTB⟩ := hcut
    subst hwc
    obtain ⟨w10, rfl⟩ : ∃ u, u = wc := ⟨_, rfl⟩
    clear y0 y1
    go_upto_if 154 with fail
    go_cut [22] (fun tv wx => wx = w10 ∧ ∃ t : Int, tv = .int .i64 t ∧ Hid (vb ≤ t ∧ t ≤ til))
    case first =>
      cases tb with
      | true =>
        go_wp2_with fail
        go_meet
        exact ⟨rfl, _, rfl, HTB.out (by trivial)⟩
      | false =>
        have HW := Lib.hid (within_in (a := later) HV2.out)
        go_wp2_with fail
        go_meet
        exact ⟨rfl, _, rfl, HW.out⟩
    case rest =>
    obtain ⟨hwc, t, rfl, HT⟩ := hcut
    subst hwc
    obtain ⟨w10, rfl⟩ : ∃ u, u = wc := ⟨_, rfl⟩
    clear HTB
    obtain ⟨hfz, hst⟩ := HTURN.out w10 M10.out
    have HSET := Lib.hid (hst t)
    obtain ⟨hcf, _⟩ := SITE.out w10 M10.out
    clear hst
    go_upto_region 24 with fail
    go_cut [] (fun wx => Hid (LM w6 gT cT x.os.n (ps.set j (turnO o s t)) wx))
    case first =>
      go_wp2_with fail
      go_meet
      exact HSET.out
    case rest =>
    have M11 := hcut
    clear hcut
    obtain ⟨w11, rfl⟩ : ∃ u, u = wc := ⟨_, rfl⟩
    clear hfz hcf HSET M10 SITE HTURN
    have L11 := Lib.hid (L6.out.below M11.out.on)
    obtain ⟨d0, d1, d2, d3, d4, d5⟩ := L11.out.drv.cells
    obtain ⟨⟨us, gk, ge⟩, hdg⟩ : ∃ r, drive m d (ps.set j (turnO o s t)) stops = r := ⟨_, rfl⟩
    have HDG := Lib.hid hdg
    obtain ⟨bg, hbg⟩ : ∃ b, (ge == 0) = b := ⟨_, rfl⟩
    have HBG := Lib.hid hbg
    have HTL : Hid (decide (t ≤ l) = bg) := by
      have h := HLIM.out t HT.out.1 HT.out.2
      rw [hdg] at h
      simp only at h
      show _ = _
      rw [← hbg]
      by_cases h0 : ge = 0
      · have := h.1 h0
        simp [h0, this]
      · have : ¬ t ≤ l := fun hx => h0 (h.2 hx)
        simp [h0, this]
    clear hdg hbg
    go_wp2_with fail
    refine (gdrive_any W.heap.size _ m d (some ⟨gT, 0, none⟩) x.os.n cT (ps.set j (turnO o s t)) _ n c stops _ (by exact L11.out.map) (by exact M11.out.ords) (by exact L11.out.stps) hc (by exact M11.out.cap)).mono ?_
    rintro e w12 ⟨hb12, v5, rfl, hv5⟩
    rw [HDG.out] at hv5 ⊢
    obtain ⟨B5, c6, rfl, _, _⟩ := hv5.read
    have M14' := Lib.hid ((M11.out.below hb12).below ((Below.refl _ _).alloc (Nat.le_refl _) (.cells #[.int .i64 gk, .int .i64 ge] 64)))
    have G14' : Hid (FBox (w12.alloc (.cells #[.int .i64 gk, .int .i64 ge] 64)) w12.heap.size gk ge) := Blk.new w12 _ _
    clear hb12 hv5 d0 d1 d2 d3 d4 d5 L11 M11
    go_upto_region 26 with fail
    obtain ⟨w14, hw14⟩ : ∃ u, w12.alloc (.cells #[.int .i64 gk, .int .i64 ge] 64) = u := ⟨_, rfl⟩
    obtain ⟨g14, hg14⟩ : ∃ g, w12.heap.size = g := ⟨_, rfl⟩
    rw [hw14] at M14' G14' ⊢
    rw [hg14] at G14' ⊢
    have M14 := M14'
    have G14 := G14'
    clear M14' G14' hw14 hg14
    go_cut [177] (fun bv wx => bv = .bool false ∧ Hid (Below w14.heap.size w14 wx))
    case first =>
      refine wp_region_steps (valRF [169, 170, 171, 172, 173, 174, 175, 176, 177] [faultV gk ge, .bool bg, .int .i64 t, .slice (some ⟨bX, oX, none⟩) n cl, .int .i64 ((k : Nat) : Int), .pointer (some ⟨bX, oX + k, none⟩), .int .i64 l, .bool bg, .bool false]) (by kernel_rfl) (by kernel_rfl) (by kernel_rfl) (fun _ _ => rfl) (by kernel_rfl) valRF.mon ?_ ?_
      · refine ⟨?_, ?_, ?_, ?_, ?_, ?_, ?_, ?_, ?_, trivial⟩
        · exact valRF.pureStep rfl 169 rfl rfl (by simp) _ rfl fun listed a u D hI hr hn => exec_load rfl (hI.out 24 (by kernel_rfl)) (run_load_fault (G14.out.below (below_drew hI.old)))
        · exact valRF.callStep rfl 170 rfl rfl (by simp) (.bool bg) rfl fun listed a u D hI hr hn => ⟨_, _, exec_call1 rfl (valRF.val hI hr hn 0 (by kernel_rfl) rfl rfl) (by simp [go_sem]), (fgood_any gk ge u).mono fun _ _ h => ⟨by rw [h.1, HBG.out], h.2⟩⟩
        · exact valRF.pureStep rfl 171 rfl rfl (by simp) _ rfl fun listed a u D hI hr hn => exec_move (.inl rfl) (hI.out 22 (by kernel_rfl))
        · exact valRF.pureStep rfl 172 rfl rfl (by simp) _ rfl fun listed a u D hI hr hn => exec_move (.inl rfl) (hI.out 16 (by kernel_rfl))
        · exact valRF.pureStep rfl 173 rfl rfl (by simp) _ rfl fun listed a u D hI hr hn => exec_move (.inl rfl) (hI.out 18 (by kernel_rfl))
        · exact valRF.pureStep rfl 174 rfl rfl (by simp) _ rfl fun listed a u D hI hr hn => exec_index_int rfl (valRF.val hI hr hn 3 (by kernel_rfl) rfl rfl) (valRF.val hI hr hn 4 (by kernel_rfl) rfl rfl) hkn
        · exact valRF.pureStep rfl 175 rfl rfl (by simp) _ rfl fun listed a u D hI hr hn => exec_load rfl (valRF.val hI hr hn 5 (by kernel_rfl) rfl rfl) (run_load_i (int_on (Reads.keep X6.out (M14.out.below (below_drew hI.old)).on) HXK.out))
        · exact valRF.pureStep rfl 176 rfl rfl (by simp) _ rfl fun listed a u D hI hr hn => exec_leq rfl (valRF.val hI hr hn 2 (by kernel_rfl) rfl rfl) (valRF.val hI hr hn 6 (by kernel_rfl) rfl rfl) HTL.out
        · exact valRF.pureStep rfl 177 rfl rfl (by simp) (.bool (bg != bg)) (by cases bg <;> rfl) fun listed a u D hI hr hn => exec_neqb rfl (valRF.val hI hr hn 1 (by kernel_rfl) rfl rfl) (valRF.val hI hr hn 7 (by kernel_rfl) rfl rfl)
      · intro listed a u D hI hall
        have eR : a.tmps.getD 177 undef = .bool false := (hI.fact 8 ⟨hall 8 (by simp), fun k hk => by cases hk⟩).1
        have hold := below_drew hI.old
        have hl := hI.fill [169, 170, 171, 172, 173, 174, 175, 176, 177] (by kernel_rfl)
        clear hI hall
        obtain ⟨σ, hσ⟩ : ∃ σ : Nat → Value, ∀ t, a.tmps.getD t undef = σ t := ⟨_, fun _ => rfl⟩
        simp only [hσ] at hl eR
        clear hσ
        simp only [List.foldl_cons, List.foldl_nil, List.setIfInBounds_toArray, List.set_cons_zero, List.set_cons_succ, eR] at hl
        subst hl
        go_wp2_with fail
        go_meet
        exact ⟨rfl, hold⟩
    case rest =>
    obtain ⟨rfl, HB15⟩ := hcut
    have M15 := Lib.hid (M14.out.below HB15.out)
    have HID2 : Hid (∀ t' : Nat, ((ps.set j (turnO o s t))[t']?).map (·.id) = (ps[t']?).map (·.id)) := fun t' => by
      rw [List.getElem?_set]
      split
      · rename_i e
        subst e
        rw [HOI.out]
        split
        · show some (turnO o s t).id = some o.id
          rw [(turnO_id o s t).1]
        · rename_i hx
          exact absurd (List.getElem?_eq_some_iff.1 HOI.out).1 hx
      · rfl
    clear HB15 M14 G14
    go_wp2_with fail
    go_roundw
    case rel => exact ⟨j + 1, _, by omega, by go_num, M15, HID2, fun h => absurd h (by omega)⟩
    case measure => simp [intOf]; omega

#print axioms slackLimit_walk
end Go.Proofs.Ytobcmlcmbnldlaa.Slack
