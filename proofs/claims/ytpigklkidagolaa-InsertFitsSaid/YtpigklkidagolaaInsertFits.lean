/-
  The order put where it is told to be cheapest: InsertFits, walked. Written by tools/gen_insfits.py.
-/
import Derived.Test.YtpigklkidagolaaInsertUses
import Derived.Test.YtpigklkidagolaaInsertMaths
import Derived.Test.YtpigklkidagolaaFrameWorldP
import Derived.Test.YtpigklkidagolaaPlanPWiths
import Derived.Test.YtpigklkidagolaaRegions
namespace Go.Proofs.Ytpigklkidagolaa.Insert
open Go.ChangeShapes Go.WideShapes Go.ChangeAt Go.RowKit Go.Proofs.Ytpigklkidagolaa.Mem Go.Proofs.Ytpigklkidagolaa.GeoMath Go.Proofs.Ytpigklkidagolaa.FleetMath Go.Proofs.Ytpigklkidagolaa.PlanMath Go.Proofs.Ytpigklkidagolaa.CertMath Go.Proofs.Ytpigklkidagolaa.InsertMath Go.Proofs.Ytpigklkidagolaa.Rec Go.Proofs.Ytpigklkidagolaa.Geo Go.Proofs.Ytpigklkidagolaa.Span Go.Proofs.Ytpigklkidagolaa.Deal Go.Proofs.Ytpigklkidagolaa.Keep Go.Proofs.Ytpigklkidagolaa.Route Go.Proofs.Ytpigklkidagolaa.Plan Go.Proofs.Ytpigklkidagolaa.Cert Go.Proofs.Ytpigklkidagolaa.Slack
set_option linter.unusedVariables false
set_option linter.unusedSimpArgs false
set_option maxRecDepth 100000 in
set_option maxHeartbeats 16000000 in
theorem insertFits_walk (x : Wd) (o : FleetMath.Ord) (ts : List Int) (ds : List Drv) (os : List FleetMath.Ord) (ps : List RM) (W : World) (hts : Ints W W.heap.size x.ts.a x.ts.n ts) (hds : Drvs W W.heap.size x.ds.a x.ds.n ds) (hos : Ords W W.heap.size x.os.a x.os.n os) (hps : Plns W W.heap.size x.pl.a x.pl.n ps) (hn80 : x.os.n * 80 ≤ 140737488351232) :
    Calls Try.prog 8 #[wdV x, ordV o] W fun e w' => e = .returned (.bool true) ∧ Below W.heap.size W w' := by
  have hpn : x.pl.n ≤ 9223372036854775807 := Recs.le hps.rows
  have hdn : x.ds.n ≤ 9223372036854775807 := Recs.le hds
  have HLO := Lib.hid hos.length
  have HLP := Lib.hid hps.length
  have HLD := Lib.hid hds.length
  have HTS := Lib.hid hts
  have HDS := Lib.hid hds
  have HOS := Lib.hid hos
  have HPS := Lib.hid hps
  clear hts hds hos hps
  obtain ⟨m, hm⟩ : ∃ m, mapOf x.n ts = m := ⟨_, rfl⟩
  have HM := Lib.hid hm
  clear hm
  obtain ⟨S, hS⟩ : ∃ z, cheapM m ds os (ps.map (·.rt)) o 100000 = z := ⟨_, rfl⟩
  have HS := Lib.hid hS
  clear hS
  obtain ⟨s, n1, e1⟩ := S
  obtain ⟨hb0, hw0, ho0⟩ := boxes_start (W := W) x o
  have HB0 := Lib.hid hb0
  have HW0 := Lib.hid hw0
  have HO0 := Lib.hid ho0
  clear hb0 hw0 ho0
  show Calls _ _ #[wdV x, .agg #[.int .i64 o.id, .int .i64 o.size, .int .i64 o.pick.place, .int .i64 o.pick.win.fr, .int .i64 o.pick.win.to, .int .i64 o.pick.serv, .int .i64 o.drop.place, .int .i64 o.drop.win.fr, .int .i64 o.drop.win.to, .int .i64 o.drop.serv]] _ _
  go_enter Try.func8, Try.ntmps8
  go_wp2_with fail
  refine (kmaps_any x ts _ (by exact Reads.more (Reads.keep HTS.out HB0.out) HB0.out.size)).mono ?_
  intro e w1 hmo
  have hb1 : Below _ _ w1 := hmo.1
  obtain ⟨q, r, rfl, hcr⟩ := CR.start (n0 := 0) HB0.out HW0.out HDS.out HOS.out HPS.out HM.out hmo
  have C1 : Hid (IR W q r m x ds os ps o w1) := ⟨hcr, HO0.out.below hb1⟩
  clear hmo hcr HB0 HW0 HO0 hb1
  obtain ⟨x0, x1, x2, x3, x4⟩ := C1.out.cr.wd.cells
  obtain ⟨o0, o1, o2, o3, o4, o5, o6, o7, o8, o9⟩ := C1.out.ord.cells
  go_wp2_with fail
  refine (use_cheapest C1.out hn80 HS.out).mono ?_
  rintro e w3 ⟨rfl, hb3⟩
  have hb3' : Below w1.heap.size w1 (w3.alloc (.cells #[.int .i64 s.drv, .int .i64 s.pick, .int .i64 s.drop, .int .i64 s.cost] 42)) := hb3.trans (((Below.refl _ _).alloc (Nat.le_refl _) _).mono hb3.size)
  have C3 := Lib.hid (C1.out.below hb3')
  have X3 : Hid (S4Box (w3.alloc (.cells #[.int .i64 s.drv, .int .i64 s.pick, .int .i64 s.drop, .int .i64 s.cost] 42)) w3.heap.size s) := Blk.new w3 _ _
  clear hb3 hb3' C1 x0 x1 x2 x3 x4 o0 o1 o2 o3 o4 o5 o6 o7 o8 o9
  go_upto_region 5 with fail
  obtain ⟨g3, hg3⟩ : ∃ g, w3.heap.size = g := ⟨_, rfl⟩
  obtain ⟨u3, hu3⟩ : ∃ u, (w3.alloc (.cells #[.int .i64 s.drv, .int .i64 s.pick, .int .i64 s.drop, .int .i64 s.cost] 42)) = u := ⟨_, rfl⟩
  rw [hg3, hu3] at X3
  rw [hu3] at C3
  rw [hg3, hu3]
  clear hg3 hu3
  obtain ⟨a0, a1, a2, a3⟩ := X3.out.cells
  rcases cheap_codes HS.out with he | ⟨he, hs, -⟩ | ⟨he, hs⟩
  case inr.inl =>
    subst he
    subst hs
    go_wp2_with fail
    refine (runs_any _).mono ?_
    rintro e wd ⟨rfl, hbd⟩
    have CD := Lib.hid (C3.out.below hbd)
    clear hbd
    go_wp2_with fail
    go_ret
    exact ⟨by first | rfl | simp, CD.out.cr.old⟩
  case inr.inr =>
    subst he
    subst hs
    go_wp2_with fail
    refine (runs_any _).mono ?_
    rintro e wd ⟨rfl, hbd⟩
    have CD := Lib.hid (C3.out.below hbd)
    clear hbd
    go_wp2_with fail
    go_ret
    exact ⟨by first | rfl | simp, CD.out.cr.old⟩
  subst he
  obtain ⟨Q, hq, hmk, hql⟩ := fits_plan HS.out
  rw [List.length_map, HLP.out] at hql
  have HQ := Lib.hid hq
  have HMK := Lib.hid hmk
  have HQL := Lib.hid hql
  have hos40 : x.os.n ≤ 40 := by
    obtain ⟨hb, _⟩ := cheap_found HS.out
    obtain ⟨⟨hw, _⟩, _⟩ := cheap_good hb
    obtain ⟨m', _, _, hk, _⟩ := wellC_parts hw
    rw [← HLO.out]
    exact (known_iff.1 hk).1
  clear hq hmk hql
  obtain ⟨x0, x1, x2, x3, x4⟩ := C3.out.cr.wd.cells
  obtain ⟨o0, -⟩ := C3.out.ord.cells
  have HWI : Hid (Calls Try.prog 24 #[x.pl.v, .int .i64 o.id, sp4V s] u3 fun e u' => ∃ B kk l2, e = .returned (.tuple #[.slice B x.pl.n kk, .bool true]) ∧ Below u3.heap.size u3 u' ∧ Plns u' u'.heap.size B x.pl.n l2 ∧ l2.map (·.rt) = Q ∧ x.pl.n ≤ kk) := by
    refine (pwith_any x.pl.a x.pl.n x.pl.c ps o.id ⟨s.drv, s.pick, s.drop⟩ s.cost u3 C3.out.cr.plns).mono ?_
    rintro e u' ⟨hb, hv⟩
    rw [HQ.out] at hv
    obtain ⟨v, rfl, l2, h1, h2, h3⟩ := hv
    obtain ⟨B, kk, rfl, hkk, h4⟩ := h1.plns h3
    have hl : l2.length = x.pl.n := by have := congrArg List.length h2; rw [List.length_map, HQL.out] at this; exact this
    rw [hl] at h4 hkk ⊢
    exact ⟨B, kk, l2, rfl, hb, h4, h2, hkk⟩
  go_wp2_with fail
  refine HWI.out.mono ?_
  rintro e w7 ⟨PB, kk, l2, rfl, hb7, hp7, hl2, hkk⟩
  have C7 := Lib.hid (C3.out.below hb7)
  have X7 : Hid (S4Box w7 g3 s) := Blk.below X3.out hb7 (Blk.lt X3.out)
  have P7 := Lib.hid hp7
  have HL2 := Lib.hid hl2
  have HKK := Lib.hid hkk
  clear hb7 hp7 hl2 hkk HWI C3 X3 x0 x1 x2 x3 x4 o0 a0 a1 a2 a3
  have HW : Hid (∀ u, Below w7.heap.size w7 u → WBox u W.heap.size x) := fun u hu => (C7.out.below hu).cr.wd
  have HOB : Hid (∀ u, Below w7.heap.size w7 u → OBox u (W.heap.size + 1) o) := fun u hu => (C7.out.below hu).ord
  have HOR : Hid (∀ u, Below w7.heap.size w7 u → Ords u u.heap.size x.os.a x.os.n os) := fun u hu => (C7.out.below hu).cr.ords
  go_upto_region 8 with fail
  go_cut [13] from 68 to 74 (fun mv wx => ∃ A9 c9, mv = .slice A9 (x.os.n + 1) c9 ∧ Hid (Below w7.heap.size w7 wx) ∧ Hid (Ords wx wx.heap.size A9 (x.os.n + 1) (os ++ [o])) ∧ Hid (x.os.n + 1 ≤ c9))
  case first =>
    refine wp_region_steps (more2RF [68, 69, 70, 71, 72, 73, 74, 13] w7.drew.heap.size (.pointer (some ⟨W.heap.size, 3, none⟩)) x.os.a x.os.n x.os.c os o) (by kernel_rfl) (by kernel_rfl) (by kernel_rfl) (fun k hk => ?_) (by kernel_rfl) more2_mon ?_ ?_
    · simp only [List.length_cons, List.length_nil] at hk
      simp only [more2RF]
      rw [if_neg (by omega), if_neg (by omega), if_neg (by omega), if_neg (by omega)]
    · refine ⟨?_, ?_, ?_, ?_, ?_, ?_, ?_, ?_, trivial⟩
      · exact RStep.val rfl 68 rfl rfl (by simp) fun listed a u D hI hr hn => ⟨_, _, _, exec_none rfl, new_post hI.old ⟨OwnK.new0 u _ _ _ hI.old.size, fun b => by simp [Value.ownBlock]; exact eq_comm⟩⟩
      · exact RStep.pure rfl 69 rfl rfl (by simp) fun listed a u D hI hr hn => ⟨_, op_field rfl (hI.out 2 (by kernel_rfl)) (by simp [go_sem]), pureF.new rfl⟩
      · refine RStep.pure rfl 70 rfl rfl (by simp) fun listed a u D hI hr hn => ?_
        obtain ⟨e1, _⟩ : pureF _ _ _ := (hI.get hr hn 1 (by kernel_rfl) (.inl rfl)).1
        exact ⟨_, exec_load rfl (own_eval e1) (run_load_sl _ (.inr (.inl rfl)) (HW.out _ (OneR.below_drew hI.old)).cells.2.2.2.1), pureF.new rfl⟩
      · refine RStep.val rfl 71 rfl rfl (by simp) fun listed a u D hI hr hn => ?_
        obtain ⟨ho2, hd2⟩ : ownF _ _ _ _ _ _ _ _ := (hI.get hr hn 0 (by kernel_rfl) (.inr rfl)).1
        obtain ⟨e3, _⟩ : pureF _ _ _ := (hI.get hr hn 2 (by kernel_rfl) (.inl rfl)).1
        obtain ⟨v', u', hrun, hv', hg, hor⟩ := run_append_ks 34 Try.underlying34 infoOrd rfl (by omega) ho2 x.os.c (HOR.out _ (OneR.below_drew hI.old)) (ordsV_one _) (by unfold maxLen; omega) (by omega) hI.old.size
        rw [Nat.zero_add, List.nil_append] at hv'
        exact ⟨v', u', _, exec_append rfl (own_eval rfl) (own_eval e3) hrun, grow_post hI.old hd2 rfl ho2 hv' hg hor ⟨hv', fun b => Iff.rfl⟩⟩
      · exact RStep.pure rfl 72 rfl rfl (by simp) fun listed a u D hI hr hn => ⟨_, exec_load rfl (hI.out 3 (by kernel_rfl)) (Slack.run_load_ord (HOB.out _ (OneR.below_drew hI.old))), pureF.new rfl⟩
      · refine RStep.val rfl 73 rfl rfl (by simp) fun listed a u D hI hr hn => ?_
        obtain ⟨e5, _⟩ : pureF _ _ _ := (hI.get hr hn 4 (by kernel_rfl) (.inl rfl)).1
        exact ⟨_, _, _, exec_one rfl (own_eval e5), new_post hI.old ⟨_, rfl, Blk.new u _ _, fun b => Iff.rfl⟩⟩
      · refine RStep.val rfl 74 rfl rfl (by simp) fun listed a u D hI hr hn => ?_
        obtain ⟨ho4, hd4⟩ : ownF _ _ _ _ _ _ _ _ := (hI.get hr hn 3 (by kernel_rfl) (.inr rfl)).1
        obtain ⟨g6, e6, hb6, hd6⟩ : blkF _ _ _ _ _ _ := (hI.get hr hn 5 (by kernel_rfl) (.inr rfl)).1
        have hr6 : Recs u u.heap.size (some ⟨g6, 0, none⟩) 1 10 (ordL o) := ⟨rfl, by unfold maxLen; omega, fun _ => ⟨g6, 0, rfl, hb6.lt, fun p y hy => by rw [Nat.zero_add]; exact hb6.cell hy⟩⟩
        obtain ⟨v', u', hrun, hv', hg, hor⟩ := run_append_ks 34 Try.underlying34 infoOrd rfl (by omega) ho4 1 hr6 (ordL_one o) (by unfold maxLen; omega) (by omega) hI.old.size
        have hv2 : OwnK u' w7.drew.heap.size 31 10 v' (x.os.n + 1) (ordsV (os ++ [o])) := by rw [ordsV_append]; exact hv'
        exact ⟨v', u', _, exec_append rfl (own_eval rfl) (own_eval e6) hrun, grow_post hI.old hd4 rfl ho4 hv2 hg hor ⟨hv2, fun b => Iff.rfl⟩⟩
      · refine RStep.val rfl 13 rfl rfl (by simp) fun listed a u D hI hr hn => ?_
        obtain ⟨ho5, hd5⟩ : ownF _ _ _ _ _ _ _ _ := (hI.get hr hn 6 (by kernel_rfl) (.inr rfl)).1
        exact ⟨_, u, D 6, exec_move (.inr rfl) rfl, hI.old, Nat.le_refl _, fun _ _ _ => rfl, fun b hb => .inl ⟨6, rfl, hb⟩, ⟨ho5, hd5⟩⟩
    · intro listed a u D hI hall
      obtain ⟨hrow, _⟩ : ownF _ _ _ _ _ _ _ _ := hI.fact 7 ⟨hall 7 (by simp), fun k hk => by simp [more2RF] at hk⟩
      have hold := OneR.below_drew hI.old
      have hl := hI.fill [68, 69, 70, 71, 72, 73, 74, 13] (by kernel_rfl)
      clear hI hall
      obtain ⟨σ, hσ⟩ : ∃ σ : Nat → Value, ∀ t, a.tmps.getD t undef = σ t := ⟨_, fun _ => rfl⟩
      have hrow' : OwnK u w7.drew.heap.size 31 10 (a.tmps.getD 13 undef) (x.os.n + 1) (ordsV (os ++ [o])) := hrow
      clear hrow
      simp only [hσ] at hl hrow'
      clear hσ
      simp only [List.foldl_cons, List.foldl_nil, List.setIfInBounds_toArray, List.set_cons_zero, List.set_cons_succ] at hl
      obtain ⟨v9, hv9⟩ : ∃ v, σ 13 = v := ⟨_, rfl⟩
      rw [hv9] at hl hrow'
      clear hv9
      obtain ⟨A9, c9, e9, hc9, hr9⟩ := OwnK.read hrow'
      subst e9
      clear hrow'
      subst hl
      go_wp2_with fail
      go_meet
      exact ⟨A9, c9, rfl, hold, hr9, hc9⟩
  case rest =>
  obtain ⟨A9, c9, rfl, hb9, HRW, HNC⟩ := hcut
  obtain ⟨w9, rfl⟩ : ∃ u, u = wc := ⟨_, rfl⟩
  have C9 := Lib.hid (C7.out.below hb9.out)
  have X9 : Hid (S4Box w9 g3 s) := Blk.below X7.out hb9.out (Blk.lt X7.out)
  have P9 : Hid (Plns w9 w9.heap.size PB x.pl.n l2) := (P7.out.keep hb9.out).more hb9.out.size
  clear hb9 C7 X7 P7 HW HOB HOR
  obtain ⟨x0, x1, x2, x3, x4⟩ := C9.out.cr.wd.cells
  obtain ⟨M, hM⟩ : ∃ M, makeC m ds (os ++ [o]) Q = M := ⟨_, rfl⟩
  have HMM := Lib.hid hM
  obtain ⟨mc, mk, me⟩ := M
  have hme : me = 0 := by have h1 := HMK.out; rw [hM] at h1; exact h1
  subst hme
  clear hM
  go_wp2_with fail
  refine (pmake_any W.heap.size (.pointer q) m x.ds.a x.ds.n x.ds.c ds A9 (x.os.n + 1) c9 (os ++ [o]) PB x.pl.n kk l2 _ x.ds.h HNC.out (by exact C9.out.cr.map) (by exact C9.out.cr.drvs) (by exact HRW.out) (by exact P9.out)).mono ?_
  rintro e z1 ⟨v1, l1, rfl, hmade⟩
  rw [HL2.out, HMM.out]
  have hb10 : Below w9.heap.size w9 (z1.alloc (.cells #[.int .i64 (mk : Int), .int .i64 0] 75)) := hmade.new.old.trans (((Below.refl _ _).alloc (Nat.le_refl _) _).mono hmade.new.old.size)
  have C10 := Lib.hid (C9.out.below hb10)
  have X10 : Hid (S4Box (z1.alloc (.cells #[.int .i64 (mk : Int), .int .i64 0] 75)) g3 s) := Blk.below X9.out hb10 (Blk.lt X9.out)
  have P10 : Hid (Plns (z1.alloc (.cells #[.int .i64 (mk : Int), .int .i64 0] 75)) (z1.alloc (.cells #[.int .i64 (mk : Int), .int .i64 0] 75)).heap.size PB x.pl.n l2) := (P9.out.keep hb10).more hb10.size
  have R10 : Hid (Ords (z1.alloc (.cells #[.int .i64 (mk : Int), .int .i64 0] 75)) (z1.alloc (.cells #[.int .i64 (mk : Int), .int .i64 0] 75)).heap.size A9 (x.os.n + 1) (os ++ [o])) := Recs.more (Recs.keep HRW.out hb10) hb10.size
  have F10 : Hid (Blk (z1.alloc (.cells #[.int .i64 (mk : Int), .int .i64 0] 75)) z1.heap.size 75 [.int .i64 (mk : Int), .int .i64 0]) := Blk.new z1 _ _
  clear hmade hb10 C9 X9 P9 HRW HMM HMK x0 x1 x2 x3 x4
  go_upto_region 10 with fail
  obtain ⟨g4, hg4⟩ : ∃ g, z1.heap.size = g := ⟨_, rfl⟩
  obtain ⟨u4, hu4⟩ : ∃ u, z1.alloc (.cells #[.int .i64 (mk : Int), .int .i64 0] 75) = u := ⟨_, rfl⟩
  rw [hg4, hu4] at F10
  rw [hu4] at C10 X10 P10 R10
  rw [hg4, hu4]
  clear hg4 hu4
  obtain ⟨x0, x1, x2, x3, x4⟩ := C10.out.cr.wd.cells
  have k0 := Blk.cell (i := 0) F10.out rfl
  have k1 := Blk.cell (i := 1) F10.out rfl
  go_wp2_with fail
  refine (fgood_any mk 0 _).mono ?_
  rintro e X ⟨rfl, hb11⟩
  have CX := Lib.hid (C10.out.below hb11)
  have SX : Hid (S4Box X g3 s) := Blk.below X10.out hb11 (Blk.lt X10.out)
  have PX : Hid (Plns X X.heap.size PB x.pl.n l2) := (P10.out.keep hb11).more hb11.size
  have RX : Hid (Ords X X.heap.size A9 (x.os.n + 1) (os ++ [o])) := Recs.more (Recs.keep R10.out hb11) hb11.size
  clear hb11 C10 X10 P10 R10 F10 k0 k1 x0 x1 x2 x3 x4
  obtain ⟨x0, x1, x2, x3, x4⟩ := CX.out.cr.wd.cells
  have epl : ((x.pl.n : Int) != (x.pl.n : Int)) = false := by simp
  go_wp2_with fail
  clear x0 x1 x2 x3 x4 epl
  go_loopw [16] (fun iv wr => ∃ i : Nat, i ≤ x.pl.n ∧ iv = .int .i64 (i : Int) ∧ Hid (Below X.heap.size X wr)) (fun iv _ => x.pl.n - (intOf iv).toNat)
  case atStart => exact ⟨0, Nat.zero_le _, rfl, Below.refl _ _⟩
  case round =>
    obtain ⟨i, hi, rfl, HB⟩ := hrel
    by_cases hilt : i < x.pl.n
    case neg =>
      have CW := Lib.hid (CX.out.below HB.out)
      have e5 : ¬ (i : Int) < (x.pl.n : Int) := by omega
      go_wp2_with fail
      refine (runs_any _).mono ?_
      rintro e wd ⟨rfl, hbd⟩
      have CD := Lib.hid (CW.out.below hbd)
      clear hbd
      go_wp2_with fail
      go_ret
      exact ⟨by first | rfl | simp, CD.out.cr.old⟩
    have hii : (i : Int) < (x.pl.n : Int) := by omega
    go_wp2_with fail
    go_loopw [17] (fun kv wz => ∃ k : Nat, k ≤ x.ds.n ∧ kv = .int .i64 (k : Int) ∧ Hid (Below X.heap.size X wz)) (fun kv _ => x.ds.n - (intOf kv).toNat)
    case atStart => exact ⟨0, Nat.zero_le _, rfl, HB⟩
    case round =>
      clear HB
      obtain ⟨k, hk, rfl, HB⟩ := hrel
      have CW := Lib.hid (CX.out.below HB.out)
      obtain ⟨x0, x1, x2, x3, x4⟩ := CW.out.cr.wd.cells
      by_cases hklt : k < x.ds.n
      case neg =>
        have e5 : ¬ (k : Int) < (x.ds.n : Int) := by omega
        go_wp2_with fail
        go_roundw
        case rel => exact ⟨i + 1, by omega, by go_num, HB⟩
        case measure => simp [intOf]; omega
      obtain ⟨db, doff, d, hDA, _, hd, _, _, _, _, _, _, _⟩ := Drvs.at_ CW.out.cr.ds0 hklt
      obtain ⟨pb, off, z1, hPA, _, hz1, _, _, _, _, hst1, hc1⟩ := CW.out.cr.pl0.at_ hilt
      obtain ⟨pb2, off2, z2, hPB, _, hz2, _, _, _, _, hst2, hc2⟩ := PX.out.at_ hilt
      subst hPB
      have HDD := Lib.hid hd
      have HDA := Lib.hid hDA
      have HPA := Lib.hid hPA
      have HZ1 := Lib.hid hz1
      have HZ2 := Lib.hid hz2
      have HST1 := Lib.hid hst1
      have HST2 := Lib.hid hst2
      have HC0 : Hid (∀ u, Below wr.heap.size wr u → (u.cell? ⟨W.heap.size, 2, none⟩ = some (.slice (some ⟨db, doff, none⟩) x.ds.n x.ds.c) ∧ u.cell? ⟨W.heap.size, 3, none⟩ = some (.slice x.os.a x.os.n x.os.c) ∧ u.cell? ⟨W.heap.size, 4, none⟩ = some (.slice (some ⟨pb, off, none⟩) x.pl.n x.pl.c)) ∧ (u.cell? ⟨db, doff + k * 6, none⟩ = some (.int .i64 d.id) ∧ u.cell? ⟨db, doff + k * 6 + 1, none⟩ = some (.int .i64 d.room) ∧ u.cell? ⟨db, doff + k * 6 + 2, none⟩ = some (.int .i64 d.home) ∧ u.cell? ⟨db, doff + k * 6 + 3, none⟩ = some (.int .i64 d.win.fr) ∧ u.cell? ⟨db, doff + k * 6 + 4, none⟩ = some (.int .i64 d.win.to) ∧ u.cell? ⟨db, doff + k * 6 + 5, none⟩ = some (.bool d.retired)) ∧ (u.cell? ⟨pb, off + i * 3, none⟩ = some (.int .i64 z1.rt.drv) ∧ u.cell? ⟨pb, off + i * 3 + 1, none⟩ = some (.int .i64 z1.rt.served) ∧ u.cell? ⟨pb, off + i * 3 + 2, none⟩ = some (.slice z1.a z1.n z1.c)) ∧ (u.cell? ⟨pb2, off2 + i * 3, none⟩ = some (.int .i64 z2.rt.drv) ∧ u.cell? ⟨pb2, off2 + i * 3 + 1, none⟩ = some (.int .i64 z2.rt.served) ∧ u.cell? ⟨pb2, off2 + i * 3 + 2, none⟩ = some (.slice z2.a z2.n z2.c))) := fun u hu => by
        have hcu := CW.out.below hu
        obtain ⟨_, _, y2, y3, y4⟩ := hcu.cr.wd.cells
        obtain ⟨b', off', o', e', _, ho', _, c0, c1, c2, c3, c4, c5⟩ := Drvs.at_ hcu.cr.drvs hklt
        rw [HDA.out] at e'
        injection e' with e'
        injection e' with e1 e2
        subst e1; subst e2
        rw [HDD.out] at ho'
        injection ho' with ho'
        subst ho'
        obtain ⟨b', off', o', e', _, ho', _, k0, k1, k2, _, _⟩ := hcu.cr.plns.at_ hilt
        rw [HPA.out] at e'
        injection e' with e'
        injection e' with e1 e2
        subst e1; subst e2
        rw [HZ1.out] at ho'
        injection ho' with ho'
        subst ho'
        obtain ⟨b', off', o', e', _, ho', _, l0, l1, l2', _, _⟩ := (PX.out.keep (HB.out.trans (hu.mono HB.out.size))).at_ hilt
        injection e' with e'
        injection e' with e1 e2
        subst e1; subst e2
        rw [HZ2.out] at ho'
        injection ho' with ho'
        subst ho'
        refine ⟨⟨?_, y3, ?_⟩, ⟨c0, c1, c2, c3, c4, c5⟩, ⟨k0, k1, k2⟩, ⟨l0, l1, l2'⟩⟩
        · rw [y2]; show some (Value.slice x.ds.a x.ds.n x.ds.c) = _; rw [HDA.out]
        · rw [y4]; show some (Value.slice x.pl.a x.pl.n x.pl.c) = _; rw [HPA.out]
      have hkk : (k : Int) < (x.ds.n : Int) := by omega
      clear hd hDA hPA hz1 hz2 hst1 hst2
      go_upto_region 18 with fail
      clear x0 x1 x2 x3 x4
      obtain ⟨⟨y2, y3, y4⟩, ⟨c0, c1, c2, c3, c4, c5⟩, ⟨k0, k1, k2⟩, ⟨l0, l1, l2'⟩⟩ := HC0.out _ (Below.refl _ _)
      obtain ⟨eb, heb⟩ : ∃ b, (d.id != z2.rt.drv) = b := ⟨_, rfl⟩
      go_cut [123] from 112 to 122 (fun bv wx => bv = .bool eb ∧ Hid (Below wr.heap.size wr wx))
      case first =>
        go_quiet (fail)
        all_goals
          go_wp2_with fail
          go_meet
          exact ⟨by first | rfl | rw [heb], Lib.hid (below_drewN (Below.refl _ _) _)⟩
      case rest =>
      obtain ⟨rfl, hb5⟩ := hcut
      obtain ⟨w5, rfl⟩ : ∃ u, u = wc := ⟨_, rfl⟩
      have HB5 := Lib.hid (HB.out.trans (hb5.out.mono HB.out.size))
      clear y2 y3 y4 c0 c1 c2 c3 c4 c5 k0 k1 k2 l0 l1 l2'
      cases eb with
      | true =>
        clear heb HC0 hb5 HB CW
        go_wp2_with fail
        go_roundw
        case rel => exact ⟨k + 1, by omega, by go_num, HB5⟩
        case measure => simp [intOf]; omega
      | false =>
      have hdz : d.id = z2.rt.drv := by simpa using heb
      obtain ⟨ca, cc, hca, hcc, hcase⟩ := fits_each HS.out HQ.out (i := i) (k := k) (z := z1.rt) (z' := z2.rt) (d := d) (by rw [List.getElem?_map, HZ1.out]; rfl) (by rw [← HL2.out, List.getElem?_map, HZ2.out]; rfl) HDD.out hdz
      have HCS := Lib.hid hcase
      have HC : Hid (∀ u, Below w5.heap.size w5 u → (u.cell? ⟨W.heap.size, 2, none⟩ = some (.slice (some ⟨db, doff, none⟩) x.ds.n x.ds.c) ∧ u.cell? ⟨W.heap.size, 3, none⟩ = some (.slice x.os.a x.os.n x.os.c) ∧ u.cell? ⟨W.heap.size, 4, none⟩ = some (.slice (some ⟨pb, off, none⟩) x.pl.n x.pl.c)) ∧ (u.cell? ⟨db, doff + k * 6, none⟩ = some (.int .i64 d.id) ∧ u.cell? ⟨db, doff + k * 6 + 1, none⟩ = some (.int .i64 d.room) ∧ u.cell? ⟨db, doff + k * 6 + 2, none⟩ = some (.int .i64 d.home) ∧ u.cell? ⟨db, doff + k * 6 + 3, none⟩ = some (.int .i64 d.win.fr) ∧ u.cell? ⟨db, doff + k * 6 + 4, none⟩ = some (.int .i64 d.win.to) ∧ u.cell? ⟨db, doff + k * 6 + 5, none⟩ = some (.bool d.retired)) ∧ (u.cell? ⟨pb, off + i * 3, none⟩ = some (.int .i64 z1.rt.drv) ∧ u.cell? ⟨pb, off + i * 3 + 1, none⟩ = some (.int .i64 z1.rt.served) ∧ u.cell? ⟨pb, off + i * 3 + 2, none⟩ = some (.slice z1.a z1.n z1.c)) ∧ (u.cell? ⟨pb2, off2 + i * 3, none⟩ = some (.int .i64 z2.rt.drv) ∧ u.cell? ⟨pb2, off2 + i * 3 + 1, none⟩ = some (.int .i64 z2.rt.served) ∧ u.cell? ⟨pb2, off2 + i * 3 + 2, none⟩ = some (.slice z2.a z2.n z2.c))) := fun u hu => HC0.out u (hb5.out.trans (hu.mono hb5.out.size))
      have HK1 : Hid (∀ u, Below w5.heap.size w5 u → Calls Try.prog 21 #[.pointer q, drvV d, .slice x.os.a x.os.n x.os.c, .slice z1.a z1.n z1.c] u fun en u' => en = .returned (.tuple #[.int .i64 ca, .bool true]) ∧ Below u.heap.size u u') := fun u hu => by
        have h0 := ((CW.out.below hb5.out).below hu).cr
        have h1 := gcost_any W.heap.size (.pointer q) m d x.os.a x.os.n x.os.c os z1.a z1.n z1.c z1.rt.stops u h0.map h0.ords (Recs.more (Recs.keep (HPS.out.each z1 (List.mem_of_getElem? HZ1.out)).1 h0.old) h0.old.size) hc1 x.os.h
        rw [hca] at h1
        exact h1
      have HK2 : Hid (∀ u, Below w5.heap.size w5 u → Calls Try.prog 21 #[.pointer q, drvV d, .slice A9 (x.os.n + 1) c9, .slice z2.a z2.n z2.c] u fun en u' => en = .returned (.tuple #[.int .i64 cc, .bool true]) ∧ Below u.heap.size u u') := fun u hu => by
        have h0 := ((CW.out.below hb5.out).below hu).cr
        have h2 := HB5.out.trans (hu.mono HB5.out.size)
        have h1 := gcost_any W.heap.size (.pointer q) m d A9 (x.os.n + 1) c9 (os ++ [o]) z2.a z2.n z2.c z2.rt.stops u h0.map (Recs.more (Recs.keep RX.out h2) h2.size) (Recs.more (Recs.keep (PX.out.each z2 (List.mem_of_getElem? HZ2.out)).1 h2) h2.size) hc2 HNC.out
        rw [hcc] at h1
        exact h1
      have hbc : 0 ≤ ca ∧ ca ≤ 100000000 ∧ 0 ≤ cc ∧ cc ≤ 100000000 := by
        have hnr := near CX.out.cr.map
        obtain ⟨_, _, _, _, h80, _⟩ := drive_fine (cost_drive hca)
        obtain ⟨_, _, _, _, h81, _⟩ := drive_fine (cost_drive hcc)
        obtain ⟨h1, h2⟩ := cost_in hnr (by omega) hca
        obtain ⟨h3, h4⟩ := cost_in hnr (by omega) hcc
        exact ⟨h1, h2, h3, h4⟩
      have HBC := Lib.hid hbc
      clear heb hdz hca hcc hcase hbc HC0 hb5 HB CW
      go_upto_region 19 with fail
      go_cut [18, 19] from 124 to 141 (fun av bv wx => av = .int .i64 ca ∧ bv = .bool true ∧ Hid (Below w5.heap.size w5 wx))
      case first =>
        refine wp_region_steps (valRF [125, 126, 127, 128, 129, 130, 131, 132, 133, 134, 135, 136, 137, 138, 139, 124, 140, 141, 18, 19] [.pointer q, .pointer (some ⟨W.heap.size, 2, none⟩), .slice (some ⟨db, doff, none⟩) x.ds.n x.ds.c, .int .i64 ((k : Nat) : Int), .pointer (some ⟨db, doff + k * 6, none⟩), drvV d, .pointer (some ⟨W.heap.size, 3, none⟩), .slice x.os.a x.os.n x.os.c, .pointer (some ⟨W.heap.size, 4, none⟩), .slice (some ⟨pb, off, none⟩) x.pl.n x.pl.c, .int .i64 ((i : Nat) : Int), .pointer (some ⟨pb, off + i * 3, none⟩), .pointer (some ⟨pb, off + i * 3 + 2, none⟩), .slice z1.a z1.n z1.c, .tuple #[.int .i64 ca, .bool true], .tuple #[.int .i64 ca, .bool true], .int .i64 ca, .bool true, .int .i64 ca, .bool true]) (by kernel_rfl) (by kernel_rfl) (by kernel_rfl) (fun _ _ => rfl) (by kernel_rfl) valRF.mon ?_ ?_
        · refine ⟨?_, ?_, ?_, ?_, ?_, ?_, ?_, ?_, ?_, ?_, ?_, ?_, ?_, ?_, ?_, ?_, ?_, ?_, ?_, ?_, trivial⟩
          · exact valRF.pureStep rfl 125 rfl rfl (by simp) _ rfl fun listed a u D hI hr hn => exec_move (.inl rfl) (hI.out 5 (by kernel_rfl))
          · exact valRF.pureStep rfl 126 rfl rfl (by simp) _ rfl fun listed a u D hI hr hn => op_field rfl (hI.out 2 (by kernel_rfl)) (by simp [go_sem])
          · exact valRF.pureStep rfl 127 rfl rfl (by simp) _ rfl fun listed a u D hI hr hn => exec_load rfl (valRF.val hI hr hn 1 (by kernel_rfl) rfl rfl) (run_load_sl _ (.inl rfl) (HC.out _ (OneR.below_drew hI.old)).1.1)
          · exact valRF.pureStep rfl 128 rfl rfl (by simp) _ rfl fun listed a u D hI hr hn => exec_move (.inl rfl) (hI.out 17 (by kernel_rfl))
          · exact valRF.pureStep rfl 129 rfl rfl (by simp) _ rfl fun listed a u D hI hr hn => exec_index_drv rfl (valRF.val hI hr hn 2 (by kernel_rfl) rfl rfl) (valRF.val hI hr hn 3 (by kernel_rfl) rfl rfl) hklt hdn
          · exact valRF.pureStep rfl 130 rfl rfl (by simp) _ rfl fun listed a u D hI hr hn => exec_load rfl (valRF.val hI hr hn 4 (by kernel_rfl) rfl rfl) (run_load_dx (HC.out _ (OneR.below_drew hI.old)).2.1)
          · exact valRF.pureStep rfl 131 rfl rfl (by simp) _ rfl fun listed a u D hI hr hn => op_field rfl (hI.out 2 (by kernel_rfl)) (by simp [go_sem])
          · exact valRF.pureStep rfl 132 rfl rfl (by simp) _ rfl fun listed a u D hI hr hn => exec_load rfl (valRF.val hI hr hn 6 (by kernel_rfl) rfl rfl) (run_load_sl _ (.inr (.inl rfl)) (HC.out _ (OneR.below_drew hI.old)).1.2.1)
          · exact valRF.pureStep rfl 133 rfl rfl (by simp) _ rfl fun listed a u D hI hr hn => op_field rfl (hI.out 2 (by kernel_rfl)) (by simp [go_sem])
          · exact valRF.pureStep rfl 134 rfl rfl (by simp) _ rfl fun listed a u D hI hr hn => exec_load rfl (valRF.val hI hr hn 8 (by kernel_rfl) rfl rfl) (run_load_sl _ (.inr (.inr rfl)) (HC.out _ (OneR.below_drew hI.old)).1.2.2)
          · exact valRF.pureStep rfl 135 rfl rfl (by simp) _ rfl fun listed a u D hI hr hn => exec_move (.inl rfl) (hI.out 16 (by kernel_rfl))
          · exact valRF.pureStep rfl 136 rfl rfl (by simp) _ rfl fun listed a u D hI hr hn => exec_index_rte rfl (valRF.val hI hr hn 9 (by kernel_rfl) rfl rfl) (valRF.val hI hr hn 10 (by kernel_rfl) rfl rfl) hilt hpn
          · exact valRF.pureStep rfl 137 rfl rfl (by simp) _ rfl fun listed a u D hI hr hn => op_field rfl (valRF.val hI hr hn 11 (by kernel_rfl) rfl rfl) (by simp [go_sem])
          · exact valRF.pureStep rfl 138 rfl rfl (by simp) _ rfl fun listed a u D hI hr hn => exec_load rfl (valRF.val hI hr hn 12 (by kernel_rfl) rfl rfl) (run_load_ps (HC.out _ (OneR.below_drew hI.old)).2.2.1.2.2)
          · exact valRF.callStep rfl 139 rfl rfl (by simp) _ rfl fun listed a u D hI hr hn => ⟨_, _, ins_call4 rfl (valRF.val hI hr hn 0 (by kernel_rfl) rfl rfl) (valRF.val hI hr hn 5 (by kernel_rfl) rfl rfl) (valRF.val hI hr hn 7 (by kernel_rfl) rfl rfl) (valRF.val hI hr hn 13 (by kernel_rfl) rfl rfl) (by simp [go_sem]), HK1.out _ (OneR.below_drew hI.old)⟩
          · exact valRF.pureStep rfl 124 rfl rfl (by simp) _ rfl fun listed a u D hI hr hn => exec_move (.inl rfl) (valRF.val hI hr hn 14 (by kernel_rfl) rfl rfl)
          · exact valRF.pureStep rfl 140 rfl rfl (by simp) _ rfl fun listed a u D hI hr hn => op_extract rfl (valRF.val hI hr hn 15 (by kernel_rfl) rfl rfl) rfl
          · exact valRF.pureStep rfl 141 rfl rfl (by simp) _ rfl fun listed a u D hI hr hn => op_extract rfl (valRF.val hI hr hn 15 (by kernel_rfl) rfl rfl) rfl
          · exact valRF.pureStep rfl 18 rfl rfl (by simp) _ rfl fun listed a u D hI hr hn => exec_move (.inr rfl) (valRF.val hI hr hn 16 (by kernel_rfl) rfl rfl)
          · exact valRF.pureStep rfl 19 rfl rfl (by simp) _ rfl fun listed a u D hI hr hn => exec_move (.inr rfl) (valRF.val hI hr hn 17 (by kernel_rfl) rfl rfl)
        · intro listed a u D hI hall
          have eR0 : a.tmps.getD 18 undef = .int .i64 ca := (hI.fact 18 ⟨hall 18 (by simp), fun k hk => by cases hk⟩).1
          have eR1 : a.tmps.getD 19 undef = .bool true := (hI.fact 19 ⟨hall 19 (by simp), fun k hk => by cases hk⟩).1
          have hold := OneR.below_drew hI.old
          have hl := hI.fill [125, 126, 127, 128, 129, 130, 131, 132, 133, 134, 135, 136, 137, 138, 139, 124, 140, 141, 18, 19] (by kernel_rfl)
          clear hI hall
          obtain ⟨σ, hσ⟩ : ∃ σ : Nat → Value, ∀ t, a.tmps.getD t undef = σ t := ⟨_, fun _ => rfl⟩
          simp only [hσ] at hl eR0 eR1
          clear hσ
          simp only [List.foldl_cons, List.foldl_nil, List.setIfInBounds_toArray, List.set_cons_zero, List.set_cons_succ, eR0, eR1] at hl
          subst hl
          go_wp2_with fail
          go_meet
          exact ⟨rfl, rfl, hold⟩
      case rest =>
      obtain ⟨rfl, rfl, hb6⟩ := hcut
      obtain ⟨w6, rfl⟩ : ∃ u, u = wc := ⟨_, rfl⟩
      have HC6 : Hid (∀ u, Below w6.heap.size w6 u → (u.cell? ⟨W.heap.size, 2, none⟩ = some (.slice (some ⟨db, doff, none⟩) x.ds.n x.ds.c) ∧ u.cell? ⟨W.heap.size, 3, none⟩ = some (.slice x.os.a x.os.n x.os.c) ∧ u.cell? ⟨W.heap.size, 4, none⟩ = some (.slice (some ⟨pb, off, none⟩) x.pl.n x.pl.c)) ∧ (u.cell? ⟨db, doff + k * 6, none⟩ = some (.int .i64 d.id) ∧ u.cell? ⟨db, doff + k * 6 + 1, none⟩ = some (.int .i64 d.room) ∧ u.cell? ⟨db, doff + k * 6 + 2, none⟩ = some (.int .i64 d.home) ∧ u.cell? ⟨db, doff + k * 6 + 3, none⟩ = some (.int .i64 d.win.fr) ∧ u.cell? ⟨db, doff + k * 6 + 4, none⟩ = some (.int .i64 d.win.to) ∧ u.cell? ⟨db, doff + k * 6 + 5, none⟩ = some (.bool d.retired)) ∧ (u.cell? ⟨pb, off + i * 3, none⟩ = some (.int .i64 z1.rt.drv) ∧ u.cell? ⟨pb, off + i * 3 + 1, none⟩ = some (.int .i64 z1.rt.served) ∧ u.cell? ⟨pb, off + i * 3 + 2, none⟩ = some (.slice z1.a z1.n z1.c)) ∧ (u.cell? ⟨pb2, off2 + i * 3, none⟩ = some (.int .i64 z2.rt.drv) ∧ u.cell? ⟨pb2, off2 + i * 3 + 1, none⟩ = some (.int .i64 z2.rt.served) ∧ u.cell? ⟨pb2, off2 + i * 3 + 2, none⟩ = some (.slice z2.a z2.n z2.c))) := fun u hu => HC.out u (hb6.out.trans (hu.mono hb6.out.size))
      have HK6 : Hid (∀ u, Below w6.heap.size w6 u → Calls Try.prog 21 #[.pointer q, drvV d, .slice A9 (x.os.n + 1) c9, .slice z2.a z2.n z2.c] u fun en u' => en = .returned (.tuple #[.int .i64 cc, .bool true]) ∧ Below u.heap.size u u') := fun u hu => HK2.out u (hb6.out.trans (hu.mono hb6.out.size))
      have HB6 := Lib.hid (HB5.out.trans (hb6.out.mono HB5.out.size))
      clear HC HK1 HK2 hb6 HB5
      have HC := HC6
      have HK2 := HK6
      clear HC6 HK6
      go_upto_region 20 with fail
      go_cut [20, 21] from 142 to 157 (fun av bv wx => av = .int .i64 cc ∧ bv = .bool true ∧ Hid (Below w6.heap.size w6 wx))
      case first =>
        refine wp_region_steps (valRF [143, 144, 145, 146, 147, 148, 149, 150, 151, 152, 153, 154, 155, 142, 156, 157, 20, 21] [.pointer q, .pointer (some ⟨W.heap.size, 2, none⟩), .slice (some ⟨db, doff, none⟩) x.ds.n x.ds.c, .int .i64 ((k : Nat) : Int), .pointer (some ⟨db, doff + k * 6, none⟩), drvV d, .slice A9 (x.os.n + 1) c9, .slice (some ⟨pb2, off2, none⟩) x.pl.n kk, .int .i64 ((i : Nat) : Int), .pointer (some ⟨pb2, off2 + i * 3, none⟩), .pointer (some ⟨pb2, off2 + i * 3 + 2, none⟩), .slice z2.a z2.n z2.c, .tuple #[.int .i64 cc, .bool true], .tuple #[.int .i64 cc, .bool true], .int .i64 cc, .bool true, .int .i64 cc, .bool true]) (by kernel_rfl) (by kernel_rfl) (by kernel_rfl) (fun _ _ => rfl) (by kernel_rfl) valRF.mon ?_ ?_
        · refine ⟨?_, ?_, ?_, ?_, ?_, ?_, ?_, ?_, ?_, ?_, ?_, ?_, ?_, ?_, ?_, ?_, ?_, ?_, trivial⟩
          · exact valRF.pureStep rfl 143 rfl rfl (by simp) _ rfl fun listed a u D hI hr hn => exec_move (.inl rfl) (hI.out 5 (by kernel_rfl))
          · exact valRF.pureStep rfl 144 rfl rfl (by simp) _ rfl fun listed a u D hI hr hn => op_field rfl (hI.out 2 (by kernel_rfl)) (by simp [go_sem])
          · exact valRF.pureStep rfl 145 rfl rfl (by simp) _ rfl fun listed a u D hI hr hn => exec_load rfl (valRF.val hI hr hn 1 (by kernel_rfl) rfl rfl) (run_load_sl _ (.inl rfl) (HC.out _ (OneR.below_drew hI.old)).1.1)
          · exact valRF.pureStep rfl 146 rfl rfl (by simp) _ rfl fun listed a u D hI hr hn => exec_move (.inl rfl) (hI.out 17 (by kernel_rfl))
          · exact valRF.pureStep rfl 147 rfl rfl (by simp) _ rfl fun listed a u D hI hr hn => exec_index_drv rfl (valRF.val hI hr hn 2 (by kernel_rfl) rfl rfl) (valRF.val hI hr hn 3 (by kernel_rfl) rfl rfl) hklt hdn
          · exact valRF.pureStep rfl 148 rfl rfl (by simp) _ rfl fun listed a u D hI hr hn => exec_load rfl (valRF.val hI hr hn 4 (by kernel_rfl) rfl rfl) (run_load_dx (HC.out _ (OneR.below_drew hI.old)).2.1)
          · exact valRF.pureStep rfl 149 rfl rfl (by simp) _ rfl fun listed a u D hI hr hn => exec_move (.inl rfl) (hI.out 13 (by kernel_rfl))
          · exact valRF.pureStep rfl 150 rfl rfl (by simp) _ rfl fun listed a u D hI hr hn => exec_move (.inl rfl) (hI.out 11 (by kernel_rfl))
          · exact valRF.pureStep rfl 151 rfl rfl (by simp) _ rfl fun listed a u D hI hr hn => exec_move (.inl rfl) (hI.out 16 (by kernel_rfl))
          · exact valRF.pureStep rfl 152 rfl rfl (by simp) _ rfl fun listed a u D hI hr hn => exec_index_rte rfl (valRF.val hI hr hn 7 (by kernel_rfl) rfl rfl) (valRF.val hI hr hn 8 (by kernel_rfl) rfl rfl) hilt hpn
          · exact valRF.pureStep rfl 153 rfl rfl (by simp) _ rfl fun listed a u D hI hr hn => op_field rfl (valRF.val hI hr hn 9 (by kernel_rfl) rfl rfl) (by simp [go_sem])
          · exact valRF.pureStep rfl 154 rfl rfl (by simp) _ rfl fun listed a u D hI hr hn => exec_load rfl (valRF.val hI hr hn 10 (by kernel_rfl) rfl rfl) (run_load_ps (HC.out _ (OneR.below_drew hI.old)).2.2.2.2.2)
          · exact valRF.callStep rfl 155 rfl rfl (by simp) _ rfl fun listed a u D hI hr hn => ⟨_, _, ins_call4 rfl (valRF.val hI hr hn 0 (by kernel_rfl) rfl rfl) (valRF.val hI hr hn 5 (by kernel_rfl) rfl rfl) (valRF.val hI hr hn 6 (by kernel_rfl) rfl rfl) (valRF.val hI hr hn 11 (by kernel_rfl) rfl rfl) (by simp [go_sem]), HK2.out _ (OneR.below_drew hI.old)⟩
          · exact valRF.pureStep rfl 142 rfl rfl (by simp) _ rfl fun listed a u D hI hr hn => exec_move (.inl rfl) (valRF.val hI hr hn 12 (by kernel_rfl) rfl rfl)
          · exact valRF.pureStep rfl 156 rfl rfl (by simp) _ rfl fun listed a u D hI hr hn => op_extract rfl (valRF.val hI hr hn 13 (by kernel_rfl) rfl rfl) rfl
          · exact valRF.pureStep rfl 157 rfl rfl (by simp) _ rfl fun listed a u D hI hr hn => op_extract rfl (valRF.val hI hr hn 13 (by kernel_rfl) rfl rfl) rfl
          · exact valRF.pureStep rfl 20 rfl rfl (by simp) _ rfl fun listed a u D hI hr hn => exec_move (.inr rfl) (valRF.val hI hr hn 14 (by kernel_rfl) rfl rfl)
          · exact valRF.pureStep rfl 21 rfl rfl (by simp) _ rfl fun listed a u D hI hr hn => exec_move (.inr rfl) (valRF.val hI hr hn 15 (by kernel_rfl) rfl rfl)
        · intro listed a u D hI hall
          have eR0 : a.tmps.getD 20 undef = .int .i64 cc := (hI.fact 16 ⟨hall 16 (by simp), fun k hk => by cases hk⟩).1
          have eR1 : a.tmps.getD 21 undef = .bool true := (hI.fact 17 ⟨hall 17 (by simp), fun k hk => by cases hk⟩).1
          have hold := OneR.below_drew hI.old
          have hl := hI.fill [143, 144, 145, 146, 147, 148, 149, 150, 151, 152, 153, 154, 155, 142, 156, 157, 20, 21] (by kernel_rfl)
          clear hI hall
          obtain ⟨σ, hσ⟩ : ∃ σ : Nat → Value, ∀ t, a.tmps.getD t undef = σ t := ⟨_, fun _ => rfl⟩
          simp only [hσ] at hl eR0 eR1
          clear hσ
          simp only [List.foldl_cons, List.foldl_nil, List.setIfInBounds_toArray, List.set_cons_zero, List.set_cons_succ, eR0, eR1] at hl
          subst hl
          go_wp2_with fail
          go_meet
          exact ⟨rfl, rfl, hold⟩
      case rest =>
      obtain ⟨rfl, rfl, hb7⟩ := hcut
      obtain ⟨w7, rfl⟩ : ∃ u, u = wc := ⟨_, rfl⟩
      have HB7 := Lib.hid (HB6.out.trans (hb7.out.mono HB6.out.size))
      obtain ⟨⟨y2, y3, y4⟩, ⟨c0, c1, c2, c3, c4, c5⟩, ⟨k0, k1, k2⟩, ⟨l0, l1, l2'⟩⟩ := HC.out _ hb7.out
      obtain ⟨a0, a1, a2, a3⟩ := S4Box.cells (Blk.below SX.out HB7.out (Blk.lt SX.out))
      clear HC HK2 hb7 HB6
      go_upto_region 21 with fail
      go_cut [204] from 158 to 203 (fun bv wx => bv = .bool false ∧ Hid (Below w7.heap.size w7 wx))
      case first =>
        obtain ⟨b1, b2, b3, b4⟩ := HBC.out
        rcases HCS.out with ⟨h1, h2, h3⟩ | ⟨h1, h2⟩
        · have e1 : (z2.rt.drv == s.drv) = true := by simpa using h1
          have e2 : (z2.rt.drv != s.drv) = false := by simpa using h1
          have e3 : (s.cost != s.cost) = false := by simp
          have hsw : IntKind.i64.wrap s.cost = s.cost := IntWalk.i64_in _ (by omega)
          rw [h3] at c5
          clear h1 h3
          go_quiet (fail)
          all_goals
            go_wp2_with fail
            go_meet
            exact ⟨by first | rfl | simp, Lib.hid (below_drewN (Below.refl _ _) _)⟩
        · have e1 : (z2.rt.drv == s.drv) = false := by simpa using h1
          have e2 : (z2.rt.drv != s.drv) = true := by simpa using h1
          have e3 : (cc != cc) = false := by simp
          subst h2
          clear h1
          go_quiet (fail)
          all_goals
            go_wp2_with fail
            go_meet
            exact ⟨by first | rfl | simp, Lib.hid (below_drewN (Below.refl _ _) _)⟩
      case rest =>
      obtain ⟨rfl, hb8⟩ := hcut
      obtain ⟨w8, rfl⟩ : ∃ u, u = wc := ⟨_, rfl⟩
      have HB8 := Lib.hid (HB7.out.trans (hb8.out.mono HB7.out.size))
      clear hb8 HB7 y2 y3 y4 c0 c1 c2 c3 c4 c5 k0 k1 k2 l0 l1 l2' a0 a1 a2 a3
      go_wp2_with fail
      go_roundw
      case rel => exact ⟨k + 1, by omega, by go_num, HB8⟩
      case measure => simp [intOf]; omega
theorem insertFits_w (x : Wd) (o : FleetMath.Ord) (W : World) (h : ∃ ts ds os ps, Frames.WdOk W x ts ds os ∧ Frames.PlnOk W x.pl.a x.pl.n x.pl.c ps) : Calls Try.prog 8 #[wdV x, ordV o] W fun e w' => e = .returned (.bool true) ∧ Below W.heap.size W w' := by
  obtain ⟨ts, ds, os, ps, h1, h2⟩ := h
  exact insertFits_walk x o ts ds os ps W h1.ts h1.ds h1.os h2.plns h1.osn
#print axioms insertFits_w
end Go.Proofs.Ytpigklkidagolaa.Insert
