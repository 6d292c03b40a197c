/-
  Nothing is wrong just if there is a certificate, and each order stands in the plan: AuditNone, walked. Written by tools/gen_anone.py.
-/
import Derived.Test.YtjklpdeeohhhnaaAuditUses
import Derived.Test.YtjklpdeeohhhnaaCertMakesP
import Derived.Test.YtjklpdeeohhhnaaFrameWorldP
namespace Go.Proofs.Ytjklpdeeohhhnaa.Audit
open Go.ChangeShapes Go.WideShapes Go.ChangeAt Go.RowKit Go.Proofs.Ytjklpdeeohhhnaa.Mem Go.Proofs.Ytjklpdeeohhhnaa.GeoMath Go.Proofs.Ytjklpdeeohhhnaa.FleetMath Go.Proofs.Ytjklpdeeohhhnaa.PlanMath Go.Proofs.Ytjklpdeeohhhnaa.CertMath Go.Proofs.Ytjklpdeeohhhnaa.AuditMath Go.Proofs.Ytjklpdeeohhhnaa.Rec Go.Proofs.Ytjklpdeeohhhnaa.Geo Go.Proofs.Ytjklpdeeohhhnaa.Span Go.Proofs.Ytjklpdeeohhhnaa.Deal Go.Proofs.Ytjklpdeeohhhnaa.Keep Go.Proofs.Ytjklpdeeohhhnaa.Route Go.Proofs.Ytjklpdeeohhhnaa.Plan Go.Proofs.Ytjklpdeeohhhnaa.Cert
set_option linter.unusedVariables false
set_option linter.unusedSimpArgs false
theorem use_make2 {W u : World} {q r : Option Addr} {m : Option Mp} {x : Wd} {ds : List Drv} {os : List FleetMath.Ord} {ps : List RM} (h : CR W q r m x ds os ps u) {cs : List (List Vis)} {k : Nat} {e : Int} (hr : makeC m ds os (ps.map (·.rt)) = (cs, k, e)) :
    Calls Try.prog 19 #[.pointer q, x.ds.v, x.os.v, x.pl.v] u fun en u' => ∃ B n c, en = .returned (.tuple #[.slice B n c, faultV k e]) ∧ Below u.heap.size u u' := by
  refine (pmake_any W.heap.size _ m _ _ _ ds _ _ _ os _ _ _ ps u x.ds.h x.os.h h.map h.drvs h.ords h.plns).mono ?_
  rintro en u' ⟨v, l, rfl, hm⟩
  rw [hr] at hm ⊢
  obtain ⟨B, c, rfl⟩ := hm.new.own.slice
  exact ⟨B, _, c, rfl, hm.new.old⟩
set_option maxRecDepth 100000 in
set_option maxHeartbeats 8000000 in
theorem auditNone_walk (x : Wd) (ts : List Int) (ds : List Drv) (os : List FleetMath.Ord) (ps : List RM) (W : World) (hts : Ints W W.heap.size x.ts.a x.ts.n ts) (hds : Drvs W W.heap.size x.ds.a x.ds.n ds) (hos : Ords W W.heap.size x.os.a x.os.n os) (hps : Plns W W.heap.size x.pl.a x.pl.n ps) :
    Calls Try.prog 6 #[wdV x] W fun e w' => e = .returned (.bool true) ∧ Below W.heap.size W w' := by
  have hmo := Recs.le hos
  have HL := Lib.hid hos.length
  have HTS := Lib.hid hts
  have HDS := Lib.hid hds
  have HOS := Lib.hid hos
  have HPS := Lib.hid hps
  clear hts hds hos hps
  obtain ⟨m, hm⟩ : ∃ m, mapOf x.n ts = m := ⟨_, rfl⟩
  have HM := Lib.hid hm
  clear hm
  obtain ⟨t, hau⟩ : ∃ z, auditM m ds os (ps.map (·.rt)) = z := ⟨_, rfl⟩
  have HAU := Lib.hid hau
  clear hau
  obtain ⟨⟨cs, fk, fe⟩, hmk⟩ : ∃ z, makeC m ds os (ps.map (·.rt)) = z := ⟨_, rfl⟩
  have HMK := Lib.hid hmk
  have HIFF : Hid (t = [] ↔ fe = 0 ∧ ∀ o ∈ os, (findP (ps.map (·.rt)) o.id).isSome = true) := by
    show _ ↔ _
    rw [← HAU.out, audit_none, hmk]
  clear hmk
  have HB0 : Hid (Below W.heap.size W (W.alloc (.cells #[.int .i64 x.n, x.ts.v, x.ds.v, x.os.v, x.pl.v] 52))) := (Below.refl _ _).alloc (Nat.le_refl _) _
  have HW0 := Lib.hid (WBox.new W x)
  go_enter Try.func6, Try.ntmps6
  go_wp2_with fail
  refine (kmaps_any x ts _ (by exact Reads.more (Reads.keep HTS.out HB0.out) HB0.out.size)).mono ?_
  intro e w1 hmo'
  obtain ⟨q, r, rfl, hcr⟩ := CR.start (n0 := 0) HB0.out HW0.out HDS.out HOS.out HPS.out HM.out hmo'
  have C1 := Lib.hid hcr
  clear hmo' hcr HB0 HW0
  obtain ⟨x0, x1, x2, x3, x4⟩ := C1.out.wd.cells
  go_wp2_with fail
  refine (use_make2 C1.out HMK.out).mono ?_
  rintro e w2 ⟨Ba, na, ca, rfl, hb2⟩
  have C3 : Hid (CR W q r m x ds os ps (w2.alloc (.cells #[.int .i64 fk, .int .i64 fe] 63))) := (C1.out.below hb2).below ((Below.refl _ _).alloc (Nat.le_refl _) _)
  have F3 : Hid (FBox (w2.alloc (.cells #[.int .i64 fk, .int .i64 fe] 63)) w2.heap.size fk fe) := Blk.new w2 _ _
  clear hb2 C1 x0 x1 x2 x3 x4
  go_upto_region 6 with fail
  obtain ⟨w3, hw3⟩ : ∃ u, w2.alloc (.cells #[.int .i64 fk, .int .i64 fe] 63) = u := ⟨_, rfl⟩
  rw [hw3] at C3 F3 ⊢
  obtain ⟨gf, hgf⟩ : ∃ g, w2.heap.size = g := ⟨_, rfl⟩
  rw [hgf] at F3 ⊢
  clear hw3 hgf
  go_wp2_with fail
  go_loopw [8, 9] (fun av iv wr => ∃ (k : Nat) (b : Bool), k ≤ x.os.n ∧ iv = .int .i64 k ∧ av = .bool b ∧ Hid (CR W q r m x ds os ps wr) ∧ Hid (FBox wr gf fk fe) ∧ Hid (b = true ↔ ∀ j o, j < k → os[j]? = some o → (findP (ps.map (·.rt)) o.id).isSome = true)) (fun _ iv _ => x.os.n - (intOf iv).toNat)
  case atStart => exact ⟨0, true, Nat.zero_le _, rfl, rfl, C3, F3, Lib.hid ⟨fun _ j o hj => absurd hj (by omega), fun _ => rfl⟩⟩
  case round =>
    clear C3 F3
    obtain ⟨k, ba, hk, rfl, rfl, C4, F4, HK⟩ := hrel
    obtain ⟨x0, x1, x2, x3, x4⟩ := C4.out.wd.cells
    by_cases hlt : k < x.os.n
    · obtain ⟨b, off, o, hA, _, ho, _⟩ := Ords.at_ C4.out.ords hlt
      obtain ⟨sd, sp, sq, sb, hsv, hsb⟩ := spot_form (findP (ps.map (·.rt)) o.id)
      have HOO := Lib.hid ho
      have HN : Hid ((ba && sb) = true ↔ ∀ j o, j < k + 1 → os[j]? = some o → (findP (ps.map (·.rt)) o.id).isSome = true) := by
        show _ ↔ _
        rw [Bool.and_eq_true, HK.out, hsb]
        constructor
        · rintro ⟨h1, h2⟩ j y hj hy
          by_cases e : j = k
          · subst e
            rw [ho] at hy
            injection hy with hy
            rw [← hy]; exact h2
          · exact h1 j y (by omega) hy
        · intro h
          exact ⟨fun j y hj hy => h j y (by omega) hy, h k o (by omega) ho⟩
      have HC : Hid (∀ u, Below wr.heap.size wr u → u.cell? ⟨W.heap.size, 4, none⟩ = some (.slice x.pl.a x.pl.n x.pl.c) ∧ u.cell? ⟨W.heap.size, 3, none⟩ = some (.slice (some ⟨b, off, none⟩) x.os.n x.os.c) ∧ u.cell? ⟨b, off + k * 10, none⟩ = some (.int .i64 o.id)) := fun u hu => by
        have hcu := C4.out.below hu
        obtain ⟨_, _, _, z3, z4⟩ := hcu.wd.cells
        obtain ⟨b', off', o', e', _, ho', _, c0, _⟩ := Ords.at_ hcu.ords hlt
        rw [hA] at e'
        injection e' with e'
        injection e' with e1 e2
        subst e1; subst e2
        rw [HOO.out] at ho'
        injection ho' with ho'
        subst ho'
        refine ⟨z4, ?_, c0⟩
        rw [z3]
        show some (Value.slice x.os.a x.os.n x.os.c) = _
        rw [hA]
      have HFD : Hid (∀ u, Below wr.heap.size wr u → Calls Try.prog 20 #[.slice x.pl.a x.pl.n x.pl.c, .int .i64 o.id] u (fun e w' => e = .returned (.tuple #[.agg #[.int .i64 sd, .int .i64 sp, .int .i64 sq, .int .i64 0], .bool sb]) ∧ Below u.heap.size u w')) := fun u hu => use_pfind (C4.out.below hu) hsv
      clear ho hsv hsb HK hA
      go_upto_region 9 with fail
      clear x0 x1 x2 x3 x4
      go_cut [10, 11] (fun pv bv wx => ∃ gt, pv = .pointer (some ⟨gt, 0, none⟩) ∧ bv = .bool sb ∧ Hid (Below wr.heap.size wr wx))
      case first =>
        refine wp_region_steps (boxRF [40, 41, 42, 43, 44, 45, 46, 47, 48, 39, 49, 50, 10, 10, 11] [.pointer (some ⟨W.heap.size, 4, none⟩), .slice x.pl.a x.pl.n x.pl.c, .pointer (some ⟨W.heap.size, 3, none⟩), .slice (some ⟨b, off, none⟩) x.os.n x.os.c, .int .i64 ((k : Nat) : Int), .pointer (some ⟨b, off + k * 10, none⟩), .pointer (some ⟨b, off + k * 10, none⟩), .int .i64 o.id, .tuple #[.agg #[.int .i64 sd, .int .i64 sp, .int .i64 sq, .int .i64 0], .bool sb], .tuple #[.agg #[.int .i64 sd, .int .i64 sp, .int .i64 sq, .int .i64 0], .bool sb], .agg #[.int .i64 sd, .int .i64 sp, .int .i64 sq, .int .i64 0], .bool sb, undef, undef, .bool sb] 12 13 67 [.int .i64 0, .int .i64 0, .int .i64 0, .int .i64 0] [.int .i64 sd, .int .i64 sp, .int .i64 sq, .int .i64 0]) (by kernel_rfl) (by kernel_rfl) (by kernel_rfl) (fun q hq => ?_) (by kernel_rfl) boxRF.mon ?_ ?_
        · simp only [List.length_cons, List.length_nil] at hq
          simp only [boxRF]
          rw [if_neg (by omega)]
        · refine ⟨?_, ?_, ?_, ?_, ?_, ?_, ?_, ?_, ?_, ?_, ?_, ?_, ?_, ?_, ?_, trivial⟩
          · exact boxRF.pureStep rfl 40 rfl rfl (by simp) (by decide) (by decide) _ rfl fun listed a u D hI hr hn => op_field rfl (hI.out 1 (by kernel_rfl)) (by simp [go_sem])
          · exact boxRF.pureStep rfl 41 rfl rfl (by simp) (by decide) (by decide) _ rfl fun listed a u D hI hr hn => exec_load rfl (boxRF.val hI hr hn 0 (by kernel_rfl) (by decide) (by decide) rfl rfl) (run_load_pln (HC.out _ (OneR.below_drew hI.old)).1)
          · exact boxRF.pureStep rfl 42 rfl rfl (by simp) (by decide) (by decide) _ rfl fun listed a u D hI hr hn => op_field rfl (hI.out 1 (by kernel_rfl)) (by simp [go_sem])
          · exact boxRF.pureStep rfl 43 rfl rfl (by simp) (by decide) (by decide) _ rfl fun listed a u D hI hr hn => exec_load rfl (boxRF.val hI hr hn 2 (by kernel_rfl) (by decide) (by decide) rfl rfl) (run_load_ors (HC.out _ (OneR.below_drew hI.old)).2.1)
          · exact boxRF.pureStep rfl 44 rfl rfl (by simp) (by decide) (by decide) _ rfl fun listed a u D hI hr hn => exec_move (.inl rfl) (hI.out 9 (by kernel_rfl))
          · exact boxRF.pureStep rfl 45 rfl rfl (by simp) (by decide) (by decide) _ rfl fun listed a u D hI hr hn => OneR.exec_index_o rfl (boxRF.val hI hr hn 3 (by kernel_rfl) (by decide) (by decide) rfl rfl) (boxRF.val hI hr hn 4 (by kernel_rfl) (by decide) (by decide) rfl rfl) hlt hmo
          · exact boxRF.pureStep rfl 46 rfl rfl (by simp) (by decide) (by decide) _ rfl fun listed a u D hI hr hn => op_field rfl (boxRF.val hI hr hn 5 (by kernel_rfl) (by decide) (by decide) rfl rfl) (by simp [go_sem])
          · exact boxRF.pureStep rfl 47 rfl rfl (by simp) (by decide) (by decide) _ rfl fun listed a u D hI hr hn => exec_load rfl (boxRF.val hI hr hn 6 (by kernel_rfl) (by decide) (by decide) rfl rfl) (run_load_pi (HC.out _ (OneR.below_drew hI.old)).2.2)
          · exact boxRF.callStep rfl 48 rfl rfl (by simp) (by decide) (by decide) _ rfl fun listed a u D hI hr hn => ⟨_, _, op_call2 rfl (boxRF.val hI hr hn 1 (by kernel_rfl) (by decide) (by decide) rfl rfl) (boxRF.val hI hr hn 7 (by kernel_rfl) (by decide) (by decide) rfl rfl) (by simp [go_sem]), HFD.out _ (OneR.below_drew hI.old)⟩
          · exact boxRF.pureStep rfl 39 rfl rfl (by simp) (by decide) (by decide) _ rfl fun listed a u D hI hr hn => exec_move (.inl rfl) (boxRF.val hI hr hn 8 (by kernel_rfl) (by decide) (by decide) rfl rfl)
          · exact boxRF.pureStep rfl 49 rfl rfl (by simp) (by decide) (by decide) _ rfl fun listed a u D hI hr hn => op_extract rfl (boxRF.val hI hr hn 9 (by kernel_rfl) (by decide) (by decide) rfl rfl) rfl
          · exact boxRF.pureStep rfl 50 rfl rfl (by simp) (by decide) (by decide) _ rfl fun listed a u D hI hr hn => op_extract rfl (boxRF.val hI hr hn 9 (by kernel_rfl) (by decide) (by decide) rfl rfl) rfl
          · exact boxRF.allocStep rfl 10 rfl rfl (by simp) fun a u => exec_asp rfl
          · exact boxRF.storeStep rfl rfl rfl rfl (by decide) (by kernel_rfl) fun listed a u D hI hr hn g e1 hb => ⟨_, exec_store rfl e1 (boxRF.val hI hr hn 10 (by kernel_rfl) (by decide) (by decide) rfl rfl) (run_store_sp hb), ((((Only.refl _ _).set _ _).set _ _).set _ _).set _ _, putSp_box hb⟩
          · exact boxRF.pureStep rfl 11 rfl rfl (by simp) (by decide) (by decide) _ rfl fun listed a u D hI hr hn => exec_move (.inr rfl) (boxRF.val hI hr hn 11 (by kernel_rfl) (by decide) (by decide) rfl rfl)
        · intro listed a u D hI hall
          obtain ⟨gt, eB, hbx⟩ := boxRF.box hI hall (by decide) (by decide) (s := 10) rfl
          have eR0 : a.tmps.getD 11 undef = .bool sb := by
            have := hI.fact 14 ⟨hall 14 (by simp), fun k hk => by simp [boxRF] at hk⟩
            simp only [boxRF] at this
            rw [if_neg (by decide), if_neg (by decide)] at this
            exact this.1
          have hold := OneR.below_drew hI.old
          have hl := hI.fill [40, 41, 42, 43, 44, 45, 46, 47, 48, 39, 49, 50, 10, 11] (by kernel_rfl)
          clear hI hall
          obtain ⟨σ, hσ⟩ : ∃ σ : Nat → Value, ∀ t, a.tmps.getD t undef = σ t := ⟨_, fun _ => rfl⟩
          simp only [hσ] at hl eB eR0
          clear hσ
          simp only [List.foldl_cons, List.foldl_nil, List.setIfInBounds_toArray, List.set_cons_zero, List.set_cons_succ, eB, eR0] at hl
          subst hl
          go_wp2_with fail
          go_meet
          exact ⟨gt, rfl, rfl, hold⟩
      case rest =>
      obtain ⟨gt, rfl, rfl, hb5⟩ := hcut
      obtain ⟨w5, rfl⟩ : ∃ u, u = wc := ⟨_, rfl⟩
      have C5 := Lib.hid (C4.out.below hb5.out)
      have F5 : Hid (FBox w5 gf fk fe) := F4.out.below hb5.out
      clear hb5 C4 F4 HC HFD
      cases ba with
      | true =>
        rw [Bool.true_and] at HN
        go_wp2_with fail
        go_roundw
        case rel => exact ⟨k + 1, sb, by omega, by go_num, rfl, C5, F5, HN⟩
        case measure => simp [intOf]; omega
      | false =>
        rw [Bool.false_and] at HN
        go_wp2_with fail
        go_roundw
        case rel => exact ⟨k + 1, false, by omega, by go_num, rfl, C5, F5, HN⟩
        case measure => simp [intOf]; omega
    · have HALL : Hid (ba = true ↔ ∀ o ∈ os, (findP (ps.map (·.rt)) o.id).isSome = true) := by
        show _ ↔ _
        rw [HK.out]
        constructor
        · intro h o ho
          obtain ⟨j, hj⟩ := List.getElem?_of_mem ho
          have hlj := (List.getElem?_eq_some_iff.1 hj).1
          have h2 := HL.out
          exact h j o (by omega) hj
        · intro h j o _ hj
          exact h o (List.mem_of_getElem? hj)
      clear HK
      go_wp2_with fail
      refine (use_audit C4.out HAU.out).mono ?_
      rintro e w5 ⟨Ba, ca, rfl, ha5⟩
      have C5 := Lib.hid (C4.out.below ha5.below)
      have F5 : Hid (FBox w5 gf fk fe) := F4.out.below ha5.below
      clear ha5 C4 F4 x0 x1 x2 x3 x4
      obtain ⟨f0, f1⟩ := F5.out.cells
      obtain ⟨bl, hbl⟩ : ∃ z : Bool, ((t.length : Int) == 0) = z := ⟨_, rfl⟩
      obtain ⟨bg, hbg⟩ : ∃ z : Bool, (fe == 0) = z := ⟨_, rfl⟩
      have hbb : bl = (bg && ba) := by
        rw [Bool.eq_iff_iff, Bool.and_eq_true, HALL.out, ← hbl, ← hbg]
        simp only [beq_iff_eq]
        rw [← HIFF.out, ← List.length_eq_zero_iff]
        omega
      have HGD : Hid (∀ u, Calls Try.prog 21 #[faultV fk fe] u (Gives u (.bool bg))) := Lib.hid fun u => by
        have := fgood_any fk fe u
        rw [hbg] at this
        exact this
      clear hbg
      go_wp2_with fail
      refine (HGD.out _).mono ?_
      rintro e w6 ⟨rfl, hb6⟩
      have C6 := Lib.hid (C5.out.below hb6)
      clear hb6 C5 F5 f0 f1 HGD
      cases bg with
      | true =>
        rw [Bool.true_and] at hbb
        subst hbb
        have e3 : (bl == bl) = true := by simp
        go_wp2_with fail
        refine (runs_any _).mono ?_
        rintro e w7 ⟨rfl, hb7⟩
        have C7 := Lib.hid (C6.out.below hb7)
        clear hb7 C6
        go_wp2_with fail
        go_ret
        exact ⟨rfl, C7.out.old⟩
      | false =>
        rw [Bool.false_and] at hbb
        subst hbb
        go_wp2_with fail
        refine (runs_any _).mono ?_
        rintro e w7 ⟨rfl, hb7⟩
        have C7 := Lib.hid (C6.out.below hb7)
        clear hb7 C6
        go_wp2_with fail
        go_ret
        exact ⟨rfl, C7.out.old⟩
theorem auditNone_w (x : Wd) (W : World) (h : ∃ ts ds os ps, Frames.WdOk W x ts ds os ∧ Frames.PlnOk W x.pl.a x.pl.n x.pl.c ps) : Calls Try.prog 6 #[wdV x] W fun e w' => e = .returned (.bool true) ∧ Below W.heap.size W w' := by
  obtain ⟨ts, ds, os, ps, h1, h2⟩ := h
  exact auditNone_walk x ts ds os ps W h1.ts h1.ds h1.os h2.plns
#print axioms auditNone_w
end Go.Proofs.Ytjklpdeeohhhnaa.Audit
