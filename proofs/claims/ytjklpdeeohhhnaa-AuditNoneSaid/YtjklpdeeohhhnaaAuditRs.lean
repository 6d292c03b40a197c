/-
  AuditRAlong, AuditRAudit: one text.
-/
import Derived.Test.YtjklpdeeohhhnaaAuditRW
import Derived.Deep.RegionLaw
import Derived.Deep.DeepCutAuto
import Derived.Test.YtjklpdeeohhhnaaPlanFinds
import Derived.Deep.RegionHeld3
/-
  The document's own answer to chapter 11, walked: along. Written by tools/gen_ralong.py.
-/
namespace Go.Proofs.Ytjklpdeeohhhnaa.Audit
open Go.ChangeShapes Go.WideShapes Go.ChangeAt Go.RowKit Go.Proofs.Ytjklpdeeohhhnaa.Mem Go.Proofs.Ytjklpdeeohhhnaa.GeoMath Go.Proofs.Ytjklpdeeohhhnaa.FleetMath Go.Proofs.Ytjklpdeeohhhnaa.PlanMath Go.Proofs.Ytjklpdeeohhhnaa.CertMath Go.Proofs.Ytjklpdeeohhhnaa.AuditMath Go.Proofs.Ytjklpdeeohhhnaa.Rec Go.Proofs.Ytjklpdeeohhhnaa.Geo Go.Proofs.Ytjklpdeeohhhnaa.Span Go.Proofs.Ytjklpdeeohhhnaa.Deal Go.Proofs.Ytjklpdeeohhhnaa.Route Go.Proofs.Ytjklpdeeohhhnaa.Plan Go.Proofs.Ytjklpdeeohhhnaa.Cert Go.Proofs.Ytjklpdeeohhhnaa.Cert.OneR Go.Proofs.Ytjklpdeeohhhnaa.Slack
set_option linter.unusedVariables false
set_option linter.unusedSimpArgs false

theorem here_first {d : Drv} {o : FleetMath.Ord} {seen : List Stp} {st : St} {s : Stp} (h : isFirst seen s) : hereT d o seen st s = [⟨d.id, s.ord, 17⟩] := by unfold hereT; rw [if_pos h]
theorem here_load {d : Drv} {o : FleetMath.Ord} {seen : List Stp} {st : St} {s : Stp} (h : ¬ isFirst seen s) (h1 : s.drop = false) (h2 : d.room < loadOf o s st.load) : hereT d o seen st s = [⟨d.id, s.ord, 14⟩] := by unfold hereT; rw [if_neg h, if_pos ⟨h1, h2⟩]
theorem here_none {d : Drv} {o : FleetMath.Ord} {seen : List Stp} {st : St} {s : Stp} (h : ¬ isFirst seen s) (h2 : ¬ (s.drop = false ∧ d.room < loadOf o s st.load)) : hereT d o seen st s = [] := by unfold hereT; rw [if_neg h, if_neg h2]
theorem part_rest {w : World} {B n c k : Nat} {A : Option Addr} {xs : List Stp} (h : Stps w B A n xs) (hk : k < n) (hc : n ≤ c) : Stps w B (Slack.partAt A (k + 1) c) (n - (k + 1)) (xs.drop (k + 1)) := by
  have h1 := Stps.part (l := k + 1) (h := n) h (by omega) (Nat.le_refl _) hc
  rw [List.take_of_length_le (by rw [List.length_drop, h.length]; omega)] at h1
  exact h1
set_option maxRecDepth 100000 in
set_option maxHeartbeats 8000000 in
theorem ralong_any (base : Nat) (q : Option Addr) (m : Mp) (d : Drv) (A2 : Option Addr) (n2 c2 : Nat) (os : List FleetMath.Ord) (A3 : Option Addr) (n3 c3 : Nat) (stops : List Stp) (w : World) (hcc : n3 ≤ c3)
    (h : MapP w 120 base (.pointer q) (some m)) (hd : drvE (some m) d = 0) (hk : known (some m) os = true) (ho : Ords w w.heap.size A2 n2 os) (hs : Stps w w.heap.size A3 n3 stops) (h80 : n3 ≤ 80) :
    Calls Try.prog 37 #[.pointer q, drvV d, .slice A2 n2 c2, .slice A3 n3 c3] w (MakesK w 47 3 (alongM m d os stops).length (trbsV (alongM m d os stops))) := by
  obtain ⟨mn, ml⟩ := m
  have hm2 := Recs.le ho
  have hm3 := Recs.le hs
  have HM := Lib.hid h
  have HO := Lib.hid ho
  have HST := Lib.hid hs
  have HL2 := Lib.hid ho.length
  have HL3 := Lib.hid hs.length
  have HOK := Lib.hid (known_ok hk)
  obtain ⟨m', hm', hdk⟩ := drvE_ok.1 hd
  injection hm' with hm'
  subst hm'
  have HOA0 : Hid (OA (st0 d) 0) := OA.start hdk
  obtain ⟨bm, hbm⟩ := map_ptr h
  subst hbm
  have HS0 : Hid (TL (AX w d) (.slice none 0 0) [] (AX w d)) := TL.start _
  obtain ⟨X, hX⟩ : ∃ X, alongGo ⟨mn, ml⟩ d os [] (st0 d) stops = X := ⟨_, rfl⟩
  have HX := Lib.hid hX
  have HG0 : Hid (X = [] ++ alongGo ⟨mn, ml⟩ d os (stops.take 0) (st0 d) (stops.drop 0)) := by show _ = _; rw [← hX]; simp
  clear h hk ho hs hdk hd hX
  obtain ⟨e0, e1, e2, e3, e4, e5⟩ := (AX.drv HS0.out).cells
  go_enter Try.func37, Try.ntmps37
  go_wp2_with fail
  go_quiet (fail)
  go_wp2_with fail
  have HS1 : Hid (TL (AX w d) (.slice none 0 0) [] ((AX w d).drewN nq)) := HS0.out.drewN _
  clear HS0 e0 e1 e2 e3 e4 e5
  go_loopw [9, 10, 11, 12, 13] (fun lv av tv dv iv wr => ∃ (k : Nat) (st : St) (l : List Trb), k ≤ n3 ∧ iv = .int .i64 k ∧ av = .int .i64 st.at_ ∧ tv = .int .i64 st.left ∧ dv = .int .i64 st.load ∧ Hid (TL (AX w d) lv l wr) ∧ Hid (X = l ++ alongGo ⟨mn, ml⟩ d os (stops.take k) st (stops.drop k)) ∧ Hid (OA st k) ∧ Hid (l.length ≤ 2 * k)) (fun _ _ _ _ i _ => n3 - (intOf i).toNat)
  case atStart => exact ⟨0, st0 d, [], Nat.zero_le _, rfl, rfl, rfl, rfl, HS1, HG0, HOA0, Lib.hid (by simp)⟩
  case round =>
    clear HS1 HG0 HOA0
    obtain ⟨k, st, l, hk, rfl, rfl, rfl, rfl, HS, HG, HB, HLN⟩ := hrel
    by_cases hlt : k < n3
    case neg =>
      have HE : Hid (X = l) := by
        show _ = _
        have h1 := HG.out
        rw [List.drop_of_length_le (by have := HL3.out; omega)] at h1
        exact ag_end h1
      obtain ⟨Y, hY⟩ : ∃ Y, alongM ⟨mn, ml⟩ d os stops = Y := ⟨_, rfl⟩
      have HL0 : Hid (Y = l ++ lackGo d os (stops.drop 0)) := by
        show _ = _
        rw [← hY, ← HE.out, ← HX.out, List.drop_zero]
        rfl
      have HYE := Lib.hid hY
      have HLN1 : Hid (l.length ≤ 200) := by show _ ≤ _; have := HLN.out; omega
      clear HG HB HX HE HLN hY
      go_wp2_with fail
      go_loopw [9, 20] (fun lv iv wz => ∃ (k : Nat) (l : List Trb), k ≤ n3 ∧ iv = .int .i64 k ∧ Hid (TL (AX w d) lv l wz) ∧ Hid (Y = l ++ lackGo d os (stops.drop k)) ∧ Hid (l.length ≤ 200 + k)) (fun _ i _ => n3 - (intOf i).toNat)
      case atStart => exact ⟨0, l, Nat.zero_le _, rfl, HS, HL0, Lib.hid (by have := HLN1.out; omega)⟩
      case round =>
        clear HS HL0 HLN1 hlt hk
        obtain ⟨k, l, hk, rfl, HS, HG, HLN⟩ := hrel
        by_cases hlt : k < n3
        case neg =>
          have HE : Hid (Y = l) := by
            show _ = _
            have h1 := HG.out
            rw [List.drop_of_length_le (by have := HL3.out; omega)] at h1
            exact lg_end h1
          clear HG
          go_wp2_with fail
          go_ret
          show MakesK _ _ _ _ _ (Ending.returned u9) _
          rw [HYE.out, HE.out]
          exact ⟨_, rfl, AX.old HS.out, HS.out.own.lower (by simp)⟩
        obtain ⟨b3, off3, s, hA3, hbb3, hs, hdr3, c0, c1⟩ := Stps.at_ (Recs.keep HST.out (AX.old HS.out)) hlt
        subst hA3
        have HG1 := HG.out
        rw [hdr3] at HG1
        have HG2 := Lib.hid HG1
        have HS2 : Hid (TL (AX w d) u9 l (wr.alloc (.cells #[.int .i64 s.ord, .bool s.drop] 36))) := HS.out.alloc _
        have HK2 : Hid (KB u9 (wr.alloc (.cells #[.int .i64 s.ord, .bool s.drop] 36)) wr.heap.size 36 [.int .i64 s.ord, .bool s.drop]) := HS.out.box _ _
        obtain ⟨gs, hgs⟩ : ∃ g, wr.heap.size = g := ⟨_, rfl⟩
        obtain ⟨w1, hw1⟩ : ∃ u, wr.alloc (.cells #[.int .i64 s.ord, .bool s.drop] 36) = u := ⟨_, rfl⟩
        obtain ⟨fi, hfi⟩ : ∃ z, idxV (findI os s.ord) = z := ⟨_, rfl⟩
        obtain ⟨tf, htf⟩ : ∃ t, decide (0 ≤ fi) = t := ⟨_, rfl⟩
        obtain ⟨iv, hiv⟩ : ∃ z, idxS (stops.drop (k + 1)) ⟨s.ord, true⟩ = z := ⟨_, rfl⟩
        obtain ⟨t3, ht3⟩ : ∃ t, decide (iv < 0) = t := ⟨_, rfl⟩
        have HTF := Lib.hid htf
        have HT3 := Lib.hid ht3
        have HFS : Hid (tf = true ↔ (find os s.ord).isSome = true) := by
          show _ ↔ _
          rw [← htf, ← hfi, decide_eq_true_eq]
          cases hf : findI os s.ord with
          | none => rw [findI_none hf]; simp [idxV]
          | some i => obtain ⟨o, _, _, h1⟩ := findI_some hf; rw [h1]; simp [idxV]
        have HMEM : Hid (t3 = true ↔ Stp.mk s.ord true ∉ stops.drop (k + 1)) := by
          show _ ↔ _
          rw [← ht3, ← idxS_iff, hiv, decide_eq_true_eq]
          omega
        have HFD' : Hid (∀ u, Below w.heap.size w u → Calls Try.prog 64 #[.slice A2 n2 c2, .int .i64 s.ord] u fun e w' => e = .returned (.int .i64 fi) ∧ Below u.heap.size u w') := fun u hu => by
          have := rfind_any A2 n2 c2 os s.ord u _ (Recs.keep HO.out hu)
          rw [hfi] at this
          refine this.mono ?_
          rintro e w' ⟨rfl, rfl⟩
          exact ⟨rfl, Below.refl _ _⟩
        have HDV' : Hid (∀ u, Below w.heap.size w u → Calls Try.prog 65 #[.slice (Slack.partAt (some ⟨b3, off3, none⟩) (k + 1) c3) (n3 - (k + 1)) (c3 - (k + 1)), stpV ⟨s.ord, true⟩] u fun e w' => e = .returned (.int .i64 iv) ∧ Below u.heap.size u w') := fun u hu => by
          have := rwhere_any (Slack.partAt (some ⟨b3, off3, none⟩) (k + 1) c3) (n3 - (k + 1)) (c3 - (k + 1)) (stops.drop (k + 1)) ⟨s.ord, true⟩ u (part_rest (Recs.more (Recs.keep HST.out hu) hu.size) hlt hcc)
          rw [hiv] at this
          exact this
        clear hdr3 HG1 HG HS hfi htf hiv ht3 hs
        go_upto_region 29 with fail
        rw [hgs] at HK2
        rw [hw1] at HS2 HK2
        clear hw1 hgs c0 c1
        go_cut [183] (fun bv wx => ∃ t : Bool, bv = .bool t ∧ Hid (t = true ↔ s.drop = false ∧ (find os s.ord).isSome = true ∧ Stp.mk s.ord true ∉ stops.drop (k + 1)) ∧ Hid (Below w1.heap.size w1 wx))
        case first =>
          have HDV : Hid (∀ u, Below w1.heap.size w1 u → Calls Try.prog 65 #[.slice (Slack.partAt (some ⟨b3, off3, none⟩) (k + 1) c3) (n3 - (k + 1)) (c3 - (k + 1)), stpV ⟨s.ord, true⟩] u fun e w' => e = .returned (.int .i64 iv) ∧ Below u.heap.size u w') := fun u hu => HDV'.out u ((AX.old HS2.out).trans (hu.mono (AX.old HS2.out).size))
          have HFD : Hid (∀ u, Below w1.heap.size w1 u → Calls Try.prog 64 #[.slice A2 n2 c2, .int .i64 s.ord] u fun e w' => e = .returned (.int .i64 fi) ∧ Below u.heap.size u w') := fun u hu => HFD'.out u ((AX.old HS2.out).trans (hu.mono (AX.old HS2.out).size))
          cases hsd : s.drop with
          | true =>
            have HC : Hid (∀ u, Below w1.heap.size w1 u → u.cell? ⟨gs, 0, none⟩ = some (.int .i64 s.ord) ∧ u.cell? ⟨gs, 1, none⟩ = some (.bool true)) := fun u hu => by
              have h1 := (HK2.out.next hu).1
              rw [hsd] at h1
              exact ⟨h1.cell rfl, h1.cell rfl⟩
            refine wp_region_steps (valRF [163, 164, 165, 166, 167, 168, 169, 170, 171, 172, 173, 174, 175, 176, 177, 178, 179, 180, 181, 182, 183] [.pointer (some ⟨gs, 1, none⟩), .bool true, .bool false, .bool false, undef, undef, undef, undef, undef, .bool false, .bool false, undef, undef, undef, undef, undef, undef, undef, undef, undef, .bool false]) (by kernel_rfl) (by kernel_rfl) (by kernel_rfl) (fun _ _ => rfl) (by kernel_rfl) valRF.mon ?_ ?_
            · refine ⟨?_, ?_, ?_, ?_, ?_, ?_, ?_, ?_, ?_, ?_, ?_, ?_, ?_, ?_, ?_, ?_, ?_, ?_, ?_, ?_, ?_, trivial⟩
              · exact valRF.pureStep rfl 163 rfl rfl (by simp) _ rfl fun listed a u D hI hr hn => op_field rfl (hI.out 21 (by kernel_rfl)) (by simp [go_sem])
              · exact valRF.pureStep rfl 164 rfl rfl (by simp) _ rfl fun listed a u D hI hr hn => exec_load rfl (valRF.val hI hr hn 0 (by kernel_rfl) rfl rfl) (run_load_pb (HC.out _ (below_drew hI.old)).2)
              · exact valRF.pureStep rfl 165 rfl rfl (by simp) _ rfl fun listed a u D hI hr hn => exec_not rfl (valRF.val hI hr hn 1 (by kernel_rfl) rfl rfl)
              · exact valRF.pureStep rfl 166 rfl rfl (by simp) _ rfl fun listed a u D hI hr hn => exec_move (.inl rfl) (valRF.val hI hr hn 2 (by kernel_rfl) rfl rfl)
              · exact valRF.skipStep 167 rfl rfl (by simp) rfl fun listed a u D hI hr hn => guard_no (t := 166) rfl (by kernel_rfl) (valRF.val hI hr hn 3 (by kernel_rfl) rfl rfl)
              · exact valRF.skipStep 168 rfl rfl (by simp) rfl fun listed a u D hI hr hn => guard_no (t := 166) rfl (by kernel_rfl) (valRF.val hI hr hn 3 (by kernel_rfl) rfl rfl)
              · exact valRF.skipStep 169 rfl rfl (by simp) rfl fun listed a u D hI hr hn => guard_no (t := 166) rfl (by kernel_rfl) (valRF.val hI hr hn 3 (by kernel_rfl) rfl rfl)
              · exact valRF.skipStep 170 rfl rfl (by simp) rfl fun listed a u D hI hr hn => guard_no (t := 166) rfl (by kernel_rfl) (valRF.val hI hr hn 3 (by kernel_rfl) rfl rfl)
              · exact valRF.skipStep 171 rfl rfl (by simp) rfl fun listed a u D hI hr hn => guard_no (t := 166) rfl (by kernel_rfl) (valRF.val hI hr hn 3 (by kernel_rfl) rfl rfl)
              · exact valRF.pureStep rfl 172 rfl rfl (by simp) _ rfl fun listed a u D hI hr hn => exec_andf rfl (valRF.val hI hr hn 3 (by kernel_rfl) rfl rfl)
              · exact valRF.pureStep rfl 173 rfl rfl (by simp) _ rfl fun listed a u D hI hr hn => exec_move (.inl rfl) (valRF.val hI hr hn 9 (by kernel_rfl) rfl rfl)
              · exact valRF.skipStep 174 rfl rfl (by simp) rfl fun listed a u D hI hr hn => guard_no (t := 173) rfl (by kernel_rfl) (valRF.val hI hr hn 10 (by kernel_rfl) rfl rfl)
              · exact valRF.skipStep 175 rfl rfl (by simp) rfl fun listed a u D hI hr hn => guard_no (t := 173) rfl (by kernel_rfl) (valRF.val hI hr hn 10 (by kernel_rfl) rfl rfl)
              · exact valRF.skipStep 176 rfl rfl (by simp) rfl fun listed a u D hI hr hn => guard_no (t := 173) rfl (by kernel_rfl) (valRF.val hI hr hn 10 (by kernel_rfl) rfl rfl)
              · exact valRF.skipStep 177 rfl rfl (by simp) rfl fun listed a u D hI hr hn => guard_no (t := 173) rfl (by kernel_rfl) (valRF.val hI hr hn 10 (by kernel_rfl) rfl rfl)
              · exact valRF.skipStep 178 rfl rfl (by simp) rfl fun listed a u D hI hr hn => guard_no (t := 173) rfl (by kernel_rfl) (valRF.val hI hr hn 10 (by kernel_rfl) rfl rfl)
              · exact valRF.skipStep 179 rfl rfl (by simp) rfl fun listed a u D hI hr hn => guard_no (t := 173) rfl (by kernel_rfl) (valRF.val hI hr hn 10 (by kernel_rfl) rfl rfl)
              · exact valRF.skipStep 180 rfl rfl (by simp) rfl fun listed a u D hI hr hn => guard_no (t := 173) rfl (by kernel_rfl) (valRF.val hI hr hn 10 (by kernel_rfl) rfl rfl)
              · exact valRF.skipStep 181 rfl rfl (by simp) rfl fun listed a u D hI hr hn => guard_no (t := 173) rfl (by kernel_rfl) (valRF.val hI hr hn 10 (by kernel_rfl) rfl rfl)
              · exact valRF.skipStep 182 rfl rfl (by simp) rfl fun listed a u D hI hr hn => guard_no (t := 173) rfl (by kernel_rfl) (valRF.val hI hr hn 10 (by kernel_rfl) rfl rfl)
              · exact valRF.pureStep rfl 183 rfl rfl (by simp) _ rfl fun listed a u D hI hr hn => exec_andf rfl (valRF.val hI hr hn 10 (by kernel_rfl) rfl rfl)
            · intro listed a u D hI hall
              have eR0 : a.tmps.getD 183 undef = .bool false := (hI.fact 20 ⟨hall 20 (by simp), fun k hk => by cases hk⟩).1
              have hold := below_drew hI.old
              have hl := hI.fill [163, 164, 165, 166, 167, 168, 169, 170, 171, 172, 173, 174, 175, 176, 177, 178, 179, 180, 181, 182, 183] (by kernel_rfl)
              clear hI hall
              obtain ⟨σ, hσ⟩ : ∃ σ : Nat → Value, ∀ t, a.tmps.getD t undef = σ t := ⟨_, fun _ => rfl⟩
              simp only [hσ] at hl eR0
              clear hσ
              simp only [List.foldl_cons, List.foldl_nil, List.setIfInBounds_toArray, List.set_cons_zero, List.set_cons_succ, eR0] at hl
              subst hl
              go_wp2_with fail
              go_meet
              exact ⟨false, rfl, Lib.hid ⟨fun h => (by cases h), fun h => (by have := h.1; rw [hsd] at this; cases this)⟩, hold⟩
          | false =>
            have HC : Hid (∀ u, Below w1.heap.size w1 u → u.cell? ⟨gs, 0, none⟩ = some (.int .i64 s.ord) ∧ u.cell? ⟨gs, 1, none⟩ = some (.bool false)) := fun u hu => by
              have h1 := (HK2.out.next hu).1
              rw [hsd] at h1
              exact ⟨h1.cell rfl, h1.cell rfl⟩
            cases tf with
            | false =>
              have HY : Hid (false = true ↔ s.drop = false ∧ (find os s.ord).isSome = true ∧ Stp.mk s.ord true ∉ stops.drop (k + 1)) := ⟨fun h => (by cases h), fun h => HFS.out.2 h.2.1⟩
              refine wp_region_steps (valRF [163, 164, 165, 166, 167, 168, 169, 170, 171, 172, 173, 174, 175, 176, 177, 178, 179, 180, 181, 182, 183] [.pointer (some ⟨gs, 1, none⟩), .bool false, .bool true, .bool true, .slice A2 n2 c2, .pointer (some ⟨gs, 0, none⟩), .int .i64 s.ord, .int .i64 fi, .bool false, .bool false, .bool false, undef, undef, undef, undef, undef, undef, undef, undef, undef, .bool false]) (by kernel_rfl) (by kernel_rfl) (by kernel_rfl) (fun _ _ => rfl) (by kernel_rfl) valRF.mon ?_ ?_
              · refine ⟨?_, ?_, ?_, ?_, ?_, ?_, ?_, ?_, ?_, ?_, ?_, ?_, ?_, ?_, ?_, ?_, ?_, ?_, ?_, ?_, ?_, trivial⟩
                · exact valRF.pureStep rfl 163 rfl rfl (by simp) _ rfl fun listed a u D hI hr hn => op_field rfl (hI.out 21 (by kernel_rfl)) (by simp [go_sem])
                · exact valRF.pureStep rfl 164 rfl rfl (by simp) _ rfl fun listed a u D hI hr hn => exec_load rfl (valRF.val hI hr hn 0 (by kernel_rfl) rfl rfl) (run_load_pb (HC.out _ (below_drew hI.old)).2)
                · exact valRF.pureStep rfl 165 rfl rfl (by simp) _ rfl fun listed a u D hI hr hn => exec_not rfl (valRF.val hI hr hn 1 (by kernel_rfl) rfl rfl)
                · exact valRF.pureStep rfl 166 rfl rfl (by simp) _ rfl fun listed a u D hI hr hn => exec_move (.inl rfl) (valRF.val hI hr hn 2 (by kernel_rfl) rfl rfl)
                · exact valRF.pureStepG 167 rfl rfl (by simp) _ rfl fun listed a u D hI hr hn => ⟨guard_yes (t := 166) rfl (by kernel_rfl) (valRF.val hI hr hn 3 (by kernel_rfl) rfl rfl), exec_move (.inl rfl) (hI.out 2 (by kernel_rfl))⟩
                · exact valRF.pureStepG 168 rfl rfl (by simp) _ rfl fun listed a u D hI hr hn => ⟨guard_yes (t := 166) rfl (by kernel_rfl) (valRF.val hI hr hn 3 (by kernel_rfl) rfl rfl), op_field rfl (hI.out 21 (by kernel_rfl)) (by simp [go_sem])⟩
                · exact valRF.pureStepG 169 rfl rfl (by simp) _ rfl fun listed a u D hI hr hn => ⟨guard_yes (t := 166) rfl (by kernel_rfl) (valRF.val hI hr hn 3 (by kernel_rfl) rfl rfl), exec_load rfl (valRF.val hI hr hn 5 (by kernel_rfl) rfl rfl) (run_load_pi (HC.out _ (below_drew hI.old)).1)⟩
                · exact valRF.callStepG 170 rfl rfl (by simp) _ rfl fun listed a u D hI hr hn => ⟨guard_yes (t := 166) rfl (by kernel_rfl) (valRF.val hI hr hn 3 (by kernel_rfl) rfl rfl), _, _, op_call2 rfl (valRF.val hI hr hn 4 (by kernel_rfl) rfl rfl) (valRF.val hI hr hn 6 (by kernel_rfl) rfl rfl) (by simp [go_sem]), HFD.out _ (below_drew hI.old)⟩
                · exact valRF.pureStepG 171 rfl rfl (by simp) _ rfl fun listed a u D hI hr hn => ⟨guard_yes (t := 166) rfl (by kernel_rfl) (valRF.val hI hr hn 3 (by kernel_rfl) rfl rfl), exec_has rfl (valRF.val hI hr hn 7 (by kernel_rfl) rfl rfl) HTF.out⟩
                · exact valRF.pureStep rfl 172 rfl rfl (by simp) _ rfl fun listed a u D hI hr hn => exec_and rfl (valRF.val hI hr hn 3 (by kernel_rfl) rfl rfl) (valRF.val hI hr hn 8 (by kernel_rfl) rfl rfl) (Bool.true_and _)
                · exact valRF.pureStep rfl 173 rfl rfl (by simp) _ rfl fun listed a u D hI hr hn => exec_move (.inl rfl) (valRF.val hI hr hn 9 (by kernel_rfl) rfl rfl)
                · exact valRF.skipStep 174 rfl rfl (by simp) rfl fun listed a u D hI hr hn => guard_no (t := 173) rfl (by kernel_rfl) (valRF.val hI hr hn 10 (by kernel_rfl) rfl rfl)
                · exact valRF.skipStep 175 rfl rfl (by simp) rfl fun listed a u D hI hr hn => guard_no (t := 173) rfl (by kernel_rfl) (valRF.val hI hr hn 10 (by kernel_rfl) rfl rfl)
                · exact valRF.skipStep 176 rfl rfl (by simp) rfl fun listed a u D hI hr hn => guard_no (t := 173) rfl (by kernel_rfl) (valRF.val hI hr hn 10 (by kernel_rfl) rfl rfl)
                · exact valRF.skipStep 177 rfl rfl (by simp) rfl fun listed a u D hI hr hn => guard_no (t := 173) rfl (by kernel_rfl) (valRF.val hI hr hn 10 (by kernel_rfl) rfl rfl)
                · exact valRF.skipStep 178 rfl rfl (by simp) rfl fun listed a u D hI hr hn => guard_no (t := 173) rfl (by kernel_rfl) (valRF.val hI hr hn 10 (by kernel_rfl) rfl rfl)
                · exact valRF.skipStep 179 rfl rfl (by simp) rfl fun listed a u D hI hr hn => guard_no (t := 173) rfl (by kernel_rfl) (valRF.val hI hr hn 10 (by kernel_rfl) rfl rfl)
                · exact valRF.skipStep 180 rfl rfl (by simp) rfl fun listed a u D hI hr hn => guard_no (t := 173) rfl (by kernel_rfl) (valRF.val hI hr hn 10 (by kernel_rfl) rfl rfl)
                · exact valRF.skipStep 181 rfl rfl (by simp) rfl fun listed a u D hI hr hn => guard_no (t := 173) rfl (by kernel_rfl) (valRF.val hI hr hn 10 (by kernel_rfl) rfl rfl)
                · exact valRF.skipStep 182 rfl rfl (by simp) rfl fun listed a u D hI hr hn => guard_no (t := 173) rfl (by kernel_rfl) (valRF.val hI hr hn 10 (by kernel_rfl) rfl rfl)
                · exact valRF.pureStep rfl 183 rfl rfl (by simp) _ rfl fun listed a u D hI hr hn => exec_andf rfl (valRF.val hI hr hn 10 (by kernel_rfl) rfl rfl)
              · intro listed a u D hI hall
                have eR0 : a.tmps.getD 183 undef = .bool false := (hI.fact 20 ⟨hall 20 (by simp), fun k hk => by cases hk⟩).1
                have hold := below_drew hI.old
                have hl := hI.fill [163, 164, 165, 166, 167, 168, 169, 170, 171, 172, 173, 174, 175, 176, 177, 178, 179, 180, 181, 182, 183] (by kernel_rfl)
                clear hI hall
                obtain ⟨σ, hσ⟩ : ∃ σ : Nat → Value, ∀ t, a.tmps.getD t undef = σ t := ⟨_, fun _ => rfl⟩
                simp only [hσ] at hl eR0
                clear hσ
                simp only [List.foldl_cons, List.foldl_nil, List.setIfInBounds_toArray, List.set_cons_zero, List.set_cons_succ, eR0] at hl
                subst hl
                go_wp2_with fail
                go_meet
                exact ⟨false, rfl, HY, hold⟩
            | true =>
              have HY : Hid (t3 = true ↔ s.drop = false ∧ (find os s.ord).isSome = true ∧ Stp.mk s.ord true ∉ stops.drop (k + 1)) := ⟨fun h => ⟨hsd, HFS.out.1 rfl, HMEM.out.1 h⟩, fun h => HMEM.out.2 h.2.2⟩
              refine wp_region_steps (valRF [163, 164, 165, 166, 167, 168, 169, 170, 171, 172, 173, 174, 175, 176, 177, 178, 179, 180, 181, 182, 183] [.pointer (some ⟨gs, 1, none⟩), .bool false, .bool true, .bool true, .slice A2 n2 c2, .pointer (some ⟨gs, 0, none⟩), .int .i64 s.ord, .int .i64 fi, .bool true, .bool true, .bool true, .slice (some ⟨b3, off3, none⟩) n3 c3, .int .i64 ((k : Nat) : Int), .int .i64 ((k + 1 : Nat) : Int), .slice (Slack.partAt (some ⟨b3, off3, none⟩) (k + 1) c3) (n3 - (k + 1)) (c3 - (k + 1)), .pointer (some ⟨gs, 0, none⟩), .int .i64 s.ord, stpV ⟨s.ord, true⟩, .int .i64 iv, .bool t3, .bool t3]) (by kernel_rfl) (by kernel_rfl) (by kernel_rfl) (fun _ _ => rfl) (by kernel_rfl) valRF.mon ?_ ?_
              · refine ⟨?_, ?_, ?_, ?_, ?_, ?_, ?_, ?_, ?_, ?_, ?_, ?_, ?_, ?_, ?_, ?_, ?_, ?_, ?_, ?_, ?_, trivial⟩
                · exact valRF.pureStep rfl 163 rfl rfl (by simp) _ rfl fun listed a u D hI hr hn => op_field rfl (hI.out 21 (by kernel_rfl)) (by simp [go_sem])
                · exact valRF.pureStep rfl 164 rfl rfl (by simp) _ rfl fun listed a u D hI hr hn => exec_load rfl (valRF.val hI hr hn 0 (by kernel_rfl) rfl rfl) (run_load_pb (HC.out _ (below_drew hI.old)).2)
                · exact valRF.pureStep rfl 165 rfl rfl (by simp) _ rfl fun listed a u D hI hr hn => exec_not rfl (valRF.val hI hr hn 1 (by kernel_rfl) rfl rfl)
                · exact valRF.pureStep rfl 166 rfl rfl (by simp) _ rfl fun listed a u D hI hr hn => exec_move (.inl rfl) (valRF.val hI hr hn 2 (by kernel_rfl) rfl rfl)
                · exact valRF.pureStepG 167 rfl rfl (by simp) _ rfl fun listed a u D hI hr hn => ⟨guard_yes (t := 166) rfl (by kernel_rfl) (valRF.val hI hr hn 3 (by kernel_rfl) rfl rfl), exec_move (.inl rfl) (hI.out 2 (by kernel_rfl))⟩
                · exact valRF.pureStepG 168 rfl rfl (by simp) _ rfl fun listed a u D hI hr hn => ⟨guard_yes (t := 166) rfl (by kernel_rfl) (valRF.val hI hr hn 3 (by kernel_rfl) rfl rfl), op_field rfl (hI.out 21 (by kernel_rfl)) (by simp [go_sem])⟩
                · exact valRF.pureStepG 169 rfl rfl (by simp) _ rfl fun listed a u D hI hr hn => ⟨guard_yes (t := 166) rfl (by kernel_rfl) (valRF.val hI hr hn 3 (by kernel_rfl) rfl rfl), exec_load rfl (valRF.val hI hr hn 5 (by kernel_rfl) rfl rfl) (run_load_pi (HC.out _ (below_drew hI.old)).1)⟩
                · exact valRF.callStepG 170 rfl rfl (by simp) _ rfl fun listed a u D hI hr hn => ⟨guard_yes (t := 166) rfl (by kernel_rfl) (valRF.val hI hr hn 3 (by kernel_rfl) rfl rfl), _, _, op_call2 rfl (valRF.val hI hr hn 4 (by kernel_rfl) rfl rfl) (valRF.val hI hr hn 6 (by kernel_rfl) rfl rfl) (by simp [go_sem]), HFD.out _ (below_drew hI.old)⟩
                · exact valRF.pureStepG 171 rfl rfl (by simp) _ rfl fun listed a u D hI hr hn => ⟨guard_yes (t := 166) rfl (by kernel_rfl) (valRF.val hI hr hn 3 (by kernel_rfl) rfl rfl), exec_has rfl (valRF.val hI hr hn 7 (by kernel_rfl) rfl rfl) HTF.out⟩
                · exact valRF.pureStep rfl 172 rfl rfl (by simp) _ rfl fun listed a u D hI hr hn => exec_and rfl (valRF.val hI hr hn 3 (by kernel_rfl) rfl rfl) (valRF.val hI hr hn 8 (by kernel_rfl) rfl rfl) (Bool.true_and _)
                · exact valRF.pureStep rfl 173 rfl rfl (by simp) _ rfl fun listed a u D hI hr hn => exec_move (.inl rfl) (valRF.val hI hr hn 9 (by kernel_rfl) rfl rfl)
                · exact valRF.pureStepG 174 rfl rfl (by simp) _ rfl fun listed a u D hI hr hn => ⟨guard_yes (t := 173) rfl (by kernel_rfl) (valRF.val hI hr hn 10 (by kernel_rfl) rfl rfl), exec_move (.inl rfl) (hI.out 3 (by kernel_rfl))⟩
                · exact valRF.pureStepG 175 rfl rfl (by simp) _ rfl fun listed a u D hI hr hn => ⟨guard_yes (t := 173) rfl (by kernel_rfl) (valRF.val hI hr hn 10 (by kernel_rfl) rfl rfl), exec_move (.inl rfl) (hI.out 20 (by kernel_rfl))⟩
                · exact valRF.pureStepG 176 rfl rfl (by simp) _ rfl fun listed a u D hI hr hn => ⟨guard_yes (t := 173) rfl (by kernel_rfl) (valRF.val hI hr hn 10 (by kernel_rfl) rfl rfl), exec_more rfl (valRF.val hI hr hn 12 (by kernel_rfl) rfl rfl) (by omega)⟩
                · exact valRF.pureStepG 177 rfl rfl (by simp) _ rfl fun listed a u D hI hr hn => ⟨guard_yes (t := 173) rfl (by kernel_rfl) (valRF.val hI hr hn 10 (by kernel_rfl) rfl rfl), exec_slice (l := k + 1) (h := n3) rfl (valRF.val hI hr hn 11 (by kernel_rfl) rfl rfl) (.inr ⟨_, rfl, (valRF.val hI hr hn 13 (by kernel_rfl) rfl rfl)⟩) (.inl ⟨rfl, rfl⟩) (by omega) (Nat.le_refl _) hcc⟩
                · exact valRF.pureStepG 178 rfl rfl (by simp) _ rfl fun listed a u D hI hr hn => ⟨guard_yes (t := 173) rfl (by kernel_rfl) (valRF.val hI hr hn 10 (by kernel_rfl) rfl rfl), op_field rfl (hI.out 21 (by kernel_rfl)) (by simp [go_sem])⟩
                · exact valRF.pureStepG 179 rfl rfl (by simp) _ rfl fun listed a u D hI hr hn => ⟨guard_yes (t := 173) rfl (by kernel_rfl) (valRF.val hI hr hn 10 (by kernel_rfl) rfl rfl), exec_load rfl (valRF.val hI hr hn 15 (by kernel_rfl) rfl rfl) (run_load_pi (HC.out _ (below_drew hI.old)).1)⟩
                · exact valRF.pureStepG 180 rfl rfl (by simp) _ rfl fun listed a u D hI hr hn => ⟨guard_yes (t := 173) rfl (by kernel_rfl) (valRF.val hI hr hn 10 (by kernel_rfl) rfl rfl), exec_bstp2 rfl (valRF.val hI hr hn 16 (by kernel_rfl) rfl rfl)⟩
                · exact valRF.callStepG 181 rfl rfl (by simp) _ rfl fun listed a u D hI hr hn => ⟨guard_yes (t := 173) rfl (by kernel_rfl) (valRF.val hI hr hn 10 (by kernel_rfl) rfl rfl), _, _, op_call2 rfl (valRF.val hI hr hn 14 (by kernel_rfl) rfl rfl) (valRF.val hI hr hn 17 (by kernel_rfl) rfl rfl) (by simp [go_sem]), HDV.out _ (below_drew hI.old)⟩
                · exact valRF.pureStepG 182 rfl rfl (by simp) _ rfl fun listed a u D hI hr hn => ⟨guard_yes (t := 173) rfl (by kernel_rfl) (valRF.val hI hr hn 10 (by kernel_rfl) rfl rfl), exec_neg rfl (valRF.val hI hr hn 18 (by kernel_rfl) rfl rfl) HT3.out⟩
                · exact valRF.pureStep rfl 183 rfl rfl (by simp) _ rfl fun listed a u D hI hr hn => exec_and rfl (valRF.val hI hr hn 10 (by kernel_rfl) rfl rfl) (valRF.val hI hr hn 19 (by kernel_rfl) rfl rfl) (Bool.true_and _)
              · intro listed a u D hI hall
                have eR0 : a.tmps.getD 183 undef = .bool t3 := (hI.fact 20 ⟨hall 20 (by simp), fun k hk => by cases hk⟩).1
                have hold := below_drew hI.old
                have hl := hI.fill [163, 164, 165, 166, 167, 168, 169, 170, 171, 172, 173, 174, 175, 176, 177, 178, 179, 180, 181, 182, 183] (by kernel_rfl)
                clear hI hall
                obtain ⟨σ, hσ⟩ : ∃ σ : Nat → Value, ∀ t, a.tmps.getD t undef = σ t := ⟨_, fun _ => rfl⟩
                simp only [hσ] at hl eR0
                clear hσ
                simp only [List.foldl_cons, List.foldl_nil, List.setIfInBounds_toArray, List.set_cons_zero, List.set_cons_succ, eR0] at hl
                subst hl
                go_wp2_with fail
                go_meet
                exact ⟨t3, rfl, HY, hold⟩
        case rest =>
        obtain ⟨t, rfl, HY, hb3⟩ := hcut
        obtain ⟨w3, rfl⟩ : ∃ u, u = wc := ⟨_, rfl⟩
        have HS3 := Lib.hid (HS2.out.next hb3.out)
        have HK3 := Lib.hid (HK2.out.next hb3.out)
        clear HDV' HFD' HMEM HFS HT3 HTF HS2 HK2 hb3
        obtain ⟨d0, d1, d2, d3, d4, d5⟩ := (AX.drv HS3.out).cells
        obtain ⟨c0, c1⟩ : w3.cell? ⟨gs, 0, none⟩ = some (.int .i64 s.ord) ∧ w3.cell? ⟨gs, 1, none⟩ = some (.bool s.drop) := ⟨HK3.out.1.cell rfl, HK3.out.1.cell rfl⟩
        cases t with
        | true =>
          have HN : Hid (Y = (l ++ [⟨d.id, s.ord, 18⟩]) ++ lackGo d os (stops.drop (k + 1))) := lg_next HG2.out (if_pos (HY.out.1 rfl))
          have HA := Lib.hid (HS3.out.alloc (.cells #[.int .i64 d.id, .int .i64 s.ord, .int .i64 18] 47))
          have HAB : Hid (Blk (w3.alloc (.cells #[.int .i64 d.id, .int .i64 s.ord, .int .i64 18] 47)) w3.heap.size 47 (tcells ⟨d.id, s.ord, 18⟩)) := Blk.new w3 _ (tcells ⟨d.id, s.ord, 18⟩)
          have HAL : Hid (l.length ≤ 100000) := by show _ ≤ _; have := HLN.out; omega
          obtain ⟨d0, d1, d2, d3, d4, d5⟩ := (AX.drv HS3.out).cells
          go_wp2_with (at_builtin; refine wpList_trb (o := ⟨some 191, _, _, _, _, _⟩) rfl (.tmp 184) (.tmp 190) rfl HA.out rfl ⟨d.id, s.ord, 18⟩ HAB.out rfl HAL.out ?_; intro vB wB HQ HQK)
          go_roundw
          case rel => exact ⟨k + 1, l ++ [⟨d.id, s.ord, 18⟩], by omega, by go_num, HQ, HN, Lib.hid (by have := HLN.out; simp only [List.length_append, List.length_cons, List.length_nil]; omega)⟩
          case measure => simp [intOf]; omega
        | false =>
          have HN : Hid (Y = l ++ lackGo d os (stops.drop (k + 1))) := by
            show _ = _
            have h1 := lg_next HG2.out (if_neg (fun h => (by have := HY.out.2 h; cases this)))
            rw [List.append_nil] at h1
            exact h1
          go_wp2_with fail
          go_roundw
          case rel => exact ⟨k + 1, l, by omega, by go_num, HS3, HN, Lib.hid (by have := HLN.out; omega)⟩
          case measure => simp [intOf]; omega
    obtain ⟨b3, off3, s, hA3, hbb3, hs, hdr3, c0, c1⟩ := Stps.at_ (Recs.keep HST.out (AX.old HS.out)) hlt
    subst hA3
    have HG1 := HG.out
    rw [hdr3] at HG1
    have HG2 := Lib.hid HG1
    have HSK := Lib.hid hs
    have HXS : Hid (stops.take k ++ [s] = stops.take (k + 1)) := by
      show _ = _
      rw [List.take_add_one, hs]; rfl
    obtain ⟨lf1, lf2⟩ := HB.out.left
    have ll1 : -80000 ≤ st.load := by have := HB.out.load; omega
    have ll2 : st.load ≤ 80000 := by have := HB.out.load; omega
    have lf3 : st.left ≤ 1000000000 := by omega
    clear hs hdr3 HG1 HG lf2
    have HS2 : Hid (TL (AX w d) u9 l (wr.alloc (.cells #[.int .i64 s.ord, .bool s.drop] 36))) := HS.out.alloc _
    have HK2 : Hid (KB u9 (wr.alloc (.cells #[.int .i64 s.ord, .bool s.drop] 36)) wr.heap.size 36 [.int .i64 s.ord, .bool s.drop]) := HS.out.box _ _
    obtain ⟨gs, hgs⟩ : ∃ g, wr.heap.size = g := ⟨_, rfl⟩
    obtain ⟨w1, hw1⟩ : ∃ u, wr.alloc (.cells #[.int .i64 s.ord, .bool s.drop] 36) = u := ⟨_, rfl⟩
    clear HS
    go_upto_region 7 with fail
    rw [hgs] at HK2
    rw [hw1] at HS2 HK2
    clear hw1 hgs c0 c1
    obtain ⟨c0, c1⟩ : w1.cell? ⟨gs, 0, none⟩ = some (.int .i64 s.ord) ∧ w1.cell? ⟨gs, 1, none⟩ = some (.bool s.drop) := ⟨HK2.out.1.cell rfl, HK2.out.1.cell rfl⟩
    cases hf : findI os s.ord with
    | none =>
      have HFN := Lib.hid (findI_none hf)
      have HFD : Hid (∀ u, Below w.heap.size w u → Calls Try.prog 64 #[.slice A2 n2 c2, .int .i64 s.ord] u fun e w' => e = .returned (.int .i64 (-1)) ∧ u = w') := fun u hu => by
        have := rfind_any A2 n2 c2 os s.ord u _ (Recs.keep HO.out hu)
        rw [hf] at this
        exact this
      clear hf
      go_wp2_with fail
      refine (HFD.out _ (AX.old HS2.out)).mono ?_
      rintro e w2 ⟨rfl, rfl⟩
      clear HFD
      have HA := Lib.hid (HS2.out.alloc (.cells #[.int .i64 d.id, .int .i64 s.ord, .int .i64 8] 47))
      have HAB : Hid (Blk (w1.alloc (.cells #[.int .i64 d.id, .int .i64 s.ord, .int .i64 8] 47)) w1.heap.size 47 (tcells ⟨d.id, s.ord, 8⟩)) := Blk.new w1 _ (tcells ⟨d.id, s.ord, 8⟩)
      have HAL : Hid (l.length ≤ 100000) := by show _ ≤ _; have := HLN.out; omega
      obtain ⟨d0, d1, d2, d3, d4, d5⟩ := (AX.drv HS2.out).cells
      go_wp2_with (at_builtin; refine wpList_trb (o := ⟨some 50, _, _, _, _, _⟩) rfl (.tmp 43) (.tmp 49) rfl HA.out rfl ⟨d.id, s.ord, 8⟩ HAB.out rfl HAL.out ?_; intro vB wB HQ HQK)
      have HN : Hid (X = (l ++ [⟨d.id, s.ord, 8⟩]) ++ alongGo ⟨mn, ml⟩ d os (stops.take (k + 1)) st (stops.drop (k + 1))) := by
        show _ = _
        have h1 := ag_skip HG2.out HFN.out
        rw [HXS.out] at h1
        exact h1
      go_roundw
      case rel => exact ⟨k + 1, st, l ++ [⟨d.id, s.ord, 8⟩], by omega, by go_num, rfl, rfl, rfl, HQ, HN, Lib.hid HB.out.skip, Lib.hid (by have := HLN.out; simp only [List.length_append, List.length_cons, List.length_nil]; omega)⟩
      case measure => simp [intOf]; omega
    | some i =>
    obtain ⟨o, hoi, _, hfo⟩ := findI_some hf
    have HFO := Lib.hid hfo
    have HOI := Lib.hid hoi
    have HKO := Lib.hid (HOK.out o (List.mem_of_getElem? hoi))
    have hin : i < n2 := by have := (List.getElem?_eq_some_iff.1 hoi).1; have := HL2.out; omega
    have hini : (i : Int) < (n2 : Int) := by omega
    have HFD : Hid (∀ u, Below w.heap.size w u → Calls Try.prog 64 #[.slice A2 n2 c2, .int .i64 s.ord] u fun e w' => e = .returned (.int .i64 (i : Int)) ∧ u = w') := fun u hu => by
      have := rfind_any A2 n2 c2 os s.ord u _ (Recs.keep HO.out hu)
      rw [hf] at this
      exact this
    obtain ⟨b2, off2, hA2⟩ : ∃ b off, A2 = some ⟨b, off, none⟩ := by
      obtain ⟨b, off, _, e, _⟩ := Ords.at_ HO.out hin
      exact ⟨b, off, e⟩
    subst hA2
    have HCO : Hid (∀ u, Below w.heap.size w u → OAt u b2 (off2 + i * 10) o) := fun u hu => by
      obtain ⟨b', o', s', e', _, hs', _, c⟩ := Ords.at_ (Recs.keep HO.out hu) hin
      injection e' with e'
      injection e' with e1 e2
      subst e1; subst e2
      rw [HOI.out] at hs'
      injection hs' with hs'
      subst hs'
      exact c
    clear hf hoi hfo
    go_wp2_with fail
    refine (HFD.out _ (AX.old HS2.out)).mono ?_
    rintro e w2 ⟨rfl, rfl⟩
    clear HFD c0 c1
    obtain ⟨iv, hiv⟩ : ∃ z, idxS (stops.take k) ⟨s.ord, false⟩ = z := ⟨_, rfl⟩
    obtain ⟨t3, ht3⟩ : ∃ t, decide (iv < 0) = t := ⟨_, rfl⟩
    have HIV := Lib.hid hiv
    have HT3 := Lib.hid ht3
    have HDV' : Hid (∀ u, Below w.heap.size w u → Calls Try.prog 65 #[.slice (some ⟨b3, off3, none⟩) k c3, stpV ⟨s.ord, false⟩] u fun e w' => e = .returned (.int .i64 iv) ∧ Below u.heap.size u w') := fun u hu => by
      have := rwhere_any (some ⟨b3, off3, none⟩) k c3 (stops.take k) ⟨s.ord, false⟩ u (stps_front (Recs.more (Recs.keep HST.out hu) hu.size) (by omega))
      rw [HIV.out] at this
      exact this
    have HMEM : Hid (t3 = true ↔ Stp.mk s.ord false ∉ stops.take k) := by
      show _ ↔ _
      rw [← ht3, ← idxS_iff, hiv, decide_eq_true_eq]
      omega
    clear hiv ht3
    go_upto_region 10 with fail
    go_cut [62] (fun bv wx => ∃ t : Bool, bv = .bool t ∧ Hid (t = true → isFirst (stops.take k) s) ∧ Hid (t = false → ¬ isFirst (stops.take k) s) ∧ Hid (Below w1.heap.size w1 wx))
    case first =>
      have HDV : Hid (∀ u, Below w1.heap.size w1 u → Calls Try.prog 65 #[.slice (some ⟨b3, off3, none⟩) k c3, stpV ⟨s.ord, false⟩] u fun e w' => e = .returned (.int .i64 iv) ∧ Below u.heap.size u w') := fun u hu => HDV'.out u ((AX.old HS2.out).trans (hu.mono (AX.old HS2.out).size))
      cases hsd : s.drop with
      | false =>
        have HC : Hid (∀ u, Below w1.heap.size w1 u → u.cell? ⟨gs, 0, none⟩ = some (.int .i64 s.ord) ∧ u.cell? ⟨gs, 1, none⟩ = some (.bool false)) := fun u hu => by
          have h1 := (HK2.out.next hu).1
          rw [hsd] at h1
          exact ⟨h1.cell rfl, h1.cell rfl⟩
        refine wp_region_steps (valRF [51, 52, 53, 54, 55, 56, 57, 58, 59, 60, 61, 62] [.pointer (some ⟨gs, 1, none⟩), .bool false, .bool false, undef, undef, undef, undef, undef, undef, undef, undef, .bool false]) (by kernel_rfl) (by kernel_rfl) (by kernel_rfl) (fun _ _ => rfl) (by kernel_rfl) valRF.mon ?_ ?_
        · refine ⟨?_, ?_, ?_, ?_, ?_, ?_, ?_, ?_, ?_, ?_, ?_, ?_, trivial⟩
          · exact valRF.pureStep rfl 51 rfl rfl (by simp) _ rfl fun listed a u D hI hr hn => op_field rfl (hI.out 14 (by kernel_rfl)) (by simp [go_sem])
          · exact valRF.pureStep rfl 52 rfl rfl (by simp) _ rfl fun listed a u D hI hr hn => exec_load rfl (valRF.val hI hr hn 0 (by kernel_rfl) rfl rfl) (run_load_pb (HC.out _ (below_drew hI.old)).2)
          · exact valRF.pureStep rfl 53 rfl rfl (by simp) _ rfl fun listed a u D hI hr hn => exec_move (.inl rfl) (valRF.val hI hr hn 1 (by kernel_rfl) rfl rfl)
          · exact valRF.skipStep 54 rfl rfl (by simp) rfl fun listed a u D hI hr hn => guard_no (t := 53) rfl (by kernel_rfl) (valRF.val hI hr hn 2 (by kernel_rfl) rfl rfl)
          · exact valRF.skipStep 55 rfl rfl (by simp) rfl fun listed a u D hI hr hn => guard_no (t := 53) rfl (by kernel_rfl) (valRF.val hI hr hn 2 (by kernel_rfl) rfl rfl)
          · exact valRF.skipStep 56 rfl rfl (by simp) rfl fun listed a u D hI hr hn => guard_no (t := 53) rfl (by kernel_rfl) (valRF.val hI hr hn 2 (by kernel_rfl) rfl rfl)
          · exact valRF.skipStep 57 rfl rfl (by simp) rfl fun listed a u D hI hr hn => guard_no (t := 53) rfl (by kernel_rfl) (valRF.val hI hr hn 2 (by kernel_rfl) rfl rfl)
          · exact valRF.skipStep 58 rfl rfl (by simp) rfl fun listed a u D hI hr hn => guard_no (t := 53) rfl (by kernel_rfl) (valRF.val hI hr hn 2 (by kernel_rfl) rfl rfl)
          · exact valRF.skipStep 59 rfl rfl (by simp) rfl fun listed a u D hI hr hn => guard_no (t := 53) rfl (by kernel_rfl) (valRF.val hI hr hn 2 (by kernel_rfl) rfl rfl)
          · exact valRF.skipStep 60 rfl rfl (by simp) rfl fun listed a u D hI hr hn => guard_no (t := 53) rfl (by kernel_rfl) (valRF.val hI hr hn 2 (by kernel_rfl) rfl rfl)
          · exact valRF.skipStep 61 rfl rfl (by simp) rfl fun listed a u D hI hr hn => guard_no (t := 53) rfl (by kernel_rfl) (valRF.val hI hr hn 2 (by kernel_rfl) rfl rfl)
          · exact valRF.pureStep rfl 62 rfl rfl (by simp) _ rfl fun listed a u D hI hr hn => exec_andf rfl (valRF.val hI hr hn 2 (by kernel_rfl) rfl rfl)
        · intro listed a u D hI hall
          have eR0 : a.tmps.getD 62 undef = .bool false := (hI.fact 11 ⟨hall 11 (by simp), fun k hk => by cases hk⟩).1
          have hold := below_drew hI.old
          have hl := hI.fill [51, 52, 53, 54, 55, 56, 57, 58, 59, 60, 61, 62] (by kernel_rfl)
          clear hI hall
          obtain ⟨σ, hσ⟩ : ∃ σ : Nat → Value, ∀ t, a.tmps.getD t undef = σ t := ⟨_, fun _ => rfl⟩
          simp only [hσ] at hl eR0
          clear hσ
          simp only [List.foldl_cons, List.foldl_nil, List.setIfInBounds_toArray, List.set_cons_zero, List.set_cons_succ, eR0] at hl
          subst hl
          go_wp2_with fail
          go_meet
          exact ⟨false, rfl, Lib.hid (fun h => (by cases h)), Lib.hid (fun _ h => (by have := h.1; rw [hsd] at this; cases this)), hold⟩
      | true =>
        have HC : Hid (∀ u, Below w1.heap.size w1 u → u.cell? ⟨gs, 0, none⟩ = some (.int .i64 s.ord) ∧ u.cell? ⟨gs, 1, none⟩ = some (.bool true)) := fun u hu => by
          have h1 := (HK2.out.next hu).1
          rw [hsd] at h1
          exact ⟨h1.cell rfl, h1.cell rfl⟩
        have HY1 : Hid (t3 = true → isFirst (stops.take k) s) := fun h1 => ⟨hsd, HMEM.out.1 h1⟩
        have HY2 : Hid (t3 = false → ¬ isFirst (stops.take k) s) := fun h1 h2 => by
          have := HMEM.out.2 h2.2
          rw [h1] at this
          cases this
        refine wp_region_steps (valRF [51, 52, 53, 54, 55, 56, 57, 58, 59, 60, 61, 62] [.pointer (some ⟨gs, 1, none⟩), .bool true, .bool true, .slice (some ⟨b3, off3, none⟩) n3 c3, .int .i64 ((k : Nat) : Int), .slice (some ⟨b3, off3, none⟩) k c3, .pointer (some ⟨gs, 0, none⟩), .int .i64 s.ord, stpV ⟨s.ord, false⟩, .int .i64 iv, .bool t3, .bool t3]) (by kernel_rfl) (by kernel_rfl) (by kernel_rfl) (fun _ _ => rfl) (by kernel_rfl) valRF.mon ?_ ?_
        · refine ⟨?_, ?_, ?_, ?_, ?_, ?_, ?_, ?_, ?_, ?_, ?_, ?_, trivial⟩
          · exact valRF.pureStep rfl 51 rfl rfl (by simp) _ rfl fun listed a u D hI hr hn => op_field rfl (hI.out 14 (by kernel_rfl)) (by simp [go_sem])
          · exact valRF.pureStep rfl 52 rfl rfl (by simp) _ rfl fun listed a u D hI hr hn => exec_load rfl (valRF.val hI hr hn 0 (by kernel_rfl) rfl rfl) (run_load_pb (HC.out _ (below_drew hI.old)).2)
          · exact valRF.pureStep rfl 53 rfl rfl (by simp) _ rfl fun listed a u D hI hr hn => exec_move (.inl rfl) (valRF.val hI hr hn 1 (by kernel_rfl) rfl rfl)
          · exact valRF.pureStepG 54 rfl rfl (by simp) _ rfl fun listed a u D hI hr hn => ⟨guard_yes (t := 53) rfl (by kernel_rfl) (valRF.val hI hr hn 2 (by kernel_rfl) rfl rfl), exec_move (.inl rfl) (hI.out 3 (by kernel_rfl))⟩
          · exact valRF.pureStepG 55 rfl rfl (by simp) _ rfl fun listed a u D hI hr hn => ⟨guard_yes (t := 53) rfl (by kernel_rfl) (valRF.val hI hr hn 2 (by kernel_rfl) rfl rfl), exec_move (.inl rfl) (hI.out 13 (by kernel_rfl))⟩
          · exact valRF.pureStepG 56 rfl rfl (by simp) _ rfl fun listed a u D hI hr hn => ⟨guard_yes (t := 53) rfl (by kernel_rfl) (valRF.val hI hr hn 2 (by kernel_rfl) rfl rfl), exec_front_stp rfl (valRF.val hI hr hn 3 (by kernel_rfl) rfl rfl) (valRF.val hI hr hn 4 (by kernel_rfl) rfl rfl) (by omega) hcc⟩
          · exact valRF.pureStepG 57 rfl rfl (by simp) _ rfl fun listed a u D hI hr hn => ⟨guard_yes (t := 53) rfl (by kernel_rfl) (valRF.val hI hr hn 2 (by kernel_rfl) rfl rfl), op_field rfl (hI.out 14 (by kernel_rfl)) (by simp [go_sem])⟩
          · exact valRF.pureStepG 58 rfl rfl (by simp) _ rfl fun listed a u D hI hr hn => ⟨guard_yes (t := 53) rfl (by kernel_rfl) (valRF.val hI hr hn 2 (by kernel_rfl) rfl rfl), exec_load rfl (valRF.val hI hr hn 6 (by kernel_rfl) rfl rfl) (run_load_pi (HC.out _ (below_drew hI.old)).1)⟩
          · exact valRF.pureStepG 59 rfl rfl (by simp) _ rfl fun listed a u D hI hr hn => ⟨guard_yes (t := 53) rfl (by kernel_rfl) (valRF.val hI hr hn 2 (by kernel_rfl) rfl rfl), exec_bstp rfl (valRF.val hI hr hn 7 (by kernel_rfl) rfl rfl)⟩
          · exact valRF.callStepG 60 rfl rfl (by simp) _ rfl fun listed a u D hI hr hn => ⟨guard_yes (t := 53) rfl (by kernel_rfl) (valRF.val hI hr hn 2 (by kernel_rfl) rfl rfl), _, _, op_call2 rfl (valRF.val hI hr hn 5 (by kernel_rfl) rfl rfl) (valRF.val hI hr hn 8 (by kernel_rfl) rfl rfl) (by simp [go_sem]), HDV.out _ (below_drew hI.old)⟩
          · exact valRF.pureStepG 61 rfl rfl (by simp) _ rfl fun listed a u D hI hr hn => ⟨guard_yes (t := 53) rfl (by kernel_rfl) (valRF.val hI hr hn 2 (by kernel_rfl) rfl rfl), exec_neg rfl (valRF.val hI hr hn 9 (by kernel_rfl) rfl rfl) HT3.out⟩
          · exact valRF.pureStep rfl 62 rfl rfl (by simp) _ rfl fun listed a u D hI hr hn => exec_and rfl (valRF.val hI hr hn 2 (by kernel_rfl) rfl rfl) (valRF.val hI hr hn 10 (by kernel_rfl) rfl rfl) (Bool.true_and _)
        · intro listed a u D hI hall
          have eR0 : a.tmps.getD 62 undef = .bool t3 := (hI.fact 11 ⟨hall 11 (by simp), fun k hk => by cases hk⟩).1
          have hold := below_drew hI.old
          have hl := hI.fill [51, 52, 53, 54, 55, 56, 57, 58, 59, 60, 61, 62] (by kernel_rfl)
          clear hI hall
          obtain ⟨σ, hσ⟩ : ∃ σ : Nat → Value, ∀ t, a.tmps.getD t undef = σ t := ⟨_, fun _ => rfl⟩
          simp only [hσ] at hl eR0
          clear hσ
          simp only [List.foldl_cons, List.foldl_nil, List.setIfInBounds_toArray, List.set_cons_zero, List.set_cons_succ, eR0] at hl
          subst hl
          go_wp2_with fail
          go_meet
          exact ⟨t3, rfl, HY1, HY2, hold⟩
    case rest =>
    obtain ⟨t, rfl, HY1, HY2, hb3⟩ := hcut
    obtain ⟨w3, rfl⟩ : ∃ u, u = wc := ⟨_, rfl⟩
    have HS3 := Lib.hid (HS2.out.next hb3.out)
    have HK3 := Lib.hid (HK2.out.next hb3.out)
    clear HDV' HMEM HIV HT3 HS2 HK2 hb3
    obtain ⟨sz1, sz2⟩ := HKO.out.size
    obtain ⟨ld, hld⟩ : ∃ z, (if isFirst (stops.take k) s then st.load else loadOf o s st.load) = z := ⟨_, rfl⟩
    obtain ⟨ht, hht⟩ : ∃ z, hereT d o (stops.take k) st s = z := ⟨_, rfl⟩
    have HLD := Lib.hid hld
    have HHT := Lib.hid hht
    clear hld hht
    obtain ⟨d0, d1, d2, d3, d4, d5⟩ := (AX.drv HS3.out).cells
    obtain ⟨c0, c1⟩ : w3.cell? ⟨gs, 0, none⟩ = some (.int .i64 s.ord) ∧ w3.cell? ⟨gs, 1, none⟩ = some (.bool s.drop) := ⟨HK3.out.1.cell rfl, HK3.out.1.cell rfl⟩
    go_upto_if 62 with fail
    go_cut [9, 12] (fun lv dv wx => dv = .int .i64 ld ∧ Hid (TL (AX w d) lv (l ++ ht) wx) ∧ Hid (KB lv wx gs 36 [.int .i64 s.ord, .bool s.drop]))
    case first =>
      cases t with
      | true =>
        have HF := Lib.hid (HY1.out rfl)
        have h1 : st.load = ld := by rw [← HLD.out, if_pos HF.out]
        have h2 : ht = [⟨d.id, s.ord, 17⟩] := by rw [← HHT.out, here_first HF.out]
        subst h1
        subst h2
        have HA := Lib.hid (HS3.out.alloc (.cells #[.int .i64 d.id, .int .i64 s.ord, .int .i64 17] 47))
        have HAB : Hid (Blk (w3.alloc (.cells #[.int .i64 d.id, .int .i64 s.ord, .int .i64 17] 47)) w3.heap.size 47 (tcells ⟨d.id, s.ord, 17⟩)) := Blk.new w3 _ (tcells ⟨d.id, s.ord, 17⟩)
        have HAL : Hid (l.length ≤ 100000) := by show _ ≤ _; have := HLN.out; omega
        obtain ⟨d0, d1, d2, d3, d4, d5⟩ := (AX.drv HS3.out).cells
        go_wp2_with (at_builtin; refine wpList_trb (o := ⟨some 70, _, _, _, _, _⟩) rfl (.tmp 63) (.tmp 69) rfl HA.out rfl ⟨d.id, s.ord, 17⟩ HAB.out rfl HAL.out ?_; intro vB wB HQ HQK)
        go_meet
        exact ⟨rfl, HQ, Lib.hid (HQK.out _ _ _ (HK3.out.next ((Below.refl _ _).alloc (Nat.le_refl _) _)))⟩
      | false =>
        have HF := Lib.hid (HY2.out rfl)
        obtain ⟨o0, o1, o2, o3, o4, o5, o6, o7, o8, o9⟩ := HCO.out _ (AX.old HS3.out)
        cases hsd : s.drop with
        | true =>
          have h1 : st.load - o.size = ld := by rw [← HLD.out, if_neg HF.out]; unfold loadOf; rw [hsd]; rfl
          have h2 : ht = [] := by rw [← HHT.out, here_none HF.out (by rw [hsd]; rintro ⟨h, _⟩; cases h)]
          rw [hsd] at c1
          subst h2
          clear o0 o2 o3 o4 o5 o6 o7 o8 o9
          go_wp2_with fail
          go_meet
          exact ⟨by first | rfl | rw [h1], Lib.hid (by rw [List.append_nil]; exact HS3.out), HK3⟩
        | false =>
          have h1 : st.load + o.size = ld := by rw [← HLD.out, if_neg HF.out]; unfold loadOf; rw [hsd]; rfl
          have h1' : loadOf o s st.load = st.load + o.size := by unfold loadOf; rw [hsd]; rfl
          rw [hsd] at c1
          by_cases hroom : d.room < st.load + o.size
          · have h2 : ht = [⟨d.id, s.ord, 14⟩] := by rw [← HHT.out, here_load HF.out hsd (by rw [h1']; exact hroom)]
            clear o0 o2 o3 o4 o5 o6 o7 o8 o9 h1'
            subst h2
            have HA := Lib.hid (HS3.out.alloc (.cells #[.int .i64 d.id, .int .i64 s.ord, .int .i64 14] 47))
            have HAB : Hid (Blk (w3.alloc (.cells #[.int .i64 d.id, .int .i64 s.ord, .int .i64 14] 47)) w3.heap.size 47 (tcells ⟨d.id, s.ord, 14⟩)) := Blk.new w3 _ (tcells ⟨d.id, s.ord, 14⟩)
            have HAL : Hid (l.length ≤ 100000) := by show _ ≤ _; have := HLN.out; omega
            obtain ⟨d0, d1, d2, d3, d4, d5⟩ := (AX.drv HS3.out).cells
            go_wp2_with (at_builtin; refine wpList_trb (o := ⟨some 98, _, _, _, _, _⟩) rfl (.tmp 91) (.tmp 97) rfl HA.out rfl ⟨d.id, s.ord, 14⟩ HAB.out rfl HAL.out ?_; intro vB wB HQ HQK)
            go_meet
            exact ⟨by first | rfl | rw [h1], HQ, Lib.hid (HQK.out _ _ _ (HK3.out.next ((Below.refl _ _).alloc (Nat.le_refl _) _)))⟩
          · have h2 : ht = [] := by rw [← HHT.out, here_none HF.out (by rw [h1']; exact fun h => hroom h.2)]
            clear o0 o2 o3 o4 o5 o6 o7 o8 o9 h1'
            subst h2
            go_wp2_with fail
            go_meet
            exact ⟨by first | rfl | rw [h1], Lib.hid (by rw [List.append_nil]; exact HS3.out), HK3⟩
    case rest =>
    obtain ⟨rfl, HS4, HK4⟩ := hcut
    obtain ⟨w4, rfl⟩ : ∃ u, u = wc := ⟨_, rfl⟩
    clear HS3 HK3 c0 c1 d0 d1 d2 d3 d4 d5 HY1 HY2 sz1 sz2 ll1 ll2
    obtain ⟨si, hsi⟩ : ∃ z, siteOf o s = z := ⟨_, rfl⟩
    have HSI := Lib.hid hsi
    have hsv : 0 ≤ si.serv ∧ si.serv ≤ 1000000 := by rw [← hsi]; exact site_serv HKO.out s
    have hwn := right_iff.1 (site_win HKO.out s)
    rw [hsi] at hwn
    obtain ⟨wn1, wn2, wn3⟩ := hwn
    obtain ⟨sv1, sv2⟩ := hsv
    clear hsi
    go_upto_region 17 with fail
    go_cut [16] (fun sv wx => ∃ gt, sv = .pointer (some ⟨gt, 0, none⟩) ∧ Hid (Below w4.heap.size w4 wx) ∧ Hid (SBox wx gt si))
    case first =>
      have HCB : Hid (∀ u, Below w4.heap.size w4 u → OAt u b2 (off2 + i * 10) o ∧ (u.cell? ⟨gs, 0, none⟩ = some (.int .i64 s.ord) ∧ u.cell? ⟨gs, 1, none⟩ = some (.bool s.drop))) := fun u hu =>
        ⟨HCO.out u ((AX.old HS4.out).trans (hu.mono (AX.old HS4.out).size)), (HK4.out.next hu).1.cell rfl, (HK4.out.next hu).1.cell rfl⟩
      have HSV : Hid (∀ u, Below w4.heap.size w4 u → Calls Try.prog 66 #[ordV o, stpV s] u fun e w' => e = .returned (siteV si) ∧ Below u.heap.size u w') := fun u hu => by
        have := rsite_any o s u
        rw [HSI.out] at this
        exact this
      refine wp_region_steps (boxRF [99, 100, 101, 102, 103, 104, 16, 16] [.slice (some ⟨b2, off2, none⟩) n2 c2, .int .i64 ((i : Nat) : Int), .pointer (some ⟨b2, off2 + i * 10, none⟩), ordV o, stpV s, siteV si, undef, undef] 6 7 29 [.int .i64 0, .int .i64 0, .int .i64 0, .int .i64 0] [.int .i64 si.place, .int .i64 si.win.fr, .int .i64 si.win.to, .int .i64 si.serv]) (by kernel_rfl) (by kernel_rfl) (by kernel_rfl) (fun q hq => ?_) (by kernel_rfl) boxRF.mon ?_ ?_
      · simp only [List.length_cons, List.length_nil] at hq
        simp only [boxRF]
        rw [if_neg (by omega)]
      · refine ⟨?_, ?_, ?_, ?_, ?_, ?_, ?_, ?_, trivial⟩
        · exact boxRF.pureStep rfl 99 rfl rfl (by simp) (by decide) (by decide) _ rfl fun listed a u D hI hr hn => exec_move (.inl rfl) (hI.out 2 (by kernel_rfl))
        · exact boxRF.pureStep rfl 100 rfl rfl (by simp) (by decide) (by decide) _ rfl fun listed a u D hI hr hn => exec_move (.inl rfl) (hI.out 15 (by kernel_rfl))
        · exact boxRF.pureStep rfl 101 rfl rfl (by simp) (by decide) (by decide) _ rfl fun listed a u D hI hr hn => exec_index_o rfl (boxRF.val hI hr hn 0 (by kernel_rfl) (by decide) (by decide) rfl rfl) (boxRF.val hI hr hn 1 (by kernel_rfl) (by decide) (by decide) rfl rfl) hin hm2
        · exact boxRF.pureStep rfl 102 rfl rfl (by simp) (by decide) (by decide) _ rfl fun listed a u D hI hr hn => exec_load rfl (boxRF.val hI hr hn 2 (by kernel_rfl) (by decide) (by decide) rfl rfl) (run_load_oo (HCB.out _ (below_drew hI.old)).1)
        · exact boxRF.pureStep rfl 103 rfl rfl (by simp) (by decide) (by decide) _ rfl fun listed a u D hI hr hn => exec_load rfl (hI.out 14 (by kernel_rfl)) (run_load_st (HCB.out _ (below_drew hI.old)).2)
        · exact boxRF.callStep rfl 104 rfl rfl (by simp) (by decide) (by decide) _ rfl fun listed a u D hI hr hn => ⟨_, _, op_call2 rfl (boxRF.val hI hr hn 3 (by kernel_rfl) (by decide) (by decide) rfl rfl) (boxRF.val hI hr hn 4 (by kernel_rfl) (by decide) (by decide) rfl rfl) (by simp [go_sem]), HSV.out _ (below_drew hI.old)⟩
        · exact boxRF.allocStep rfl 16 rfl rfl (by simp) fun a u => exec_asi rfl
        · exact boxRF.storeStep rfl rfl rfl rfl (by decide) (by kernel_rfl) fun listed a u D hI hr hn g e1 hb => ⟨_, exec_store rfl e1 (boxRF.val hI hr hn 5 (by kernel_rfl) (by decide) (by decide) rfl rfl) (run_store_si hb), ((((Only.refl _ _).set _ _).set _ _).set _ _).set _ _, putSi_box hb si⟩
      · intro listed a u D hI hall
        obtain ⟨gt, eB, hbx⟩ := boxRF.box hI hall (by decide) (by decide) (s := 16) rfl
        have hold := below_drew hI.old
        have hl := hI.fill [99, 100, 101, 102, 103, 104, 16] (by kernel_rfl)
        clear hI hall
        obtain ⟨σ, hσ⟩ : ∃ σ : Nat → Value, ∀ t, a.tmps.getD t undef = σ t := ⟨_, fun _ => rfl⟩
        simp only [hσ] at hl eB
        clear hσ
        simp only [List.foldl_cons, List.foldl_nil, List.setIfInBounds_toArray, List.set_cons_zero, List.set_cons_succ, eB] at hl
        subst hl
        go_wp2_with fail
        go_meet
        exact ⟨gt, rfl, hold, hbx⟩
    case rest =>
    obtain ⟨gt, rfl, hb5, HX5⟩ := hcut
    obtain ⟨w5, rfl⟩ : ∃ u, u = wc := ⟨_, rfl⟩
    have HS5 := Lib.hid (HS4.out.next hb5.out)
    have HK5 := Lib.hid (HK4.out.next hb5.out)
    have HT5 : Hid (KB _ w5 gt 29 [.int .i64 si.place, .int .i64 si.win.fr, .int .i64 si.win.to, .int .i64 si.serv]) := Lib.hid (KB.of HS5.out HX5.out (by decide))
    clear HS4 HK4 hb5 HX5
    obtain ⟨tt, htt⟩ : ∃ t, time ⟨mn, ml⟩ st.at_ si.place = t := ⟨_, rfl⟩
    have HTT := Lib.hid htt
    obtain ⟨hma, hmn, hmap⟩ := map_at (HM.out.keep (AX.old HS5.out))
    obtain ⟨tb1, tb2⟩ := time_bounds hmap st.at_ si.place
    rw [htt] at tb1 tb2
    have HTM := Lib.hid (rtime_val' base bm mn ml st.at_ si.place tt w5 hma hmn htt)
    clear htt hma hmn hmap
    obtain ⟨s0, s1, s2, s3⟩ := SBox.cells (s := si) HT5.out.1
    go_wp2_with fail
    refine HTM.out.mono ?_
    rintro e w6 ⟨bq, nq, rfl, hw6⟩
    have hb6 : Below w5.heap.size w5 w6 := by rw [hw6]; exact below_drewN (Below.refl _ _) _
    have HS6 := Lib.hid (HS5.out.next hb6)
    have HK6 := Lib.hid (HK5.out.next hb6)
    have HT6 := Lib.hid (HT5.out.next hb6)
    clear HTM hw6 hb6 HS5 HK5 HT5 s0 s1 s2 s3
    obtain ⟨s0, s1, s2, s3⟩ := SBox.cells (s := si) HT6.out.1
    obtain ⟨bg, hbg⟩ : ∃ z, beginA ⟨mn, ml⟩ o st s = z := ⟨_, rfl⟩
    have HBG := Lib.hid hbg
    have hbv : (if st.left + tt < si.win.fr then si.win.fr else st.left + tt) = bg := by
      rw [← hbg]; unfold beginA; rw [HSI.out, HTT.out]
    have bg1 : 0 ≤ bg := by rw [← hbv]; split <;> omega
    have bg2 : bg ≤ 2000000000 := by rw [← hbv]; split <;> omega
    have HBV := Lib.hid hbv
    clear hbg hbv
    go_upto_if 120 with fail
    go_cut [19] (fun bv wx => bv = .int .i64 bg ∧ w6 = wx)
    case first =>
      by_cases hea : st.left + tt < si.win.fr
      · have h1 : si.win.fr = bg := by rw [← HBV.out, if_pos hea]
        go_wp2_with fail
        go_meet
        exact ⟨by first | rfl | rw [h1], rfl⟩
      · have h1 : st.left + tt = bg := by rw [← HBV.out, if_neg hea]
        go_wp2_with fail
        go_meet
        exact ⟨by first | rfl | rw [h1], rfl⟩
    case rest =>
    obtain ⟨rfl, rfl⟩ := hcut
    obtain ⟨lt, hlat⟩ : ∃ z, lateT ⟨mn, ml⟩ d o st s = z := ⟨_, rfl⟩
    have HLT : Hid ((si.win.to < bg ∨ d.win.to < bg + si.serv → lt = [⟨d.id, s.ord, 15⟩]) ∧ (¬(si.win.to < bg ∨ d.win.to < bg + si.serv) → lt = [])) := by
      show _ ∧ _
      rw [← hlat]
      unfold lateT
      rw [HSI.out, HBG.out]
      exact ⟨fun h => if_pos h, fun h => if_neg h⟩
    have HLAT := Lib.hid hlat
    clear hlat
    obtain ⟨d0, d1, d2, d3, d4, d5⟩ := (AX.drv HS6.out).cells
    go_upto_region 22 with fail
    go_cut [138] (fun bv wx => w6 = wx ∧ ∃ t : Bool, bv = .bool t ∧ Hid (t = true → lt = [⟨d.id, s.ord, 15⟩]) ∧ Hid (t = false → lt = []))
    case first =>
      by_cases h1 : si.win.to < bg
      · have HF := Lib.hid (HLT.out.1 (.inl h1))
        go_wp2_with fail
        go_meet
        exact ⟨rfl, true, rfl, Lib.hid (fun _ => HF.out), Lib.hid (fun h => (by cases h))⟩
      · by_cases h2 : d.win.to < bg + si.serv
        · have HF := Lib.hid (HLT.out.1 (.inr h2))
          go_wp2_with fail
          go_meet
          exact ⟨rfl, true, rfl, Lib.hid (fun _ => HF.out), Lib.hid (fun h => (by cases h))⟩
        · have HF := Lib.hid (HLT.out.2 (by rintro (h | h); exact h1 h; exact h2 h))
          go_wp2_with fail
          go_meet
          exact ⟨rfl, false, rfl, Lib.hid (fun h => (by cases h)), Lib.hid (fun _ => HF.out)⟩
    case rest =>
    obtain ⟨rfl, t5, rfl, HY1, HY2⟩ := hcut
    clear HLT
    obtain ⟨c0, c1⟩ : w6.cell? ⟨gs, 0, none⟩ = some (.int .i64 s.ord) ∧ w6.cell? ⟨gs, 1, none⟩ = some (.bool s.drop) := ⟨HK6.out.1.cell rfl, HK6.out.1.cell rfl⟩
    go_upto_if 138 with fail
    go_cut [9] (fun lv wx => Hid (TL (AX w d) lv ((l ++ ht) ++ lt) wx) ∧ Hid (SBox wx gt si))
    case first =>
      cases t5 with
      | true =>
        have h2 := HY1.out rfl
        subst h2
        have HA := Lib.hid (HS6.out.alloc (.cells #[.int .i64 d.id, .int .i64 s.ord, .int .i64 15] 47))
        have HAB : Hid (Blk (w6.alloc (.cells #[.int .i64 d.id, .int .i64 s.ord, .int .i64 15] 47)) w6.heap.size 47 (tcells ⟨d.id, s.ord, 15⟩)) := Blk.new w6 _ (tcells ⟨d.id, s.ord, 15⟩)
        have HAL : Hid ((l ++ ht).length ≤ 100000) := by show _ ≤ _; have h1 := here_len d o (stops.take k) st s; rw [HHT.out] at h1; have := HLN.out; rw [List.length_append]; omega
        obtain ⟨d0, d1, d2, d3, d4, d5⟩ := (AX.drv HS6.out).cells
        go_wp2_with (at_builtin; refine wpList_trb (o := ⟨some 146, _, _, _, _, _⟩) rfl (.tmp 139) (.tmp 145) rfl HA.out rfl ⟨d.id, s.ord, 15⟩ HAB.out rfl HAL.out ?_; intro vB wB HQ HQK)
        go_meet
        exact ⟨HQ, Lib.hid (HQK.out _ _ _ (HT6.out.next ((Below.refl _ _).alloc (Nat.le_refl _) _))).1⟩
      | false =>
        have h2 := HY2.out rfl
        subst h2
        go_wp2_with fail
        go_meet
        exact ⟨Lib.hid (by rw [List.append_nil]; exact HS6.out), Lib.hid HT6.out.1⟩
    case rest =>
    obtain ⟨HS7, HX7⟩ := hcut
    obtain ⟨w7, rfl⟩ : ∃ u, u = wc := ⟨_, rfl⟩
    clear HS6 HK6 HT6 HY1 HY2 c0 c1 d0 d1 d2 d3 d4 d5 s0 s1 s2 s3
    obtain ⟨s0, s1, s2, s3⟩ := HX7.out.cells
    have HN : Hid (X = ((l ++ ht) ++ lt) ++ alongGo ⟨mn, ml⟩ d os (stops.take (k + 1)) ⟨si.place, bg + si.serv, ld⟩ (stops.drop (k + 1))) := by
      show _ = _
      have h1 := ag_next HG2.out HFO.out HHT.out HLAT.out
      unfold nextT at h1
      rw [HXS.out, HSI.out, HBG.out, HLD.out] at h1
      exact h1
    have HB2 : Hid (OA ⟨si.place, bg + si.serv, ld⟩ (k + 1)) := by
      have h1 := HB.out.next (seen := stops.take k) HKO.out (s := s) (by rw [HSI.out, HTT.out]; exact ⟨tb1, tb2⟩)
      unfold nextT at h1
      rw [HSI.out, HBG.out, HLD.out] at h1
      exact h1
    have HLN2 : Hid (((l ++ ht) ++ lt).length ≤ 2 * (k + 1)) := by
      show _ ≤ _
      have h1 := here_len d o (stops.take k) st s
      have h2 := late_len ⟨mn, ml⟩ d o st s
      rw [HHT.out] at h1
      rw [HLAT.out] at h2
      have := HLN.out
      simp only [List.length_append]
      omega
    go_wp2_with fail
    go_quiet (fail)
    go_wp2_with fail
    go_roundw
    case rel => exact ⟨k + 1, ⟨si.place, bg + si.serv, ld⟩, (l ++ ht) ++ lt, by omega, by go_num, rfl, rfl, rfl, Lib.hid (HS7.out.drewN _), HN, HB2, HLN2⟩
    case measure => simp [intOf]; omega
#print axioms ralong_any
end Go.Proofs.Ytjklpdeeohhhnaa.Audit

/-
  The document's own answer to chapter 11, walked: Audit.
-/
namespace Go.Proofs.Ytjklpdeeohhhnaa.Audit
open Go.ChangeShapes Go.WideShapes Go.ChangeAt Go.RowKit Go.Proofs.Ytjklpdeeohhhnaa.Mem Go.Proofs.Ytjklpdeeohhhnaa.GeoMath Go.Proofs.Ytjklpdeeohhhnaa.FleetMath Go.Proofs.Ytjklpdeeohhhnaa.PlanMath Go.Proofs.Ytjklpdeeohhhnaa.CertMath Go.Proofs.Ytjklpdeeohhhnaa.AuditMath Go.Proofs.Ytjklpdeeohhhnaa.Rec Go.Proofs.Ytjklpdeeohhhnaa.Geo Go.Proofs.Ytjklpdeeohhhnaa.Span Go.Proofs.Ytjklpdeeohhhnaa.Deal Go.Proofs.Ytjklpdeeohhhnaa.Route Go.Proofs.Ytjklpdeeohhhnaa.Plan Go.Proofs.Ytjklpdeeohhhnaa.Cert Go.Proofs.Ytjklpdeeohhhnaa.Cert.OneR
set_option linter.unusedVariables false
set_option linter.unusedSimpArgs false

theorem own_one {base : Nat} (w : World) (t : Trb) (hb : base ≤ w.heap.size) : OwnK (w.alloc (.cells (tcells t).toArray 47)) base 47 3 (.slice (some ⟨w.heap.size, 0, none⟩) 1 1) 1 (tcells t) :=
  ⟨⟨by simp, .inr ⟨w.heap.size, 1, _, rfl, hb, heap_alloc_new w _, Nat.le_refl _, by unfold maxLen; omega, by simp, by simp⟩⟩, by unfold maxLen; omega⟩
theorem TL.pushs {X u u' : World} {v v' : Value} {l t : List Trb} (h : TL X v l u) (ho : OwnK u' X.heap.size 47 3 v' (l.length + t.length) (trbsV l ++ trbsV t)) (hg : u.grownBy u' v.ownBlock) : TL X v' (l ++ t) u' :=
  ⟨h.own.below h.below hg h.below.size (Nat.le_refl _), by rw [trbsV_append, List.length_append]; exact ho⟩

set_option maxRecDepth 100000 in
set_option maxHeartbeats 8000000 in
theorem raudit_any (base : Nat) (pv : Value) (m : Option Mp) (A : Option Addr) (n c : Nat) (ds : List Drv) (A2 : Option Addr) (n2 c2 : Nat) (os : List FleetMath.Ord) (A3 : Option Addr) (n3 c3 : Nat) (l : List RM) (w : World)
    (h : MapP w 120 base pv m) (hd : Drvs w w.heap.size A n ds) (ho : Ords w w.heap.size A2 n2 os) (hl : Plns w w.heap.size A3 n3 l) :
    Calls Try.prog 15 #[pv, .slice A n c, .slice A2 n2 c2, .slice A3 n3 c3] w (MakesK w 47 3 (auditM m ds os (l.map (·.rt))).length (trbsV (auditM m ds os (l.map (·.rt))))) := by
  have hm := Recs.le hl.rows
  have hm2 := Recs.le ho
  have HD := Lib.hid hd
  have HO := Lib.hid ho
  have HP := Lib.hid hl
  have HL := Lib.hid hl.length
  have HL2 := Lib.hid ho.length
  have HM := Lib.hid h
  obtain ⟨rw', hrw⟩ : ∃ r, wellC m ds os (l.map (·.rt)) = r := ⟨_, rfl⟩
  have HW := Lib.hid hrw
  obtain ⟨q, hq⟩ : ∃ q, pv = .pointer q := by
    rcases h with ⟨rfl, _⟩ | ⟨b, _, _, rfl, _⟩
    · exact ⟨_, rfl⟩
    · exact ⟨_, rfl⟩
  subst hq
  obtain ⟨Y, hY⟩ : ∃ Y, auditM m ds os (l.map (·.rt)) = Y := ⟨_, rfl⟩
  have HY := Lib.hid hY
  rw [hY]
  clear h hd ho hl hrw hY
  go_enter Try.func15, Try.ntmps15
  go_wp2_with fail
  refine (rwell_any base _ m A n c ds A2 n2 c2 os A3 n3 c3 l rw' _ (by exact HM.out) (by exact HD.out) (by exact HO.out) (by exact HP.out) HW.out).mono ?_
  rintro e w1 ⟨rfl, hb1⟩
  have HB1 := Lib.hid hb1
  clear hb1
  cases rw' with
  | false =>
    have HF : Hid (Y = [⟨0, 0, 1⟩]) := HY.out.symm.trans (audit_wrong HW.out)
    go_wp2_with fail
    go_ret
    rw [HF.out]
    exact ⟨_, rfl, HB1.out.alloc HB1.out.size _, own_one w1 ⟨0, 0, 1⟩ HB1.out.size⟩
  | true =>
    obtain ⟨mm, hmm, _, hkn, hrp, hdk, _⟩ := wellC_parts HW.out
    subst hmm
    have HKN := Lib.hid hkn
    have HRP := Lib.hid hrp
    have HDK := Lib.hid hdk
    have hn8 : n3 ≤ 8 := by
      have := rightP_few hrp
      rw [List.length_map, HL.out] at this
      exact this
    have hn2 : n2 ≤ 64 := by have := (known_iff.1 hkn).1; rw [HL2.out] at this; omega
    have HG0 : Hid (Y = [] ++ ((l.map (·.rt)).drop 0).flatMap (routeT mm ds os) ++ missT (l.map (·.rt)) os) := by
      show _ = _
      rw [← HY.out, audit_right HW.out, List.nil_append, List.drop_zero]
    have HS0 : Hid (TL w (.slice none 0 0) [] w1) := (TL.start w).next HB1.out
    clear hkn hrp hdk HB1
    go_wp2_with fail
    go_loopw [9, 10] (fun v i wr => ∃ (k : Nat) (l' : List Trb), k ≤ n3 ∧ i = .int .i64 k ∧ Hid (TL w v l' wr) ∧ Hid (Y = l' ++ ((l.map (·.rt)).drop k).flatMap (routeT mm ds os) ++ missT (l.map (·.rt)) os) ∧ Hid (l'.length ≤ 241 * k)) (fun _ i _ => n3 - (intOf i).toNat)
    case atStart => exact ⟨0, [], Nat.zero_le _, rfl, HS0, HG0, Lib.hid (by simp)⟩
    case round =>
      clear HS0 HG0
      obtain ⟨k, l', hk, rfl, HS, HG, HLN⟩ := hrel
      by_cases hlt : k < n3
      case neg =>
        have HG1 : Hid (Y = l' ++ missT (l.map (·.rt)) (os.drop 0)) := by
          show _ = _
          have h1 := HG.out
          rw [List.drop_of_length_le (by rw [List.length_map, HL.out]; omega)] at h1
          rw [h1]; simp
        have HLN1 : Hid (l'.length ≤ 2000) := by show _ ≤ _; have := HLN.out; omega
        clear HG HLN
        go_wp2_with fail
        go_loopw [9, 13] (fun v i wz => ∃ (k : Nat) (l' : List Trb), k ≤ n2 ∧ i = .int .i64 k ∧ Hid (TL w v l' wz) ∧ Hid (Y = l' ++ missT (l.map (·.rt)) (os.drop k)) ∧ Hid (l'.length ≤ 2000 + k)) (fun _ i _ => n2 - (intOf i).toNat)
        case atStart => exact ⟨0, l', Nat.zero_le _, rfl, HS, HG1, Lib.hid (by have := HLN1.out; omega)⟩
        case round =>
          clear HS HG1 HLN1 hlt hk
          obtain ⟨k, l', hk, rfl, HS, HG, HLN⟩ := hrel
          by_cases hlt : k < n2
          case neg =>
            have HE : Hid (Y = l') := by
              show _ = _
              have h1 := HG.out
              rw [List.drop_of_length_le (by rw [HL2.out]; omega)] at h1
              rw [h1]; simp [missT]
            clear HG
            go_wp2_with fail
            go_ret
            rw [HE.out]
            exact ⟨_, rfl, HS.out.below, HS.out.own⟩
          obtain ⟨b, off, o, rfl, _, ho, hdr, c0, _⟩ := Ords.at_ (Recs.keep HO.out HS.out.below) hlt
          have HOO := Lib.hid ho
          have HG1 := HG.out
          rw [hdr] at HG1
          have HN := Lib.hid (ms_next HG1)
          obtain ⟨fs, hfs⟩ : ∃ s, findP (l.map (·.rt)) o.id = s := ⟨_, rfl⟩
          rw [hfs] at HN
          have HFP : Hid (∀ u, Below w.heap.size w u → Calls Try.prog 38 #[.slice A3 n3 c3, .int .i64 o.id] u (fun e w' => e = .returned (spotV fs) ∧ Below u.heap.size u w')) := fun u hu => by
            have h1 := rfindp_any A3 n3 c3 l o.id u ((HP.out.keep hu).more hu.size)
            rw [hfs] at h1
            exact h1
          clear ho hdr hfs HG1 HG
          go_wp2_with fail
          refine (HFP.out _ HS.out.below).mono ?_
          rintro e w2 ⟨rfl, hb2⟩
          have HS2 := Lib.hid (HS.out.next hb2)
          clear hb2 HFP HS c0
          cases fs with
          | none =>
            have hv : spotV none = .tuple #[.agg #[.int .i64 0, .int .i64 0, .int .i64 0, .int .i64 0], .bool false] := rfl
            rw [hv]
            clear hv
            have HN1 := Lib.hid (HN.out.2 rfl)
            have HS3 := Lib.hid (HS2.out.alloc (.cells #[.int .i64 0, .int .i64 0, .int .i64 0, .int .i64 0] 67))
            clear HS2 HN
            obtain ⟨b', off', o', e', _, ho', _, c0, _⟩ := Ords.at_ (Recs.keep HO.out HS3.out.below) hlt
            injection e' with e'
            injection e' with e1 e2
            subst e1; subst e2
            rw [HOO.out] at ho'
            injection ho' with ho'
            subst ho'
            have HA := Lib.hid (HS3.out.alloc (.cells #[.int .i64 0, .int .i64 o.id, .int .i64 19] 47))
            have HAB : Hid (Blk ((w2.alloc (.cells #[.int .i64 0, .int .i64 0, .int .i64 0, .int .i64 0] 67)).alloc (.cells #[.int .i64 0, .int .i64 o.id, .int .i64 19] 47)) (w2.heap.size + 1) 47 (tcells ⟨0, o.id, 19⟩)) := by
              have h1 := Blk.new (w2.alloc (.cells #[.int .i64 0, .int .i64 0, .int .i64 0, .int .i64 0] 67)) 47 (tcells ⟨0, o.id, 19⟩)
              rw [World.size_alloc] at h1
              exact h1
            have HAL : Hid (l'.length ≤ 100000) := by show _ ≤ _; have := HLN.out; omega
            go_wp2_with (at_builtin; refine wpList_trb (o := ⟨some 88, _, _, _, _, _⟩) rfl (.tmp 80) (.tmp 87) rfl HA.out rfl ⟨0, o.id, 19⟩ HAB.out rfl HAL.out ?_; intro vB wB HQ HQK)
            go_roundw
            case rel => exact ⟨k + 1, l' ++ [⟨0, o.id, 19⟩], by omega, by go_num, HQ, HN1, Lib.hid (by have := HLN.out; simp only [List.length_append, List.length_cons, List.length_nil]; omega)⟩
            case measure => simp [intOf]; omega
          | some sp =>
            have hv : spotV (some sp) = .tuple #[.agg #[.int .i64 sp.drv, .int .i64 sp.pick, .int .i64 sp.drop, .int .i64 0], .bool true] := rfl
            rw [hv]
            clear hv
            have HN1 := Lib.hid (HN.out.1 rfl)
            have HS3 := Lib.hid (HS2.out.alloc (.cells #[.int .i64 sp.drv, .int .i64 sp.pick, .int .i64 sp.drop, .int .i64 0] 67))
            clear HS2 HN
            go_wp2_with fail
            go_roundw
            case rel => exact ⟨k + 1, l', by omega, by go_num, HS3, HN1, Lib.hid (by have := HLN.out; omega)⟩
            case measure => simp [intOf]; omega
      obtain ⟨b, off, x, hA3, hbb, hx, hdr, c0, c1, c2', hst, hxc⟩ := (HP.out.keep HS.out.below).at_ hlt
      subst hA3
      have HXX := Lib.hid hx
      have HPD : Hid ((l.map (·.rt)).drop k = x.rt :: (l.map (·.rt)).drop (k + 1)) := by
        show _ = _
        rw [← List.map_drop, hdr, List.map_cons, List.map_drop]
      have hx80 : x.rt.stops.length ≤ 80 := rightP_short HRP.out (List.mem_map.2 ⟨x, List.mem_of_getElem? hx, rfl⟩)
      have hxn : x.n ≤ 80 := by have := hst.length; omega
      have HG1 := HG.out
      rw [HPD.out] at HG1
      have HG2 := Lib.hid HG1
      obtain ⟨od, hod⟩ : ∃ r, drvOf ds x.rt.drv = r := ⟨_, rfl⟩
      have HOD := Lib.hid hod
      clear hx hdr hst hod HG1 HG
      go_wp2_with fail
      refine (rdrv_any A n c ds x.rt.drv od _ (by exact Recs.more (Recs.keep HD.out HS.out.below) HS.out.below.size) HOD.out).mono ?_
      rintro e w2 ⟨rfl, hb2⟩
      have HS2 := Lib.hid (HS.out.next hb2)
      clear hb2 HS c0 c1 c2'
      cases od with
      | none =>
        have hv : drvOV none = .tuple #[.agg #[.int .i64 0, .int .i64 0, .int .i64 0, .int .i64 0, .int .i64 0, .bool false], .bool false] := rfl
        rw [hv]
        clear hv
        have HN : Hid (Y = (l' ++ [⟨x.rt.drv, 0, 8⟩]) ++ ((l.map (·.rt)).drop (k + 1)).flatMap (routeT mm ds os) ++ missT (l.map (·.rt)) os) := fm_next HG2.out (routeT_none HOD.out)
        have HS3 := Lib.hid (HS2.out.alloc (.cells #[.int .i64 0, .int .i64 0, .int .i64 0, .int .i64 0, .int .i64 0, .bool false] 33))
        clear HS2
        obtain ⟨_, c0, _⟩ := (HP.out.keep HS3.out.below).cells HXX.out
        have HA := Lib.hid (HS3.out.alloc (.cells #[.int .i64 x.rt.drv, .int .i64 0, .int .i64 8] 47))
        have HAB : Hid (Blk ((w2.alloc (.cells #[.int .i64 0, .int .i64 0, .int .i64 0, .int .i64 0, .int .i64 0, .bool false] 33)).alloc (.cells #[.int .i64 x.rt.drv, .int .i64 0, .int .i64 8] 47)) (w2.heap.size + 1) 47 (tcells ⟨x.rt.drv, 0, 8⟩)) := by
          have h1 := Blk.new (w2.alloc (.cells #[.int .i64 0, .int .i64 0, .int .i64 0, .int .i64 0, .int .i64 0, .bool false] 33)) 47 (tcells ⟨x.rt.drv, 0, 8⟩)
          rw [World.size_alloc] at h1
          exact h1
        have HAL : Hid (l'.length ≤ 100000) := by show _ ≤ _; have := HLN.out; omega
        go_wp2_with (at_builtin; refine wpList_trb (o := ⟨some 50, _, _, _, _, _⟩) rfl (.tmp 42) (.tmp 49) rfl HA.out rfl ⟨x.rt.drv, 0, 8⟩ HAB.out rfl HAL.out ?_; intro vB wB HQ HQK)
        go_roundw
        case rel => exact ⟨k + 1, l' ++ [⟨x.rt.drv, 0, 8⟩], by omega, by go_num, HQ, HN, Lib.hid (by have := HLN.out; simp only [List.length_append, List.length_cons, List.length_nil]; omega)⟩
        case measure => simp [intOf]; omega
      | some d =>
        have hv : drvOV (some d) = .tuple #[drvV d, .bool true] := rfl
        rw [hv]
        clear hv
        obtain ⟨tr, htr⟩ : ∃ t, alongM mm d os x.rt.stops = t := ⟨_, rfl⟩
        have htl : tr.length ≤ 240 := by have := @alongM_len mm d os x.rt.stops; rw [htr] at this; omega
        have HN : Hid (Y = (l' ++ tr) ++ ((l.map (·.rt)).drop (k + 1)).flatMap (routeT mm ds os) ++ missT (l.map (·.rt)) os) := fm_next HG2.out (by rw [routeT_some HOD.out, htr])
        have HDE : Hid (drvE (some mm) d = 0) := HDK.out d (List.mem_of_find?_eq_some HOD.out)
        have HTR := Lib.hid htr
        have hln : l'.length ≤ 241 * k := HLN.out
        have HS3 := Lib.hid (HS2.out.alloc (.cells #[.int .i64 d.id, .int .i64 d.room, .int .i64 d.home, .int .i64 d.win.fr, .int .i64 d.win.to, .bool d.retired] 33))
        have HX3 : Hid (DBox (w2.alloc (.cells #[.int .i64 d.id, .int .i64 d.room, .int .i64 d.home, .int .i64 d.win.fr, .int .i64 d.win.to, .bool d.retired] 33)) w2.heap.size d) := Blk.new w2 _ _
        obtain ⟨gd, hgd⟩ : ∃ g, w2.heap.size = g := ⟨_, rfl⟩
        obtain ⟨w3, hw3⟩ : ∃ u, w2.alloc (.cells #[.int .i64 d.id, .int .i64 d.room, .int .i64 d.home, .int .i64 d.win.fr, .int .i64 d.win.to, .bool d.retired] 33) = u := ⟨_, rfl⟩
        clear HS2 htr
        go_upto_region 10 with fail
        rw [hgd] at HX3
        rw [hw3] at HS3 HX3
        clear hw3 hgd
        have HAL : Hid (∀ u, Below w3.heap.size w3 u → Calls Try.prog 37 #[.pointer q, drvV d, .slice A2 n2 c2, .slice x.a x.n x.c] u fun e u' => ∃ B c9, e = .returned (.slice B tr.length c9) ∧ Below w3.heap.size w3 u' ∧ Hid (TL w u9 l' u') ∧ Hid (Recs u' u'.heap.size B tr.length 3 (trbsV tr))) := Lib.hid fun u hu => by
          have ho := HS3.out.below.trans (hu.mono HS3.out.below.size)
          refine (ralong_any base q mm d A2 n2 c2 os x.a x.n x.c x.rt.stops u hxc (HM.out.keep ho) HDE.out HKN.out (Recs.more (Recs.keep HO.out ho) ho.size) (Recs.more (((HP.out.keep ho).cells HXX.out).2.2.2.2.1) ho.size) hxn).mono ?_
          rintro e u' ⟨v, rfl, hb, hown⟩
          rw [HTR.out] at hown
          obtain ⟨B, c9, rfl, _, hr⟩ := hown.read
          exact ⟨B, c9, rfl, hu.trans (hb.mono hu.size), (HS3.out.next hu).next hb, hr⟩
        have HC : Hid (∀ u, Below w3.heap.size w3 u → (u.cell? ⟨gd, 0, none⟩ = some (.int .i64 d.id) ∧ u.cell? ⟨gd, 1, none⟩ = some (.int .i64 d.room) ∧ u.cell? ⟨gd, 2, none⟩ = some (.int .i64 d.home) ∧ u.cell? ⟨gd, 3, none⟩ = some (.int .i64 d.win.fr) ∧ u.cell? ⟨gd, 4, none⟩ = some (.int .i64 d.win.to) ∧ u.cell? ⟨gd, 5, none⟩ = some (.bool d.retired)) ∧ u.cell? ⟨b, off + k * 3 + 2, none⟩ = some (.slice x.a x.n x.c)) :=
          Lib.hid fun u hu => ⟨(HX3.out.below hu).cells, ((HP.out.keep (HS3.out.below.trans (hu.mono HS3.out.below.size))).cells HXX.out).2.2.2.1⟩
        go_region_held3 (fun u => (u.cell? ⟨gd, 0, none⟩ = some (.int .i64 d.id) ∧ u.cell? ⟨gd, 1, none⟩ = some (.int .i64 d.room) ∧ u.cell? ⟨gd, 2, none⟩ = some (.int .i64 d.home) ∧ u.cell? ⟨gd, 3, none⟩ = some (.int .i64 d.win.fr) ∧ u.cell? ⟨gd, 4, none⟩ = some (.int .i64 d.win.to) ∧ u.cell? ⟨gd, 5, none⟩ = some (.bool d.retired)) ∧ u.cell? ⟨b, off + k * 3 + 2, none⟩ = some (.slice x.a x.n x.c))
          (first
            | exact HSB.out
            | exact HC.out _ (Below.refl _ _).drew
            | exact HC.out _ (by assumption)
            | exact HC.out _ (Below.drew (by assumption)))
          (first
            | (go_at_call 37; (refine (HAL.out _ (by first | assumption | exact (Below.refl _ _).drew)).mono ?_); rintro e w5 ⟨B5, c5, rfl, hbx, HT5, HR5⟩)
            | (refine step_append_ks (by rfl) _ _ Try.underlying43 infoTrb rfl (by decide) (by rfl) (base := w.heap.size) HT5.out.own (by rfl) HR5.out (by rfl) (trbsV_one tr) (by unfold maxLen; omega) (by omega) (w0 := w) (B0 := w.heap.size) HT5.out.below HT5.out.below.size HT5.out.below.size (Nat.le_refl _) ?_; intro vB wB HO2 HB2 HG2 HN2; have HQ := Lib.hid (HT5.out.pushs HO2.out HG2.out); have HKB := Lib.hid ((KB.of HT5.out (HX3.out.below hbx) (by decide)).push HG2.out HN2.out); have HSB := Lib.hid (And.intro (DBox.cells (d := d) HKB.out.1) ((HP.out.keep HB2.out).cells HXX.out).2.2.2.1)))
        all_goals
          go_wp2_with fail
          go_roundw
          case rel => exact ⟨k + 1, l' ++ tr, by omega, by go_num, HQ, HN, Lib.hid (by rw [List.length_append]; omega)⟩
          case measure => simp [intOf]; omega
#print axioms raudit_any
end Go.Proofs.Ytjklpdeeohhhnaa.Audit
