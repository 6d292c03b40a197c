/-
  The program's slack.Latest, walked.
-/
import Derived.Test.YtobcmlcmbnldlaaSlackPSite
import Derived.Test.YtobcmlcmbnldlaaSlackRFits
import Derived.Test.YtobcmlcmbnldlaaSpanAll
import Derived.Test.YtobcmlcmbnldlaaRegionVal
import Derived.Lib.MinMax
namespace Go.Proofs.Ytobcmlcmbnldlaa.Slack
open Go.ChangeShapes Go.WideShapes Go.ChangeAt Go.RowKit Go.Proofs.Ytobcmlcmbnldlaa.Mem Go.Proofs.Ytobcmlcmbnldlaa.GeoMath Go.Proofs.Ytobcmlcmbnldlaa.FleetMath Go.Proofs.Ytobcmlcmbnldlaa.Rec Go.Proofs.Ytobcmlcmbnldlaa.Geo Go.Proofs.Ytobcmlcmbnldlaa.Span Go.Proofs.Ytobcmlcmbnldlaa.Deal Go.Proofs.Ytobcmlcmbnldlaa.Route
set_option linter.unusedVariables false

theorem wf64 {v : Int} (h : -9223372036854775808 ≤ v ∧ v ≤ 9223372036854775807) : (Lit.int .i64 v).wf = true := by
  simp [Lit.wf, IntKind.min, IntKind.max, IntKind.signed, IntKind.bits]; omega
theorem glast_on (x : Win) (s til : Int) (u : World) (hs : 0 ≤ s ∧ s ≤ 1000000) (h : -1000000 ≤ til ∧ til ≤ 1000000) : ∃ v b, (lastT x s til).getD 0 = v ∧ Calls Try.prog 30 #[winV x, .int .i64 s, .int .i64 til] u (Gives u (.tuple #[.int .i64 v, .bool b])) := by
  have := glast_any x s til u (wf64 (by omega)) (wf64 (by omega))
  cases ho : lastT x s til with
  | none => rw [ho] at this; exact ⟨0, false, rfl, this⟩
  | some v => rw [ho] at this; exact ⟨v, true, rfl, this⟩
theorem gtime_on (base b n : Nat) (l : List Int) (a c v : Int) (w : World) (h : MapAt w 77 base b n l) (hn : n ≤ 12) (hv : time ⟨n, l⟩ a c = v) :
    Calls Try.prog 29 #[.pointer (some ⟨b, 0, none⟩), .int .i64 a, .int .i64 c] w fun e w' => e = .returned (.tuple #[.int .i64 v, .bool (placeB n a && placeB n c)]) ∧ Below w.heap.size w w' := by
  refine (gtime_any base b n l a c w h hn).mono ?_
  rintro e w' ⟨rfl, d, rfl⟩
  exact ⟨by rw [timeV_time.1, hv], below_drewN (Below.refl _ _) _⟩
theorem gsite_on {A : Option Addr} {n c : Nat} {os : List FleetMath.Ord} {s : Stp} {o : FleetMath.Ord} {si : Site} {w u : World} (hl : Ords w w.heap.size A n os) (hf : find os s.ord = some o) (h : siteOf o s = si) (hb : Below w.heap.size w u) :
    Calls Try.prog 28 #[.slice A n c, stpV s] u fun e w' => e = .returned (siteV si) ∧ Below u.heap.size u w' := by
  rw [← h]
  exact gsite_any A n c os s o u (Recs.more (Recs.keep hl hb) hb.size) hf
theorem exec_call2 {o : Oper} {a : Act} {u : World} {f : Nat} {ts : Array TypeId} {x y : Operand} {v1 v2 : Value} (h : o.op = .call { callee := .value (.func f), args := #[x, y], argTypes := ts }) (h1 : a.eval x = v1) (h2 : a.eval y = v2) (hf : (callFunc f #[v1, v2]).run Try.prog u = .ok (.enter f #[v1, v2]) u) :
    (execOp a.eval o).run Try.prog u = .ok (.enter f #[v1, v2]) u := by
  have hf' : a.eval (.func f) = .func (.func f) #[] #[] := rfl
  obtain ⟨ρ, hρ⟩ : ∃ ρ, a.eval = ρ := ⟨_, rfl⟩
  rw [hρ] at h1 h2 hf' ⊢
  unfold execOp
  rw [h]
  simp [go_sem, hf', h1, h2, hf]
theorem exec_call3 {o : Oper} {a : Act} {u : World} {f : Nat} {ts : Array TypeId} {x y z : Operand} {v1 v2 v3 : Value} (h : o.op = .call { callee := .value (.func f), args := #[x, y, z], argTypes := ts }) (h1 : a.eval x = v1) (h2 : a.eval y = v2) (h3 : a.eval z = v3) (hf : (callFunc f #[v1, v2, v3]).run Try.prog u = .ok (.enter f #[v1, v2, v3]) u) :
    (execOp a.eval o).run Try.prog u = .ok (.enter f #[v1, v2, v3]) u := by
  have hf' : a.eval (.func f) = .func (.func f) #[] #[] := rfl
  obtain ⟨ρ, hρ⟩ : ∃ ρ, a.eval = ρ := ⟨_, rfl⟩
  rw [hρ] at h1 h2 h3 hf' ⊢
  unfold execOp
  rw [h]
  simp [go_sem, hf', h1, h2, h3, hf]
theorem exec_dwin {o : Oper} {a : Act} {u : World} {x : Operand} {g : Nat} (h : o.op = .fieldAddr 33 x 3) (hp : a.eval x = .pointer (some ⟨g, 0, none⟩)) : (execOp a.eval o).run Try.prog u = .ok (.value (.pointer (some ⟨g, 3, none⟩))) u := by
  unfold execOp
  rw [h]
  simp only [hp]
  simp [go_sem]
theorem exec_wto {o : Oper} {a : Act} {u : World} {x : Operand} {g : Nat} (h : o.op = .fieldAddr 27 x 1) (hp : a.eval x = .pointer (some ⟨g, 3, none⟩)) : (execOp a.eval o).run Try.prog u = .ok (.value (.pointer (some ⟨g, 4, none⟩))) u := by
  unfold execOp
  rw [h]
  simp only [hp]
  simp [go_sem]
theorem exec_splace {o : Oper} {a : Act} {u : World} {x : Operand} {g : Nat} (h : o.op = .fieldAddr 29 x 0) (hp : a.eval x = .pointer (some ⟨g, 0, none⟩)) : (execOp a.eval o).run Try.prog u = .ok (.value (.pointer (some ⟨g, 0, none⟩))) u := by
  unfold execOp
  rw [h]
  simp only [hp]
  simp [go_sem]
theorem run_fplace (a b c d : Int) (u : World) : (Instr.field 29 (.agg #[.int .i64 a, .int .i64 b, .int .i64 c, .int .i64 d]) 0).run Try.prog u = .ok (.int .i64 a) u := by
  obtain ⟨i, hi, hz0, hz1, hz2⟩ := info_parts infoInt
  simp [Instr.field, run_underlying Try.underlying29, part, asAgg, sizeOf, typeInfo, hi, hz1]
theorem exec_fplace {o : Oper} {a : Act} {u : World} {x : Operand} {s : Site} (h : o.op = .field 29 x 0) (hp : a.eval x = siteV s) : (execOp a.eval o).run Try.prog u = .ok (.value (.int .i64 s.place)) u := by
  have hr := run_fplace s.place s.win.fr s.win.to s.serv u
  unfold execOp
  rw [h]
  simp only [hp, Sem.run_bind, hr, Result.andThen_ok, Sem.run_pure]

set_option maxRecDepth 100000 in
set_option maxHeartbeats 4000000 in
theorem glatest_any (base : Nat) (pv : Value) (m : Option Mp) (d : Drv) (A : Option Addr) (n c : Nat) (os : List FleetMath.Ord) (A' : Option Addr) (n' c' : Nat) (stops : List Stp) (w : World) (h : MapP w 77 base pv m) (ho : Ords w w.heap.size A n os) (hs : Stps w w.heap.size A' n' stops) (hcc : n' ≤ c') (hnc : n ≤ c) :
    Calls Try.prog 10 #[pv, drvV d, .slice A n c, .slice A' n' c'] w (LatestOk w (latestR m d os stops)) := by
  have b0 : Below w.heap.size w (w.alloc (.cells #[.int .i64 d.id, .int .i64 d.room, .int .i64 d.home, .int .i64 d.win.fr, .int .i64 d.win.to, .bool d.retired] 33)) := (Below.refl _ _).alloc (Nat.le_refl _) _
  have HB0 := Lib.hid b0
  have HD0 : Hid (DBox (w.alloc (.cells #[.int .i64 d.id, .int .i64 d.room, .int .i64 d.home, .int .i64 d.win.fr, .int .i64 d.win.to, .bool d.retired] 33)) w.heap.size d) := Blk.new w _ _
  have HM := Lib.hid h
  have HOS := Lib.hid ho
  have HST := Lib.hid hs
  have HLO := Lib.hid ho.length
  have HLS := Lib.hid hs.length
  have hnm := Recs.le ho
  have hnm' := Recs.le hs
  obtain ⟨q, hq⟩ : ∃ q, pv = .pointer q := by
    rcases h with ⟨rfl, _⟩ | ⟨b, _, _, rfl, _⟩
    · exact ⟨_, rfl⟩
    · exact ⟨_, rfl⟩
  subst hq
  clear h ho hs b0
  go_enter Try.func10, Try.ntmps10
  go_wp2_with fail
  by_cases hfine : (drive m d os stops).2.2 = 0
  case neg =>
    have HC : Hid (latestR m d os stops = none) := latestR_none hfine
    refine (gdrives_v base (.pointer q) m d A n c os A' n' c' stops false _ (decide_eq_false hfine) (by exact HM.out.keep HB0.out) (by exact Recs.more (Recs.keep HOS.out HB0.out) HB0.out.size) (by exact Recs.more (Recs.keep HST.out HB0.out) HB0.out.size) hcc hnc).mono ?_
    rintro e w1 ⟨rfl, hb1⟩
    have HB1 := Lib.hid (HB0.out.trans (hb1.mono HB0.out.size))
    clear hb1 hfine
    go_wp2_with fail
    refine bodyPost_ret (v := .tuple #[.slice none 0 0, .bool false]) ?_ rfl (by rw [HC.out]; exact ⟨HB1.out, _, rfl, Own.nil _ _ _⟩)
    simp [results, Try.results10, go_sem]
  refine (gdrives_v base (.pointer q) m d A n c os A' n' c' stops true _ (decide_eq_true hfine) (by exact HM.out.keep HB0.out) (by exact Recs.more (Recs.keep HOS.out HB0.out) HB0.out.size) (by exact Recs.more (Recs.keep HST.out HB0.out) HB0.out.size) hcc hnc).mono ?_
  rintro e w1 ⟨rfl, hb1⟩
  have HB1 : Hid (Below w.heap.size w w1) := HB0.out.trans (hb1.mono HB0.out.size)
  have HD1 : Hid (DBox w1 w.heap.size d) := HD0.out.below hb1
  have hw1 : w.heap.size + 1 ≤ w1.heap.size := by have := hb1.size; simpa using this
  have HW1 := Lib.hid hw1
  clear hb1 HB0 HD0 hw1
  obtain ⟨m', st, hm', _, h80, hkn, hdv⟩ := drive_fine hfine
  subst hm'
  obtain ⟨mn, ml⟩ := m'
  have HC : Hid (latestR (some ⟨mn, ml⟩) d os stops = some (latestOf ⟨mn, ml⟩ d os stops)) := latestR_some hfine
  have HOK := Lib.hid (known_ok hkn)
  have HFIN : Hid (∀ (k : Nat) (s : Stp), stops[k]? = some s → ∃ o i, find os s.ord = some o ∧ findI os s.ord = some i ∧ os[i]? = some o) := fun k s hk => by
    obtain ⟨o, hfo⟩ := drive_finds hfine hk
    obtain ⟨i, h1, h2⟩ := find_idx hfo
    exact ⟨o, i, hfo, h1, h2⟩
  have hn80 : n' ≤ 80 := by have := HLS.out; omega
  have HSO : Hid (∀ s ∈ stops.map (siteAt os), SiteOk s) := fun x hx => by
    obtain ⟨s, hs, rfl⟩ := List.mem_map.1 hx
    obtain ⟨k, hk⟩ := List.getElem?_of_mem hs
    obtain ⟨o, i, hfo, _, _⟩ := HFIN.out k s hk
    exact siteAt_ok HOK.out hfo
  have HDW : Hid (0 ≤ d.win.to ∧ d.win.to ≤ 1000000) := by
    obtain ⟨m2, e2, hdk⟩ := drvE_ok.1 hdv
    have := right_iff.1 hdk.win
    exact ⟨by omega, this.2.2⟩
  clear hfine hkn h80 hdv
  obtain ⟨bm, hbm⟩ := map_ptr HM.out
  subst hbm
  have HTB : Hid (∀ a b, 0 ≤ time ⟨mn, ml⟩ a b ∧ time ⟨mn, ml⟩ a b ≤ 1000000) := fun a b => time_bounds (map_at HM.out).2.2 a b
  have hmk := make_ints n' hn80
  obtain ⟨g, hg⟩ : ∃ x, w1.heap.size = x := ⟨_, rfl⟩
  have S2 : Hid (LS w d g n' (List.replicate n' 0) (w1.alloc (.cells (intsV (List.replicate n' 0)).toArray 3))) := by
    have o := Own.new w1 (w.heap.size + 1) 3 (intsV (List.replicate n' 0)) (by have := HW1.out; omega) (by rw [intsV_len, List.length_replicate]; unfold maxLen; omega)
    rw [intsV_len, List.length_replicate, hg] at o
    exact ⟨HB1.out.alloc HB1.out.size _, HD1.out.below ((Below.refl _ _).alloc (Nat.le_refl _) _), o⟩
  have L2 : Hid (LatTo ⟨mn, ml⟩ d os stops n' (List.replicate n' 0)) := by
    have := LatTo.start ⟨mn, ml⟩ d os stops (xs := List.replicate n' 0) (by rw [List.length_replicate]; exact HLS.out.symm)
    rw [HLS.out] at this
    exact this
  go_wp2_with fail
  clear HB1 HD1 hmk hg HW1
  go_loopw [11] (fun iv wr => ∃ (j : Nat) (jj : Int) (xs : List Int), j ≤ n' ∧ jj + 1 = (j : Int) ∧ iv = .int .i64 jj ∧ Hid (LS w d g n' xs wr) ∧ Hid (LatTo ⟨mn, ml⟩ d os stops j xs)) (fun iv _ => (intOf iv + 1).toNat)
  case atStart => exact ⟨n', (n' : Int) - 1, _, Nat.le_refl _, by omega, by go_num, S2, L2⟩
  case round =>
    clear S2 L2
    obtain ⟨j, jj, xs, hj, hjj, rfl, HS, HL⟩ := hrel
    rcases Nat.eq_zero_or_pos j with rfl | hjp
    · have e1 : jj = -1 := by omega
      subst e1
      have HZ : Hid (LatestOk w (latestR (some ⟨mn, ml⟩) d os stops) (.returned (.tuple #[.slice (some ⟨g, 0, none⟩) n' n', .bool true])) wr) := by
        show LatestOk _ _ _ _
        rw [HC.out]
        have hl := HS.out.own.len
        rw [intsV_len] at hl
        refine ⟨HS.out.old, _, rfl, ?_⟩
        simp only [Option.getD_some]
        rw [← HL.out.end_, hl]
        exact HS.out.own.lower (Nat.le_succ _)
      clear HS HL HC
      go_wp2_with fail
      go_ret2
      exact HZ.out
    obtain ⟨k, rfl⟩ : ∃ k, j = k + 1 := ⟨j - 1, by omega⟩
    have e1 : jj = (k : Int) := by omega
    subst e1
    have hlt : k < n' := by omega
    clear hj hjj hjp
    obtain ⟨b, off, s, hA, hbw, hs, hdr, k0, k1⟩ := Stps.at_ (Recs.keep HST.out HS.out.old) hlt
    subst hA
    obtain ⟨o, i, hfo, hfi, hoi⟩ := HFIN.out k s hs
    have HSK := Lib.hid hs
    obtain ⟨si, hsi⟩ : ∃ si, siteOf o s = si := ⟨_, rfl⟩
    have HSI := Lib.hid hsi
    have HFO := Lib.hid hfo
    have HSA : Hid (siteAt os s = si) := by show _ = _; rw [siteAt_of hfo, hsi]
    have HSIB : Hid (0 ≤ si.serv ∧ si.serv ≤ 1000000) := by
      have := HOK.out o (List.mem_of_getElem? hoi)
      show _ ∧ _
      rw [← hsi]
      unfold siteOf
      split
      · exact this.dropS
      · exact this.pickS
    clear hs hdr hfo hfi hoi hsi k0 k1
    have hki : (k : Int) < (n' : Int) := by omega
    have hk0 : (0 : Int) ≤ (k : Int) := by omega
    go_upto_region 7 with fail
    go_cut [12, 13] (fun pv uv wx => ∃ gs, pv = .pointer (some ⟨gs, 0, none⟩) ∧ uv = .int .i64 d.win.to ∧ Hid (SB wr gs si wx))
    case first =>
      refine wp_region_steps (boxRF [32, 33, 34, 35, 36, 37, 38, 39, 40, 12, 12, 13] [.slice A n c, .slice (some ⟨b, off, none⟩) n' c', .int .i64 ((k : Nat) : Int), .pointer (some ⟨b, off + k * 2, none⟩), stpV s, siteV si, .pointer (some ⟨w.heap.size, 3, none⟩), .pointer (some ⟨w.heap.size, 4, none⟩), .int .i64 d.win.to, undef, undef, .int .i64 d.win.to] 9 10 29 [.int .i64 0, .int .i64 0, .int .i64 0, .int .i64 0] [.int .i64 si.place, .int .i64 si.win.fr, .int .i64 si.win.to, .int .i64 si.serv]) (by kernel_rfl) (by kernel_rfl) (by kernel_rfl) (fun q hq => ?_) (by kernel_rfl) boxRF.mon ?_ ?_
      · simp only [List.length_cons, List.length_nil] at hq
        simp only [boxRF]
        rw [if_neg (by omega)]
      · refine ⟨?_, ?_, ?_, ?_, ?_, ?_, ?_, ?_, ?_, ?_, ?_, ?_, trivial⟩
        · exact boxRF.pureStep rfl 32 rfl rfl (by simp) (by decide) (by decide) _ rfl fun listed a u D hI hr hn => exec_move (.inl rfl) (hI.out 2 (by kernel_rfl))
        · exact boxRF.pureStep rfl 33 rfl rfl (by simp) (by decide) (by decide) _ rfl fun listed a u D hI hr hn => exec_move (.inl rfl) (hI.out 3 (by kernel_rfl))
        · exact boxRF.pureStep rfl 34 rfl rfl (by simp) (by decide) (by decide) _ rfl fun listed a u D hI hr hn => exec_move (.inl rfl) (hI.out 11 (by kernel_rfl))
        · exact boxRF.pureStep rfl 35 rfl rfl (by simp) (by decide) (by decide) _ rfl fun listed a u D hI hr hn => exec_index_stp rfl (boxRF.val hI hr hn 1 (by kernel_rfl) (by decide) (by decide) rfl rfl) (boxRF.val hI hr hn 2 (by kernel_rfl) (by decide) (by decide) rfl rfl) (by omega) hnm'
        · exact boxRF.pureStep rfl 36 rfl rfl (by simp) (by decide) (by decide) _ rfl fun listed a u D hI hr hn => exec_load rfl (boxRF.val hI hr hn 3 (by kernel_rfl) (by decide) (by decide) rfl rfl) (run_load_stp (stp_on (Recs.keep HST.out (HS.out.below (below_drew hI.old)).old) HSK.out))
        · exact boxRF.callStep rfl 37 rfl rfl (by simp) (by decide) (by decide) _ rfl fun listed a u D hI hr hn => ⟨_, _, exec_call2 rfl (boxRF.val hI hr hn 0 (by kernel_rfl) (by decide) (by decide) rfl rfl) (boxRF.val hI hr hn 4 (by kernel_rfl) (by decide) (by decide) rfl rfl) (by simp [go_sem]), gsite_on HOS.out HFO.out HSI.out (HS.out.below (below_drew hI.old)).old⟩
        · exact boxRF.pureStep rfl 38 rfl rfl (by simp) (by decide) (by decide) _ rfl fun listed a u D hI hr hn => exec_dwin rfl (hI.out 5 (by kernel_rfl))
        · exact boxRF.pureStep rfl 39 rfl rfl (by simp) (by decide) (by decide) _ rfl fun listed a u D hI hr hn => exec_wto rfl (boxRF.val hI hr hn 6 (by kernel_rfl) (by decide) (by decide) rfl rfl)
        · exact boxRF.pureStep rfl 40 rfl rfl (by simp) (by decide) (by decide) _ rfl fun listed a u D hI hr hn => exec_load rfl (boxRF.val hI hr hn 7 (by kernel_rfl) (by decide) (by decide) rfl rfl) (run_load_i (HS.out.below (below_drew hI.old)).drv.cells.2.2.2.2.1)
        · exact boxRF.allocStep rfl 12 rfl rfl (by simp) fun a u => exec_asite rfl
        · exact boxRF.storeStep rfl rfl rfl rfl (by decide) (by kernel_rfl) fun listed a u D hI hr hn g e1 hb => ⟨_, exec_store rfl e1 (boxRF.val hI hr hn 5 (by kernel_rfl) (by decide) (by decide) rfl rfl) (run_store_site (x := ⟨0, ⟨0, 0⟩, 0⟩) hb), ((((Only.refl _ _).set _ _).set _ _).set _ _).set _ _, putS_box (x := ⟨0, ⟨0, 0⟩, 0⟩) hb si⟩
        · exact boxRF.pureStep rfl 13 rfl rfl (by simp) (by decide) (by decide) _ rfl fun listed a u D hI hr hn => exec_move (.inr rfl) (boxRF.val hI hr hn 8 (by kernel_rfl) (by decide) (by decide) rfl rfl)
      · intro listed a u D hI hall
        obtain ⟨gt, e20, hb20⟩ := boxRF.box hI hall (by decide) (by decide) (s := 12) rfl
        have e13 : a.tmps.getD 13 undef = .int .i64 d.win.to := by
          have := hI.fact 11 ⟨hall 11 (by simp), fun k hk => by simp [boxRF] at hk⟩
          simp only [boxRF] at this
          rw [if_neg (by decide), if_neg (by decide)] at this
          exact this.1
        have hold := below_drew hI.old
        have hl := hI.fill [32, 33, 34, 35, 36, 37, 38, 39, 40, 12, 13] (by kernel_rfl)
        clear hI hall
        obtain ⟨σ, hσ⟩ : ∃ σ : Nat → Value, ∀ t, a.tmps.getD t undef = σ t := ⟨_, fun _ => rfl⟩
        simp only [hσ] at hl e20 e13
        clear hσ
        simp only [List.foldl_cons, List.foldl_nil, List.setIfInBounds_toArray, List.set_cons_zero, List.set_cons_succ, e20, e13] at hl
        subst hl
        go_wp2_with fail
        go_meet
        exact ⟨gt, rfl, rfl, hold, hb20⟩
    case rest =>
    obtain ⟨gs, rfl, rfl, HB⟩ := hcut
    obtain ⟨w5, rfl⟩ : ∃ u, u = wc := ⟨_, rfl⟩
    have HS5 := Lib.hid (HS.out.below HB.out.on)
    have HX5 := Lib.hid HB.out.box
    clear HB HS
    have HUL : Hid (k + 1 = n' → untilOf ⟨mn, ml⟩ d.win.to si ((stops.map (siteAt os)).drop (k + 1)) (latest ⟨mn, ml⟩ d.win.to ((stops.map (siteAt os)).drop (k + 1))) = d.win.to) := fun h => until_last (by rw [List.length_map]; have := HLS.out; omega)
    have hkw : IntKind.i64.wrap ((k : Int) + 1) = (k : Int) + 1 := IntWalk.i64_in _ (by omega)
    go_upto_if 45 with fail
    go_cut [13] (fun uv wx => ∃ til : Int, uv = .int .i64 til ∧ Hid (-1000000 ≤ til ∧ til ≤ 1000000) ∧ Hid (untilOf ⟨mn, ml⟩ d.win.to si ((stops.map (siteAt os)).drop (k + 1)) (latest ⟨mn, ml⟩ d.win.to ((stops.map (siteAt os)).drop (k + 1))) = til) ∧ Hid (LS w d g n' xs wx) ∧ Hid (SBox wx gs si))
    case first =>
      by_cases hlast : k + 1 = n'
      · have hl1 : ¬ (k : Int) + 1 < (n' : Int) := by omega
        have HUE := Lib.hid (HUL.out hlast)
        have HTL : Hid (-1000000 ≤ d.win.to ∧ d.win.to ≤ 1000000) := by have := HDW.out; exact ⟨by omega, by omega⟩
        clear hlast HUL
        go_wp2_with fail
        go_meet
        exact ⟨_, rfl, HTL, HUE, HS5, HX5⟩
      · obtain ⟨k1, hk1⟩ : ∃ x, k + 1 = x := ⟨_, rfl⟩
        have hl1 : (k : Int) + 1 = (k1 : Int) := by omega
        have hl2 : IntKind.i64.wrap (k1 : Int) = (k1 : Int) := IntWalk.i64_in _ (by omega)
        have hl3 : (k1 : Int) < (n' : Int) := by omega
        have hl4 : (0 : Int) ≤ (k1 : Int) := by omega
        have hlt1 : k1 < n' := by omega
        have HK1 := Lib.hid hk1
        obtain ⟨_, _, s2, e2, _, hs2, _, _, _⟩ := Stps.at_ (Recs.keep HST.out HS5.out.old) hlt1
        obtain ⟨o2, i2, hfo2, hfi2, hoi2⟩ := HFIN.out k1 s2 hs2
        have HSK2 := Lib.hid hs2
        obtain ⟨si2, hsi2⟩ : ∃ si, siteOf o2 s2 = si := ⟨_, rfl⟩
        have HSI2 := Lib.hid hsi2
        have HFO2 := Lib.hid hfo2
        have HSA2 : Hid (siteAt os s2 = si2) := by show _ = _; rw [siteAt_of hfo2, hsi2]
        obtain ⟨tt, htt⟩ : ∃ t, time ⟨mn, ml⟩ si.place si2.place = t := ⟨_, rfl⟩
        have HTT := Lib.hid htt
        have htb := HTB.out si.place si2.place
        rw [htt] at htb
        have HTB2 := Lib.hid htb
        clear hs2 e2 hfo2 hfi2 hoi2 hsi2 hk1 hlast HUL hkw htt htb
        go_upto_region 9 with fail
        go_cut [14] (fun tv wx => tv = .int .i64 tt ∧ Hid (Below w5.heap.size w5 wx))
        case first =>
          refine wp_region_steps (valRF [47, 48, 49, 50, 51, 52, 53, 54, 55, 56, 57, 58, 46, 59, 60, 14, 15] [.pointer (some ⟨bm, 0, none⟩), .pointer (some ⟨gs, 0, none⟩), .int .i64 si.place, .slice A n c, .slice (some ⟨b, off, none⟩) n' c', .int .i64 ((k : Nat) : Int), .int .i64 ((k1 : Nat) : Int), .pointer (some ⟨b, off + k1 * 2, none⟩), stpV s2, siteV si2, .int .i64 si2.place, .tuple #[.int .i64 tt, .bool (placeB mn si.place && placeB mn si2.place)], .tuple #[.int .i64 tt, .bool (placeB mn si.place && placeB mn si2.place)], .int .i64 tt, .bool (placeB mn si.place && placeB mn si2.place), .int .i64 tt, .bool (placeB mn si.place && placeB mn si2.place)]) (by kernel_rfl) (by kernel_rfl) (by kernel_rfl) (fun _ _ => rfl) (by kernel_rfl) valRF.mon ?_ ?_
          · refine ⟨?_, ?_, ?_, ?_, ?_, ?_, ?_, ?_, ?_, ?_, ?_, ?_, ?_, ?_, ?_, ?_, ?_, trivial⟩
            · exact valRF.pureStep rfl 47 rfl rfl (by simp) _ rfl fun listed a u D hI hr hn => exec_move (.inl rfl) (hI.out 0 (by kernel_rfl))
            · exact valRF.pureStep rfl 48 rfl rfl (by simp) _ rfl fun listed a u D hI hr hn => exec_splace rfl (hI.out 12 (by kernel_rfl))
            · exact valRF.pureStep rfl 49 rfl rfl (by simp) _ rfl fun listed a u D hI hr hn => exec_load rfl (valRF.val hI hr hn 1 (by kernel_rfl) rfl rfl) (run_load_i (HX5.out.below (below_drew hI.old)).cells.1)
            · exact valRF.pureStep rfl 50 rfl rfl (by simp) _ rfl fun listed a u D hI hr hn => exec_move (.inl rfl) (hI.out 2 (by kernel_rfl))
            · exact valRF.pureStep rfl 51 rfl rfl (by simp) _ rfl fun listed a u D hI hr hn => exec_move (.inl rfl) (hI.out 3 (by kernel_rfl))
            · exact valRF.pureStep rfl 52 rfl rfl (by simp) _ rfl fun listed a u D hI hr hn => exec_move (.inl rfl) (hI.out 11 (by kernel_rfl))
            · exact valRF.pureStep rfl 53 rfl rfl (by simp) _ rfl fun listed a u D hI hr hn => exec_add1 rfl (valRF.val hI hr hn 5 (by kernel_rfl) rfl rfl) HK1.out (by omega)
            · exact valRF.pureStep rfl 54 rfl rfl (by simp) _ rfl fun listed a u D hI hr hn => exec_index_stp rfl (valRF.val hI hr hn 4 (by kernel_rfl) rfl rfl) (valRF.val hI hr hn 6 (by kernel_rfl) rfl rfl) (by omega) hnm'
            · exact valRF.pureStep rfl 55 rfl rfl (by simp) _ rfl fun listed a u D hI hr hn => exec_load rfl (valRF.val hI hr hn 7 (by kernel_rfl) rfl rfl) (run_load_stp (stp_on (Recs.keep HST.out (HS5.out.below (below_drew hI.old)).old) HSK2.out))
            · exact valRF.callStep rfl 56 rfl rfl (by simp) _ rfl fun listed a u D hI hr hn => ⟨_, _, exec_call2 rfl (valRF.val hI hr hn 3 (by kernel_rfl) rfl rfl) (valRF.val hI hr hn 8 (by kernel_rfl) rfl rfl) (by simp [go_sem]), gsite_on HOS.out HFO2.out HSI2.out (HS5.out.below (below_drew hI.old)).old⟩
            · exact valRF.pureStep rfl 57 rfl rfl (by simp) _ rfl fun listed a u D hI hr hn => exec_fplace rfl (valRF.val hI hr hn 9 (by kernel_rfl) rfl rfl)
            · exact valRF.callStep rfl 58 rfl rfl (by simp) _ rfl fun listed a u D hI hr hn => ⟨_, _, exec_call3 rfl (valRF.val hI hr hn 0 (by kernel_rfl) rfl rfl) (valRF.val hI hr hn 2 (by kernel_rfl) rfl rfl) (valRF.val hI hr hn 10 (by kernel_rfl) rfl rfl) (by simp [go_sem]), gtime_on base bm mn ml si.place si2.place tt u (map_at (HM.out.keep (HS5.out.below (below_drew hI.old)).old)).1 (map_at HM.out).2.1 HTT.out⟩
            · exact valRF.pureStep rfl 46 rfl rfl (by simp) _ rfl fun listed a u D hI hr hn => exec_move (.inl rfl) (valRF.val hI hr hn 11 (by kernel_rfl) rfl rfl)
            · exact valRF.pureStep rfl 59 rfl rfl (by simp) _ rfl fun listed a u D hI hr hn => exec_extract rfl (valRF.val hI hr hn 12 (by kernel_rfl) rfl rfl) rfl
            · exact valRF.pureStep rfl 60 rfl rfl (by simp) _ rfl fun listed a u D hI hr hn => exec_extract rfl (valRF.val hI hr hn 12 (by kernel_rfl) rfl rfl) rfl
            · exact valRF.pureStep rfl 14 rfl rfl (by simp) _ rfl fun listed a u D hI hr hn => exec_move (.inr rfl) (valRF.val hI hr hn 13 (by kernel_rfl) rfl rfl)
            · exact valRF.pureStep rfl 15 rfl rfl (by simp) _ rfl fun listed a u D hI hr hn => exec_move (.inr rfl) (valRF.val hI hr hn 14 (by kernel_rfl) rfl rfl)
          · intro listed a u D hI hall
            have e14 : a.tmps.getD 14 undef = .int .i64 tt := (hI.fact 15 ⟨hall 15 (by simp), fun k hk => by cases hk⟩).1
            have hold := below_drew hI.old
            have hl := hI.fill [47, 48, 49, 50, 51, 52, 53, 54, 55, 56, 57, 58, 46, 59, 60, 14, 15] (by kernel_rfl)
            clear hI hall
            obtain ⟨σ, hσ⟩ : ∃ σ : Nat → Value, ∀ t, a.tmps.getD t undef = σ t := ⟨_, fun _ => rfl⟩
            simp only [hσ] at hl e14
            clear hσ
            simp only [List.foldl_cons, List.foldl_nil, List.setIfInBounds_toArray, List.set_cons_zero, List.set_cons_succ, e14] at hl
            subst hl
            go_wp2_with fail
            go_meet
            exact ⟨rfl, hold⟩
        case rest =>
        obtain ⟨rfl, HB6⟩ := hcut
        obtain ⟨w7, rfl⟩ : ∃ u, u = wc := ⟨_, rfl⟩
        have HS7 := Lib.hid (HS5.out.below HB6.out)
        have HX7 := Lib.hid (HX5.out.below HB6.out)
        clear HB6 HS5 HX5
        obtain ⟨v1, hv1, q1, q2, _⟩ := HS7.out.at_ hlt1
        have hv1b := latest_bound (m := ⟨mn, ml⟩) (til := d.win.to) (l := (stops.map (siteAt os)).drop (k + 1)) (fun x hx => HSO.out x (List.mem_of_mem_drop hx)) v1 (List.mem_of_getElem? (HL.out.at_ (by rw [HK1.out]; exact hv1)))
        have HUN : Hid (untilOf ⟨mn, ml⟩ d.win.to si ((stops.map (siteAt os)).drop (k + 1)) (latest ⟨mn, ml⟩ d.win.to ((stops.map (siteAt os)).drop (k + 1))) = if v1 - tt < d.win.to then v1 - tt else d.win.to) := by
          show _ = _
          rw [← HTT.out]
          refine until_next (s' := si2) ?_ (HL.out.at_ (by rw [HK1.out]; exact hv1))
          rw [HK1.out, List.getElem?_map, HSK2.out]
          show some _ = some _
          rw [HSA2.out]
        obtain ⟨hv10, hv11⟩ := hv1b
        obtain ⟨tb1, tb2⟩ := HTB2.out
        clear hv1
        have hsw : IntKind.i64.wrap (v1 - tt) = v1 - tt := IntWalk.i64_in _ (by omega)
        obtain ⟨til, htil⟩ : ∃ x, min d.win.to (v1 - tt) = x := ⟨_, rfl⟩
        have HTIL : Hid (til = if v1 - tt < d.win.to then v1 - tt else d.win.to) := by
          show _ = _
          rw [← htil]
          split <;> omega
        have HTL : Hid (-1000000 ≤ til ∧ til ≤ 1000000) := by
          have := HDW.out
          rw [HTIL.out]
          split <;> exact ⟨by omega, by omega⟩
        go_wp2_with fail
        go_meet
        exact ⟨til, rfl, HTL, by show _ = _; rw [HUN.out, HTIL.out], HS7, HX7⟩
    case rest =>
    obtain ⟨til, rfl, HTL, HUE, HS8, HX8⟩ := hcut
    obtain ⟨w8, rfl⟩ : ∃ u, u = wc := ⟨_, rfl⟩
    clear HS5 HX5 HUL
    obtain ⟨x0, x1, x2, x3⟩ := HX8.out.cells
    obtain ⟨v, rb, hvv, hcall⟩ := glast_on si.win si.serv til w8 HSIB.out HTL.out
    have HCALL := Lib.hid hcall
    have HVV := Lib.hid hvv
    clear hcall hvv
    go_wp2_with fail
    refine HCALL.out.mono ?_
    rintro e w9 ⟨rfl, hb⟩
    have HS9 := Lib.hid (HS8.out.below hb)
    clear hb HS8 HX8 x0 x1 x2 x3 HCALL
    obtain ⟨v1, hv1, q1, q2, hset⟩ := HS9.out.at_ hlt
    have HSET := Lib.hid hset
    have HLN : Hid (LatTo ⟨mn, ml⟩ d os stops k (xs.set k v)) := HL.out.set (til := til) HSK.out (by rw [HSA.out]; exact HUE.out) (by rw [HSA.out]; exact HVV.out)
    clear hset hv1
    go_wp2_with fail
    go_roundw
    case rel => exact ⟨k, (k : Int) - 1, xs.set k v, by omega, by omega, by go_num, HSET.out v, HLN⟩
    case measure => simp [intOf] <;> omega

#print axioms glatest_any
end Go.Proofs.Ytobcmlcmbnldlaa.Slack
