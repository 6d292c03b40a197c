import Derived.Test.YtilggpkmdmelmaaGreatRepairMaths
import Derived.Test.YtilggpkmdmelmaaGreatRepairAs
import Derived.Test.YtilggpkmdmelmaaGreatPlanRights
import Derived.Test.YtilggpkmdmelmaaGreatCertRs
import Derived.Test.YtilggpkmdmelmaaGreatInsertRs
import Derived.Test.YtilggpkmdmelmaaGreatRouteRDrives
import Derived.Test.YtilggpkmdmelmaaGreatCertOneW
namespace Go.Proofs.YtilggpkmdmelmaaGreat.RepairW
open Go.ChangeShapes Go.WideShapes Go.ChangeAt Go.RowKit Go.Proofs.YtilggpkmdmelmaaGreat.Mem Go.Proofs.YtilggpkmdmelmaaGreat.GeoMath Go.Proofs.YtilggpkmdmelmaaGreat.FleetMath Go.Proofs.YtilggpkmdmelmaaGreat.PlanMath Go.Proofs.YtilggpkmdmelmaaGreat.CertMath Go.Proofs.YtilggpkmdmelmaaGreat.AuditMath Go.Proofs.YtilggpkmdmelmaaGreat.InsertMath Go.Proofs.YtilggpkmdmelmaaGreat.RepairMath Go.Proofs.YtilggpkmdmelmaaGreat.Rec Go.Proofs.YtilggpkmdmelmaaGreat.Geo Go.Proofs.YtilggpkmdmelmaaGreat.Span Go.Proofs.YtilggpkmdmelmaaGreat.Deal Go.Proofs.YtilggpkmdmelmaaGreat.Route Go.Proofs.YtilggpkmdmelmaaGreat.Plan Go.Proofs.YtilggpkmdmelmaaGreat.Cert Go.Proofs.YtilggpkmdmelmaaGreat.Insert
set_option linter.unusedVariables false
set_option linter.unusedSimpArgs false
theorem rtotal_told {m : Option Mp} {ds : List Drv} {os : List FleetMath.Ord} {p : List Rte} {cs : List (List Vis)} {fk : Nat} {fe : Int} (h : makeC m ds os p = (cs, fk, fe)) :
    (fe = 0 ∧ optV (totalM m ds os p) = .tuple #[.int .i64 (totalS m ds os p), .bool true]) ∨ (fe ≠ 0 ∧ optV (totalM m ds os p) = .tuple #[.int .i64 0, .bool false]) := by
  unfold totalM
  rw [h]
  by_cases he : fe = 0
  · exact .inl ⟨he, by rw [if_pos he]; rfl⟩
  · exact .inr ⟨he, by rw [if_neg he]; rfl⟩
set_option maxRecDepth 100000 in
set_option maxHeartbeats 16000000 in
theorem rtotal_any (base : Nat) (pv : Value) (m : Option Mp) (A : Option Addr) (n c : Nat) (ds : List Drv) (A2 : Option Addr) (n2 c2 : Nat) (os : List FleetMath.Ord) (A3 : Option Addr) (n3 c3 : Nat) (l : List RM) (w : World)
    (h : MapP w 110 base pv m) (hd : Drvs w w.heap.size A n ds) (ho : Ords w w.heap.size A2 n2 os) (hl : Plns w w.heap.size A3 n3 l) :
    Calls Tryz.prog 15 #[pv, .slice A n c, .slice A2 n2 c2, .slice A3 n3 c3] w (Gives w (optV (totalM m ds os (l.map (·.rt))))) := by
  have hm := Recs.le hl.rows
  have hmd := Recs.le hd
  have HD := Lib.hid hd
  have HO := Lib.hid ho
  have HP := Lib.hid hl
  have HL := Lib.hid hl.length
  have HLD := Lib.hid hd.length
  have HM := Lib.hid h
  obtain ⟨⟨mc, mk, me⟩, hMK⟩ : ∃ M, makeC m ds os (l.map (·.rt)) = M := ⟨_, rfl⟩
  have HMK := Lib.hid hMK
  obtain ⟨q, hq⟩ : ∃ q, pv = .pointer q := by
    rcases h with ⟨rfl, _⟩ | ⟨_, _, _, rfl, _⟩
    · exact ⟨_, rfl⟩
    · exact ⟨_, rfl⟩
  subst hq
  have htold := rtotal_told hMK
  clear h hd ho hl hMK
  rcases htold with ⟨hme, htv⟩ | ⟨hme, htv⟩
  case inr =>
    rw [htv]
    have e1 : (me != 0) = true := by simpa using hme
    clear htv hme
    go_enter Tryz.func15, Tryz.ntmps15
    go_wp2_with fail
    refine (rmake_any base (.pointer q) m A n c ds A2 n2 c2 os A3 n3 c3 l _ (by exact HM.out) (by exact HD.out) (by exact HO.out) (by exact HP.out)).mono ?_
    rintro e z1 ⟨v1, l1, rfl, hmade⟩
    rw [HMK.out]
    have HB1 : Hid (Below w.heap.size w (z1.alloc (.cells #[.int .i64 (mk : Int), .int .i64 me] 63))) := hmade.new.old.trans (((Below.refl _ _).alloc (Nat.le_refl _) _).mono hmade.new.old.size)
    have F1 : Hid (Blk (z1.alloc (.cells #[.int .i64 (mk : Int), .int .i64 me] 63)) z1.heap.size 63 [.int .i64 (mk : Int), .int .i64 me]) := Blk.new z1 _ _
    clear hmade
    go_upto_region 2 with fail
    obtain ⟨g1, hg1⟩ : ∃ g, z1.heap.size = g := ⟨_, rfl⟩
    obtain ⟨X, hX⟩ : ∃ u, (z1.alloc (.cells #[.int .i64 (mk : Int), .int .i64 me] 63)) = u := ⟨_, rfl⟩
    rw [hg1, hX] at F1
    rw [hX] at HB1
    rw [hg1, hX]
    clear hg1 hX
    have k0 := Blk.cell (i := 0) F1.out rfl
    have k1 := Blk.cell (i := 1) F1.out rfl
    go_wp2_with fail
    refine bodyPost_ret (v := .tuple #[.int .i64 0, .bool false]) ?_ rfl ⟨rfl, HB1.out⟩
    simp [results, Tryz.results15, go_sem]
  obtain ⟨Z, hZ⟩ : ∃ z, totalS m ds os (l.map (·.rt)) = z := ⟨_, rfl⟩
  rw [hZ] at htv
  rw [htv]
  have HZ := Lib.hid hZ
  subst hme
  have hgood := make_zero.1 (show (makeC m ds os (l.map (·.rt))).2.2 = 0 by rw [HMK.out])
  obtain ⟨m', _, _, _, hrp, _, _⟩ := wellC_parts hgood.1
  have HG := Lib.hid hgood.2
  have HRP := Lib.hid hrp
  obtain ⟨G, hGq⟩ : ∃ g, uptoS m ds os (l.map (·.rt)) = g := ⟨_, rfl⟩
  have HGQ := Lib.hid hGq
  have HG0 : Hid (G 0 = 0) := by show _ = _; rw [← hGq]; exact upto_zero
  have HGE : Hid (G n3 = Z) := by show _ = _; rw [← hGq, ← HZ.out]; exact upto_all (by rw [List.length_map, HL.out]; exact Nat.le_refl _)
  have HGB : Hid (∀ k, 0 ≤ G k ∧ G k ≤ 800000000) := by show ∀ k, _; intro k; rw [← hGq]; exact upto_bound (near HM.out) HRP.out k
  clear hZ htv hgood hrp hGq
  go_enter Tryz.func15, Tryz.ntmps15
  go_wp2_with fail
  refine (rmake_any base (.pointer q) m A n c ds A2 n2 c2 os A3 n3 c3 l _ (by exact HM.out) (by exact HD.out) (by exact HO.out) (by exact HP.out)).mono ?_
  rintro e z1 ⟨v1, l1, rfl, hmade⟩
  rw [HMK.out]
  have HB1 : Hid (Below w.heap.size w (z1.alloc (.cells #[.int .i64 (mk : Int), .int .i64 0] 63))) := hmade.new.old.trans (((Below.refl _ _).alloc (Nat.le_refl _) _).mono hmade.new.old.size)
  have F1 : Hid (Blk (z1.alloc (.cells #[.int .i64 (mk : Int), .int .i64 0] 63)) z1.heap.size 63 [.int .i64 (mk : Int), .int .i64 0]) := Blk.new z1 _ _
  clear hmade
  go_upto_region 2 with fail
  obtain ⟨g1, hg1⟩ : ∃ g, z1.heap.size = g := ⟨_, rfl⟩
  obtain ⟨X, hX⟩ : ∃ u, (z1.alloc (.cells #[.int .i64 (mk : Int), .int .i64 0] 63)) = u := ⟨_, rfl⟩
  rw [hg1, hX] at F1
  rw [hX] at HB1
  rw [hg1, hX]
  clear hg1 hX
  have k0 := Blk.cell (i := 0) F1.out rfl
  have k1 := Blk.cell (i := 1) F1.out rfl
  go_wp2_with fail
  clear k0 k1
  go_loopw [12, 13] (fun sv iv wr => ∃ k : Nat, k ≤ n3 ∧ sv = .int .i64 (G k) ∧ iv = .int .i64 (k : Int) ∧ Hid (Below X.heap.size X wr)) (fun _ iv _ => n3 - (intOf iv).toNat)
  case atStart => exact ⟨0, Nat.zero_le _, by rw [HG0.out], rfl, Below.refl _ _⟩
  case round =>
    obtain ⟨k, hk, rfl, rfl, HB⟩ := hrel
    have HBW : Hid (Below w.heap.size w wr) := HB1.out.trans (HB.out.mono HB1.out.size)
    by_cases hlt : k < n3
    case neg =>
      have hke : k = n3 := by omega
      subst hke
      have hGE := HGE.out
      rw [hGE]
      clear hGE
      go_wp2_with fail
      refine bodyPost_ret (v := .tuple #[.int .i64 Z, .bool true]) ?_ rfl ⟨rfl, HBW.out⟩
      simp [results, Tryz.results15, go_sem]
    have hkk : (k : Int) < (n3 : Int) := by omega
    obtain ⟨pb, off, x, hA3, _, hx, _, _, _, _, hst, hxc⟩ := (HP.out.keep HBW.out).at_ hlt
    subst hA3
    have HXX := Lib.hid hx
    have HST := Lib.hid (HP.out.each x (List.mem_of_getElem? hx)).1
    have HP1 : Hid ((l.map (·.rt))[k]? = some x.rt) := by show _ = _; rw [List.getElem?_map, hx]; rfl
    obtain ⟨i, d, HII, HDO, HPI, HCA⟩ : ∃ (i : Nat) (d : Drv), Hid (ds[i]? = some d) ∧ Hid (drvOf ds x.rt.drv = some d) ∧ Hid (pdIdx ds x.rt.drv 0 = (i : Int)) ∧ Hid (∃ ca, cost m d os x.rt.stops = some ca) := by
      obtain ⟨d, h1, h5⟩ := HG.out x.rt (List.mem_of_getElem? HP1.out)
      rcases pdIdx_of ds x.rt.drv with ⟨h2, _⟩ | ⟨i, d', h2, h3, h4⟩
      · rw [h1] at h2; cases h2
      · rw [h1] at h3
        injection h3 with h3
        subst h3
        exact ⟨i, d, h2, h1, h4, cost_some h5⟩
    obtain ⟨ca, hca⟩ := HCA.out
    have hin : i < n := by rw [← HLD.out]; exact (List.getElem?_eq_some_iff.1 HII.out).1
    obtain ⟨db, doff, d', hA, _, hd', _, _, _, _, _, _, _⟩ := Drvs.at_ (Recs.keep HD.out HBW.out) hin
    subst hA
    have HC : Hid (∀ u, Below wr.heap.size wr u → (u.cell? ⟨db, doff + i * 6, none⟩ = some (.int .i64 d.id) ∧ u.cell? ⟨db, doff + i * 6 + 1, none⟩ = some (.int .i64 d.room) ∧ u.cell? ⟨db, doff + i * 6 + 2, none⟩ = some (.int .i64 d.home) ∧ u.cell? ⟨db, doff + i * 6 + 3, none⟩ = some (.int .i64 d.win.fr) ∧ u.cell? ⟨db, doff + i * 6 + 4, none⟩ = some (.int .i64 d.win.to) ∧ u.cell? ⟨db, doff + i * 6 + 5, none⟩ = some (.bool d.retired)) ∧ (u.cell? ⟨pb, off + k * 3, none⟩ = some (.int .i64 x.rt.drv) ∧ u.cell? ⟨pb, off + k * 3 + 1, none⟩ = some (.int .i64 x.rt.served) ∧ u.cell? ⟨pb, off + k * 3 + 2, none⟩ = some (.slice x.a x.n x.c))) := fun u hu => by
      have hou := HBW.out.trans (hu.mono HBW.out.size)
      obtain ⟨_, _, d', e0, _, h1, _, c0, c1, c2, c3, c4, c5⟩ := Drvs.at_ (Recs.keep HD.out hou) hin
      injection e0 with e0
      injection e0 with e1 e2
      subst e1; subst e2
      rw [HII.out] at h1
      injection h1 with h1
      subst h1
      obtain ⟨_, _, _, e0, _, h1, _, k0, k1, k2, _⟩ := (HP.out.keep hou).at_ hlt
      injection e0 with e0
      injection e0 with e1 e2
      subst e1; subst e2
      rw [HXX.out] at h1
      injection h1 with h1
      subst h1
      exact ⟨⟨c0, c1, c2, c3, c4, c5⟩, ⟨k0, k1, k2⟩⟩
    have HK0 : Hid (∀ u, Below wr.heap.size wr u → Calls Tryz.prog 32 #[.slice (some ⟨db, doff, none⟩) n c, .int .i64 x.rt.drv] u fun en u' => en = .returned (.int .i64 ((i : Nat) : Int)) ∧ Below u.heap.size u u') := fun u hu => by
      have hou := HBW.out.trans (hu.mono HBW.out.size)
      refine (rdriver12_any _ n c ds x.rt.drv (i : Int) u w.heap.size (Recs.keep HD.out hou) HPI.out).mono ?_
      rintro e u' ⟨rfl, rfl⟩
      exact ⟨rfl, Below.refl _ _⟩
    have HK1 : Hid (∀ u, Below wr.heap.size wr u → Calls Tryz.prog 31 #[.pointer q, drvV d, .slice A2 n2 c2, .slice x.a x.n x.c] u fun en u' => en = .returned (.tuple #[.int .i64 ca, .bool true]) ∧ Below u.heap.size u u') := fun u hu => by
      have hou := HBW.out.trans (hu.mono HBW.out.size)
      have h1 := rcost_any base (.pointer q) m d A2 n2 c2 os x.a x.n x.c x.rt.stops u (HM.out.keep hou) (Recs.more (Recs.keep HO.out hou) hou.size) (Recs.more (Recs.keep HST.out hou) hou.size) hxc
      rw [hca] at h1
      exact h1
    have hsum : G k + ca = G (k + 1) := by
      rw [← HGQ.out, upto_next HP1.out, costR_some HDO.out]
      unfold oldC; rw [hca]; rfl
    have hbd : 0 ≤ ca ∧ ca ≤ 100000000 := by
      obtain ⟨_, _, _, _, h80, _⟩ := drive_fine (cost_drive hca)
      exact cost_in (near HM.out) (by omega) hca
    have hw : IntKind.i64.wrap (G k + ca) = G (k + 1) := by
      rw [IntWalk.i64_in _ (by have := HGB.out k; omega)]
      exact hsum
    have HW := Lib.hid hw
    clear hx hst hca hsum hbd hw hd'
    go_upto_region 8 with fail
    go_cut [14, 15] from 33 to 53 (fun av bv wx => av = .int .i64 ca ∧ bv = .bool true ∧ Hid (Below wr.heap.size wr wx))
    case first =>
      refine wp_region_steps (valRF [34, 35, 36, 37, 38, 39, 40, 41, 42, 43, 44, 45, 46, 47, 48, 49, 50, 51, 33, 52, 53, 14, 15] [.pointer q, .slice (some ⟨db, doff, none⟩) n c, .slice (some ⟨db, doff, none⟩) n c, .slice (some ⟨pb, off, none⟩) n3 c3, .int .i64 ((k : Nat) : Int), .pointer (some ⟨pb, off + k * 3, none⟩), .pointer (some ⟨pb, off + k * 3, none⟩), .int .i64 x.rt.drv, .int .i64 ((i : Nat) : Int), .pointer (some ⟨db, doff + i * 6, none⟩), drvV d, .slice A2 n2 c2, .slice (some ⟨pb, off, none⟩) n3 c3, .int .i64 ((k : Nat) : Int), .pointer (some ⟨pb, off + k * 3, none⟩), .pointer (some ⟨pb, off + k * 3 + 2, none⟩), .slice x.a x.n x.c, .tuple #[.int .i64 ca, .bool true], .tuple #[.int .i64 ca, .bool true], .int .i64 ca, .bool true, .int .i64 ca, .bool true]) (by kernel_rfl) (by kernel_rfl) (by kernel_rfl) (fun _ _ => rfl) (by kernel_rfl) valRF.mon ?_ ?_
      · refine ⟨?_, ?_, ?_, ?_, ?_, ?_, ?_, ?_, ?_, ?_, ?_, ?_, ?_, ?_, ?_, ?_, ?_, ?_, ?_, ?_, ?_, ?_, ?_, trivial⟩
        · exact valRF.pureStep rfl 34 rfl rfl (by simp) _ rfl fun listed a u D hI hr hn => exec_move (.inl rfl) (hI.out 0 (by kernel_rfl))
        · exact valRF.pureStep rfl 35 rfl rfl (by simp) _ rfl fun listed a u D hI hr hn => exec_move (.inl rfl) (hI.out 1 (by kernel_rfl))
        · exact valRF.pureStep rfl 36 rfl rfl (by simp) _ rfl fun listed a u D hI hr hn => exec_move (.inl rfl) (hI.out 1 (by kernel_rfl))
        · exact valRF.pureStep rfl 37 rfl rfl (by simp) _ rfl fun listed a u D hI hr hn => exec_move (.inl rfl) (hI.out 3 (by kernel_rfl))
        · exact valRF.pureStep rfl 38 rfl rfl (by simp) _ rfl fun listed a u D hI hr hn => exec_move (.inl rfl) (hI.out 13 (by kernel_rfl))
        · exact valRF.pureStep rfl 39 rfl rfl (by simp) _ rfl fun listed a u D hI hr hn => exec_index_rte rfl (valRF.val hI hr hn 3 (by kernel_rfl) rfl rfl) (valRF.val hI hr hn 4 (by kernel_rfl) rfl rfl) hlt hm
        · exact valRF.pureStep rfl 40 rfl rfl (by simp) _ rfl fun listed a u D hI hr hn => op_field rfl (valRF.val hI hr hn 5 (by kernel_rfl) rfl rfl) (by simp [go_sem])
        · exact valRF.pureStep rfl 41 rfl rfl (by simp) _ rfl fun listed a u D hI hr hn => exec_load rfl (valRF.val hI hr hn 6 (by kernel_rfl) rfl rfl) (run_load_pi (HC.out _ (OneR.below_drew hI.old)).2.1)
        · exact valRF.callStep rfl 42 rfl rfl (by simp) _ rfl fun listed a u D hI hr hn => ⟨_, _, op_call2 rfl (valRF.val hI hr hn 2 (by kernel_rfl) rfl rfl) (valRF.val hI hr hn 7 (by kernel_rfl) rfl rfl) (by simp [go_sem]), HK0.out _ (OneR.below_drew hI.old)⟩
        · exact valRF.pureStep rfl 43 rfl rfl (by simp) _ rfl fun listed a u D hI hr hn => exec_index_drv rfl (valRF.val hI hr hn 1 (by kernel_rfl) rfl rfl) (valRF.val hI hr hn 8 (by kernel_rfl) rfl rfl) hin hmd
        · exact valRF.pureStep rfl 44 rfl rfl (by simp) _ rfl fun listed a u D hI hr hn => exec_load rfl (valRF.val hI hr hn 9 (by kernel_rfl) rfl rfl) (run_load_dx (HC.out _ (OneR.below_drew hI.old)).1)
        · exact valRF.pureStep rfl 45 rfl rfl (by simp) _ rfl fun listed a u D hI hr hn => exec_move (.inl rfl) (hI.out 2 (by kernel_rfl))
        · exact valRF.pureStep rfl 46 rfl rfl (by simp) _ rfl fun listed a u D hI hr hn => exec_move (.inl rfl) (hI.out 3 (by kernel_rfl))
        · exact valRF.pureStep rfl 47 rfl rfl (by simp) _ rfl fun listed a u D hI hr hn => exec_move (.inl rfl) (hI.out 13 (by kernel_rfl))
        · exact valRF.pureStep rfl 48 rfl rfl (by simp) _ rfl fun listed a u D hI hr hn => exec_index_rte rfl (valRF.val hI hr hn 12 (by kernel_rfl) rfl rfl) (valRF.val hI hr hn 13 (by kernel_rfl) rfl rfl) hlt hm
        · exact valRF.pureStep rfl 49 rfl rfl (by simp) _ rfl fun listed a u D hI hr hn => op_field rfl (valRF.val hI hr hn 14 (by kernel_rfl) rfl rfl) (by simp [go_sem])
        · exact valRF.pureStep rfl 50 rfl rfl (by simp) _ rfl fun listed a u D hI hr hn => exec_load rfl (valRF.val hI hr hn 15 (by kernel_rfl) rfl rfl) (run_load_ps (HC.out _ (OneR.below_drew hI.old)).2.2.2)
        · exact valRF.callStep rfl 51 rfl rfl (by simp) _ rfl fun listed a u D hI hr hn => ⟨_, _, ins_call4 rfl (valRF.val hI hr hn 0 (by kernel_rfl) rfl rfl) (valRF.val hI hr hn 10 (by kernel_rfl) rfl rfl) (valRF.val hI hr hn 11 (by kernel_rfl) rfl rfl) (valRF.val hI hr hn 16 (by kernel_rfl) rfl rfl) (by simp [go_sem]), HK1.out _ (OneR.below_drew hI.old)⟩
        · exact valRF.pureStep rfl 33 rfl rfl (by simp) _ rfl fun listed a u D hI hr hn => exec_move (.inl rfl) (valRF.val hI hr hn 17 (by kernel_rfl) rfl rfl)
        · exact valRF.pureStep rfl 52 rfl rfl (by simp) _ rfl fun listed a u D hI hr hn => op_extract rfl (valRF.val hI hr hn 18 (by kernel_rfl) rfl rfl) rfl
        · exact valRF.pureStep rfl 53 rfl rfl (by simp) _ rfl fun listed a u D hI hr hn => op_extract rfl (valRF.val hI hr hn 18 (by kernel_rfl) rfl rfl) rfl
        · exact valRF.pureStep rfl 14 rfl rfl (by simp) _ rfl fun listed a u D hI hr hn => exec_move (.inr rfl) (valRF.val hI hr hn 19 (by kernel_rfl) rfl rfl)
        · exact valRF.pureStep rfl 15 rfl rfl (by simp) _ rfl fun listed a u D hI hr hn => exec_move (.inr rfl) (valRF.val hI hr hn 20 (by kernel_rfl) rfl rfl)
      · intro listed a u D hI hall
        have eR0 : a.tmps.getD 14 undef = .int .i64 ca := (hI.fact 21 ⟨hall 21 (by simp), fun k hk => by cases hk⟩).1
        have eR1 : a.tmps.getD 15 undef = .bool true := (hI.fact 22 ⟨hall 22 (by simp), fun k hk => by cases hk⟩).1
        have hold := OneR.below_drew hI.old
        have hl := hI.fill [34, 35, 36, 37, 38, 39, 40, 41, 42, 43, 44, 45, 46, 47, 48, 49, 50, 51, 33, 52, 53, 14, 15] (by kernel_rfl)
        clear hI hall
        obtain ⟨σ, hσ⟩ : ∃ σ : Nat → Value, ∀ t, a.tmps.getD t undef = σ t := ⟨_, fun _ => rfl⟩
        simp only [hσ] at hl eR0 eR1
        clear hσ
        simp only [List.foldl_cons, List.foldl_nil, List.setIfInBounds_toArray, List.set_cons_zero, List.set_cons_succ, eR0, eR1] at hl
        subst hl
        go_wp2_with fail
        go_meet
        exact ⟨rfl, rfl, hold⟩
    case rest =>
    obtain ⟨rfl, rfl, hb6⟩ := hcut
    obtain ⟨w6, rfl⟩ : ∃ u, u = wc := ⟨_, rfl⟩
    have HB6 := Lib.hid (HB.out.trans (hb6.out.mono HB.out.size))
    have hw := HW.out
    clear HC HK0 HK1 hb6 HB HBW
    go_wp2_with fail
    go_roundw
    case rel => exact ⟨k + 1, by omega, by first | rw [hw] | (simp only [hw]), by go_num, HB6⟩
    case measure => simp [intOf]; omega
end Go.Proofs.YtilggpkmdmelmaaGreat.RepairW
