/-
  CertRDrv, CertMk, CertRMake: one text.
-/
import Derived.Test.YtilggpkmdmelmaaGreatCertMaths
import Derived.Test.YtilggpkmdmelmaaGreatPlanRights
import Derived.Test.YtilggpkmdmelmaaGreatRouteRs
import Derived.Test.YtilggpkmdmelmaaGreatCertNews
import Derived.Test.YtilggpkmdmelmaaGreatRouteKeep
import Derived.Test.YtilggpkmdmelmaaGreatRouteRDrives
namespace Go.Proofs.YtilggpkmdmelmaaGreat.Cert
open Go.ChangeShapes Go.WideShapes Go.ChangeAt Go.RowKit Go.Proofs.YtilggpkmdmelmaaGreat.Mem Go.Proofs.YtilggpkmdmelmaaGreat.GeoMath Go.Proofs.YtilggpkmdmelmaaGreat.FleetMath Go.Proofs.YtilggpkmdmelmaaGreat.PlanMath Go.Proofs.YtilggpkmdmelmaaGreat.CertMath Go.Proofs.YtilggpkmdmelmaaGreat.Rec Go.Proofs.YtilggpkmdmelmaaGreat.Geo Go.Proofs.YtilggpkmdmelmaaGreat.Span Go.Proofs.YtilggpkmdmelmaaGreat.Deal Go.Proofs.YtilggpkmdmelmaaGreat.Route Go.Proofs.YtilggpkmdmelmaaGreat.Plan
set_option linter.unusedVariables false
set_option linter.unusedSimpArgs false
def noDrv : Drv := ⟨0, 0, 0, ⟨0, 0⟩, false⟩
def drvOV : Option Drv → Value
  | none => .tuple #[drvV noDrv, .bool false]
  | some d => .tuple #[drvV d, .bool true]
theorem drvOf_at {ds : List Drv} {id : Int} {k : Nat} {d : Drv} (h : ∀ j p, j < k → ds[j]? = some p → p.id ≠ id) (hd : ds[k]? = some d) (he : d.id = id) : drvOf ds id = some d := by
  unfold drvOf
  refine List.find?_eq_some_iff_getElem.2 ⟨by simpa using he, k, (List.getElem?_eq_some_iff.1 hd).1, (List.getElem?_eq_some_iff.1 hd).2, fun j hj => ?_⟩
  have hlt := (List.getElem?_eq_some_iff.1 hd).1
  have := h j _ hj (List.getElem?_eq_getElem (by omega))
  simpa using this
theorem drvOf_no {ds : List Drv} {id : Int} (h : ∀ j p, j < ds.length → ds[j]? = some p → p.id ≠ id) : drvOf ds id = none := by
  unfold drvOf
  refine List.find?_eq_none.2 fun d hd => ?_
  obtain ⟨j, hj⟩ := List.getElem?_of_mem hd
  have := h j d (List.getElem?_eq_some_iff.1 hj).1 hj
  simpa using this
def DB (w wr : World) : Prop := Below w.heap.size w wr ∧ Blk wr w.heap.size 33 [.int .i64 0, .int .i64 0, .int .i64 0, .int .i64 0, .int .i64 0, .bool false]
theorem DB.cells {w u : World} (h : DB w u) : u.cell? ⟨w.heap.size, 0, none⟩ = some (.int .i64 0) ∧ u.cell? ⟨w.heap.size, 1, none⟩ = some (.int .i64 0) ∧ u.cell? ⟨w.heap.size, 2, none⟩ = some (.int .i64 0) ∧ u.cell? ⟨w.heap.size, 3, none⟩ = some (.int .i64 0) ∧ u.cell? ⟨w.heap.size, 4, none⟩ = some (.int .i64 0) ∧ u.cell? ⟨w.heap.size, 5, none⟩ = some (.bool false) ∧
    u.frozen? ⟨w.heap.size, 0, none⟩ = false ∧ u.frozen? ⟨w.heap.size, 1, none⟩ = false ∧ u.frozen? ⟨w.heap.size, 2, none⟩ = false ∧ u.frozen? ⟨w.heap.size, 3, none⟩ = false ∧ u.frozen? ⟨w.heap.size, 4, none⟩ = false ∧ u.frozen? ⟨w.heap.size, 5, none⟩ = false :=
  ⟨h.2.cell rfl, h.2.cell rfl, h.2.cell rfl, h.2.cell rfl, h.2.cell rfl, h.2.cell rfl, h.2.free 0, h.2.free 1, h.2.free 2, h.2.free 3, h.2.free 4, h.2.free 5⟩
theorem ends_drv {w w' : World} {r o : Option Drv} (h : r = o) (hb : Below w.heap.size w w') : Ending.returned (drvOV o) = .returned (drvOV r) ∧ Below w.heap.size w w' := ⟨by rw [h], hb⟩
theorem rright_val (A : Option Addr) (n c : Nat) (l : List RM) (b : Bool) (w : World) (hl : Plns w w.heap.size A n l) (hb : rightP (l.map (·.rt)) = b) :
    Calls Tryz.prog 78 #[.slice A n c] w (Gives w (.bool b)) := by
  rw [← hb]
  exact (rright_any A n c l w hl).mono fun e w' h => h
set_option maxRecDepth 100000 in
set_option maxHeartbeats 1000000 in
theorem rdrv_any (A : Option Addr) (n c : Nat) (ds : List Drv) (id : Int) (r : Option Drv) (w : World) (hl : Drvs w w.heap.size A n ds) (hr : drvOf ds id = r) :
    Calls Tryz.prog 48 #[.slice A n c, .int .i64 id] w fun e w' => e = .returned (drvOV r) ∧ Below w.heap.size w w' := by
  have hm := Recs.le hl
  have HL := Lib.hid hl.length
  have HR := Lib.hid hr
  have HI0 := Lib.hid hl
  clear hl hr
  go_enter Tryz.func48, Tryz.ntmps48
  go_wp2
  go_loopw [6] (fun i wr => ∃ k : Nat, k ≤ n ∧ i = .int .i64 k ∧ Hid (DB w wr) ∧ Hid (∀ j p, j < k → ds[j]? = some p → p.id ≠ id)) (fun i _ => n - (intOf i).toNat)
  case atStart => exact ⟨0, Nat.zero_le _, rfl, Lib.hid ⟨(Below.refl _ _).alloc (Nat.le_refl _) _, Blk.new _ _ _⟩, fun j p hj => absurd hj (by omega)⟩
  case round =>
    obtain ⟨k, hk, rfl, HB, HK⟩ := hrel
    obtain ⟨m0, m1, m2, m3, m4, m5, f0, f1, f2, f3, f4, f5⟩ := HB.out.cells
    by_cases hlt : k < n
    · obtain ⟨b, off, d, rfl, _, hd, _, c0, c1, c2, c3, c4, c5⟩ := Drvs.at_ (Recs.keep HI0.out HB.out.1) hlt
      have HD := Lib.hid hd
      clear hd
      by_cases he : d.id = id
      · have HF : Hid (r = some d) := HR.out.symm.trans (drvOf_at HK.out HD.out he)
        have e1 : (d.id == id) = true := by simpa using he
        clear he HK
        go_wp2
        (try simp only [Exit.inBlock, Exit.then])
        refine bodyPost_ret (v := drvOV (some d)) ?_ rfl (ends_drv HF.out ?_)
        · rw [results_cell_tmp rfl]; go_simp; rfl
        · exact (((((HB.out.1.setCell (Nat.le_refl _) _).setCell (Nat.le_refl _) _).setCell (Nat.le_refl _) _).setCell (Nat.le_refl _) _).setCell (Nat.le_refl _) _).setCell (Nat.le_refl _) _
      · have HN : Hid (∀ j p, j < k + 1 → ds[j]? = some p → p.id ≠ id) := fun j p hj hp => by
          by_cases e : j = k
          · subst e
            have := HD.out
            rw [this] at hp
            injection hp with hp
            rw [← hp]
            exact he
          · exact HK.out j p (by omega) hp
        have e1 : (d.id == id) = false := by simpa using he
        clear he HK m0 m1 m2 m3 m4 m5 f0 f1 f2 f3 f4 f5
        go_wp2
        go_roundw
        case rel => exact ⟨k + 1, by omega, by go_num, HB, HN⟩
        case measure => simp [intOf]; omega
    · have HF : Hid (r = none) := HR.out.symm.trans (drvOf_no fun j p hj hp => HK.out j p (by have := HL.out; omega) hp)
      clear HK
      go_wp2
      (try simp only [Exit.inBlock, Exit.then])
      refine bodyPost_ret (v := drvOV none) ?_ rfl (ends_drv HF.out ?_)
      · rw [results_cell_tmp rfl]; go_simp; rfl
      · exact (((((HB.out.1.setCell (Nat.le_refl _) _).setCell (Nat.le_refl _) _).setCell (Nat.le_refl _) _).setCell (Nat.le_refl _) _).setCell (Nat.le_refl _) _).setCell (Nat.le_refl _) _
def DrvTo (m : Option Mp) (ds : List Drv) (k : Nat) : Prop := (∀ d ∈ ds.take k, drvE m d = 0) ∧ DistD (ds.take k)
theorem DrvTo.next {m : Option Mp} {ds : List Drv} {k : Nat} {d : Drv} (h : DrvTo m ds k) (ho : ds[k]? = some d) (h0 : drvE m d = 0) (hd : ∀ j p, j < k → ds[j]? = some p → p.id ≠ d.id) : DrvTo m ds (k + 1) := by
  unfold DrvTo
  rw [List.take_add_one, ho]
  refine ⟨fun x hx => ?_, ?_⟩
  · rcases List.mem_append.1 hx with hx | hx
    · exact h.1 x hx
    · simp at hx; rw [hx]; exact h0
  · refine List.pairwise_append.2 ⟨h.2, by simp, fun x hx y hy => ?_⟩
    simp at hy
    subst hy
    obtain ⟨j, hj⟩ := List.getElem?_of_mem hx
    rw [List.getElem?_take] at hj
    split at hj
    · rename_i hlt; exact hd j x hlt hj
    · cases hj
theorem DrvTo.all {m : Option Mp} {ds : List Drv} (h : DrvTo m ds ds.length) : (∀ d ∈ ds, drvE m d = 0) ∧ DistD ds := by
  unfold DrvTo at h
  rwa [List.take_length] at h
theorem well_wrong {m : Option Mp} {ds : List Drv} {os : List FleetMath.Ord} {p : List Rte} {k : Nat} {d : Drv} (hd : ds[k]? = some d) (h0 : drvE m d ≠ 0) : wellC m ds os p = false := by
  cases h : wellC m ds os p with
  | false => rfl
  | true => obtain ⟨_, _, _, _, _, h5, _⟩ := wellC_parts h; exact absurd (h5 d (List.mem_of_getElem? hd)) h0
theorem well_twice {m : Option Mp} {ds : List Drv} {os : List FleetMath.Ord} {p : List Rte} {j k : Nat} {d q : Drv} (hjk : j < k) (hq : ds[j]? = some q) (hd : ds[k]? = some d) (he : q.id = d.id) : wellC m ds os p = false := by
  cases h : wellC m ds os p with
  | false => rfl
  | true =>
    obtain ⟨_, _, _, _, _, _, h6⟩ := wellC_parts h
    have hlj := (List.getElem?_eq_some_iff.1 hq).1
    have hlk := (List.getElem?_eq_some_iff.1 hd).1
    have := List.pairwise_iff_getElem.1 h6 j k hlj hlk hjk
    rw [(List.getElem?_eq_some_iff.1 hq).2, (List.getElem?_eq_some_iff.1 hd).2] at this
    exact absurd he this
theorem well_head {m : Option Mp} {ds : List Drv} {os : List FleetMath.Ord} {p : List Rte} {a b c : Bool} {n : Nat} (hl : ds.length = n) (ha : m.isSome = a) (hb : known m os = b) (hc : rightP p = c) :
    (a = false ∨ 8 < n ∨ b = false ∨ c = false → wellC m ds os p = false) ∧ (a = true → n ≤ 8 → b = true → c = true → (∀ d ∈ ds, drvE m d = 0) ∧ DistD ds → wellC m ds os p = true) := by
  refine ⟨fun h => ?_, fun h1 h2 h3 h4 h5 => ?_⟩
  · cases hw : wellC m ds os p with
    | false => rfl
    | true =>
      obtain ⟨m', rfl, g2, g3, g4, _⟩ := wellC_parts hw
      rw [hb] at g3
      rw [hc] at g4
      subst g3 g4
      simp at ha
      subst ha
      rcases h with h | h | h | h
      · cases h
      · omega
      · cases h
      · cases h
  · subst h1 h3 h4
    simp only [wellC, ha, hb, hc, Bool.and_eq_true, decide_eq_true_eq]
    exact ⟨⟨⟨⟨⟨trivial, by omega⟩, trivial⟩, trivial⟩, h5.1⟩, h5.2⟩
set_option maxRecDepth 100000 in
set_option maxHeartbeats 4000000 in
theorem rwell_any (base : Nat) (pv : Value) (m : Option Mp) (A : Option Addr) (n c : Nat) (ds : List Drv) (A2 : Option Addr) (n2 c2 : Nat) (os : List FleetMath.Ord) (A3 : Option Addr) (n3 c3 : Nat) (l : List RM) (res : Bool) (w : World)
    (h : MapP w 110 base pv m) (hd : Drvs w w.heap.size A n ds) (ho : Ords w w.heap.size A2 n2 os) (hl : Plns w w.heap.size A3 n3 l) (hres : wellC m ds os (l.map (·.rt)) = res) :
    Calls Tryz.prog 47 #[pv, .slice A n c, .slice A2 n2 c2, .slice A3 n3 c3] w (Gives w (.bool res)) := by
  have hm := Recs.le hd
  have HI := Lib.hid hd
  have HL := Lib.hid hd.length
  have HP := Lib.hid h
  obtain ⟨r1, hr1⟩ : ∃ r, m.isSome = r := ⟨_, rfl⟩
  obtain ⟨r2, hr2⟩ : ∃ r, known m os = r := ⟨_, rfl⟩
  obtain ⟨r3, hr3⟩ : ∃ r, rightP (l.map (·.rt)) = r := ⟨_, rfl⟩
  have HW := Lib.hid (well_head (ds := ds) hd.length hr1 hr2 hr3)
  rw [hres] at HW
  have HRES := Lib.hid hres
  have R2 := Lib.hid hr2
  have R3 := Lib.hid hr3
  have HO := Lib.hid ho
  have HP3 := Lib.hid hl
  obtain ⟨q, hq, hq1⟩ : ∃ q : Option Addr, pv = .pointer q ∧ q.isNone = !r1 := by
    rcases h with ⟨rfl, rfl⟩ | ⟨b, _, _, rfl, rfl, _⟩
    · exact ⟨_, rfl, by rw [← hr1]; rfl⟩
    · exact ⟨_, rfl, by rw [← hr1]; rfl⟩
  subst hq
  clear h hd ho hl hres hr1 hr2 hr3
  go_enter Tryz.func47, Tryz.ntmps47
  cases r1 with
  | false =>
    have HF : Hid (res = false) := HW.out.1 (.inl rfl)
    obtain rfl : q = none := by simpa using hq1
    clear HW hq1
    go_wp2
    go_ret
    exact gives_bool HF.out.symm (Below.refl _ _)
  | true =>
    obtain ⟨q0, rfl⟩ : ∃ q0, q = some q0 := by cases q with | none => cases hq1 | some q0 => exact ⟨q0, rfl⟩
    clear hq1
    by_cases h8 : 8 < n
    · have HF : Hid (res = false) := HW.out.1 (.inr (.inl h8))
      clear HW
      go_wp2
      go_ret
      exact gives_bool HF.out.symm (Below.refl _ _)
    · go_wp2_with fail
      refine (rknown_v base _ m A2 n2 c2 os r2 _ HP.out HO.out R2.out).mono ?_
      rintro e w1 ⟨rfl, hb1⟩
      have HB1 := Lib.hid hb1
      clear hb1
      cases r2 with
      | false =>
        have HF : Hid (res = false) := HW.out.1 (.inr (.inr (.inl rfl)))
        clear HW
        go_wp2_with fail
        go_ret
        exact gives_bool HF.out.symm HB1.out
      | true =>
        go_wp2_with fail
        refine (rright_val A3 n3 c3 l r3 _ (by exact (HP3.out.keep HB1.out).more HB1.out.size) R3.out).mono ?_
        rintro e w2 ⟨rfl, hb2⟩
        have HB2 : Hid (Below w.heap.size w w2) := HB1.out.trans (hb2.mono HB1.out.size)
        clear hb2
        cases r3 with
        | false =>
          have HF : Hid (res = false) := HW.out.1 (.inr (.inr (.inr rfl)))
          clear HW
          go_wp2_with fail
          go_ret
          exact gives_bool HF.out.symm HB2.out
        | true =>
          have HT : Hid ((∀ d ∈ ds, drvE m d = 0) ∧ DistD ds → res = true) := fun h => HW.out.2 (by simp) (by omega) (by simp) (by simp) h
          clear HW
          go_wp2_with fail
          go_loopw [9] (fun i wr => ∃ k : Nat, k ≤ n ∧ i = .int .i64 k ∧ Hid (Below w.heap.size w wr) ∧ Hid (DrvTo m ds k)) (fun i _ => n - (intOf i).toNat)
          case atStart => exact ⟨0, Nat.zero_le _, rfl, HB2.out, by simp, by simp [DistD]⟩
          case round =>
            clear HB1 HB2
            obtain ⟨k, hk, rfl, HB, HK⟩ := hrel
            by_cases hlt : k < n
            · obtain ⟨b, off, o, rfl, hb, ho, _, c0, c1, c2, c3, c4, c5⟩ := Drvs.at_ (Recs.keep HI.out HB.out) hlt
              obtain ⟨v, hv⟩ : ∃ v, drvE m o = v := ⟨_, rfl⟩
              have HV := Lib.hid hv
              have HO := Lib.hid ho
              have hbw : b < wr.heap.size := Nat.lt_of_lt_of_le hb HB.out.size
              clear hv ho
              go_wp2_with fail
              refine (rdriver_v base _ m o v _ (by exact HP.out.keep HB.out) HV.out).mono ?_
              rintro e w1 ⟨rfl, hb1⟩
              have HB1 : Hid (Below w.heap.size w w1) := HB.out.trans (hb1.mono HB.out.size)
              clear hb1 c0 c1 c2 c3 c4 c5
              by_cases hv0 : v = 0
              · subst hv0
                go_wp2_with fail
                go_loopw [10] (fun i wi => ∃ (j d : Nat), j ≤ k ∧ i = .int .i64 j ∧ wi = w1.drewN d ∧ Hid (∀ t p, t < j → ds[t]? = some p → p.id ≠ o.id)) (fun i _ => k - (intOf i).toNat)
                case atStart => exact ⟨0, 0, Nat.zero_le _, rfl, rfl, fun t p ht => absurd ht (by omega)⟩
                case round =>
                  obtain ⟨j, d, hj, rfl, rfl, HJ⟩ := hrel
                  by_cases hlt2 : j < k
                  · obtain ⟨b2, off2, p, e2, _, hp, _, e0, _⟩ := Drvs.at_ (Recs.keep HI.out HB1.out) (show j < n by omega)
                    obtain ⟨b3, off3, o3, e3, _, ho3, _, f0, _⟩ := Drvs.at_ (Recs.keep HI.out HB1.out) hlt
                    injection e2 with e2; injection e2 with e2 e2'
                    injection e3 with e3; injection e3 with e3 e3'
                    subst e2; subst e2'; subst e3; subst e3'
                    rw [HO.out] at ho3
                    injection ho3 with ho3
                    subst ho3
                    have HP2 := Lib.hid hp
                    have hjn : (j : Int) < (n : Int) := by omega
                    clear hp
                    by_cases hid : p.id = o.id
                    · have HN : Hid (res = false) := HRES.out.symm.trans (well_twice hlt2 HP2.out HO.out hid)
                      obtain ⟨x, hx⟩ : ∃ x, p.id = x := ⟨_, rfl⟩
                      rw [hx] at hid e0
                      rw [← hid] at f0
                      clear hx hid
                      go_wp2
                      go_quiet (fail)
                      go_wp2
                      go_ret
                      exact gives_bool HN.out.symm (below_drewN (below_drewN HB1.out _) _)
                    · have HJ2 : Hid (∀ t p, t < j + 1 → ds[t]? = some p → p.id ≠ o.id) := fun t p' ht hp' => by
                        by_cases htj : t = j
                        · subst htj
                          rw [HP2.out] at hp'
                          injection hp' with hp'
                          rw [← hp']; exact hid
                        · exact HJ.out t p' (by omega) hp'
                      obtain ⟨n1, n2'⟩ : (p.id == o.id) = false ∧ (p.id != o.id) = true := by simp [hid]
                      go_wp2
                      go_quiet (fail)
                      go_wp2
                      go_roundw
                      case rel => exact ⟨j + 1, _, by omega, by go_num, rfl, HJ2⟩
                      case measure => simp [intOf]; omega
                  · have HN : Hid (DrvTo m ds (k + 1)) := HK.out.next HO.out HV.out fun t p ht hp => HJ.out t p (by omega) hp
                    go_wp2
                    go_roundw
                    case rel => exact ⟨k + 1, by omega, by go_num, below_drewN HB1.out _, HN⟩
                    case measure => simp [intOf]; omega
              · have HN : Hid (res = false) := HRES.out.symm.trans (well_wrong HO.out (by rw [HV.out]; exact hv0))
                obtain ⟨n1, n2'⟩ : (v == 0) = false ∧ (v != 0) = true := by simp [hv0]
                clear hv0
                go_wp2_with fail
                go_ret
                exact gives_bool HN.out.symm HB1.out
            · have HN : Hid (res = true) := by
                have e : k = ds.length := by have := HL.out; omega
                have := HK.out
                rw [e] at this
                exact HT.out this.all
              go_wp2
              go_ret
              exact gives_bool HN.out.symm HB.out
end Go.Proofs.YtilggpkmdmelmaaGreat.Cert

namespace Go.Proofs.YtilggpkmdmelmaaGreat.Cert
open Go.ChangeShapes Go.WideShapes Go.ChangeAt Go.RowKit Go.Proofs.YtilggpkmdmelmaaGreat.Mem Go.Proofs.YtilggpkmdmelmaaGreat.GeoMath Go.Proofs.YtilggpkmdmelmaaGreat.FleetMath Go.Proofs.YtilggpkmdmelmaaGreat.PlanMath Go.Proofs.YtilggpkmdmelmaaGreat.CertMath Go.Proofs.YtilggpkmdmelmaaGreat.Rec Go.Proofs.YtilggpkmdmelmaaGreat.Geo Go.Proofs.YtilggpkmdmelmaaGreat.Span Go.Proofs.YtilggpkmdmelmaaGreat.Deal Go.Proofs.YtilggpkmdmelmaaGreat.Route Go.Proofs.YtilggpkmdmelmaaGreat.Plan
set_option linter.unusedVariables false
set_option linter.unusedSimpArgs false
structure Made (w w' : World) (v : Value) (l : List CM) (c : List (List Vis)) : Prop where
  new : NewC w w' v l
  vss : l.map (·.vs) = c
  few : ∀ r ∈ l, r.n * 48 ≤ 140737488351232
def MakeOk (w : World) (r : List (List Vis) × Nat × Int) (e : Ending) (w' : World) : Prop :=
  ∃ v l, e = .returned (.tuple #[v, faultV r.2.1 r.2.2]) ∧ Made w w' v l r.1
theorem make_fault {w w' : World} {k : Nat} {e : Int} {r : List (List Vis) × Nat × Int} (h : r = ([], k, e)) (hb : Below w.heap.size w w') : MakeOk w r (.returned (.tuple #[.slice none 0 0, faultV k e])) w' := by
  subst h
  exact ⟨_, [], rfl, ⟨⟨hb, OwnK.nil _ _ _ _, (fun r h => by cases h), List.Pairwise.nil⟩, rfl, fun r h => by cases h⟩⟩
abbrev FX (w : World) : World := w.alloc (.cells #[.int .i64 0, .int .i64 0] 63)
structure MS (w : World) (p : List RM) (v : Value) (wr : World) (l : List CM) (k : Nat) : Prop where
  new : NewC (FX w) wr v l
  few : ∀ r ∈ l, r.n * 48 ≤ 140737488351232
  len : l.length = k
section
variable {w wr w' : World} {p : List RM} {v v' : Value} {l : List CM} {k : Nat}
theorem FX.below (w : World) : Below w.heap.size w (FX w) := (Below.refl _ _).alloc (Nat.le_refl _) _
theorem FX.size (w : World) : (FX w).heap.size = w.heap.size + 1 := by simp
theorem MS.old (h : MS w p v wr l k) : Below w.heap.size w wr := (FX.below w).trans (h.new.old.mono (FX.below w).size)
theorem MS.box (h : MS w p v wr l k) : Blk wr w.heap.size 63 [.int .i64 0, .int .i64 0] := (Blk.new w 63 [.int .i64 0, .int .i64 0]).below h.new.old (by rw [FX.size]; omega)
theorem MS.puts (h : MS w p v wr l k) (a b : Value) : (wr.cell? ⟨w.heap.size, 0, none⟩ = some (.int .i64 0) ∧ wr.frozen? ⟨w.heap.size, 0, none⟩ = false) ∧ ((wr.setCell ⟨w.heap.size, 0, none⟩ a).cell? ⟨w.heap.size, 1, none⟩ = some (.int .i64 0) ∧ (wr.setCell ⟨w.heap.size, 0, none⟩ a).frozen? ⟨w.heap.size, 1, none⟩ = false) ∧
    ((wr.setCell ⟨w.heap.size, 0, none⟩ a).setCell ⟨w.heap.size, 1, none⟩ b).cell? ⟨w.heap.size, 0, none⟩ = some a ∧ ((wr.setCell ⟨w.heap.size, 0, none⟩ a).setCell ⟨w.heap.size, 1, none⟩ b).cell? ⟨w.heap.size, 1, none⟩ = some b := by
  have f1 := h.box.put 0 a
  have f2 := f1.put 1 b
  exact ⟨⟨h.box.cell rfl, h.box.free 0⟩, ⟨f1.cell rfl, f1.free 1⟩, f2.cell rfl, f2.cell rfl⟩
theorem MS.keep (h : MS w p v wr l k) (hb : Below wr.heap.size wr w') : MS w p v w' l k := ⟨h.new.keep hb, h.few, h.len⟩
theorem MS.start (w : World) (p : List RM) : MS w p (.slice none 0 0) (FX w) [] 0 := ⟨NewC.nil _, (fun r h => by cases h), rfl⟩
theorem NewC.put (h : NewC (FX w) wr v l) (a b : Value) : NewC w ((wr.setCell ⟨w.heap.size, 0, none⟩ a).setCell ⟨w.heap.size, 1, none⟩ b) v l := by
  have hs : ∀ g, (FX w).heap.size ≤ g → g < wr.heap.size → ((wr.setCell ⟨w.heap.size, 0, none⟩ a).setCell ⟨w.heap.size, 1, none⟩ b).heap[g]? = wr.heap[g]? := fun g hg _ => by
    have := FX.size w
    exact (Below.heap_setCell _ _ _ g (by show g ≠ w.heap.size; omega)).trans (Below.heap_setCell _ _ _ g (by show g ≠ w.heap.size; omega))
  have hl := (FX.below w).size
  exact ⟨(((FX.below w).trans (h.old.mono hl)).setCell (Nat.le_refl _) _).setCell (Nat.le_refl _) _, (h.own.same hs).lower hl, fun r hr => ⟨((h.each r hr).1.same hs).lower hl, (h.each r hr).2⟩, h.apart⟩
end
end Go.Proofs.YtilggpkmdmelmaaGreat.Cert

namespace Go.Proofs.YtilggpkmdmelmaaGreat.Cert
open Go.ChangeShapes Go.WideShapes Go.ChangeAt Go.RowKit Go.Proofs.YtilggpkmdmelmaaGreat.Mem Go.Proofs.YtilggpkmdmelmaaGreat.GeoMath Go.Proofs.YtilggpkmdmelmaaGreat.FleetMath Go.Proofs.YtilggpkmdmelmaaGreat.PlanMath Go.Proofs.YtilggpkmdmelmaaGreat.CertMath Go.Proofs.YtilggpkmdmelmaaGreat.Rec Go.Proofs.YtilggpkmdmelmaaGreat.Geo Go.Proofs.YtilggpkmdmelmaaGreat.Span Go.Proofs.YtilggpkmdmelmaaGreat.Deal Go.Proofs.YtilggpkmdmelmaaGreat.Route Go.Proofs.YtilggpkmdmelmaaGreat.Plan
set_option linter.unusedVariables false
set_option linter.unusedSimpArgs false
theorem drive_at {base : Nat} {q : Option Addr} {m : Option Mp} {d : Drv} {A2 : Option Addr} {n2 c2 : Nat} {os : List FleetMath.Ord} {x : RM} {w3 u : World} (hu : Below w3.heap.size w3 u) (hm : MapP w3 110 base (.pointer q) m) (ho : Ords w3 w3.heap.size A2 n2 os) (hs : Stps w3 w3.heap.size x.a x.n x.rt.stops) (hc : x.n ≤ x.c)
    {vs : List Vis} {k : Nat} {e : Int} (hd : drive m d os x.rt.stops = (vs, k, e)) :
    Calls Tryz.prog 49 #[.pointer q, drvV d, .slice A2 n2 c2, .slice x.a x.n x.c] u fun en u' => ∃ B c2, en = .returned (.tuple #[.slice B vs.length c2, faultV k e]) ∧ Below w3.heap.size w3 u' ∧ Below u.heap.size u u' ∧ Hid (OwnK u' u.heap.size 102 6 (.slice B vs.length c2) vs.length (vissV vs)) := by
  refine (rdrive_any base _ m d A2 n2 c2 os x.a x.n x.c x.rt.stops u (hm.keep hu) (Recs.more (Recs.keep ho hu) hu.size) (Recs.more (Recs.keep hs hu) hu.size) hc).mono ?_
  rintro en u' ⟨hb, v, rfl, hv⟩
  rw [hd] at hv ⊢
  obtain ⟨B, c2, rfl, _, hr⟩ := hv.read
  exact ⟨B, c2, rfl, hu.trans (hb.mono hu.size), hb, hv⟩
set_option maxRecDepth 100000 in
set_option maxHeartbeats 8000000 in
theorem rmake_any (base : Nat) (pv : Value) (m : Option Mp) (A : Option Addr) (n c : Nat) (ds : List Drv) (A2 : Option Addr) (n2 c2 : Nat) (os : List FleetMath.Ord) (A3 : Option Addr) (n3 c3 : Nat) (l : List RM) (w : World)
    (h : MapP w 110 base pv m) (hd : Drvs w w.heap.size A n ds) (ho : Ords w w.heap.size A2 n2 os) (hl : Plns w w.heap.size A3 n3 l) :
    Calls Tryz.prog 30 #[pv, .slice A n c, .slice A2 n2 c2, .slice A3 n3 c3] w (MakeOk w (makeC m ds os (l.map (·.rt)))) := by
  have hm := Recs.le hl.rows
  have HD := Lib.hid hd
  have HO := Lib.hid ho
  have HP := Lib.hid hl
  have HL := Lib.hid hl.length
  have HM := Lib.hid h
  have HS0 := Lib.hid (MS.start w l)
  have HB0 := Lib.hid (FX.below w)
  obtain ⟨rw', hrw⟩ : ∃ r, wellC m ds os (l.map (·.rt)) = r := ⟨_, rfl⟩
  have HW := Lib.hid hrw
  obtain ⟨q, hq⟩ : ∃ q, pv = .pointer q := by
    rcases h with ⟨rfl, _⟩ | ⟨b, _, _, rfl, _⟩
    · exact ⟨_, rfl⟩
    · exact ⟨_, rfl⟩
  subst hq
  clear h hd ho hl hrw
  go_enter Tryz.func30, Tryz.ntmps30
  go_wp2_with fail
  refine (rwell_any base _ m A n c ds A2 n2 c2 os A3 n3 c3 l rw' _ (by exact HM.out.keep HB0.out) (by exact Recs.more (Recs.keep HD.out HB0.out) HB0.out.size) (by exact Recs.more (Recs.keep HO.out HB0.out) HB0.out.size) (by exact (HP.out.keep HB0.out).more HB0.out.size) HW.out).mono ?_
  rintro e w1 ⟨rfl, hb1⟩
  have HS1 := Lib.hid (HS0.out.keep hb1)
  clear hb1 HS0
  cases rw' with
  | false =>
    have HF := Lib.hid (makeC_no HW.out)
    obtain ⟨⟨m0, f0⟩, ⟨m1, f1⟩, q0, q1⟩ := HS1.out.puts (.int .i64 0) (.int .i64 1)
    go_wp2_with fail
    (try simp only [Exit.inBlock, Exit.then])
    refine bodyPost_ret (v := .tuple #[.slice none 0 0, faultV 0 1]) ?_ rfl (make_fault HF.out ((HS1.out.old.setCell (Nat.le_refl _) _).setCell (Nat.le_refl _) _))
    simp [results, Tryz.results30, go_sem, q0, q1]
  | true =>
    have hn8 : n3 ≤ 8 := by
      obtain ⟨_, _, _, _, h4, _⟩ := wellC_parts HW.out
      have := rightP_few h4
      rw [List.length_map, HL.out] at this
      exact this
    obtain ⟨X, hX⟩ : ∃ X, makeFrom m ds os 0 (l.map (·.rt)) = X := ⟨_, rfl⟩
    have HX0 : Hid (X = pre [] (makeFrom m ds os 0 ((l.map (·.rt)).drop 0))) := Lib.hid (by rw [List.drop_zero, hX]; exact pre_start X)
    have HX := Lib.hid hX
    clear hX
    go_wp2_with fail
    go_loopw [10, 11] (fun v i wr => ∃ (k : Nat) (l' : List CM), k ≤ n3 ∧ i = .int .i64 k ∧ Hid (MS w l v wr l' k) ∧ Hid (X = pre (l'.map (·.vs)) (makeFrom m ds os k ((l.map (·.rt)).drop k)))) (fun _ i _ => n3 - (intOf i).toNat)
    case atStart => exact ⟨0, [], Nat.zero_le _, rfl, HS1, HX0⟩
    case round =>
      clear HX0 HS1
      obtain ⟨k, l', hk, rfl, HS, HK⟩ := hrel
      by_cases hlt : k < n3
      · obtain ⟨b, off, x, rfl, hbb, hx, hdr, c0, c1, c2', hst, hxc⟩ := (HP.out.keep HS.out.old).at_ hlt
        have HXX := Lib.hid hx
        have HPD : Hid ((l.map (·.rt)).drop k = x.rt :: (l.map (·.rt)).drop (k + 1)) := by
          show _ = _
          rw [← List.map_drop, hdr, List.map_cons, List.map_drop]
        obtain ⟨od, hod⟩ : ∃ r, drvOf ds x.rt.drv = r := ⟨_, rfl⟩
        have HOD := Lib.hid hod
        clear hx hdr hst hod
        go_wp2_with fail
        refine (rdrv_any A n c ds x.rt.drv od _ (by exact Recs.more (Recs.keep HD.out HS.out.old) HS.out.old.size) HOD.out).mono ?_
        rintro e w2 ⟨rfl, hb2⟩
        have HS2 := Lib.hid (HS.out.keep hb2)
        clear hb2 HS c0 c1 c2'
        cases od with
        | none =>
          have hv : drvOV none = .tuple #[.agg #[.int .i64 0, .int .i64 0, .int .i64 0, .int .i64 0, .int .i64 0, .bool false], .bool false] := rfl
          rw [hv]
          clear hv
          have HF := Lib.hid (makeC_err HW.out (HX.out.trans (mk_none HK.out HPD.out HOD.out)))
          have HS3 : Hid (MS w l u10 (w2.alloc (.cells #[.int .i64 0, .int .i64 0, .int .i64 0, .int .i64 0, .int .i64 0, .bool false] 33)) l' k) := HS2.out.keep ((Below.refl _ _).alloc (Nat.le_refl _) _)
          obtain ⟨⟨m0, f0⟩, ⟨m1, f1⟩, q0, q1⟩ := HS3.out.puts (.int .i64 k) (.int .i64 8)
          go_wp2_with fail
          (try simp only [Exit.inBlock, Exit.then])
          refine bodyPost_ret (v := .tuple #[.slice none 0 0, faultV k 8]) ?_ rfl (make_fault HF.out ((HS3.out.old.setCell (Nat.le_refl _) _).setCell (Nat.le_refl _) _))
          simp [results, Tryz.results30, go_sem, q0, q1]
        | some d =>
          have hv : drvOV (some d) = .tuple #[drvV d, .bool true] := rfl
          rw [hv]
          clear hv
          obtain ⟨vs, fk, fe, hdr⟩ : ∃ vs fk fe, drive m d os x.rt.stops = (vs, fk, fe) := ⟨_, _, _, rfl⟩
          have HDR := Lib.hid hdr
          have hv80 : vs.length ≤ 80 := by have := drive_few m d os x.rt.stops; rw [hdr] at this; exact this
          have HS3 : Hid (MS w l u10 (w2.alloc (.cells #[.int .i64 d.id, .int .i64 d.room, .int .i64 d.home, .int .i64 d.win.fr, .int .i64 d.win.to, .bool d.retired] 33)) l' k) := HS2.out.keep ((Below.refl _ _).alloc (Nat.le_refl _) _)
          have HX3 : Hid (DBox (w2.alloc (.cells #[.int .i64 d.id, .int .i64 d.room, .int .i64 d.home, .int .i64 d.win.fr, .int .i64 d.win.to, .bool d.retired] 33)) w2.heap.size d) := Blk.new w2 _ _
          obtain ⟨gd, hgd⟩ : ∃ g, w2.heap.size = g := ⟨_, rfl⟩
          obtain ⟨w3, hw3⟩ : ∃ w, w2.alloc (.cells #[.int .i64 d.id, .int .i64 d.room, .int .i64 d.home, .int .i64 d.win.fr, .int .i64 d.win.to, .bool d.retired] 33) = w := ⟨_, rfl⟩
          clear hdr HS2
          go_upto_region 10 with fail
          rw [hgd] at HX3
          rw [hw3] at HS3 HX3
          clear hw3 hgd
          have HDV : Hid (∀ u, Below w3.heap.size w3 u → Calls Tryz.prog 49 #[.pointer q, drvV d, .slice A2 n2 c2, .slice x.a x.n x.c] u fun en u' => ∃ B c2, en = .returned (.tuple #[.slice B vs.length c2, faultV fk fe]) ∧ Below w3.heap.size w3 u' ∧ Below u.heap.size u u' ∧ Hid (OwnK u' u.heap.size 102 6 (.slice B vs.length c2) vs.length (vissV vs))) :=
            Lib.hid fun u hu => drive_at hu (HM.out.keep HS3.out.old) (Recs.more (Recs.keep HO.out HS3.out.old) HS3.out.old.size) (Recs.more (((HP.out.keep HS3.out.old).cells HXX.out).2.2.2.2.1) HS3.out.old.size) hxc HDR.out
          have HC : Hid (∀ u, Below w3.heap.size w3 u → (u.cell? ⟨gd, 0, none⟩ = some (.int .i64 d.id) ∧ u.cell? ⟨gd, 1, none⟩ = some (.int .i64 d.room) ∧ u.cell? ⟨gd, 2, none⟩ = some (.int .i64 d.home) ∧ u.cell? ⟨gd, 3, none⟩ = some (.int .i64 d.win.fr) ∧ u.cell? ⟨gd, 4, none⟩ = some (.int .i64 d.win.to) ∧ u.cell? ⟨gd, 5, none⟩ = some (.bool d.retired)) ∧ u.cell? ⟨b, off + k * 3 + 2, none⟩ = some (.slice x.a x.n x.c)) :=
            Lib.hid fun u hu => ⟨(HX3.out.below hu).cells, ((HP.out.keep (HS3.out.old.trans (hu.mono HS3.out.old.size))).cells HXX.out).2.2.2.1⟩
          go_cut [14, 15] (fun va vf wx => ∃ B c2 g, va = .slice B vs.length c2 ∧ vf = .pointer (some ⟨g, 0, none⟩) ∧ Hid (DM w3 (.slice B vs.length c2) vs g fk fe wx))
          case first =>
            go_region_held3 (fun u => (u.cell? ⟨gd, 0, none⟩ = some (.int .i64 d.id) ∧ u.cell? ⟨gd, 1, none⟩ = some (.int .i64 d.room) ∧ u.cell? ⟨gd, 2, none⟩ = some (.int .i64 d.home) ∧ u.cell? ⟨gd, 3, none⟩ = some (.int .i64 d.win.fr) ∧ u.cell? ⟨gd, 4, none⟩ = some (.int .i64 d.win.to) ∧ u.cell? ⟨gd, 5, none⟩ = some (.bool d.retired)) ∧ u.cell? ⟨b, off + k * 3 + 2, none⟩ = some (.slice x.a x.n x.c))
              (first
                | exact HC.out _ (Below.refl _ _).drew
                | exact HC.out _ ((Below.refl _ _).alloc (Nat.le_refl _) _).drew
                | exact HC.out _ (by assumption)
                | exact HC.out _ (Below.drew (by assumption))
                | exact HC.out _ (Below.alloc (by assumption) (Below.size (by assumption)) _)
                | exact HC.out _ (below_put2 (by assumption) _ _))
              (first
                | (go_at_call 49; (refine (HDV.out _ (by first | assumption | exact (Below.refl _ _).drew | exact ((Below.refl _ _).alloc (Nat.le_refl _) _).drew)).mono ?_); rintro e w' ⟨B, c2, rfl, hbx, hby, hown⟩; (try (have hbox := Lib.hid (box_kept hby); have hz0 := hbox.out.cell (i := 0) rfl; have hz1 := hbox.out.cell (i := 1) rfl; have hf0 := hbox.out.free 0; have hf1 := hbox.out.free 1))))
            · go_wp2_with fail
              go_meet
              exact ⟨_, _, _, rfl, rfl, DM.behind (Below.refl _ _).drew hby hown.out⟩
            · go_wp2_with fail
              go_meet
              exact ⟨_, _, _, rfl, rfl, DM.ahead hby hbox.out hown.out⟩
          case rest =>
          clear HC HDV
          obtain ⟨B4, c4, g4, rfl, rfl, M4⟩ := hcut
          obtain ⟨w4, rfl⟩ : ∃ w, w = wc := ⟨_, rfl⟩
          have HRW : Hid (RowC (FX w) w4 u10 l' ⟨vs, B4, vs.length, c4⟩) := HS3.out.new.row M4.out.on M4.out.own
          have HS4 := Lib.hid (HS3.out.keep M4.out.on)
          obtain ⟨a0, a1⟩ := M4.out.flt.cells
          clear HX3 HS3 M4
          by_cases he : fe = 0
          · subst he
            have HN : Hid (X = pre ((l' ++ [(⟨vs, B4, vs.length, c4⟩ : CM)]).map (·.vs)) (makeFrom m ds os (k + 1) ((l.map (·.rt)).drop (k + 1)))) := Lib.hid (by
              rw [List.map_append]
              exact mk_next HK.out HPD.out HOD.out HDR.out)
            have HR5 : Hid (RowC (FX w) (w4.alloc (.cells #[.slice B4 vs.length c4] 92)) u10 l' ⟨vs, B4, vs.length, c4⟩) := HRW.out.keep ((Below.refl _ _).alloc (Nat.le_refl _) _)
            have HB5 : Hid (Blk (w4.alloc (.cells #[.slice B4 vs.length c4] 92)) w4.heap.size 92 [.slice B4 vs.length c4]) := Blk.new w4 _ _
            have hlk : l'.length = k := HS4.out.len
            clear HRW
            go_wp2_with (at_builtin; refine wpList_append_ko (o := ⟨some 65, _, _, _, _, _⟩) rfl (.tmp 62) (.tmp 64) Tryz.underlying61 infoVs rfl (by decide) rfl HR5.out.cert.own rfl HB5.out rfl rfl (cmL_one ⟨vs, B4, vs.length, c4⟩) (by unfold maxLen; omega) (by omega) HR5.out.cert.old.size ?_; intro vB wB HO2 HG2 HN2; have HQ := Lib.hid (HR5.out.push HO2.out HG2.out HN2.out); clear HO2 HG2 HN2)
            go_roundw
            case rel =>
              refine ⟨k + 1, l' ++ [⟨vs, B4, vs.length, c4⟩], by omega, by go_num, Lib.hid ⟨HQ.out, fun r hr => ?_, by rw [List.length_append, hlk]; rfl⟩, HN⟩
              rcases List.mem_append.1 hr with hr | hr
              · exact HS4.out.few r hr
              · obtain rfl : r = _ := by simpa using hr
                show vs.length * 48 ≤ _
                omega
            case measure => simp [intOf]; omega
          · have HF := Lib.hid (makeC_err HW.out (HX.out.trans (mk_fault (e := fe) HK.out HPD.out HOD.out (by rw [HDR.out]) he)))
            have e1 : (fe != 0) = true := by simpa using he
            obtain ⟨⟨m0, f0⟩, ⟨m1, f1⟩, q0, q1⟩ := HS4.out.puts (.int .i64 k) (.int .i64 fe)
            clear HRW
            go_wp2_with fail
            go_region
            all_goals
              go_wp2_with fail
              (try simp only [Exit.inBlock, Exit.then])
              refine bodyPost_ret (v := .tuple #[.slice none 0 0, faultV k fe]) ?_ rfl (make_fault HF.out ?_)
              · simp [results, Tryz.results30, go_sem, q0, q1]
              · first
                  | exact ((HS4.out.old.drew).setCell (Nat.le_refl _) _).setCell (Nat.le_refl _) _
                  | exact (((HS4.out.old).setCell (Nat.le_refl _) _).setCell (Nat.le_refl _) _).drew
      · have hke : l.length ≤ k := by rw [HL.out]; omega
        have HF := Lib.hid (makeC_ok HW.out (HX.out.trans (mk_end HK.out (by rw [List.length_map]; exact hke))))
        obtain ⟨⟨m0, f0⟩, ⟨m1, f1⟩, q0, q1⟩ := HS.out.puts (.int .i64 0) (.int .i64 0)
        clear HK
        go_wp2_with fail
        (try simp only [Exit.inBlock, Exit.then])
        refine bodyPost_ret (v := .tuple #[u10, faultV 0 0]) ?_ rfl ?_
        · simp [results, Tryz.results30, go_sem, q0, q1]
        · rw [HF.out]
          exact ⟨_, l', rfl, NewC.put HS.out.new _ _, rfl, HS.out.few⟩
end Go.Proofs.YtilggpkmdmelmaaGreat.Cert
