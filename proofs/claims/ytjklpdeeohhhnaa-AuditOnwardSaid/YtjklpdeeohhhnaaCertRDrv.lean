/-
  The document's own answer to chapter 10, walked: driver, Well.
-/
import Derived.Test.YtjklpdeeohhhnaaCertMaths
import Derived.Test.YtjklpdeeohhhnaaPlanRRight
import Derived.Test.YtjklpdeeohhhnaaRouteDrv
namespace Go.Proofs.Ytjklpdeeohhhnaa.Cert
open Go.ChangeShapes Go.WideShapes Go.ChangeAt Go.RowKit Go.Proofs.Ytjklpdeeohhhnaa.Mem Go.Proofs.Ytjklpdeeohhhnaa.GeoMath Go.Proofs.Ytjklpdeeohhhnaa.FleetMath Go.Proofs.Ytjklpdeeohhhnaa.PlanMath Go.Proofs.Ytjklpdeeohhhnaa.CertMath Go.Proofs.Ytjklpdeeohhhnaa.Rec Go.Proofs.Ytjklpdeeohhhnaa.Geo Go.Proofs.Ytjklpdeeohhhnaa.Span Go.Proofs.Ytjklpdeeohhhnaa.Deal Go.Proofs.Ytjklpdeeohhhnaa.Route Go.Proofs.Ytjklpdeeohhhnaa.Plan
set_option linter.unusedVariables false
set_option linter.unusedSimpArgs false

def noDrv : Drv := ⟨0, 0, 0, ⟨0, 0⟩, false⟩
/-- a driver and whether there is one -/
def drvOV : Option Drv → Value
  | none => .tuple #[drvV noDrv, .bool false]
  | some d => .tuple #[drvV d, .bool true]
theorem drvOf_at {ds : List Drv} {id : Int} {k : Nat} {d : Drv} (h : ∀ j p, j < k → ds[j]? = some p → p.id ≠ id) (hd : ds[k]? = some d) (he : d.id = id) : drvOf ds id = some d := by
  unfold drvOf
  refine List.find?_eq_some_iff_getElem.2 ⟨by simpa using he, k, (List.getElem?_eq_some_iff.1 hd).1, (List.getElem?_eq_some_iff.1 hd).2, fun j hj => ?_⟩
  have hlt := (List.getElem?_eq_some_iff.1 hd).1
  have := h j _ hj (List.getElem?_eq_getElem (by omega))
  simpa using this
theorem drvOf_no {ds : List Drv} {id : Int} (h : ∀ j p, j < ds.length → ds[j]? = some p → p.id ≠ id) : drvOf ds id = none := by
  unfold drvOf
  refine List.find?_eq_none.2 fun d hd => ?_
  obtain ⟨j, hj⟩ := List.getElem?_of_mem hd
  have := h j d (List.getElem?_eq_some_iff.1 hj).1 hj
  simpa using this

/-- driver's state: its result lies in a new block -/
def DB (w wr : World) : Prop := Below w.heap.size w wr ∧ Blk wr w.heap.size 33 [.int .i64 0, .int .i64 0, .int .i64 0, .int .i64 0, .int .i64 0, .bool false]
theorem DB.cells {w u : World} (h : DB w u) : u.cell? ⟨w.heap.size, 0, none⟩ = some (.int .i64 0) ∧ u.cell? ⟨w.heap.size, 1, none⟩ = some (.int .i64 0) ∧ u.cell? ⟨w.heap.size, 2, none⟩ = some (.int .i64 0) ∧ u.cell? ⟨w.heap.size, 3, none⟩ = some (.int .i64 0) ∧ u.cell? ⟨w.heap.size, 4, none⟩ = some (.int .i64 0) ∧ u.cell? ⟨w.heap.size, 5, none⟩ = some (.bool false) ∧
    u.frozen? ⟨w.heap.size, 0, none⟩ = false ∧ u.frozen? ⟨w.heap.size, 1, none⟩ = false ∧ u.frozen? ⟨w.heap.size, 2, none⟩ = false ∧ u.frozen? ⟨w.heap.size, 3, none⟩ = false ∧ u.frozen? ⟨w.heap.size, 4, none⟩ = false ∧ u.frozen? ⟨w.heap.size, 5, none⟩ = false :=
  ⟨h.2.cell rfl, h.2.cell rfl, h.2.cell rfl, h.2.cell rfl, h.2.cell rfl, h.2.cell rfl, h.2.free 0, h.2.free 1, h.2.free 2, h.2.free 3, h.2.free 4, h.2.free 5⟩
theorem ends_drv {w w' : World} {r o : Option Drv} (h : r = o) (hb : Below w.heap.size w w') : Ending.returned (drvOV o) = .returned (drvOV r) ∧ Below w.heap.size w w' := ⟨by rw [h], hb⟩
theorem rright_val (A : Option Addr) (n c : Nat) (l : List RM) (b : Bool) (w : World) (hl : Plns w w.heap.size A n l) (hb : rightP (l.map (·.rt)) = b) :
    Calls Try.prog 18 #[.slice A n c] w (Gives w (.bool b)) := by
  rw [← hb]
  exact (rright_any A n c l w hl).mono fun e w' h => h
set_option maxRecDepth 100000 in
set_option maxHeartbeats 1000000 in
theorem rdrv_any (A : Option Addr) (n c : Nat) (ds : List Drv) (id : Int) (r : Option Drv) (w : World) (hl : Drvs w w.heap.size A n ds) (hr : drvOf ds id = r) :
    Calls Try.prog 36 #[.slice A n c, .int .i64 id] w fun e w' => e = .returned (drvOV r) ∧ Below w.heap.size w w' := by
  have hm := Recs.le hl
  have HL := Lib.hid hl.length
  have HR := Lib.hid hr
  have HI0 := Lib.hid hl
  clear hl hr
  go_enter Try.func36, Try.ntmps36
  go_wp2
  go_loopw [6] (fun i wr => ∃ k : Nat, k ≤ n ∧ i = .int .i64 k ∧ Hid (DB w wr) ∧ Hid (∀ j p, j < k → ds[j]? = some p → p.id ≠ id)) (fun i _ => n - (intOf i).toNat)
  case atStart => exact ⟨0, Nat.zero_le _, rfl, Lib.hid ⟨(Below.refl _ _).alloc (Nat.le_refl _) _, Blk.new _ _ _⟩, fun j p hj => absurd hj (by omega)⟩
  case round =>
    obtain ⟨k, hk, rfl, HB, HK⟩ := hrel
    obtain ⟨m0, m1, m2, m3, m4, m5, f0, f1, f2, f3, f4, f5⟩ := HB.out.cells
    by_cases hlt : k < n
    · obtain ⟨b, off, d, rfl, _, hd, _, c0, c1, c2, c3, c4, c5⟩ := Drvs.at_ (Recs.keep HI0.out HB.out.1) hlt
      have HD := Lib.hid hd
      clear hd
      by_cases he : d.id = id
      · have HF : Hid (r = some d) := HR.out.symm.trans (drvOf_at HK.out HD.out he)
        have e1 : (d.id == id) = true := by simpa using he
        clear he HK
        go_wp2
        (try simp only [Exit.inBlock, Exit.then])
        refine bodyPost_ret (v := drvOV (some d)) ?_ rfl (ends_drv HF.out ?_)
        · rw [results_cell_tmp rfl]; go_simp; rfl
        · exact (((((HB.out.1.setCell (Nat.le_refl _) _).setCell (Nat.le_refl _) _).setCell (Nat.le_refl _) _).setCell (Nat.le_refl _) _).setCell (Nat.le_refl _) _).setCell (Nat.le_refl _) _
      · have HN : Hid (∀ j p, j < k + 1 → ds[j]? = some p → p.id ≠ id) := fun j p hj hp => by
          by_cases e : j = k
          · subst e
            have := HD.out
            rw [this] at hp
            injection hp with hp
            rw [← hp]
            exact he
          · exact HK.out j p (by omega) hp
        have e1 : (d.id == id) = false := by simpa using he
        clear he HK m0 m1 m2 m3 m4 m5 f0 f1 f2 f3 f4 f5
        go_wp2
        go_roundw
        case rel => exact ⟨k + 1, by omega, by go_num, HB, HN⟩
        case measure => simp [intOf]; omega
    · have HF : Hid (r = none) := HR.out.symm.trans (drvOf_no fun j p hj hp => HK.out j p (by have := HL.out; omega) hp)
      clear HK
      go_wp2
      (try simp only [Exit.inBlock, Exit.then])
      refine bodyPost_ret (v := drvOV none) ?_ rfl (ends_drv HF.out ?_)
      · rw [results_cell_tmp rfl]; go_simp; rfl
      · exact (((((HB.out.1.setCell (Nat.le_refl _) _).setCell (Nat.le_refl _) _).setCell (Nat.le_refl _) _).setCell (Nat.le_refl _) _).setCell (Nat.le_refl _) _).setCell (Nat.le_refl _) _
#print axioms rdrv_any

/-- the first k drivers are right, with different numbers -/
def DrvTo (m : Option Mp) (ds : List Drv) (k : Nat) : Prop := (∀ d ∈ ds.take k, drvE m d = 0) ∧ DistD (ds.take k)
theorem DrvTo.next {m : Option Mp} {ds : List Drv} {k : Nat} {d : Drv} (h : DrvTo m ds k) (ho : ds[k]? = some d) (h0 : drvE m d = 0) (hd : ∀ j p, j < k → ds[j]? = some p → p.id ≠ d.id) : DrvTo m ds (k + 1) := by
  unfold DrvTo
  rw [List.take_add_one, ho]
  refine ⟨fun x hx => ?_, ?_⟩
  · rcases List.mem_append.1 hx with hx | hx
    · exact h.1 x hx
    · simp at hx; rw [hx]; exact h0
  · refine List.pairwise_append.2 ⟨h.2, by simp, fun x hx y hy => ?_⟩
    simp at hy
    subst hy
    obtain ⟨j, hj⟩ := List.getElem?_of_mem hx
    rw [List.getElem?_take] at hj
    split at hj
    · rename_i hlt; exact hd j x hlt hj
    · cases hj
theorem DrvTo.all {m : Option Mp} {ds : List Drv} (h : DrvTo m ds ds.length) : (∀ d ∈ ds, drvE m d = 0) ∧ DistD ds := by
  unfold DrvTo at h
  rwa [List.take_length] at h
theorem well_wrong {m : Option Mp} {ds : List Drv} {os : List FleetMath.Ord} {p : List Rte} {k : Nat} {d : Drv} (hd : ds[k]? = some d) (h0 : drvE m d ≠ 0) : wellC m ds os p = false := by
  cases h : wellC m ds os p with
  | false => rfl
  | true => obtain ⟨_, _, _, _, _, h5, _⟩ := wellC_parts h; exact absurd (h5 d (List.mem_of_getElem? hd)) h0
theorem well_twice {m : Option Mp} {ds : List Drv} {os : List FleetMath.Ord} {p : List Rte} {j k : Nat} {d q : Drv} (hjk : j < k) (hq : ds[j]? = some q) (hd : ds[k]? = some d) (he : q.id = d.id) : wellC m ds os p = false := by
  cases h : wellC m ds os p with
  | false => rfl
  | true =>
    obtain ⟨_, _, _, _, _, _, h6⟩ := wellC_parts h
    have hlj := (List.getElem?_eq_some_iff.1 hq).1
    have hlk := (List.getElem?_eq_some_iff.1 hd).1
    have := List.pairwise_iff_getElem.1 h6 j k hlj hlk hjk
    rw [(List.getElem?_eq_some_iff.1 hq).2, (List.getElem?_eq_some_iff.1 hd).2] at this
    exact absurd he this
theorem well_head {m : Option Mp} {ds : List Drv} {os : List FleetMath.Ord} {p : List Rte} {a b c : Bool} {n : Nat} (hl : ds.length = n) (ha : m.isSome = a) (hb : known m os = b) (hc : rightP p = c) :
    (a = false ∨ 8 < n ∨ b = false ∨ c = false → wellC m ds os p = false) ∧ (a = true → n ≤ 8 → b = true → c = true → (∀ d ∈ ds, drvE m d = 0) ∧ DistD ds → wellC m ds os p = true) := by
  refine ⟨fun h => ?_, fun h1 h2 h3 h4 h5 => ?_⟩
  · cases hw : wellC m ds os p with
    | false => rfl
    | true =>
      obtain ⟨m', rfl, g2, g3, g4, _⟩ := wellC_parts hw
      rw [hb] at g3
      rw [hc] at g4
      subst g3 g4
      simp at ha
      subst ha
      rcases h with h | h | h | h
      · cases h
      · omega
      · cases h
      · cases h
  · subst h1 h3 h4
    simp only [wellC, ha, hb, hc, Bool.and_eq_true, decide_eq_true_eq]
    exact ⟨⟨⟨⟨⟨trivial, by omega⟩, trivial⟩, trivial⟩, h5.1⟩, h5.2⟩

set_option maxRecDepth 100000 in
set_option maxHeartbeats 4000000 in
theorem rwell_any (base : Nat) (pv : Value) (m : Option Mp) (A : Option Addr) (n c : Nat) (ds : List Drv) (A2 : Option Addr) (n2 c2 : Nat) (os : List FleetMath.Ord) (A3 : Option Addr) (n3 c3 : Nat) (l : List RM) (res : Bool) (w : World)
    (h : MapP w 120 base pv m) (hd : Drvs w w.heap.size A n ds) (ho : Ords w w.heap.size A2 n2 os) (hl : Plns w w.heap.size A3 n3 l) (hres : wellC m ds os (l.map (·.rt)) = res) :
    Calls Try.prog 35 #[pv, .slice A n c, .slice A2 n2 c2, .slice A3 n3 c3] w (Gives w (.bool res)) := by
  have hm := Recs.le hd
  have HI := Lib.hid hd
  have HL := Lib.hid hd.length
  have HP := Lib.hid h
  obtain ⟨r1, hr1⟩ : ∃ r, m.isSome = r := ⟨_, rfl⟩
  obtain ⟨r2, hr2⟩ : ∃ r, known m os = r := ⟨_, rfl⟩
  obtain ⟨r3, hr3⟩ : ∃ r, rightP (l.map (·.rt)) = r := ⟨_, rfl⟩
  have HW := Lib.hid (well_head (ds := ds) hd.length hr1 hr2 hr3)
  rw [hres] at HW
  have HRES := Lib.hid hres
  have R2 := Lib.hid hr2
  have R3 := Lib.hid hr3
  have HO := Lib.hid ho
  have HP3 := Lib.hid hl
  obtain ⟨q, hq, hq1⟩ : ∃ q : Option Addr, pv = .pointer q ∧ q.isNone = !r1 := by
    rcases h with ⟨rfl, rfl⟩ | ⟨b, _, _, rfl, rfl, _⟩
    · exact ⟨_, rfl, by rw [← hr1]; rfl⟩
    · exact ⟨_, rfl, by rw [← hr1]; rfl⟩
  subst hq
  clear h hd ho hl hres hr1 hr2 hr3
  go_enter Try.func35, Try.ntmps35
  cases r1 with
  | false =>
    have HF : Hid (res = false) := HW.out.1 (.inl rfl)
    obtain rfl : q = none := by simpa using hq1
    clear HW hq1
    go_wp2
    go_ret
    exact gives_bool HF.out.symm (Below.refl _ _)
  | true =>
    obtain ⟨q0, rfl⟩ : ∃ q0, q = some q0 := by cases q with | none => cases hq1 | some q0 => exact ⟨q0, rfl⟩
    clear hq1
    by_cases h8 : 8 < n
    · have HF : Hid (res = false) := HW.out.1 (.inr (.inl h8))
      clear HW
      go_wp2
      go_ret
      exact gives_bool HF.out.symm (Below.refl _ _)
    · go_wp2_with fail
      refine (rknown_v base _ m A2 n2 c2 os r2 _ HP.out HO.out R2.out).mono ?_
      rintro e w1 ⟨rfl, hb1⟩
      have HB1 := Lib.hid hb1
      clear hb1
      cases r2 with
      | false =>
        have HF : Hid (res = false) := HW.out.1 (.inr (.inr (.inl rfl)))
        clear HW
        go_wp2_with fail
        go_ret
        exact gives_bool HF.out.symm HB1.out
      | true =>
        go_wp2_with fail
        refine (rright_val A3 n3 c3 l r3 _ (by exact (HP3.out.keep HB1.out).more HB1.out.size) R3.out).mono ?_
        rintro e w2 ⟨rfl, hb2⟩
        have HB2 : Hid (Below w.heap.size w w2) := HB1.out.trans (hb2.mono HB1.out.size)
        clear hb2
        cases r3 with
        | false =>
          have HF : Hid (res = false) := HW.out.1 (.inr (.inr (.inr rfl)))
          clear HW
          go_wp2_with fail
          go_ret
          exact gives_bool HF.out.symm HB2.out
        | true =>
          have HT : Hid ((∀ d ∈ ds, drvE m d = 0) ∧ DistD ds → res = true) := fun h => HW.out.2 (by simp) (by omega) (by simp) (by simp) h
          clear HW
          go_wp2_with fail
          go_loopw [9] (fun i wr => ∃ k : Nat, k ≤ n ∧ i = .int .i64 k ∧ Hid (Below w.heap.size w wr) ∧ Hid (DrvTo m ds k)) (fun i _ => n - (intOf i).toNat)
          case atStart => exact ⟨0, Nat.zero_le _, rfl, HB2.out, by simp, by simp [DistD]⟩
          case round =>
            clear HB1 HB2
            obtain ⟨k, hk, rfl, HB, HK⟩ := hrel
            by_cases hlt : k < n
            · obtain ⟨b, off, o, rfl, hb, ho, _, c0, c1, c2, c3, c4, c5⟩ := Drvs.at_ (Recs.keep HI.out HB.out) hlt
              obtain ⟨v, hv⟩ : ∃ v, drvE m o = v := ⟨_, rfl⟩
              have HV := Lib.hid hv
              have HO := Lib.hid ho
              have hbw : b < wr.heap.size := Nat.lt_of_lt_of_le hb HB.out.size
              clear hv ho
              go_wp2_with fail
              refine (rdriver_v base _ m o v _ (by exact HP.out.keep HB.out) HV.out).mono ?_
              rintro e w1 ⟨rfl, hb1⟩
              have HB1 : Hid (Below w.heap.size w w1) := HB.out.trans (hb1.mono HB.out.size)
              clear hb1 c0 c1 c2 c3 c4 c5
              by_cases hv0 : v = 0
              · subst hv0
                go_wp2_with fail
                go_loopw [10] (fun i wi => ∃ (j d : Nat), j ≤ k ∧ i = .int .i64 j ∧ wi = w1.drewN d ∧ Hid (∀ t p, t < j → ds[t]? = some p → p.id ≠ o.id)) (fun i _ => k - (intOf i).toNat)
                case atStart => exact ⟨0, 0, Nat.zero_le _, rfl, rfl, fun t p ht => absurd ht (by omega)⟩
                case round =>
                  obtain ⟨j, d, hj, rfl, rfl, HJ⟩ := hrel
                  by_cases hlt2 : j < k
                  · obtain ⟨b2, off2, p, e2, _, hp, _, e0, _⟩ := Drvs.at_ (Recs.keep HI.out HB1.out) (show j < n by omega)
                    obtain ⟨b3, off3, o3, e3, _, ho3, _, f0, _⟩ := Drvs.at_ (Recs.keep HI.out HB1.out) hlt
                    injection e2 with e2; injection e2 with e2 e2'
                    injection e3 with e3; injection e3 with e3 e3'
                    subst e2; subst e2'; subst e3; subst e3'
                    rw [HO.out] at ho3
                    injection ho3 with ho3
                    subst ho3
                    have HP2 := Lib.hid hp
                    have hjn : (j : Int) < (n : Int) := by omega
                    clear hp
                    by_cases hid : p.id = o.id
                    · have HN : Hid (res = false) := HRES.out.symm.trans (well_twice hlt2 HP2.out HO.out hid)
                      obtain ⟨x, hx⟩ : ∃ x, p.id = x := ⟨_, rfl⟩
                      rw [hx] at hid e0
                      rw [← hid] at f0
                      clear hx hid
                      go_wp2
                      go_quiet (fail)
                      go_wp2
                      go_ret
                      exact gives_bool HN.out.symm (below_drewN (below_drewN HB1.out _) _)
                    · have HJ2 : Hid (∀ t p, t < j + 1 → ds[t]? = some p → p.id ≠ o.id) := fun t p' ht hp' => by
                        by_cases htj : t = j
                        · subst htj
                          rw [HP2.out] at hp'
                          injection hp' with hp'
                          rw [← hp']; exact hid
                        · exact HJ.out t p' (by omega) hp'
                      obtain ⟨n1, n2'⟩ : (p.id == o.id) = false ∧ (p.id != o.id) = true := by simp [hid]
                      go_wp2
                      go_quiet (fail)
                      go_wp2
                      go_roundw
                      case rel => exact ⟨j + 1, _, by omega, by go_num, rfl, HJ2⟩
                      case measure => simp [intOf]; omega
                  · have HN : Hid (DrvTo m ds (k + 1)) := HK.out.next HO.out HV.out fun t p ht hp => HJ.out t p (by omega) hp
                    go_wp2
                    go_roundw
                    case rel => exact ⟨k + 1, by omega, by go_num, below_drewN HB1.out _, HN⟩
                    case measure => simp [intOf]; omega
              · have HN : Hid (res = false) := HRES.out.symm.trans (well_wrong HO.out (by rw [HV.out]; exact hv0))
                obtain ⟨n1, n2'⟩ : (v == 0) = false ∧ (v != 0) = true := by simp [hv0]
                clear hv0
                go_wp2_with fail
                go_ret
                exact gives_bool HN.out.symm HB1.out
            · have HN : Hid (res = true) := by
                have e : k = ds.length := by have := HL.out; omega
                have := HK.out
                rw [e] at this
                exact HT.out this.all
              go_wp2
              go_ret
              exact gives_bool HN.out.symm HB.out

#print axioms rwell_any
end Go.Proofs.Ytjklpdeeohhhnaa.Cert
