/-
  The document's own answer to chapter 11, walked: Kept.
-/
import Derived.Test.YtjklpdeeohhhnaaAuditMaths
import Derived.Test.YtjklpdeeohhhnaaPlanRRight
import Derived.Test.YtjklpdeeohhhnaaPlanSmalls
import Derived.Test.YtjklpdeeohhhnaaCertRDrv
namespace Go.Proofs.Ytjklpdeeohhhnaa.Audit
open Go.ChangeShapes Go.WideShapes Go.ChangeAt Go.RowKit Go.Proofs.Ytjklpdeeohhhnaa.Mem Go.Proofs.Ytjklpdeeohhhnaa.GeoMath Go.Proofs.Ytjklpdeeohhhnaa.FleetMath Go.Proofs.Ytjklpdeeohhhnaa.PlanMath Go.Proofs.Ytjklpdeeohhhnaa.CertMath Go.Proofs.Ytjklpdeeohhhnaa.AuditMath Go.Proofs.Ytjklpdeeohhhnaa.Rec Go.Proofs.Ytjklpdeeohhhnaa.Geo Go.Proofs.Ytjklpdeeohhhnaa.Span Go.Proofs.Ytjklpdeeohhhnaa.Deal Go.Proofs.Ytjklpdeeohhhnaa.Route Go.Proofs.Ytjklpdeeohhhnaa.Plan Go.Proofs.Ytjklpdeeohhhnaa.Cert
set_option linter.unusedVariables false
set_option linter.unusedSimpArgs false

set_option maxRecDepth 100000 in
set_option maxHeartbeats 4000000 in
theorem rkept_any (A : Option Addr) (n c : Nat) (la : List RM) (A2 : Option Addr) (n2 c2 : Nat) (lb : List RM) (res : Bool) (w : World) (ha : Plns w w.heap.size A n la) (hb : Plns w w.heap.size A2 n2 lb) (hres : keptP (la.map (·.rt)) (lb.map (·.rt)) = res) :
    Calls Try.prog 17 #[.slice A n c, .slice A2 n2 c2] w (Gives w (.bool res)) := by
  have hm := Recs.le ha.rows
  have hm2 := Recs.le hb.rows
  have HA := Lib.hid ha
  have HB := Lib.hid hb
  have HLA := Lib.hid ha.length
  have HLB := Lib.hid hb.length
  obtain ⟨pa, hpa⟩ : ∃ p, la.map (·.rt) = p := ⟨_, rfl⟩
  obtain ⟨pb, hpb⟩ : ∃ p, lb.map (·.rt) = p := ⟨_, rfl⟩
  rw [hpa, hpb] at hres
  have HPA := Lib.hid hpa
  have HPB := Lib.hid hpb
  have HRES := Lib.hid hres
  obtain ⟨r1, hr1⟩ : ∃ r, rightP pa = r := ⟨_, rfl⟩
  obtain ⟨r2, hr2⟩ : ∃ r, rightP pb = r := ⟨_, rfl⟩
  have R1 := Lib.hid hr1
  have R2 := Lib.hid hr2
  clear ha hb hpa hpb hres hr1 hr2
  go_enter Try.func17, Try.ntmps17
  go_wp2_with fail
  refine (Cert.rright_val A n c la r1 _ (by exact HA.out) (by rw [HPA.out]; exact R1.out)).mono ?_
  rintro e w1 ⟨rfl, hb1⟩
  have HB1 := Lib.hid hb1
  clear hb1
  cases r1 with
  | false =>
    have e : res = false := by rw [← HRES.out]; exact kept_no fun h => by have := h.1; rw [R1.out] at this; cases this
    subst e
    go_wp2_with fail
    go_ret
    exact ⟨rfl, HB1.out⟩
  | true =>
    go_wp2_with fail
    refine (Cert.rright_val A2 n2 c2 lb r2 _ (by exact (HB.out.keep HB1.out).more HB1.out.size) (by rw [HPB.out]; exact R2.out)).mono ?_
    rintro e w2 ⟨rfl, hb2⟩
    have HB2 : Hid (Below w.heap.size w w2) := HB1.out.trans (hb2.mono HB1.out.size)
    clear hb2 HB1
    cases r2 with
    | false =>
      have e : res = false := by rw [← HRES.out]; exact kept_no fun h => by have := h.2.1; rw [R2.out] at this; cases this
      subst e
      go_wp2_with fail
      go_ret
      exact ⟨rfl, HB2.out⟩
    | true =>
      go_wp2_with fail
      go_loopw [5] (fun i wr => ∃ k : Nat, k ≤ n ∧ i = .int .i64 k ∧ w2 = wr ∧ Hid (∀ j x, j < k → pa[j]? = some x → (rteOf pb x.drv).isSome = true)) (fun i _ => n - (intOf i).toNat)
      case atStart => exact ⟨0, Nat.zero_le _, rfl, by first | rfl | trivial, Lib.hid (fun j x hj => absurd hj (by omega))⟩
      case round =>
        obtain ⟨k, hk, rfl, rfl, HK⟩ := hrel
        by_cases hlt : k < n
        · obtain ⟨b, off, x, rfl, hbb, hx, hdr, c0, _, _, _, _⟩ := (HA.out.keep HB2.out).at_ hlt
          have hxp : pa[k]? = some x.rt := by rw [← HPA.out, List.getElem?_map, hx]; rfl
          have HXP := Lib.hid hxp
          obtain ⟨nv, hnv⟩ : ∃ v, numFrom pb x.rt.drv 0 = v := ⟨_, rfl⟩
          have hcase := num_cases pb x.rt.drv 0
          rw [hnv] at hcase
          have HNM : Hid (∀ u, Below w.heap.size w u → Calls Try.prog 40 #[.slice A2 n2 c2, .int .i64 x.rt.drv] u (fun e w' => e = .returned (.int .i64 nv) ∧ u = w')) := fun u hu => by
            have := rnumberp_any A2 n2 c2 lb x.rt.drv u ((HB.out.keep hu).more hu.size)
            rw [HPB.out, hnv] at this
            exact this
          clear hx hdr hxp hnv
          rcases hcase with ⟨h1, rfl⟩ | ⟨i, r, hi, h1, h2⟩
          · have e : res = false := by
              rw [← HRES.out]
              refine kept_no fun h => ?_
              have := h.2.2.1 _ (List.mem_of_getElem? HXP.out)
              rw [h1] at this
              cases this
            subst e
            clear h1 HK
            go_wp2_with fail
            refine (HNM.out _ HB2.out).mono ?_
            rintro e w3 ⟨rfl, rfl⟩
            go_wp2_with fail
            go_ret
            exact ⟨rfl, HB2.out⟩
          · rw [Nat.zero_add] at h2
            subst h2
            have HN : Hid (∀ j x, j < k + 1 → pa[j]? = some x → (rteOf pb x.drv).isSome = true) := fun j y hj hy => by
              by_cases e : j = k
              · subst e
                rw [HXP.out] at hy
                injection hy with hy
                rw [← hy, h1]; rfl
              · exact HK.out j y (by omega) hy
            clear h1 hi HK
            go_wp2_with fail
            refine (HNM.out _ HB2.out).mono ?_
            rintro e w3 ⟨rfl, rfl⟩
            go_wp2_with fail
            go_roundw
            case rel => exact ⟨k + 1, by omega, by go_num, by first | rfl | trivial, HN⟩
            case measure => simp [intOf]; omega
        · have HALL : Hid (∀ r ∈ pa, (rteOf pb r.drv).isSome = true) := fun r hr => by
            obtain ⟨j, hj⟩ := List.getElem?_of_mem hr
            refine HK.out j r ?_ hj
            have := (List.getElem?_eq_some_iff.1 hj).1
            rw [← HPA.out, List.length_map, HLA.out] at this
            omega
          clear HK
          go_wp2_with fail
          clear hlt hk
          go_loopw [6] (fun i wr => ∃ k : Nat, k ≤ n2 ∧ i = .int .i64 k ∧ Hid (Below w.heap.size w wr) ∧ Hid (∀ j x, j < k → pb[j]? = some x → keptR pa x)) (fun i _ => n2 - (intOf i).toNat)
          case atStart => exact ⟨0, Nat.zero_le _, rfl, HB2, Lib.hid (fun j x hj => absurd hj (by omega))⟩
          case round =>
            clear HB2
            obtain ⟨k, hk, rfl, HB3, HK⟩ := hrel
            by_cases hlt : k < n2
            case neg =>
              have e : res = true := by
                rw [← HRES.out]
                refine keptP_iff.2 ⟨R1.out, R2.out, HALL.out, fun q hq => ?_⟩
                obtain ⟨j, hj⟩ := List.getElem?_of_mem hq
                refine HK.out j q ?_ hj
                have := (List.getElem?_eq_some_iff.1 hj).1
                rw [← HPB.out, List.length_map, HLB.out] at this
                omega
              subst e
              clear HK
              go_wp2_with fail
              go_ret
              exact ⟨rfl, HB3.out⟩
            obtain ⟨b, off, x, rfl, hbb, hx, hdr, c0, c1, c2', hst, hxc⟩ := (HB.out.keep HB3.out).at_ hlt
            have HXX := Lib.hid hx
            have hxp : pb[k]? = some x.rt := by rw [← HPB.out, List.getElem?_map, hx]; rfl
            have HXP := Lib.hid hxp
            obtain ⟨sn, hsn, hsl⟩ := served_nat R2.out (List.mem_of_getElem? hxp)
            rw [hst.length] at hsl
            have HSN := Lib.hid hsn
            rw [hsn] at c1
            have HST := Lib.hid hst
            have hxm := Recs.le hst
            obtain ⟨nv, hnv⟩ : ∃ v, numFrom pa x.rt.drv 0 = v := ⟨_, rfl⟩
            have hcase := num_cases pa x.rt.drv 0
            rw [hnv] at hcase
            have HNM : Hid (∀ u, Below w.heap.size w u → Calls Try.prog 40 #[.slice A n c, .int .i64 x.rt.drv] u (fun e w' => e = .returned (.int .i64 nv) ∧ u = w')) := fun u hu => by
              have := rnumberp_any A n c la x.rt.drv u ((HA.out.keep hu).more hu.size)
              rw [HPA.out, hnv] at this
              exact this
            have HNO : Hid (¬ keptR pa x.rt → res = false) := fun h1 => by
              rw [← HRES.out]
              exact kept_no fun h => h1 (h.2.2.2 _ (List.mem_of_getElem? HXP.out))
            have HNX : Hid (keptR pa x.rt → ∀ j x, j < k + 1 → pb[j]? = some x → keptR pa x) := fun h1 j y hj hy => by
              by_cases e : j = k
              · subst e
                rw [HXP.out] at hy
                injection hy with hy
                rw [← hy]; exact h1
              · exact HK.out j y (by omega) hy
            clear hx hdr hxp hnv hsn hst HK
            rcases hcase with ⟨h1, rfl⟩ | ⟨i, r, hi, h1, h2⟩
            · by_cases h0 : sn = 0
              · have HN := Lib.hid (HNX.out ((keptR_none h1).2 (by rw [HSN.out, h0]; rfl)))
                subst h0
                clear h1 HNX HNO
                go_wp2_with fail
                refine (HNM.out _ HB3.out).mono ?_
                rintro e w3 ⟨rfl, rfl⟩
                go_wp2_with fail
                go_roundw
                case rel => exact ⟨k + 1, by omega, by go_num, HB3, HN⟩
                case measure => simp [intOf]; omega
              · have e := HNO.out (fun h => h0 (by have := (keptR_none h1).1 h; rw [HSN.out] at this; omega))
                subst e
                have e1 : ((sn : Int) != 0) = true := by simp only [bne_iff_ne, ne_eq]; omega
                clear h1 HNX HNO h0
                go_wp2_with fail
                refine (HNM.out _ HB3.out).mono ?_
                rintro e w3 ⟨rfl, rfl⟩
                go_wp2_with fail
                go_ret
                exact ⟨rfl, HB3.out⟩
            · rw [Nat.zero_add] at h2
              subst h2
              have hin : i < n := by
                have := (List.getElem?_eq_some_iff.1 hi).1
                rw [← HPA.out, List.length_map, HLA.out] at this
                exact this
              have hini : (i : Int) < (n : Int) := by omega
              obtain ⟨b3, off3, y, rfl, hbb3, hy, _, d0, d1, d2', hyt, hyc⟩ := (HA.out.keep HB3.out).at_ hin
              have HYY := Lib.hid hy
              have hyp : pa[i]? = some y.rt := by rw [← HPA.out, List.getElem?_map, hy]; rfl
              rw [hyp] at hi
              injection hi with hi
              subst hi
              obtain ⟨rn, hrn, hrl⟩ := served_nat R1.out (List.mem_of_getElem? hyp)
              rw [hyt.length] at hrl
              have HRN := Lib.hid hrn
              rw [hrn] at d1
              have HYT := Lib.hid hyt
              have hym := Recs.le hyt
              have HKI := Lib.hid (keptR_some h1)
              clear hy hyp hrn hyt h1
              go_wp2_with fail
              refine (HNM.out _ HB3.out).mono ?_
              rintro e w3 ⟨rfl, rfl⟩
              clear HNM
              by_cases hs : sn = rn
              case neg =>
                have e := HNO.out (fun h => hs (by have := (HKI.out.1 h).1; rw [HSN.out, HRN.out] at this; omega))
                subst e
                have e1 : ((sn : Int) != (rn : Int)) = true := by simp only [bne_iff_ne, ne_eq]; omega
                clear HNX HNO hs
                go_wp2_with fail
                go_quiet (fail)
                go_wp2_with fail
                go_ret
                exact ⟨rfl, below_drewN HB3.out _⟩
              subst hs
              go_wp2_with fail
              go_quiet (fail)
              go_wp2_with fail
              have HB4 : Hid (Below w.heap.size w (wr.drewN nq)) := below_drewN HB3.out _
              clear HB3 c0 c1 c2' d0 d1 d2'
              go_loopw [8] (fun jv wz => ∃ j : Nat, j ≤ sn ∧ jv = .int .i64 j ∧ Hid (Below w.heap.size w wz) ∧ Hid (x.rt.stops.take j = y.rt.stops.take j)) (fun jv _ => sn - (intOf jv).toNat)
              case atStart => exact ⟨0, Nat.zero_le _, rfl, HB4, Lib.hid rfl⟩
              case round =>
                clear HB4
                obtain ⟨j, hj, rfl, HB5, HJ⟩ := hrel
                obtain ⟨_, g0, g1, g2, gst, _, _⟩ := (HB.out.keep HB5.out).cells HXX.out
                obtain ⟨_, f0, f1, f2, fst, _, _⟩ := (HA.out.keep HB5.out).cells HYY.out
                rw [HSN.out] at g1
                clear g0 f0 f1
                by_cases hjl : j < sn
                · obtain ⟨b5, off5, s, hA5, hbb5, hs5, _, u0, u1⟩ := Stps.at_ gst (show j < x.n by omega)
                  obtain ⟨b6, off6, z, hA6, hbb6, hz6, _, z0, z1⟩ := Stps.at_ fst (show j < y.n by omega)
                  have HS5 := Lib.hid hs5
                  have HZ6 := Lib.hid hz6
                  rw [hA5] at g2
                  rw [hA6] at f2
                  clear hs5 hz6 hA5 hA6 gst fst
                  have hjx : (j : Int) < (x.n : Int) := by omega
                  have hjy : (j : Int) < (y.n : Int) := by omega
                  by_cases he : s = z
                  · have HN := Lib.hid (take_eq_next HJ.out HS5.out HZ6.out he)
                    subst he
                    clear HNX HNO HJ
                    go_wp2_with fail
                    go_quiet (fail)
                    go_wp2_with fail
                    go_roundw
                    case rel => exact ⟨j + 1, by omega, by go_num, below_drewN HB5.out _, HN⟩
                    case measure => simp [intOf]; omega
                  · have e := HNO.out (fun h => take_ne HS5.out HZ6.out hjl he (by
                      have h1 := (HKI.out.1 h).2
                      unfold doneR at h1
                      rw [HSN.out, HRN.out, Int.toNat_natCast] at h1
                      exact h1))
                    subst e
                    clear HNX HNO HJ
                    by_cases e1 : s.ord = z.ord
                    · have e2 : ¬ s.drop = z.drop := fun h => he (Stp.ext_iff'.2 ⟨e1, h⟩)
                      have e3 : (s.drop == z.drop) = false := by simpa using e2
                      rw [← e1] at z0
                      clear he e1 e2
                      go_wp2_with fail
                      go_quiet (fail)
                      go_wp2_with fail
                      go_ret
                      exact ⟨rfl, below_drewN HB5.out _⟩
                    · have e3 : (s.ord == z.ord) = false := by simpa using e1
                      clear he e1
                      go_wp2_with fail
                      go_quiet (fail)
                      go_wp2_with fail
                      go_ret
                      exact ⟨rfl, below_drewN HB5.out _⟩
                · have HN := Lib.hid (HNX.out (HKI.out.2 ⟨by rw [HSN.out, HRN.out], by
                    obtain rfl : j = sn := by omega
                    unfold doneR
                    rw [HSN.out, HRN.out, Int.toNat_natCast]
                    exact HJ.out⟩))
                  clear HNX HNO HJ gst fst
                  go_wp2_with fail
                  go_roundw
                  case rel => exact ⟨k + 1, by omega, by go_num, HB5, HN⟩
                  case measure => simp [intOf]; omega
#print axioms rkept_any
end Go.Proofs.Ytjklpdeeohhhnaa.Audit
