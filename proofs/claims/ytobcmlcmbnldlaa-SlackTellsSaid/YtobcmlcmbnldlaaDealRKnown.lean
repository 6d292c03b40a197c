/-
  The document's own answer to chapter 6, walked: Known.
-/
import Derived.Test.YtobcmlcmbnldlaaDealRefs
import Derived.Test.YtobcmlcmbnldlaaMaths
namespace Go.Proofs.Ytobcmlcmbnldlaa.Deal
open Go.ChangeShapes Go.WideShapes Go.ChangeAt Go.RowKit Go.Proofs.Ytobcmlcmbnldlaa.Mem Go.Proofs.Ytobcmlcmbnldlaa.GeoMath Go.Proofs.Ytobcmlcmbnldlaa.FleetMath Go.Proofs.Ytobcmlcmbnldlaa.Rec Go.Proofs.Ytobcmlcmbnldlaa.Geo Go.Proofs.Ytobcmlcmbnldlaa.Span

/-- the first k orders are right, with different numbers -/
def KnownTo (m : Option Mp) (os : List FleetMath.Ord) (k : Nat) : Prop := (∀ o ∈ os.take k, ordE m o = 0) ∧ Dist (os.take k)
theorem KnownTo.next {m : Option Mp} {os : List FleetMath.Ord} {k : Nat} {o : FleetMath.Ord} (h : KnownTo m os k) (ho : os[k]? = some o) (h0 : ordE m o = 0) (hd : ∀ j p, j < k → os[j]? = some p → p.id ≠ o.id) : KnownTo m os (k + 1) := by
  unfold KnownTo
  rw [List.take_add_one, ho]
  refine ⟨fun x hx => ?_, ?_⟩
  · rcases List.mem_append.1 hx with hx | hx
    · exact h.1 x hx
    · simp at hx; rw [hx]; exact h0
  · refine List.pairwise_append.2 ⟨h.2, by simp, fun x hx y hy => ?_⟩
    simp at hy
    subst hy
    obtain ⟨j, hj⟩ := List.getElem?_of_mem hx
    rw [List.getElem?_take] at hj
    split at hj
    · rename_i hlt; exact hd j x hlt hj
    · cases hj
theorem KnownTo.all {m : Option Mp} {os : List FleetMath.Ord} (h : KnownTo m os os.length) (hl : os.length ≤ 40) : known m os = true := by
  unfold KnownTo at h
  rw [List.take_length] at h
  exact known_iff.2 ⟨hl, h.1, h.2⟩
theorem known_wrong {m : Option Mp} {os : List FleetMath.Ord} {k : Nat} {o : FleetMath.Ord} (ho : os[k]? = some o) (h0 : ordE m o ≠ 0) : known m os = false := by
  cases h : known m os
  · rfl
  · exact absurd ((known_iff.1 h).2.1 o (List.mem_of_getElem? ho)) h0
theorem known_twice {m : Option Mp} {os : List FleetMath.Ord} {j k : Nat} {o p : FleetMath.Ord} (hjk : j < k) (hp : os[j]? = some p) (ho : os[k]? = some o) (he : p.id = o.id) : known m os = false := by
  cases h : known m os
  · rfl
  · have hd := (known_iff.1 h).2.2
    have hlj := (List.getElem?_eq_some_iff.1 hp).1
    have hlk := (List.getElem?_eq_some_iff.1 ho).1
    have := List.pairwise_iff_getElem.1 hd j k hlj hlk hjk
    rw [(List.getElem?_eq_some_iff.1 hp).2, (List.getElem?_eq_some_iff.1 ho).2] at this
    exact absurd he this
theorem rorder_val (base : Nat) (pv : Value) (m : Option Mp) (o : FleetMath.Ord) (v : Int) (w : World) (h : MapP w 106 base pv m) (hv : ordE m o = v) :
    Calls Try.prog 64 #[pv, ordV o] w (Gives w (.int .i64 v)) := by rw [← hv]; exact rorder_any base pv m o w h

set_option maxRecDepth 100000 in
set_option maxHeartbeats 4000000 in
theorem rknown_any (base : Nat) (pv : Value) (m : Option Mp) (A : Option Addr) (n c : Nat) (os : List FleetMath.Ord) (w : World) (h : MapP w 106 base pv m) (hl : Ords w w.heap.size A n os) :
    Calls Try.prog 50 #[pv, .slice A n c] w (Gives w (.bool (known m os))) := by
  have hm := Recs.le hl
  have HI := Lib.hid hl
  have HL := Lib.hid hl.length
  have HP := Lib.hid h
  obtain ⟨q, hq⟩ : ∃ q, pv = .pointer q := by
    rcases h with ⟨rfl, _⟩ | ⟨b, _, _, rfl, _⟩
    · exact ⟨_, rfl⟩
    · exact ⟨_, rfl⟩
  subst hq
  clear hl h
  by_cases h40 : 40 < n
  · have HN : Hid (known m os = false) := by
      cases hk : known m os
      · exact rfl
      · have := (known_iff.1 hk).1; have := HL.out; omega
    go_enter Try.func50, Try.ntmps50
    go_wp2
    go_ret
    exact gives_bool HN.out.symm (Below.refl _ _)
  · go_enter Try.func50, Try.ntmps50
    go_wp2
    go_loopw [5] (fun i wr => ∃ k : Nat, k ≤ n ∧ i = .int .i64 k ∧ Hid (Below w.heap.size w wr) ∧ Hid (KnownTo m os k)) (fun i _ => n - (intOf i).toNat)
    case atStart => exact ⟨0, Nat.zero_le _, rfl, Below.refl _ _, by simp, by simp [Dist]⟩
    case round =>
      obtain ⟨k, hk, rfl, HB, HK⟩ := hrel
      by_cases hlt : k < n
      · obtain ⟨b, off, o, rfl, hb, ho, _, c0, c1, c2, c3, c4, c5, c6, c7, c8, c9⟩ := Ords.at_ (Recs.keep HI.out HB.out) hlt
        obtain ⟨v, hv⟩ : ∃ v, ordE m o = v := ⟨_, rfl⟩
        have HV := Lib.hid hv
        have HO := Lib.hid ho
        have hbw : b < wr.heap.size := Nat.lt_of_lt_of_le hb HB.out.size
        clear hv ho
        go_wp2_with fail
        refine (rorder_val base _ m o v _ (by
          rcases HP.out with h | ⟨b', n', l', h1, h2, h3, h4⟩
          · exact .inl h
          · exact .inr ⟨b', n', l', h1, h2, h3.keep HB.out (Nat.le_refl _), h4⟩) HV.out).mono ?_
        rintro e w1 ⟨rfl, hb1⟩
        have HB1 : Hid (Below w.heap.size w w1) := HB.out.trans (hb1.mono HB.out.size)
        clear hb1 c0 c1 c2 c3 c4 c5 c6 c7 c8 c9
        by_cases hv0 : v = 0
        · subst hv0
          go_wp2_with fail
          go_loopw [6] (fun i wi => ∃ (j d : Nat), j ≤ k ∧ i = .int .i64 j ∧ wi = w1.drewN d ∧ Hid (∀ t p, t < j → os[t]? = some p → p.id ≠ o.id)) (fun i _ => k - (intOf i).toNat)
          case atStart => exact ⟨0, 0, Nat.zero_le _, rfl, rfl, fun t p ht => absurd ht (by omega)⟩
          case round =>
            obtain ⟨j, d, hj, rfl, rfl, HJ⟩ := hrel
            by_cases hlt2 : j < k
            · obtain ⟨b2, off2, p, e2, _, hp, _, e0, _⟩ := Ords.at_ (Recs.keep HI.out HB1.out) (show j < n by omega)
              obtain ⟨b3, off3, o3, e3, _, ho3, _, f0, _⟩ := Ords.at_ (Recs.keep HI.out HB1.out) hlt
              injection e2 with e2; injection e2 with e2 e2'
              injection e3 with e3; injection e3 with e3 e3'
              subst e2; subst e2'; subst e3; subst e3'
              rw [HO.out] at ho3
              injection ho3 with ho3
              subst ho3
              have HP2 := Lib.hid hp
              have hjn : (j : Int) < (n : Int) := by omega
              clear hp
              by_cases hid : p.id = o.id
              · have HN : Hid (known m os = false) := known_twice hlt2 HP2.out HO.out hid
                obtain ⟨x, hx⟩ : ∃ x, p.id = x := ⟨_, rfl⟩
                rw [hx] at hid e0
                rw [← hid] at f0
                clear hx hid
                go_wp2
                go_quiet (fail)
                go_wp2
                go_ret
                exact gives_bool HN.out.symm (below_drewN (below_drewN HB1.out _) _)
              · have HJ2 : Hid (∀ t p, t < j + 1 → os[t]? = some p → p.id ≠ o.id) := fun t p' ht hp' => by
                  by_cases htj : t = j
                  · subst htj
                    rw [HP2.out] at hp'
                    injection hp' with hp'
                    rw [← hp']; exact hid
                  · exact HJ.out t p' (by omega) hp'
                obtain ⟨n1, n2⟩ : (p.id == o.id) = false ∧ (p.id != o.id) = true := by simp [hid]
                go_wp2
                go_quiet (fail)
                go_wp2
                go_roundw
                case rel => exact ⟨j + 1, _, by omega, by go_num, rfl, HJ2⟩
                case measure => simp [intOf]; omega
            · have HN : Hid (KnownTo m os (k + 1)) := HK.out.next HO.out HV.out fun t p ht hp => HJ.out t p (by omega) hp
              go_wp2
              go_roundw
              case rel => exact ⟨k + 1, by omega, by go_num, below_drewN HB1.out _, HN⟩
              case measure => simp [intOf]; omega
        · have HN : Hid (known m os = false) := known_wrong HO.out (by rw [HV.out]; exact hv0)
          obtain ⟨n1, n2⟩ : (v == 0) = false ∧ (v != 0) = true := by simp [hv0]
          clear hv0
          go_wp2_with fail
          go_ret
          exact gives_bool HN.out.symm HB1.out
      · have HN : Hid (known m os = true) := by
          have e : k = os.length := by have := HL.out; omega
          have := HK.out
          rw [e] at this
          exact this.all (by have := HL.out; omega)
        go_wp2
        go_ret
        exact gives_bool HN.out.symm HB.out

#print axioms rknown_any
end Go.Proofs.Ytobcmlcmbnldlaa.Deal
