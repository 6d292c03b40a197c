/-
  The program's deal.listed, walked.
-/
import Derived.Test.YtjkahookgoecpaaDealPSmall
import Derived.Test.YtjkahookgoecpaaDealRKnown
namespace Go.Proofs.Ytjkahookgoecpaa.Deal
open Go.ChangeShapes Go.WideShapes Go.ChangeAt Go.RowKit Go.Proofs.Ytjkahookgoecpaa.Mem Go.Proofs.Ytjkahookgoecpaa.GeoMath Go.Proofs.Ytjkahookgoecpaa.FleetMath Go.Proofs.Ytjkahookgoecpaa.Rec Go.Proofs.Ytjkahookgoecpaa.Geo Go.Proofs.Ytjkahookgoecpaa.Span

/-- has an order of the list this number? -/
def listedB (os : List FleetMath.Ord) (id : Int) : Bool := os.any fun p => decide (p.id = id)
theorem listedB_true {os : List FleetMath.Ord} {id : Int} {k : Nat} {o : FleetMath.Ord} (h : os[k]? = some o) (he : o.id = id) : listedB os id = true := by
  unfold listedB; rw [List.any_eq_true]; exact ⟨o, List.mem_of_getElem? h, by simpa using he⟩
theorem listedB_false {os : List FleetMath.Ord} {id : Int} (h : ∀ k p, k < os.length → os[k]? = some p → p.id ≠ id) : listedB os id = false := by
  unfold listedB; rw [List.any_eq_false]
  intro p hp
  obtain ⟨k, hk⟩ := List.getElem?_of_mem hp
  simpa using h k p (List.getElem?_eq_some_iff.1 hk).1 hk
set_option maxRecDepth 100000 in
set_option maxHeartbeats 4000000 in
theorem plisted_any (A : Option Addr) (n c : Nat) (os : List FleetMath.Ord) (id : Int) (w : World) (hl : Ords w w.heap.size A n os) :
    Calls Try.prog 46 #[.slice A n c, .int .i64 id] w (Gives w (.bool (listedB os id))) := by
  have hm := Recs.le hl
  have HI := Lib.hid hl
  have HL := Lib.hid hl.length
  clear hl
  go_enter Try.func46, Try.ntmps46
  go_wp2
  go_loopw [9] (fun i wr => ∃ k : Nat, k ≤ n ∧ i = .int .i64 k ∧ Hid (Below w.heap.size w wr) ∧ Hid (∀ t p, t < k → os[t]? = some p → p.id ≠ id)) (fun i _ => n - (intOf i).toNat)
  case atStart => exact ⟨0, Nat.zero_le _, rfl, Below.refl _ _, fun t p ht => absurd ht (by omega)⟩
  case round =>
    obtain ⟨k, hk, rfl, HB, HK⟩ := hrel
    by_cases hlt : k < n
    · obtain ⟨b, off, o, rfl, hb, ho, _, c0, c1, c2, c3, c4, c5, c6, c7, c8, c9⟩ := Ords.at_ (Recs.keep HI.out HB.out) hlt
      have HO := Lib.hid ho
      clear ho
      by_cases hid : o.id = id
      · have HN := Lib.hid (listedB_true HO.out hid)
        subst hid
        go_wp2
        go_ret
        exact gives_bool HN.out.symm (HB.out.alloc HB.out.size _)
      · have HK2 : Hid (∀ t p, t < k + 1 → os[t]? = some p → p.id ≠ id) := fun t p' ht hp' => by
          by_cases htj : t = k
          · subst htj
            rw [HO.out] at hp'
            injection hp' with hp'
            rw [← hp']; exact hid
          · exact HK.out t p' (by omega) hp'
        obtain ⟨n1, n2⟩ : (o.id == id) = false ∧ (o.id != id) = true := by simp [hid]
        go_wp2
        go_roundw
        case rel => exact ⟨k + 1, by omega, by go_num, HB.out.alloc HB.out.size _, HK2⟩
        case measure => simp [intOf]; omega
    · have HN : Hid (listedB os id = false) := listedB_false fun t p ht hp => HK.out t p (by have := HL.out; omega) hp
      go_wp2
      go_ret
      exact gives_bool HN.out.symm HB.out

#print axioms plisted_any
end Go.Proofs.Ytjkahookgoecpaa.Deal
