/-
  The document's own answer to chapter 7, walked: Find, Site.
-/
import Derived.Test.YtjklpdeeohhhnaaWords
import Derived.Test.YtjklpdeeohhhnaaDealRs
namespace Go.Proofs.Ytjklpdeeohhhnaa.Route
open Go.ChangeShapes Go.WideShapes Go.ChangeAt Go.RowKit Go.Proofs.Ytjklpdeeohhhnaa.Mem Go.Proofs.Ytjklpdeeohhhnaa.GeoMath Go.Proofs.Ytjklpdeeohhhnaa.FleetMath Go.Proofs.Ytjklpdeeohhhnaa.Rec Go.Proofs.Ytjklpdeeohhhnaa.Geo Go.Proofs.Ytjklpdeeohhhnaa.Span Go.Proofs.Ytjklpdeeohhhnaa.Deal

/-- the number of an order in a list -/
def findI (os : List FleetMath.Ord) (id : Int) : Option Nat := os.findIdx? fun o => decide (o.id = id)
theorem find_findI (os : List FleetMath.Ord) (id : Int) : find os id = (findI os id).bind (os[·]?) := by
  unfold find findI
  induction os with
  | nil => rfl
  | cons o r ih =>
    rw [List.find?_cons, List.findIdx?_cons]
    by_cases h : o.id = id
    · simp [h]
    · simp only [h, decide_false, ih]
      cases hf : List.findIdx? (fun o => decide (o.id = id)) r with
      | none => simp
      | some i => simp
theorem findI_some {os : List FleetMath.Ord} {id : Int} {i : Nat} (h : findI os id = some i) : ∃ o, os[i]? = some o ∧ o.id = id ∧ find os id = some o := by
  have hf := find_findI os id
  rw [h] at hf
  obtain ⟨hlt, hp, _⟩ := List.findIdx?_eq_some_iff_getElem.1 h
  have e := List.getElem?_eq_getElem hlt
  exact ⟨os[i], e, by simpa using hp, by rw [hf]; exact e⟩
theorem findI_none {os : List FleetMath.Ord} {id : Int} (h : findI os id = none) : find os id = none := by rw [find_findI, h]; rfl
theorem findI_at {os : List FleetMath.Ord} {id : Int} {k : Nat} {o : FleetMath.Ord} (h : ∀ j p, j < k → os[j]? = some p → p.id ≠ id) (ho : os[k]? = some o) (he : o.id = id) : findI os id = some k := by
  obtain ⟨hlt, hk⟩ := List.getElem?_eq_some_iff.1 ho
  refine List.findIdx?_eq_some_iff_getElem.2 ⟨hlt, by rw [hk]; simpa using he, fun j hj => ?_⟩
  have := h j _ hj (List.getElem?_eq_getElem (by omega))
  simpa using this
theorem findI_no {os : List FleetMath.Ord} {id : Int} (h : ∀ j p, j < os.length → os[j]? = some p → p.id ≠ id) : findI os id = none := by
  refine List.findIdx?_eq_none_iff.2 fun o ho => ?_
  obtain ⟨j, hj⟩ := List.getElem?_of_mem ho
  have := h j o (List.getElem?_eq_some_iff.1 hj).1 hj
  simpa using this
theorem find_idx {os : List FleetMath.Ord} {id : Int} {o : FleetMath.Ord} (h : find os id = some o) : ∃ i, findI os id = some i ∧ os[i]? = some o := by
  rw [find_findI] at h
  cases hf : findI os id with
  | none => rw [hf] at h; cases h
  | some i => rw [hf] at h; exact ⟨i, rfl, h⟩
def idxV : Option Nat → Int
  | none => -1
  | some i => (i : Int)

set_option maxRecDepth 100000 in
set_option maxHeartbeats 1000000 in
theorem rfind_any (A : Option Addr) (n c : Nat) (os : List FleetMath.Ord) (id : Int) (w : World) (B : Nat) (hl : Ords w B A n os) :
    Calls Try.prog 64 #[.slice A n c, .int .i64 id] w fun e w' => e = .returned (.int .i64 (idxV (findI os id))) ∧ w = w' := by
  have hm := Recs.le hl
  have HI := Lib.hid hl
  have HL := Lib.hid hl.length
  clear hl
  go_enter Try.func64, Try.ntmps64
  go_wp2
  go_loop [5] (fun i => ∃ k : Nat, k ≤ n ∧ i = .int .i64 k ∧ Hid (∀ j p, j < k → os[j]? = some p → p.id ≠ id)) (fun i => n - (intOf i).toNat)
  case atStart => exact ⟨0, Nat.zero_le _, rfl, fun j p hj => absurd hj (by omega)⟩
  case round =>
    obtain ⟨k, hk, rfl, HK⟩ := hrel
    by_cases hlt : k < n
    · obtain ⟨b, off, o, rfl, _, ho, _, c0, _⟩ := Ords.at_ HI.out hlt
      have HO := Lib.hid ho
      clear ho
      by_cases he : o.id = id
      · have HF : Hid (findI os id = some k) := findI_at HK.out HO.out he
        have e1 : (o.id == id) = true := by simpa using he
        clear he HK
        go_wp2
        go_ret
        exact ⟨ret_i (by rw [HF.out]; rfl), rfl⟩
      · have HN : Hid (∀ j p, j < k + 1 → os[j]? = some p → p.id ≠ id) := fun j p hj hp => by
          by_cases e : j = k
          · subst e
            have := HO.out
            rw [this] at hp
            injection hp with hp
            rw [← hp]
            exact he
          · exact HK.out j p (by omega) hp
        have e1 : (o.id == id) = false := by simpa using he
        clear he HK
        go_wp2
        go_round
        case rel => exact ⟨k + 1, by omega, by go_num, HN⟩
        case measure => simp [intOf]; omega
    · have HF : Hid (findI os id = none) := findI_no fun j p hj hp => HK.out j p (by have := HL.out; omega) hp
      clear HK
      go_wp2
      go_ret
      exact ⟨ret_i (by rw [HF.out]; rfl), rfl⟩

theorem mem_front {l : List Stp} {k : Nat} {x s : Stp} (hx : l[k]? = some x) (hne : x ≠ s) (h : s ∉ l.take k) : s ∉ l.take (k + 1) := by
  rw [List.take_add_one, hx]
  simp only [Option.toList_some, List.mem_append, List.mem_singleton, not_or]
  exact ⟨h, fun e => hne e.symm⟩
theorem stp_ne {x s : Stp} (h : ¬ (x.ord = s.ord ∧ x.drop = s.drop)) : x ≠ s := fun e => h (by rw [e]; exact ⟨rfl, rfl⟩)

theorem rsite_any (o : FleetMath.Ord) (s : Stp) (w : World) : Calls Try.prog 66 #[ordV o, stpV s] w (Gives w (siteV (siteOf o s))) := by
  obtain ⟨so, sd⟩ := s
  cases sd with
  | true =>
    go_enter Try.func66, Try.ntmps66
    go_wp2
    refine bodyPost_ret (v := siteV o.drop) ?_ rfl ⟨rfl, ?_⟩
    · simp [results, Try.results66, go_sem]
    · exact (((Below.refl _ _).alloc (Nat.le_refl _) _).alloc (by simp) _).alloc (by simp; omega) _
  | false =>
    go_enter Try.func66, Try.ntmps66
    go_wp2
    refine bodyPost_ret (v := siteV o.pick) ?_ rfl ⟨rfl, ?_⟩
    · simp [results, Try.results66, go_sem]
    · exact (((Below.refl _ _).alloc (Nat.le_refl _) _).alloc (by simp) _).alloc (by simp; omega) _

#print axioms rsite_any
end Go.Proofs.Ytjklpdeeohhhnaa.Route
