/-
  RouteRefs, RouteDrv: one text.
-/
import Derived.Test.YtkpnmpjnpcjohaaGreatWords
import Derived.Test.YtkpnmpjnpcjohaaGreatDealRs
import Derived.Test.YtkpnmpjnpcjohaaGreatMaths
import Derived.Test.YtkpnmpjnpcjohaaGreatLibRows
import Derived.Deep.RegionLaw
import Derived.Deep.RegionHeld3
import Derived.Deep.DeepCutAuto
namespace Go.Proofs.YtkpnmpjnpcjohaaGreat.Route
open Go.ChangeShapes Go.WideShapes Go.ChangeAt Go.RowKit Mem GeoMath FleetMath Rec Geo Span Deal
def findI (os : List FleetMath.Ord) (id : Int) : Option Nat := os.findIdx? fun o => decide (o.id = id)
theorem find_findI (os : List FleetMath.Ord) (id : Int) : find os id = (findI os id).bind (os[·]?) := by
  unfold find findI
  induction os with
  | nil => rfl
  | cons o r ih =>
    rw [List.find?_cons, List.findIdx?_cons]
    by_cases h : o.id = id
    · simp [h]
    · simp only [h, decide_false, ih]
      cases hf : List.findIdx? (fun o => decide (o.id = id)) r with
      | none => simp
      | some i => simp
theorem findI_some {os : List FleetMath.Ord} {id : Int} {i : Nat} (h : findI os id = some i) : ∃ o, os[i]? = some o ∧ o.id = id ∧ find os id = some o := by
  have hf := find_findI os id
  rw [h] at hf
  obtain ⟨hlt, hp, _⟩ := List.findIdx?_eq_some_iff_getElem.1 h
  have e := List.getElem?_eq_getElem hlt
  exact ⟨os[i], e, by simpa using hp, by rw [hf]; exact e⟩
theorem findI_none {os : List FleetMath.Ord} {id : Int} (h : findI os id = none) : find os id = none := by rw [find_findI, h]; rfl
theorem findI_at {os : List FleetMath.Ord} {id : Int} {k : Nat} {o : FleetMath.Ord} (h : ∀ j p, j < k → os[j]? = some p → p.id ≠ id) (ho : os[k]? = some o) (he : o.id = id) : findI os id = some k := by
  obtain ⟨hlt, hk⟩ := List.getElem?_eq_some_iff.1 ho
  refine List.findIdx?_eq_some_iff_getElem.2 ⟨hlt, by rw [hk]; simpa using he, fun j hj => ?_⟩
  have := h j _ hj (List.getElem?_eq_getElem (by omega))
  simpa using this
theorem findI_no {os : List FleetMath.Ord} {id : Int} (h : ∀ j p, j < os.length → os[j]? = some p → p.id ≠ id) : findI os id = none := by
  refine List.findIdx?_eq_none_iff.2 fun o ho => ?_
  obtain ⟨j, hj⟩ := List.getElem?_of_mem ho
  have := h j o (List.getElem?_eq_some_iff.1 hj).1 hj
  simpa using this
theorem mem_front {l : List Stp} {k : Nat} {x s : Stp} (hx : l[k]? = some x) (hne : x ≠ s) (h : s ∉ l.take k) : s ∉ l.take (k + 1) := by
  rw [List.take_add_one, hx]
  simp only [Option.toList_some, List.mem_append, List.mem_singleton, not_or]
  exact ⟨h, fun e => hne e.symm⟩
end Go.Proofs.YtkpnmpjnpcjohaaGreat.Route

namespace Go.Proofs.YtkpnmpjnpcjohaaGreat.Route
open Go.ChangeShapes Go.WideShapes Go.ChangeAt Go.RowKit Mem GeoMath FleetMath Rec Geo Span Deal
abbrev faultV (k : Nat) (e : Int) : Value := .agg #[.int .i64 k, .int .i64 e]
def DriveOk (w : World) (r : List Vis × Nat × Int) (e : Ending) (w' : World) : Prop :=
  Below w.heap.size w w' ∧ ∃ v, e = .returned (.tuple #[v, faultV r.2.1 r.2.2]) ∧ OwnK w' w.heap.size 245 6 v r.1.length (vissV r.1)
theorem stps_front {w : World} {B n k : Nat} {A : Option Addr} {l : List Stp} (h : Stps w B A n l) (hk : k ≤ n) : Stps w B A k (l.take k) := by
  have hl := h.length
  refine ⟨by rw [stpsV_len, List.length_take]; omega, by have := h.2.1; omega, fun hp => ?_⟩
  obtain ⟨b, off, e, hb, hc⟩ := h.2.2 (by omega)
  refine ⟨b, off, e, hb, fun j u hu => hc j u ?_⟩
  have e2 : stpsV l = stpsV (l.take k) ++ stpsV (l.drop k) := by rw [← stpsV_append, List.take_append_drop]
  rw [e2, List.getElem?_append_left (List.getElem?_eq_some_iff.1 hu).1]
  exact hu
abbrev DX (w : World) (d : Drv) : World := (w.alloc (.cells #[.int .i64 d.id, .int .i64 d.room, .int .i64 d.home, .int .i64 d.win.fr, .int .i64 d.win.to, .bool d.retired] 33)).alloc (.cells #[.int .i64 0, .int .i64 0] 108)
theorem map_ptr {u : World} {t : TypeId} {base : Nat} {q : Option Addr} {n : Nat} {l : List Int} (h : MapP u t base (.pointer q) (some ⟨n, l⟩)) : ∃ b, q = some ⟨b, 0, none⟩ := by
  rcases h with ⟨_, h⟩ | ⟨b, _, _, h, _⟩
  · cases h
  · injection h with h; exact ⟨b, h⟩
theorem map_at {u : World} {t : TypeId} {base b n : Nat} {l : List Int} (h : MapP u t base (.pointer (some ⟨b, 0, none⟩)) (some ⟨n, l⟩)) : MapAt u t base b n l ∧ n ≤ 12 ∧ IsMap n l := by
  rcases h with ⟨_, h⟩ | ⟨b', n', l', h1, h2, h3, _, h5, h6⟩
  · cases h
  · injection h1 with h1
    injection h1 with h1
    injection h1 with h1
    injection h2 with h2
    injection h2 with h2 h2'
    subst h1; subst h2; subst h2'
    exact ⟨h3, h5, h6⟩
theorem visV_snoc (vs : List Vis) (x : Vis) : vissV (vs ++ [x]) = vissV vs ++ [.int .i64 x.stop.ord, .bool x.stop.drop, .int .i64 x.arrive, .int .i64 x.start, .int .i64 x.leave, .int .i64 x.load] := by
  rw [vissV_append]; rfl
theorem drive_fault {w u : World} {r : List Vis × Nat × Int} {k : Nat} {e : Int} (h : r = ([], k, e)) (hb : Below w.heap.size w u) : DriveOk w r (.returned (.tuple #[.slice none 0 0, faultV k e])) u := by
  subst h
  exact ⟨hb, _, rfl, OwnK.nil _ _ _ _⟩
end Go.Proofs.YtkpnmpjnpcjohaaGreat.Route
