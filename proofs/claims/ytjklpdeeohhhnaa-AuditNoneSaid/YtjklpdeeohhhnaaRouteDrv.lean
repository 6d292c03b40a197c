/-
  What the walks of Drive share: the fault, what stays. Of the document's functions Driver and Known.
-/
import Derived.Test.YtjklpdeeohhhnaaRouteRefs
import Derived.Test.YtjklpdeeohhhnaaMaths
import Derived.Test.YtjklpdeeohhhnaaWords
import Derived.Test.YtjklpdeeohhhnaaLibRows
import Derived.Test.YtjklpdeeohhhnaaDealRs
import Derived.Deep.RegionLaw
import Derived.Deep.RegionHeld3
import Derived.Deep.DeepCutAuto
namespace Go.Proofs.Ytjklpdeeohhhnaa.Route
open Go.ChangeShapes Go.WideShapes Go.ChangeAt Go.RowKit Go.Proofs.Ytjklpdeeohhhnaa.Mem Go.Proofs.Ytjklpdeeohhhnaa.GeoMath Go.Proofs.Ytjklpdeeohhhnaa.FleetMath Go.Proofs.Ytjklpdeeohhhnaa.Rec Go.Proofs.Ytjklpdeeohhhnaa.Geo Go.Proofs.Ytjklpdeeohhhnaa.Span Go.Proofs.Ytjklpdeeohhhnaa.Deal

abbrev faultV (k : Nat) (e : Int) : Value := .agg #[.int .i64 k, .int .i64 e]
/-- what Drive leaves: the visits in new memory, the fault -/
def DriveOk (w : World) (r : List Vis × Nat × Int) (e : Ending) (w' : World) : Prop :=
  Below w.heap.size w w' ∧ ∃ v, e = .returned (.tuple #[v, faultV r.2.1 r.2.2]) ∧ OwnK w' w.heap.size 133 6 v r.1.length (vissV r.1)
theorem stps_front {w : World} {B n k : Nat} {A : Option Addr} {l : List Stp} (h : Stps w B A n l) (hk : k ≤ n) : Stps w B A k (l.take k) := by
  have hl := h.length
  refine ⟨by rw [stpsV_len, List.length_take]; omega, by have := h.2.1; omega, fun hp => ?_⟩
  obtain ⟨b, off, e, hb, hc⟩ := h.2.2 (by omega)
  refine ⟨b, off, e, hb, fun j u hu => hc j u ?_⟩
  have e2 : stpsV l = stpsV (l.take k) ++ stpsV (l.drop k) := by rw [← stpsV_append, List.take_append_drop]
  rw [e2, List.getElem?_append_left (List.getElem?_eq_some_iff.1 hu).1]
  exact hu
theorem rdriver_v (base : Nat) (pv : Value) (m : Option Mp) (d : Drv) (v : Int) (w : World) (h : MapP w 120 base pv m) (hv : drvE m d = v) :
    Calls Try.prog 63 #[pv, drvV d] w (Gives w (.int .i64 v)) := by rw [← hv]; exact rdriver_any base pv m d w h
theorem rknown_v (base : Nat) (pv : Value) (m : Option Mp) (A : Option Addr) (n c : Nat) (os : List FleetMath.Ord) (b : Bool) (w : World) (h : MapP w 120 base pv m) (hl : Ords w w.heap.size A n os) (hb : known m os = b) :
    Calls Try.prog 62 #[pv, .slice A n c] w (Gives w (.bool b)) := by rw [← hb]; exact rknown_any base pv m A n c os w h hl
/-- the world that Drive begins with: the driver and the fault boxed -/
abbrev DX (w : World) (d : Drv) : World := (w.alloc (.cells #[.int .i64 d.id, .int .i64 d.room, .int .i64 d.home, .int .i64 d.win.fr, .int .i64 d.win.to, .bool d.retired] 33)).alloc (.cells #[.int .i64 0, .int .i64 0] 63)
/-- all that Drive reads stays, as long as nothing of what was there turns -/
structure Stay (w X : World) (base : Nat) (pv : Value) (m : Option Mp) (d : Drv) (A : Option Addr) (n : Nat) (os : List FleetMath.Ord) (A' : Option Addr) (n' : Nat) (stops : List Stp) (u : World) : Prop where
  below : Below X.heap.size X u
  old : Below w.heap.size w u
  drv : DBox u w.heap.size d
  flt : Blk u (w.heap.size + 1) 63 [.int .i64 0, .int .i64 0]
  size : X.heap.size = w.heap.size + 2
  map0 : MapP w 120 base pv m
  os0 : Ords w w.heap.size A n os
  stops0 : Stps w w.heap.size A' n' stops
section
variable {w X : World} {base : Nat} {pv : Value} {m : Option Mp} {d : Drv} {A : Option Addr} {n : Nat} {os : List FleetMath.Ord} {A' : Option Addr} {n' : Nat} {stops : List Stp} {u u' : World}
theorem Stay.map (h : Stay w X base pv m d A n os A' n' stops u) : MapP u 120 base pv m := h.map0.keep h.old
theorem Stay.ords (h : Stay w X base pv m d A n os A' n' stops u) : Ords u u.heap.size A n os := Recs.more (Recs.keep h.os0 h.old) h.old.size
theorem Stay.stps (h : Stay w X base pv m d A n os A' n' stops u) : Stps u u.heap.size A' n' stops := Recs.more (Recs.keep h.stops0 h.old) h.old.size
theorem Stay.next (h : Stay w X base pv m d A n os A' n' stops u) (hb : Below u.heap.size u u') : Stay w X base pv m d A n os A' n' stops u' :=
  ⟨h.below.trans (hb.mono h.below.size), h.old.trans (hb.mono h.old.size), h.drv.below hb, h.flt.below hb h.flt.lt, h.size, h.map0, h.os0, h.stops0⟩
theorem Stay.grow {v : Value} {k q : Nat} {e : TypeId} {vs : List Value} (h : Stay w X base pv m d A n os A' n' stops u) (ho : OwnK u X.heap.size e k v q vs) (hg : u.grownBy u' v.ownBlock) : Stay w X base pv m d A n os A' n' stops u' := by
  have hs := h.size
  have hm : Below X.heap.size u u' := OwnK.below (Below.refl X.heap.size u) ho hg h.below.size (Nat.le_refl _)
  exact ⟨ho.below h.below hg h.below.size (Nat.le_refl _), ho.below h.old hg h.old.size (by omega), (hm.block _ (by omega)).trans h.drv, (hm.block _ (by omega)).trans h.flt, hs, h.map0, h.os0, h.stops0⟩
theorem Stay.drew (h : Stay w X base pv m d A n os A' n' stops u) : Stay w X base pv m d A n os A' n' stops u.drew := h.next (Below.refl _ _).drew
theorem Stay.drewN (h : Stay w X base pv m d A n os A' n' stops u) (k : Nat) : Stay w X base pv m d A n os A' n' stops (u.drewN k) := h.next (below_drewN (Below.refl _ _) k)
theorem Stay.alloc (h : Stay w X base pv m d A n os A' n' stops u) (o : Obj) : Stay w X base pv m d A n os A' n' stops (u.alloc o) := h.next ((Below.refl _ _).alloc (Nat.le_refl _) _)
/-- the fault, written at the return -/
theorem Stay.put (h : Stay w X base pv m d A n os A' n' stops u) (a b : Int) :
    (u.cell? ⟨w.heap.size + 1, 0, none⟩ = some (.int .i64 0) ∧ u.frozen? ⟨w.heap.size + 1, 0, none⟩ = false) ∧
    ((u.setCell ⟨w.heap.size + 1, 0, none⟩ (.int .i64 a)).cell? ⟨w.heap.size + 1, 1, none⟩ = some (.int .i64 0) ∧ (u.setCell ⟨w.heap.size + 1, 0, none⟩ (.int .i64 a)).frozen? ⟨w.heap.size + 1, 1, none⟩ = false) ∧
    (((u.setCell ⟨w.heap.size + 1, 0, none⟩ (.int .i64 a)).setCell ⟨w.heap.size + 1, 1, none⟩ (.int .i64 b)).cell? ⟨w.heap.size + 1, 0, none⟩ = some (.int .i64 a) ∧ ((u.setCell ⟨w.heap.size + 1, 0, none⟩ (.int .i64 a)).setCell ⟨w.heap.size + 1, 1, none⟩ (.int .i64 b)).cell? ⟨w.heap.size + 1, 1, none⟩ = some (.int .i64 b)) ∧
    Below w.heap.size w ((u.setCell ⟨w.heap.size + 1, 0, none⟩ (.int .i64 a)).setCell ⟨w.heap.size + 1, 1, none⟩ (.int .i64 b)) := by
  have f1 := h.flt.put 0 (.int .i64 a)
  have f2 := f1.put 1 (.int .i64 b)
  exact ⟨⟨h.flt.cell rfl, h.flt.free 0⟩, ⟨f1.cell rfl, f1.free 1⟩, ⟨f2.cell rfl, f2.cell rfl⟩, (h.old.setCell (Nat.le_succ _) _).setCell (Nat.le_succ _) _⟩
theorem Stay.own {k q : Nat} {e : TypeId} {v : Value} {vs : List Value} (h : Stay w X base pv m d A n os A' n' stops u) (ho : OwnK u X.heap.size e k v q vs) (a b : Value) :
    OwnK ((u.setCell ⟨w.heap.size + 1, 0, none⟩ a).setCell ⟨w.heap.size + 1, 1, none⟩ b) w.heap.size e k v q vs := by
  have hs := h.size
  have : OwnK ((u.setCell ⟨w.heap.size + 1, 0, none⟩ a).setCell ⟨w.heap.size + 1, 1, none⟩ b) X.heap.size e k v q vs :=
    ho.same fun g hg _ => (Below.heap_setCell _ _ _ g (by show g ≠ w.heap.size + 1; omega)).trans (Below.heap_setCell _ _ _ g (by show g ≠ w.heap.size + 1; omega))
  exact this.lower (by omega)
end
theorem Stay.start {w : World} {base : Nat} {pv : Value} {m : Option Mp} {d : Drv} {A : Option Addr} {n : Nat} {os : List FleetMath.Ord} {A' : Option Addr} {n' : Nat} {stops : List Stp} (h : MapP w 120 base pv m) (ho : Ords w w.heap.size A n os) (hs : Stps w w.heap.size A' n' stops) :
    Stay w (DX w d) base pv m d A n os A' n' stops (DX w d) := by
  have b1 : Below w.heap.size w (DX w d) := ((Below.refl _ _).alloc (Nat.le_refl _) _).alloc (by simp) _
  have f := Blk.new (w.alloc (.cells #[.int .i64 d.id, .int .i64 d.room, .int .i64 d.home, .int .i64 d.win.fr, .int .i64 d.win.to, .bool d.retired] 33)) 63 [.int .i64 0, .int .i64 0]
  rw [World.size_alloc] at f
  exact ⟨Below.refl _ _, b1, DBox.below (d := d) (Blk.new w _ _) ((Below.refl _ _).alloc (Nat.le_refl _) _), f, by simp, h, ho, hs⟩
theorem map_ptr {u : World} {t : TypeId} {base : Nat} {q : Option Addr} {n : Nat} {l : List Int} (h : MapP u t base (.pointer q) (some ⟨n, l⟩)) : ∃ b, q = some ⟨b, 0, none⟩ := by
  rcases h with ⟨_, h⟩ | ⟨b, _, _, h, _⟩
  · cases h
  · injection h with h; exact ⟨b, h⟩
theorem map_at {u : World} {t : TypeId} {base b n : Nat} {l : List Int} (h : MapP u t base (.pointer (some ⟨b, 0, none⟩)) (some ⟨n, l⟩)) : MapAt u t base b n l ∧ n ≤ 12 ∧ IsMap n l := by
  rcases h with ⟨_, h⟩ | ⟨b', n', l', h1, h2, h3, _, h5, h6⟩
  · cases h
  · injection h1 with h1
    injection h1 with h1
    injection h1 with h1
    injection h2 with h2
    injection h2 with h2 h2'
    subst h1; subst h2; subst h2'
    exact ⟨h3, h5, h6⟩
theorem twoV_form (o : Option (Int × Int)) : (∃ b v, o = some (b, v) ∧ twoV o = .tuple #[.int .i64 b, .int .i64 v, .bool true]) ∨ (o = none ∧ twoV o = .tuple #[.int .i64 0, .int .i64 0, .bool false]) := by
  cases o with
  | none => exact .inr ⟨rfl, rfl⟩
  | some p => exact .inl ⟨p.1, p.2, rfl, rfl⟩
theorem visV_snoc (vs : List Vis) (x : Vis) : vissV (vs ++ [x]) = vissV vs ++ [.int .i64 x.stop.ord, .bool x.stop.drop, .int .i64 x.arrive, .int .i64 x.start, .int .i64 x.leave, .int .i64 x.load] := by
  rw [vissV_append]; rfl
/-- a fault that is answered -/
theorem drive_fault {w u : World} {r : List Vis × Nat × Int} {k : Nat} {e : Int} (h : r = ([], k, e)) (hb : Below w.heap.size w u) : DriveOk w r (.returned (.tuple #[.slice none 0 0, faultV k e])) u := by
  subst h
  exact ⟨hb, _, rfl, OwnK.nil _ _ _ _⟩

end Go.Proofs.Ytjklpdeeohhhnaa.Route
