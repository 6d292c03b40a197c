/-
  RouteRefs, RouteDrv, RouteRHas: one text.
-/
import Derived.Test.YtilggpkmdmelmaaGreatWords
import Derived.Test.YtilggpkmdmelmaaGreatDealRs
import Derived.Test.YtilggpkmdmelmaaGreatMaths
import Derived.Test.YtilggpkmdmelmaaGreatLibRows
import Derived.Deep.RegionLaw
import Derived.Deep.RegionHeld3
import Derived.Deep.DeepCutAuto
namespace Go.Proofs.YtilggpkmdmelmaaGreat.Route
open Go.ChangeShapes Go.WideShapes Go.ChangeAt Go.RowKit Go.Proofs.YtilggpkmdmelmaaGreat.Mem Go.Proofs.YtilggpkmdmelmaaGreat.GeoMath Go.Proofs.YtilggpkmdmelmaaGreat.FleetMath Go.Proofs.YtilggpkmdmelmaaGreat.Rec Go.Proofs.YtilggpkmdmelmaaGreat.Geo Go.Proofs.YtilggpkmdmelmaaGreat.Span Go.Proofs.YtilggpkmdmelmaaGreat.Deal
def findI (os : List FleetMath.Ord) (id : Int) : Option Nat := os.findIdx? fun o => decide (o.id = id)
theorem find_findI (os : List FleetMath.Ord) (id : Int) : find os id = (findI os id).bind (os[·]?) := by
  unfold find findI
  induction os with
  | nil => rfl
  | cons o r ih =>
    rw [List.find?_cons, List.findIdx?_cons]
    by_cases h : o.id = id
    · simp [h]
    · simp only [h, decide_false, ih]
      cases hf : List.findIdx? (fun o => decide (o.id = id)) r with
      | none => simp
      | some i => simp
theorem findI_some {os : List FleetMath.Ord} {id : Int} {i : Nat} (h : findI os id = some i) : ∃ o, os[i]? = some o ∧ o.id = id ∧ find os id = some o := by
  have hf := find_findI os id
  rw [h] at hf
  obtain ⟨hlt, hp, _⟩ := List.findIdx?_eq_some_iff_getElem.1 h
  have e := List.getElem?_eq_getElem hlt
  exact ⟨os[i], e, by simpa using hp, by rw [hf]; exact e⟩
theorem findI_none {os : List FleetMath.Ord} {id : Int} (h : findI os id = none) : find os id = none := by rw [find_findI, h]; rfl
theorem findI_at {os : List FleetMath.Ord} {id : Int} {k : Nat} {o : FleetMath.Ord} (h : ∀ j p, j < k → os[j]? = some p → p.id ≠ id) (ho : os[k]? = some o) (he : o.id = id) : findI os id = some k := by
  obtain ⟨hlt, hk⟩ := List.getElem?_eq_some_iff.1 ho
  refine List.findIdx?_eq_some_iff_getElem.2 ⟨hlt, by rw [hk]; simpa using he, fun j hj => ?_⟩
  have := h j _ hj (List.getElem?_eq_getElem (by omega))
  simpa using this
theorem findI_no {os : List FleetMath.Ord} {id : Int} (h : ∀ j p, j < os.length → os[j]? = some p → p.id ≠ id) : findI os id = none := by
  refine List.findIdx?_eq_none_iff.2 fun o ho => ?_
  obtain ⟨j, hj⟩ := List.getElem?_of_mem ho
  have := h j o (List.getElem?_eq_some_iff.1 hj).1 hj
  simpa using this
theorem find_idx {os : List FleetMath.Ord} {id : Int} {o : FleetMath.Ord} (h : find os id = some o) : ∃ i, findI os id = some i ∧ os[i]? = some o := by
  rw [find_findI] at h
  cases hf : findI os id with
  | none => rw [hf] at h; cases h
  | some i => rw [hf] at h; exact ⟨i, rfl, h⟩
def idxV : Option Nat → Int
  | none => -1
  | some i => (i : Int)
set_option maxRecDepth 100000 in
set_option maxHeartbeats 1000000 in
theorem rfind_any (A : Option Addr) (n c : Nat) (os : List FleetMath.Ord) (id : Int) (w : World) (B : Nat) (hl : Ords w B A n os) :
    Calls Tryz.prog 51 #[.slice A n c, .int .i64 id] w fun e w' => e = .returned (.int .i64 (idxV (findI os id))) ∧ w = w' := by
  have hm := Recs.le hl
  have HI := Lib.hid hl
  have HL := Lib.hid hl.length
  clear hl
  go_enter Tryz.func51, Tryz.ntmps51
  go_wp2
  go_loop [5] (fun i => ∃ k : Nat, k ≤ n ∧ i = .int .i64 k ∧ Hid (∀ j p, j < k → os[j]? = some p → p.id ≠ id)) (fun i => n - (intOf i).toNat)
  case atStart => exact ⟨0, Nat.zero_le _, rfl, fun j p hj => absurd hj (by omega)⟩
  case round =>
    obtain ⟨k, hk, rfl, HK⟩ := hrel
    by_cases hlt : k < n
    · obtain ⟨b, off, o, rfl, _, ho, _, c0, _⟩ := Ords.at_ HI.out hlt
      have HO := Lib.hid ho
      clear ho
      by_cases he : o.id = id
      · have HF : Hid (findI os id = some k) := findI_at HK.out HO.out he
        have e1 : (o.id == id) = true := by simpa using he
        clear he HK
        go_wp2
        go_ret
        exact ⟨ret_i (by rw [HF.out]; rfl), rfl⟩
      · have HN : Hid (∀ j p, j < k + 1 → os[j]? = some p → p.id ≠ id) := fun j p hj hp => by
          by_cases e : j = k
          · subst e
            have := HO.out
            rw [this] at hp
            injection hp with hp
            rw [← hp]
            exact he
          · exact HK.out j p (by omega) hp
        have e1 : (o.id == id) = false := by simpa using he
        clear he HK
        go_wp2
        go_round
        case rel => exact ⟨k + 1, by omega, by go_num, HN⟩
        case measure => simp [intOf]; omega
    · have HF : Hid (findI os id = none) := findI_no fun j p hj hp => HK.out j p (by have := HL.out; omega) hp
      clear HK
      go_wp2
      go_ret
      exact ⟨ret_i (by rw [HF.out]; rfl), rfl⟩
theorem mem_front {l : List Stp} {k : Nat} {x s : Stp} (hx : l[k]? = some x) (hne : x ≠ s) (h : s ∉ l.take k) : s ∉ l.take (k + 1) := by
  rw [List.take_add_one, hx]
  simp only [Option.toList_some, List.mem_append, List.mem_singleton, not_or]
  exact ⟨h, fun e => hne e.symm⟩
theorem stp_ne {x s : Stp} (h : ¬ (x.ord = s.ord ∧ x.drop = s.drop)) : x ≠ s := fun e => h (by rw [e]; exact ⟨rfl, rfl⟩)
theorem rsite_any (o : FleetMath.Ord) (s : Stp) (w : World) : Calls Tryz.prog 50 #[ordV o, stpV s] w (Gives w (siteV (siteOf o s))) := by
  obtain ⟨so, sd⟩ := s
  cases sd with
  | true =>
    go_enter Tryz.func50, Tryz.ntmps50
    go_wp2
    refine bodyPost_ret (v := siteV o.drop) ?_ rfl ⟨rfl, ?_⟩
    · simp [results, Tryz.results50, go_sem]
    · exact (((Below.refl _ _).alloc (Nat.le_refl _) _).alloc (by simp) _).alloc (by simp; omega) _
  | false =>
    go_enter Tryz.func50, Tryz.ntmps50
    go_wp2
    refine bodyPost_ret (v := siteV o.pick) ?_ rfl ⟨rfl, ?_⟩
    · simp [results, Tryz.results50, go_sem]
    · exact (((Below.refl _ _).alloc (Nat.le_refl _) _).alloc (by simp) _).alloc (by simp; omega) _
end Go.Proofs.YtilggpkmdmelmaaGreat.Route

namespace Go.Proofs.YtilggpkmdmelmaaGreat.Route
open Go.ChangeShapes Go.WideShapes Go.ChangeAt Go.RowKit Go.Proofs.YtilggpkmdmelmaaGreat.Mem Go.Proofs.YtilggpkmdmelmaaGreat.GeoMath Go.Proofs.YtilggpkmdmelmaaGreat.FleetMath Go.Proofs.YtilggpkmdmelmaaGreat.Rec Go.Proofs.YtilggpkmdmelmaaGreat.Geo Go.Proofs.YtilggpkmdmelmaaGreat.Span Go.Proofs.YtilggpkmdmelmaaGreat.Deal
abbrev faultV (k : Nat) (e : Int) : Value := .agg #[.int .i64 k, .int .i64 e]
def DriveOk (w : World) (r : List Vis × Nat × Int) (e : Ending) (w' : World) : Prop :=
  Below w.heap.size w w' ∧ ∃ v, e = .returned (.tuple #[v, faultV r.2.1 r.2.2]) ∧ OwnK w' w.heap.size 102 6 v r.1.length (vissV r.1)
theorem stps_front {w : World} {B n k : Nat} {A : Option Addr} {l : List Stp} (h : Stps w B A n l) (hk : k ≤ n) : Stps w B A k (l.take k) := by
  have hl := h.length
  refine ⟨by rw [stpsV_len, List.length_take]; omega, by have := h.2.1; omega, fun hp => ?_⟩
  obtain ⟨b, off, e, hb, hc⟩ := h.2.2 (by omega)
  refine ⟨b, off, e, hb, fun j u hu => hc j u ?_⟩
  have e2 : stpsV l = stpsV (l.take k) ++ stpsV (l.drop k) := by rw [← stpsV_append, List.take_append_drop]
  rw [e2, List.getElem?_append_left (List.getElem?_eq_some_iff.1 hu).1]
  exact hu
theorem rdriver_v (base : Nat) (pv : Value) (m : Option Mp) (d : Drv) (v : Int) (w : World) (h : MapP w 110 base pv m) (hv : drvE m d = v) :
    Calls Tryz.prog 79 #[pv, drvV d] w (Gives w (.int .i64 v)) := by rw [← hv]; exact rdriver_any base pv m d w h
theorem rknown_v (base : Nat) (pv : Value) (m : Option Mp) (A : Option Addr) (n c : Nat) (os : List FleetMath.Ord) (b : Bool) (w : World) (h : MapP w 110 base pv m) (hl : Ords w w.heap.size A n os) (hb : known m os = b) :
    Calls Tryz.prog 77 #[pv, .slice A n c] w (Gives w (.bool b)) := by rw [← hb]; exact rknown_any base pv m A n c os w h hl
abbrev DX (w : World) (d : Drv) : World := (w.alloc (.cells #[.int .i64 d.id, .int .i64 d.room, .int .i64 d.home, .int .i64 d.win.fr, .int .i64 d.win.to, .bool d.retired] 33)).alloc (.cells #[.int .i64 0, .int .i64 0] 63)
structure Stay (w X : World) (base : Nat) (pv : Value) (m : Option Mp) (d : Drv) (A : Option Addr) (n : Nat) (os : List FleetMath.Ord) (A' : Option Addr) (n' : Nat) (stops : List Stp) (u : World) : Prop where
  below : Below X.heap.size X u
  old : Below w.heap.size w u
  drv : DBox u w.heap.size d
  flt : Blk u (w.heap.size + 1) 63 [.int .i64 0, .int .i64 0]
  size : X.heap.size = w.heap.size + 2
  map0 : MapP w 110 base pv m
  os0 : Ords w w.heap.size A n os
  stops0 : Stps w w.heap.size A' n' stops
section
variable {w X : World} {base : Nat} {pv : Value} {m : Option Mp} {d : Drv} {A : Option Addr} {n : Nat} {os : List FleetMath.Ord} {A' : Option Addr} {n' : Nat} {stops : List Stp} {u u' : World}
theorem Stay.map (h : Stay w X base pv m d A n os A' n' stops u) : MapP u 110 base pv m := h.map0.keep h.old
theorem Stay.ords (h : Stay w X base pv m d A n os A' n' stops u) : Ords u u.heap.size A n os := Recs.more (Recs.keep h.os0 h.old) h.old.size
theorem Stay.stps (h : Stay w X base pv m d A n os A' n' stops u) : Stps u u.heap.size A' n' stops := Recs.more (Recs.keep h.stops0 h.old) h.old.size
theorem Stay.next (h : Stay w X base pv m d A n os A' n' stops u) (hb : Below u.heap.size u u') : Stay w X base pv m d A n os A' n' stops u' :=
  ⟨h.below.trans (hb.mono h.below.size), h.old.trans (hb.mono h.old.size), h.drv.below hb, h.flt.below hb h.flt.lt, h.size, h.map0, h.os0, h.stops0⟩
theorem Stay.grow {v : Value} {k q : Nat} {e : TypeId} {vs : List Value} (h : Stay w X base pv m d A n os A' n' stops u) (ho : OwnK u X.heap.size e k v q vs) (hg : u.grownBy u' v.ownBlock) : Stay w X base pv m d A n os A' n' stops u' := by
  have hs := h.size
  have hm : Below X.heap.size u u' := OwnK.below (Below.refl X.heap.size u) ho hg h.below.size (Nat.le_refl _)
  exact ⟨ho.below h.below hg h.below.size (Nat.le_refl _), ho.below h.old hg h.old.size (by omega), (hm.block _ (by omega)).trans h.drv, (hm.block _ (by omega)).trans h.flt, hs, h.map0, h.os0, h.stops0⟩
theorem Stay.drew (h : Stay w X base pv m d A n os A' n' stops u) : Stay w X base pv m d A n os A' n' stops u.drew := h.next (Below.refl _ _).drew
theorem Stay.drewN (h : Stay w X base pv m d A n os A' n' stops u) (k : Nat) : Stay w X base pv m d A n os A' n' stops (u.drewN k) := h.next (below_drewN (Below.refl _ _) k)
theorem Stay.alloc (h : Stay w X base pv m d A n os A' n' stops u) (o : Obj) : Stay w X base pv m d A n os A' n' stops (u.alloc o) := h.next ((Below.refl _ _).alloc (Nat.le_refl _) _)
theorem Stay.put (h : Stay w X base pv m d A n os A' n' stops u) (a b : Int) :
    (u.cell? ⟨w.heap.size + 1, 0, none⟩ = some (.int .i64 0) ∧ u.frozen? ⟨w.heap.size + 1, 0, none⟩ = false) ∧
    ((u.setCell ⟨w.heap.size + 1, 0, none⟩ (.int .i64 a)).cell? ⟨w.heap.size + 1, 1, none⟩ = some (.int .i64 0) ∧ (u.setCell ⟨w.heap.size + 1, 0, none⟩ (.int .i64 a)).frozen? ⟨w.heap.size + 1, 1, none⟩ = false) ∧
    (((u.setCell ⟨w.heap.size + 1, 0, none⟩ (.int .i64 a)).setCell ⟨w.heap.size + 1, 1, none⟩ (.int .i64 b)).cell? ⟨w.heap.size + 1, 0, none⟩ = some (.int .i64 a) ∧ ((u.setCell ⟨w.heap.size + 1, 0, none⟩ (.int .i64 a)).setCell ⟨w.heap.size + 1, 1, none⟩ (.int .i64 b)).cell? ⟨w.heap.size + 1, 1, none⟩ = some (.int .i64 b)) ∧
    Below w.heap.size w ((u.setCell ⟨w.heap.size + 1, 0, none⟩ (.int .i64 a)).setCell ⟨w.heap.size + 1, 1, none⟩ (.int .i64 b)) := by
  have f1 := h.flt.put 0 (.int .i64 a)
  have f2 := f1.put 1 (.int .i64 b)
  exact ⟨⟨h.flt.cell rfl, h.flt.free 0⟩, ⟨f1.cell rfl, f1.free 1⟩, ⟨f2.cell rfl, f2.cell rfl⟩, (h.old.setCell (Nat.le_succ _) _).setCell (Nat.le_succ _) _⟩
theorem Stay.own {k q : Nat} {e : TypeId} {v : Value} {vs : List Value} (h : Stay w X base pv m d A n os A' n' stops u) (ho : OwnK u X.heap.size e k v q vs) (a b : Value) :
    OwnK ((u.setCell ⟨w.heap.size + 1, 0, none⟩ a).setCell ⟨w.heap.size + 1, 1, none⟩ b) w.heap.size e k v q vs := by
  have hs := h.size
  have : OwnK ((u.setCell ⟨w.heap.size + 1, 0, none⟩ a).setCell ⟨w.heap.size + 1, 1, none⟩ b) X.heap.size e k v q vs :=
    ho.same fun g hg _ => (Below.heap_setCell _ _ _ g (by show g ≠ w.heap.size + 1; omega)).trans (Below.heap_setCell _ _ _ g (by show g ≠ w.heap.size + 1; omega))
  exact this.lower (by omega)
end
theorem Stay.start {w : World} {base : Nat} {pv : Value} {m : Option Mp} {d : Drv} {A : Option Addr} {n : Nat} {os : List FleetMath.Ord} {A' : Option Addr} {n' : Nat} {stops : List Stp} (h : MapP w 110 base pv m) (ho : Ords w w.heap.size A n os) (hs : Stps w w.heap.size A' n' stops) :
    Stay w (DX w d) base pv m d A n os A' n' stops (DX w d) := by
  have b1 : Below w.heap.size w (DX w d) := ((Below.refl _ _).alloc (Nat.le_refl _) _).alloc (by simp) _
  have f := Blk.new (w.alloc (.cells #[.int .i64 d.id, .int .i64 d.room, .int .i64 d.home, .int .i64 d.win.fr, .int .i64 d.win.to, .bool d.retired] 33)) 63 [.int .i64 0, .int .i64 0]
  rw [World.size_alloc] at f
  exact ⟨Below.refl _ _, b1, DBox.below (d := d) (Blk.new w _ _) ((Below.refl _ _).alloc (Nat.le_refl _) _), f, by simp, h, ho, hs⟩
theorem map_ptr {u : World} {t : TypeId} {base : Nat} {q : Option Addr} {n : Nat} {l : List Int} (h : MapP u t base (.pointer q) (some ⟨n, l⟩)) : ∃ b, q = some ⟨b, 0, none⟩ := by
  rcases h with ⟨_, h⟩ | ⟨b, _, _, h, _⟩
  · cases h
  · injection h with h; exact ⟨b, h⟩
theorem map_at {u : World} {t : TypeId} {base b n : Nat} {l : List Int} (h : MapP u t base (.pointer (some ⟨b, 0, none⟩)) (some ⟨n, l⟩)) : MapAt u t base b n l ∧ n ≤ 12 ∧ IsMap n l := by
  rcases h with ⟨_, h⟩ | ⟨b', n', l', h1, h2, h3, _, h5, h6⟩
  · cases h
  · injection h1 with h1
    injection h1 with h1
    injection h1 with h1
    injection h2 with h2
    injection h2 with h2 h2'
    subst h1; subst h2; subst h2'
    exact ⟨h3, h5, h6⟩
theorem twoV_form (o : Option (Int × Int)) : (∃ b v, o = some (b, v) ∧ twoV o = .tuple #[.int .i64 b, .int .i64 v, .bool true]) ∨ (o = none ∧ twoV o = .tuple #[.int .i64 0, .int .i64 0, .bool false]) := by
  cases o with
  | none => exact .inr ⟨rfl, rfl⟩
  | some p => exact .inl ⟨p.1, p.2, rfl, rfl⟩
theorem visV_snoc (vs : List Vis) (x : Vis) : vissV (vs ++ [x]) = vissV vs ++ [.int .i64 x.stop.ord, .bool x.stop.drop, .int .i64 x.arrive, .int .i64 x.start, .int .i64 x.leave, .int .i64 x.load] := by
  rw [vissV_append]; rfl
theorem drive_fault {w u : World} {r : List Vis × Nat × Int} {k : Nat} {e : Int} (h : r = ([], k, e)) (hb : Below w.heap.size w u) : DriveOk w r (.returned (.tuple #[.slice none 0 0, faultV k e])) u := by
  subst h
  exact ⟨hb, _, rfl, OwnK.nil _ _ _ _⟩
end Go.Proofs.YtilggpkmdmelmaaGreat.Route

namespace Go.Proofs.YtilggpkmdmelmaaGreat.Route
open Go.ChangeShapes Go.WideShapes Go.ChangeAt Go.RowKit Go.Proofs.YtilggpkmdmelmaaGreat.Mem Go.Proofs.YtilggpkmdmelmaaGreat.GeoMath Go.Proofs.YtilggpkmdmelmaaGreat.FleetMath Go.Proofs.YtilggpkmdmelmaaGreat.Rec Go.Proofs.YtilggpkmdmelmaaGreat.Geo Go.Proofs.YtilggpkmdmelmaaGreat.Span Go.Proofs.YtilggpkmdmelmaaGreat.Deal
set_option maxRecDepth 100000 in
set_option maxHeartbeats 1000000 in
theorem rhas_any (A : Option Addr) (n c : Nat) (l : List Stp) (s : Stp) (w : World) (hl : Stps w w.heap.size A n l) :
    Calls Tryz.prog 80 #[.slice A n c, stpV s] w (Gives w (.bool (decide (s ∈ l)))) := by
  have hm := Recs.le hl
  have HL := Lib.hid hl.length
  have HB : Hid (Below w.heap.size w (w.alloc (.cells #[.int .i64 s.ord, .bool s.drop] 37))) := (Below.refl _ _).alloc (Nat.le_refl _) _
  have HI : Hid (Stps (w.alloc (.cells #[.int .i64 s.ord, .bool s.drop] 37)) w.heap.size A n l) := Recs.keep hl HB.out
  have hbx := Blk.new w 37 [.int .i64 s.ord, .bool s.drop]
  have y0 := hbx.cell (i := 0) rfl
  have y1 := hbx.cell (i := 1) rfl
  clear hl hbx
  go_enter Tryz.func80, Tryz.ntmps80
  go_wp2
  go_loopw [5] (fun i wr => ∃ (k d : Nat), k ≤ n ∧ i = .int .i64 k ∧ wr = (w.alloc (.cells #[.int .i64 s.ord, .bool s.drop] 37)).drewN d ∧ Hid (s ∉ l.take k)) (fun i _ => n - (intOf i).toNat)
  case atStart => exact ⟨0, 0, Nat.zero_le _, rfl, rfl, (by simp : s ∉ l.take 0)⟩
  case round =>
    obtain ⟨k, d, hk, rfl, rfl, HK⟩ := hrel
    by_cases hlt : k < n
    · obtain ⟨b, off, x, rfl, _, hx, _, c0, c1⟩ := Stps.at_ HI.out hlt
      have HX := Lib.hid hx
      clear hx
      by_cases he : x.ord = s.ord ∧ x.drop = s.drop
      · have HF : Hid (decide (s ∈ l) = true) := by
          have : x = s := Stp.ext_iff'.2 he
          exact decide_eq_true (this ▸ List.mem_of_getElem? HX.out)
        obtain ⟨e1, e2⟩ := he
        rw [e1] at c0
        rw [e2] at c1
        clear e1 e2 HK
        go_wp2
        go_quiet (fail)
        go_wp2
        go_ret
        exact ⟨ret_bool HF.out.symm, by first | exact below_drewN HB.out _ | exact below_drewN (below_drewN HB.out _) _⟩
      · have HN : Hid (s ∉ l.take (k + 1)) := mem_front HX.out (stp_ne he) HK.out
        clear HK
        by_cases e1 : x.ord = s.ord
        · have e2 : ¬ x.drop = s.drop := fun h => he ⟨e1, h⟩
          have e3 : (x.drop == s.drop) = false := by simpa using e2
          rw [e1] at c0
          clear he e1 e2
          go_wp2
          go_quiet (fail)
          go_wp2
          go_roundw
          case rel => exact ⟨k + 1, _, by omega, by go_num, rfl, HN⟩
          case measure => simp [intOf]; omega
        · have e3 : (x.ord == s.ord) = false := by simpa using e1
          clear he e1
          go_wp2
          go_quiet (fail)
          go_wp2
          go_roundw
          case rel => exact ⟨k + 1, _, by omega, by go_num, rfl, HN⟩
          case measure => simp [intOf]; omega
    · have HF : Hid (decide (s ∈ l) = false) := by
        have := HK.out
        rw [List.take_of_length_le (by have := HL.out; omega)] at this
        exact decide_eq_false this
      clear HK
      go_wp2
      go_ret
      exact ⟨ret_bool HF.out.symm, by first | exact below_drewN HB.out _ | exact below_drewN (below_drewN HB.out _) _⟩
end Go.Proofs.YtilggpkmdmelmaaGreat.Route
