/-
  The document's own answer to chapter 7, walked: Drive.
-/
import Derived.Test.YtfejnohcggoepaaRouteRefs
import Derived.Test.YtfejnohcggoepaaMaths
import Derived.Test.YtfejnohcggoepaaWords
import Derived.Test.YtfejnohcggoepaaLibRows
import Derived.Test.YtfejnohcggoepaaDealRs
import Derived.Deep.RegionLaw
import Derived.Deep.RegionHeld3
import Derived.Deep.DeepCutAuto
namespace Go.Proofs.Ytfejnohcggoepaa.Route
open Go.ChangeShapes Go.WideShapes Go.ChangeAt Go.RowKit Go.Proofs.Ytfejnohcggoepaa.Mem Go.Proofs.Ytfejnohcggoepaa.GeoMath Go.Proofs.Ytfejnohcggoepaa.FleetMath Go.Proofs.Ytfejnohcggoepaa.Rec Go.Proofs.Ytfejnohcggoepaa.Geo Go.Proofs.Ytfejnohcggoepaa.Span Go.Proofs.Ytfejnohcggoepaa.Deal

abbrev faultV (k : Nat) (e : Int) : Value := .agg #[.int .i64 k, .int .i64 e]
/-- what Drive leaves: the visits in new memory, the fault -/
def DriveOk (w : World) (r : List Vis × Nat × Int) (e : Ending) (w' : World) : Prop :=
  Below w.heap.size w w' ∧ ∃ v, e = .returned (.tuple #[v, faultV r.2.1 r.2.2]) ∧ OwnK w' w.heap.size 44 6 v r.1.length (vissV r.1)
theorem stps_front {w : World} {B n k : Nat} {A : Option Addr} {l : List Stp} (h : Stps w B A n l) (hk : k ≤ n) : Stps w B A k (l.take k) := by
  have hl := h.length
  refine ⟨by rw [stpsV_len, List.length_take]; omega, by have := h.2.1; omega, fun hp => ?_⟩
  obtain ⟨b, off, e, hb, hc⟩ := h.2.2 (by omega)
  refine ⟨b, off, e, hb, fun j u hu => hc j u ?_⟩
  have e2 : stpsV l = stpsV (l.take k) ++ stpsV (l.drop k) := by rw [← stpsV_append, List.take_append_drop]
  rw [e2, List.getElem?_append_left (List.getElem?_eq_some_iff.1 hu).1]
  exact hu
theorem rdriver_v (base : Nat) (pv : Value) (m : Option Mp) (d : Drv) (v : Int) (w : World) (h : MapP w 107 base pv m) (hv : drvE m d = v) :
    Calls Try.prog 46 #[pv, drvV d] w (Gives w (.int .i64 v)) := by rw [← hv]; exact rdriver_any base pv m d w h
theorem rknown_v (base : Nat) (pv : Value) (m : Option Mp) (A : Option Addr) (n c : Nat) (os : List FleetMath.Ord) (b : Bool) (w : World) (h : MapP w 107 base pv m) (hl : Ords w w.heap.size A n os) (hb : known m os = b) :
    Calls Try.prog 44 #[pv, .slice A n c] w (Gives w (.bool b)) := by rw [← hb]; exact rknown_any base pv m A n c os w h hl
theorem rhas_v (A : Option Addr) (n c : Nat) (l : List Stp) (s : Stp) (w : World) (b : Bool) (hl : Stps w w.heap.size A n l) (hb : decide (s ∈ l) = b) :
    Calls Try.prog 48 #[.slice A n c, stpV s] w (Gives w (.bool b)) := by rw [← hb]; exact rhas_any A n c l s w hl
/-- the world that Drive begins with: the driver and the fault boxed -/
abbrev DX (w : World) (d : Drv) : World := (w.alloc (.cells #[.int .i64 d.id, .int .i64 d.room, .int .i64 d.home, .int .i64 d.win.fr, .int .i64 d.win.to, .bool d.retired] 33)).alloc (.cells #[.int .i64 0, .int .i64 0] 49)
/-- all that Drive reads stays, as long as nothing of what was there turns -/
structure Stay (w X : World) (base : Nat) (pv : Value) (m : Option Mp) (d : Drv) (A : Option Addr) (n : Nat) (os : List FleetMath.Ord) (A' : Option Addr) (n' : Nat) (stops : List Stp) (u : World) : Prop where
  below : Below X.heap.size X u
  old : Below w.heap.size w u
  drv : DBox u w.heap.size d
  flt : Blk u (w.heap.size + 1) 49 [.int .i64 0, .int .i64 0]
  size : X.heap.size = w.heap.size + 2
  map0 : MapP w 107 base pv m
  os0 : Ords w w.heap.size A n os
  stops0 : Stps w w.heap.size A' n' stops
section
variable {w X : World} {base : Nat} {pv : Value} {m : Option Mp} {d : Drv} {A : Option Addr} {n : Nat} {os : List FleetMath.Ord} {A' : Option Addr} {n' : Nat} {stops : List Stp} {u u' : World}
theorem Stay.map (h : Stay w X base pv m d A n os A' n' stops u) : MapP u 107 base pv m := h.map0.keep h.old
theorem Stay.ords (h : Stay w X base pv m d A n os A' n' stops u) : Ords u u.heap.size A n os := Recs.more (Recs.keep h.os0 h.old) h.old.size
theorem Stay.stps (h : Stay w X base pv m d A n os A' n' stops u) : Stps u u.heap.size A' n' stops := Recs.more (Recs.keep h.stops0 h.old) h.old.size
theorem Stay.next (h : Stay w X base pv m d A n os A' n' stops u) (hb : Below u.heap.size u u') : Stay w X base pv m d A n os A' n' stops u' :=
  ⟨h.below.trans (hb.mono h.below.size), h.old.trans (hb.mono h.old.size), h.drv.below hb, h.flt.below hb h.flt.lt, h.size, h.map0, h.os0, h.stops0⟩
theorem Stay.grow {v : Value} {k q : Nat} {e : TypeId} {vs : List Value} (h : Stay w X base pv m d A n os A' n' stops u) (ho : OwnK u X.heap.size e k v q vs) (hg : u.grownBy u' v.ownBlock) : Stay w X base pv m d A n os A' n' stops u' := by
  have hs := h.size
  have hm : Below X.heap.size u u' := OwnK.below (Below.refl X.heap.size u) ho hg h.below.size (Nat.le_refl _)
  exact ⟨ho.below h.below hg h.below.size (Nat.le_refl _), ho.below h.old hg h.old.size (by omega), (hm.block _ (by omega)).trans h.drv, (hm.block _ (by omega)).trans h.flt, hs, h.map0, h.os0, h.stops0⟩
theorem Stay.drew (h : Stay w X base pv m d A n os A' n' stops u) : Stay w X base pv m d A n os A' n' stops u.drew := h.next (Below.refl _ _).drew
theorem Stay.drewN (h : Stay w X base pv m d A n os A' n' stops u) (k : Nat) : Stay w X base pv m d A n os A' n' stops (u.drewN k) := h.next (below_drewN (Below.refl _ _) k)
theorem Stay.alloc (h : Stay w X base pv m d A n os A' n' stops u) (o : Obj) : Stay w X base pv m d A n os A' n' stops (u.alloc o) := h.next ((Below.refl _ _).alloc (Nat.le_refl _) _)
/-- the fault, written at the return -/
theorem Stay.put (h : Stay w X base pv m d A n os A' n' stops u) (a b : Int) :
    (u.cell? ⟨w.heap.size + 1, 0, none⟩ = some (.int .i64 0) ∧ u.frozen? ⟨w.heap.size + 1, 0, none⟩ = false) ∧
    ((u.setCell ⟨w.heap.size + 1, 0, none⟩ (.int .i64 a)).cell? ⟨w.heap.size + 1, 1, none⟩ = some (.int .i64 0) ∧ (u.setCell ⟨w.heap.size + 1, 0, none⟩ (.int .i64 a)).frozen? ⟨w.heap.size + 1, 1, none⟩ = false) ∧
    (((u.setCell ⟨w.heap.size + 1, 0, none⟩ (.int .i64 a)).setCell ⟨w.heap.size + 1, 1, none⟩ (.int .i64 b)).cell? ⟨w.heap.size + 1, 0, none⟩ = some (.int .i64 a) ∧ ((u.setCell ⟨w.heap.size + 1, 0, none⟩ (.int .i64 a)).setCell ⟨w.heap.size + 1, 1, none⟩ (.int .i64 b)).cell? ⟨w.heap.size + 1, 1, none⟩ = some (.int .i64 b)) ∧
    Below w.heap.size w ((u.setCell ⟨w.heap.size + 1, 0, none⟩ (.int .i64 a)).setCell ⟨w.heap.size + 1, 1, none⟩ (.int .i64 b)) := by
  have f1 := h.flt.put 0 (.int .i64 a)
  have f2 := f1.put 1 (.int .i64 b)
  exact ⟨⟨h.flt.cell rfl, h.flt.free 0⟩, ⟨f1.cell rfl, f1.free 1⟩, ⟨f2.cell rfl, f2.cell rfl⟩, (h.old.setCell (Nat.le_succ _) _).setCell (Nat.le_succ _) _⟩
theorem Stay.own {k q : Nat} {e : TypeId} {v : Value} {vs : List Value} (h : Stay w X base pv m d A n os A' n' stops u) (ho : OwnK u X.heap.size e k v q vs) (a b : Value) :
    OwnK ((u.setCell ⟨w.heap.size + 1, 0, none⟩ a).setCell ⟨w.heap.size + 1, 1, none⟩ b) w.heap.size e k v q vs := by
  have hs := h.size
  have : OwnK ((u.setCell ⟨w.heap.size + 1, 0, none⟩ a).setCell ⟨w.heap.size + 1, 1, none⟩ b) X.heap.size e k v q vs :=
    ho.same fun g hg _ => (Below.heap_setCell _ _ _ g (by show g ≠ w.heap.size + 1; omega)).trans (Below.heap_setCell _ _ _ g (by show g ≠ w.heap.size + 1; omega))
  exact this.lower (by omega)
end
theorem Stay.start {w : World} {base : Nat} {pv : Value} {m : Option Mp} {d : Drv} {A : Option Addr} {n : Nat} {os : List FleetMath.Ord} {A' : Option Addr} {n' : Nat} {stops : List Stp} (h : MapP w 107 base pv m) (ho : Ords w w.heap.size A n os) (hs : Stps w w.heap.size A' n' stops) :
    Stay w (DX w d) base pv m d A n os A' n' stops (DX w d) := by
  have b1 : Below w.heap.size w (DX w d) := ((Below.refl _ _).alloc (Nat.le_refl _) _).alloc (by simp) _
  have f := Blk.new (w.alloc (.cells #[.int .i64 d.id, .int .i64 d.room, .int .i64 d.home, .int .i64 d.win.fr, .int .i64 d.win.to, .bool d.retired] 33)) 49 [.int .i64 0, .int .i64 0]
  rw [World.size_alloc] at f
  exact ⟨Below.refl _ _, b1, DBox.below (d := d) (Blk.new w _ _) ((Below.refl _ _).alloc (Nat.le_refl _) _), f, by simp, h, ho, hs⟩
theorem map_ptr {u : World} {t : TypeId} {base : Nat} {q : Option Addr} {n : Nat} {l : List Int} (h : MapP u t base (.pointer q) (some ⟨n, l⟩)) : ∃ b, q = some ⟨b, 0, none⟩ := by
  rcases h with ⟨_, h⟩ | ⟨b, _, _, h, _⟩
  · cases h
  · injection h with h; exact ⟨b, h⟩
theorem map_at {u : World} {t : TypeId} {base b n : Nat} {l : List Int} (h : MapP u t base (.pointer (some ⟨b, 0, none⟩)) (some ⟨n, l⟩)) : MapAt u t base b n l ∧ n ≤ 12 ∧ IsMap n l := by
  rcases h with ⟨_, h⟩ | ⟨b', n', l', h1, h2, h3, _, h5, h6⟩
  · cases h
  · injection h1 with h1
    injection h1 with h1
    injection h1 with h1
    injection h2 with h2
    injection h2 with h2 h2'
    subst h1; subst h2; subst h2'
    exact ⟨h3, h5, h6⟩
theorem twoV_form (o : Option (Int × Int)) : (∃ b v, o = some (b, v) ∧ twoV o = .tuple #[.int .i64 b, .int .i64 v, .bool true]) ∨ (o = none ∧ twoV o = .tuple #[.int .i64 0, .int .i64 0, .bool false]) := by
  cases o with
  | none => exact .inr ⟨rfl, rfl⟩
  | some p => exact .inl ⟨p.1, p.2, rfl, rfl⟩
theorem rserved_v (base b n : Nat) (l : List Int) (f t0 : Int) (s : Site) (u : Int) (v : Value) (w : World) (h : MapAt w 107 base b n l) (hn : n ≤ 12) (hm : IsMap n l) (ht0 : 0 ≤ t0) (ht1 : t0 ≤ 2000000) (hs0 : 0 ≤ s.serv) (hs1 : s.serv ≤ 1000000) (hv : twoV (FleetMath.served ⟨n, l⟩ f t0 s u) = v) :
    Calls Try.prog 51 #[.pointer (some ⟨b, 0, none⟩), .int .i64 f, .int .i64 t0, siteV s, .int .i64 u] w (Gives w v) := by
  rw [← hv]
  exact rserved_any base b n l f t0 s u w h hn hm (by omega) (by omega) hs0 hs1
theorem visV_snoc (vs : List Vis) (x : Vis) : vissV (vs ++ [x]) = vissV vs ++ [.int .i64 x.stop.ord, .bool x.stop.drop, .int .i64 x.arrive, .int .i64 x.start, .int .i64 x.leave, .int .i64 x.load] := by
  rw [vissV_append]; rfl
/-- a fault that is answered -/
theorem drive_fault {w u : World} {r : List Vis × Nat × Int} {k : Nat} {e : Int} (h : r = ([], k, e)) (hb : Below w.heap.size w u) : DriveOk w r (.returned (.tuple #[.slice none 0 0, faultV k e])) u := by
  subst h
  exact ⟨hb, _, rfl, OwnK.nil _ _ _ _⟩

set_option maxRecDepth 100000 in
set_option maxHeartbeats 4000000 in
theorem rdrive_any (base : Nat) (pv : Value) (m : Option Mp) (d : Drv) (A : Option Addr) (n c : Nat) (os : List FleetMath.Ord) (A' : Option Addr) (n' c' : Nat) (stops : List Stp) (w : World) (h : MapP w 107 base pv m) (ho : Ords w w.heap.size A n os) (hs : Stps w w.heap.size A' n' stops) (hcc : n' ≤ c') :
    Calls Try.prog 31 #[pv, drvV d, .slice A n c, .slice A' n' c'] w (DriveOk w (drive m d os stops)) := by
  have S0 := Lib.hid (Stay.start (d := d) h ho hs)
  have HLO := Lib.hid ho.length
  have HLS := Lib.hid hs.length
  have hnm := Recs.le ho
  have hnm' := Recs.le hs
  obtain ⟨q, hq⟩ : ∃ q, pv = .pointer q := by
    rcases h with ⟨rfl, _⟩ | ⟨b, _, _, rfl, _⟩
    · exact ⟨_, rfl⟩
    · exact ⟨_, rfl⟩
  subst hq
  clear h ho hs
  obtain ⟨v1, hv1⟩ : ∃ v, drvE m d = v := ⟨_, rfl⟩
  obtain ⟨b2, hb2⟩ : ∃ v, known m os = v := ⟨_, rfl⟩
  have V1 := Lib.hid hv1
  have V2 := Lib.hid hb2
  have HBAD : Hid (v1 ≠ 0 ∨ b2 = false ∨ 80 < n' → drive m d os stops = ([], 0, 1)) := fun hx => drive_bad (by rw [hv1, hb2, HLS.out]; exact hx)
  clear hv1 hb2
  go_enter Try.func31, Try.ntmps31
  go_wp2_with fail
  refine (rdriver_v base _ m d v1 _ (by exact S0.out.map) V1.out).mono ?_
  rintro e w1 ⟨rfl, hb⟩
  have S1 := Lib.hid (S0.out.next hb)
  clear hb S0
  obtain ⟨X, hX⟩ : ∃ X, DX w d = X := ⟨_, rfl⟩
  rw [hX] at S1
  clear hX
  obtain ⟨⟨p0, f0⟩, ⟨p1, f1⟩, ⟨r0, r1⟩, hbp⟩ := S1.out.put 0 1
  by_cases h1 : v1 = 0
  case neg =>
    have HD := Lib.hid (HBAD.out (.inl h1))
    obtain ⟨n1, n2⟩ : (v1 == 0) = false ∧ (v1 != 0) = true := by simp [h1]
    have HBP := Lib.hid hbp
    clear h1 hbp
    go_wp2_with fail
    refine bodyPost_ret (v := .tuple #[.slice none 0 0, faultV 0 1]) ?_ rfl (drive_fault HD.out HBP.out)
    simp [results, Try.results31, go_sem, r0, r1]
  subst h1
  clear p0 f0 p1 f1 r0 r1 hbp
  go_wp2_with fail
  refine (rknown_v base _ m A n c os b2 _ (by exact S1.out.map) (by exact S1.out.ords) V2.out).mono ?_
  rintro e w2 ⟨rfl, hb⟩
  have S2 := Lib.hid (S1.out.next hb)
  clear hb S1
  obtain ⟨⟨p0, f0⟩, ⟨p1, f1⟩, ⟨r0, r1⟩, hbp⟩ := S2.out.put 0 1
  have HBP := Lib.hid hbp
  clear hbp
  cases b2 with
  | false =>
    have HD := Lib.hid (HBAD.out (.inr (.inl rfl)))
    go_wp2_with fail
    refine bodyPost_ret (v := .tuple #[.slice none 0 0, faultV 0 1]) ?_ rfl (drive_fault HD.out HBP.out)
    simp [results, Try.results31, go_sem, r0, r1]
  | true =>
  by_cases h80 : 80 < n'
  · have HD := Lib.hid (HBAD.out (.inr (.inr h80)))
    go_wp2_with fail
    refine bodyPost_ret (v := .tuple #[.slice none 0 0, faultV 0 1]) ?_ rfl (drive_fault HD.out HBP.out)
    simp [results, Try.results31, go_sem, r0, r1]
  clear HBAD p0 f0 p1 f1 r0 r1 HBP
  obtain ⟨m', hm', hdk⟩ := drvE_ok.1 V1.out
  subst hm'
  obtain ⟨mn, ml⟩ := m'
  have HOK := Lib.hid (known_ok V2.out)
  have HU0 : Hid (Upto ⟨mn, ml⟩ d os stops 0 (st0 d) []) := Upto.start hdk
  have hn80 : n' ≤ 80 := by omega
  clear hdk h80
  obtain ⟨d0, d1, d2, d3, d4, d5⟩ := S2.out.drv.cells
  go_wp2_with fail
  go_quiet (fail)
  go_wp2
  go_loopw [10, 11, 12, 13, 14] (fun vv av lv dv iv wr => ∃ (k : Nat) (st : St) (vs : List Vis), k ≤ n' ∧ iv = .int .i64 k ∧ av = .int .i64 st.at_ ∧ lv = .int .i64 st.left ∧ dv = .int .i64 st.load ∧
    Hid (Stay w X base (.pointer q) (some ⟨mn, ml⟩) d A n os A' n' stops wr) ∧ Hid (OwnK wr X.heap.size 44 6 vv k (vissV vs)) ∧ Hid (Upto ⟨mn, ml⟩ d os stops k st vs)) (fun _ _ _ _ iv _ => n' - (intOf iv).toNat)
  case atStart => exact ⟨0, st0 d, [], Nat.zero_le _, rfl, rfl, rfl, rfl, S2.out.drewN _, OwnK.nil _ _ _ _, HU0⟩
  case round =>
    clear S2 HU0 d0 d1 d2 d3 d4 d5
    obtain ⟨k, st, vs, hk, rfl, rfl, rfl, rfl, S3, HO, HU⟩ := hrel
    by_cases hlt : k < n'
    case neg =>
      have e : k = n' := by omega
      subst e
      have HD := Lib.hid (by have := HU.out; rw [← HLS.out] at this; exact this.done V1.out V2.out (by rw [HLS.out]; exact hn80))
      by_cases hl : 0 < st.load
      · have HD2 : Hid (drive (some ⟨mn, ml⟩) d os stops = ([], k, 18)) := by
          have := HD.out
          rw [if_pos hl, HLS.out] at this
          exact this
        obtain ⟨⟨p0, f0⟩, ⟨p1, f1⟩, ⟨r0, r1⟩, hbp⟩ := S3.out.put k 18
        have HBP := Lib.hid hbp
        clear hbp HD
        go_wp2_with fail
        refine bodyPost_ret (v := .tuple #[.slice none 0 0, faultV k 18]) ?_ rfl (drive_fault HD2.out HBP.out)
        simp [results, Try.results31, go_sem, r0, r1]
      · have HD2 : Hid (drive (some ⟨mn, ml⟩) d os stops = (vs, 0, 0)) := by
          have := HD.out
          rw [if_neg hl] at this
          exact this
        obtain ⟨⟨p0, f0⟩, ⟨p1, f1⟩, ⟨r0, r1⟩, hbp⟩ := S3.out.put 0 0
        have HF : Hid (DriveOk w (drive (some ⟨mn, ml⟩) d os stops) (.returned (.tuple #[u10, faultV 0 0])) ((wr.setCell ⟨w.heap.size + 1, 0, none⟩ (.int .i64 0)).setCell ⟨w.heap.size + 1, 1, none⟩ (.int .i64 0))) := by
          show DriveOk _ _ _ _
          rw [HD2.out]
          refine ⟨hbp, u10, rfl, ?_⟩
          have := S3.out.own HO.out (.int .i64 0) (.int .i64 0)
          simp only [HU.out.len]
          exact this
        clear hbp HD HD2
        go_wp2_with fail
        refine bodyPost_ret (v := .tuple #[u10, faultV 0 0]) ?_ rfl HF.out
        simp [results, Try.results31, go_sem, r0, r1]
    obtain ⟨b, off, s, rfl, hbw, hs, _, c0, c1⟩ := Stps.at_ S3.out.stps hlt
    have HS := Lib.hid hs
    clear hs
    have S4 := Lib.hid (S3.out.alloc (.cells #[.int .i64 s.ord, .bool s.drop] 36))
    have HO4 := Lib.hid (HO.out.alloc (.cells #[.int .i64 s.ord, .bool s.drop] 36))
    have hbs : Blk (wr.alloc (.cells #[.int .i64 s.ord, .bool s.drop] 36)) wr.heap.size 36 [.int .i64 s.ord, .bool s.drop] := Blk.new wr _ _
    have HBS := Lib.hid hbs
    clear hbs S3 HO
    have HFD := Lib.hid (rfind_any A n c os s.ord _ _ S4.out.ords)
    cases hf : findI os s.ord with
    | none =>
      have HN := Lib.hid (findI_none hf)
      have HFD2 := HFD.out
      rw [hf] at HFD2
      replace HFD2 := Lib.hid HFD2
      clear hf HFD
      go_wp2_with fail
      refine HFD2.out.mono ?_
      rintro e w' ⟨rfl, rfl⟩
      have HD := Lib.hid (HU.out.fault HS.out (step_none HN.out) V1.out V2.out (by rw [HLS.out]; exact hn80))
      obtain ⟨⟨p0, f0⟩, ⟨p1, f1⟩, ⟨r0, r1⟩, hbp⟩ := S4.out.put k 8
      have HBP := Lib.hid hbp
      clear hbp
      go_wp2_with fail
      refine bodyPost_ret (v := .tuple #[.slice none 0 0, faultV k 8]) ?_ rfl (drive_fault HD.out HBP.out)
      simp [results, Try.results31, go_sem, r0, r1]
    | some i =>
    obtain ⟨o, ho, hid, hfo⟩ := findI_some hf
    have HFD2 := HFD.out
    rw [hf] at HFD2
    replace HFD2 := Lib.hid HFD2
    have HFO := Lib.hid hfo
    have HOI := Lib.hid ho
    have hin : i < n := by have := (List.getElem?_eq_some_iff.1 ho).1; have := HLO.out; omega
    have HKO := Lib.hid (HOK.out o (List.mem_of_getElem? ho))
    clear hf HFD ho hid hfo
    obtain ⟨t1, ht1⟩ : ∃ b, decide (s ∈ stops.take k) = b := ⟨_, rfl⟩
    have T1 := Lib.hid ht1
    clear ht1
    go_wp2_with fail
    refine HFD2.out.mono ?_
    rintro e w' ⟨rfl, rfl⟩
    have hxi : ¬ (i : Int) < 0 := by omega
    obtain ⟨y0, y1⟩ : (wr.alloc (.cells #[.int .i64 s.ord, .bool s.drop] 36)).cell? ⟨wr.heap.size, 0, none⟩ = some (.int .i64 s.ord) ∧ (wr.alloc (.cells #[.int .i64 s.ord, .bool s.drop] 36)).cell? ⟨wr.heap.size, 1, none⟩ = some (.bool s.drop) := ⟨HBS.out.cell rfl, HBS.out.cell rfl⟩
    have hk0 : (0 : Int) ≤ (k : Int) := by omega
    have hkc : (k : Int) ≤ (c' : Int) := by omega
    simp only [idxV]
    go_upto_region 12 with fail
    go_cut [67] (fun bv wx => bv = .bool t1 ∧ Hid (Stay w X base (.pointer q) (some ⟨mn, ml⟩) d (A) n os (some ⟨b, off, none⟩) n' stops wx) ∧ Hid (OwnK wx X.heap.size 44 6 u10 k (vissV vs)) ∧ Hid (Blk wx wr.heap.size 36 [.int .i64 s.ord, .bool s.drop]))
    case first =>
      have S4D := Lib.hid S4.out.drew
      have HO4D : Hid (OwnK (wr.alloc (.cells #[.int .i64 s.ord, .bool s.drop] 36)).drew X.heap.size 44 6 u10 k (vissV vs)) := HO4.out.same fun _ _ _ => rfl
      have HBSD : Hid (Blk (wr.alloc (.cells #[.int .i64 s.ord, .bool s.drop] 36)).drew wr.heap.size 36 [.int .i64 s.ord, .bool s.drop]) := HBS.out
      have HCALL := Lib.hid (rhas_v (some ⟨b, off, none⟩) k c' (stops.take k) s _ t1 (stps_front S4D.out.stps (by omega)) T1.out)
      go_region_law (go_simp; go_at_call 48; refine HCALL.out.mono ?_; rintro e w5 ⟨rfl, hb⟩; have S5 := Lib.hid (S4D.out.next hb); have HO5 := Lib.hid (HO4D.out.keep hb (Nat.le_refl _)); have HB5 := Lib.hid (HBSD.out.below hb HBSD.out.lt); clear hb)
      all_goals
        go_wp2_with fail
        go_meet
        exact ⟨rfl, S5, HO5, HB5⟩
    case rest =>
    obtain ⟨rfl, S5, HO5, HB5⟩ := hcut
    clear S4 HO4 HBS y0 y1 c0 c1 HFD2
    cases t1 with
    | true =>
      have HD := Lib.hid (HU.out.fault HS.out (step_twice HFO.out (of_decide_eq_true T1.out)) V1.out V2.out (by rw [HLS.out]; exact hn80))
      obtain ⟨⟨p0, f0⟩, ⟨p1, f1⟩, ⟨r0, r1⟩, hbp⟩ := S5.out.put k 16
      have HBP := Lib.hid hbp
      clear hbp
      go_wp2_with fail
      refine bodyPost_ret (v := .tuple #[.slice none 0 0, faultV k 16]) ?_ rfl (drive_fault HD.out HBP.out)
      simp [results, Try.results31, go_sem, r0, r1]
    | false =>
    have HNEW := Lib.hid (of_decide_eq_false T1.out)
    clear T1
    obtain ⟨t2, ht2⟩ : ∃ b, decide (Stp.mk s.ord false ∈ stops.take k) = b := ⟨_, rfl⟩
    have T2 := Lib.hid ht2
    clear ht2
    obtain ⟨y0, y1⟩ : wc.cell? ⟨wr.heap.size, 0, none⟩ = some (.int .i64 s.ord) ∧ wc.cell? ⟨wr.heap.size, 1, none⟩ = some (.bool s.drop) := ⟨HB5.out.cell rfl, HB5.out.cell rfl⟩
    go_upto_region 14 with fail
    go_cut [81] (fun bv wx => ∃ t3 : Bool, bv = .bool t3 ∧ Hid (t3 = true → s.drop = true ∧ t2 = false) ∧ Hid (t3 = false → s.drop = true → t2 = true) ∧ Hid (Stay w X base (.pointer q) (some ⟨mn, ml⟩) d A n os (some ⟨b, off, none⟩) n' stops wx) ∧ Hid (OwnK wx X.heap.size 44 6 u10 k (vissV vs)) ∧ Hid (Blk wx wr.heap.size 36 [.int .i64 s.ord, .bool s.drop]))
    case first =>
      have S5D := Lib.hid S5.out.drew
      have HO5D : Hid (OwnK wc.drew X.heap.size 44 6 u10 k (vissV vs)) := HO5.out.same fun _ _ _ => rfl
      have HB5D : Hid (Blk wc.drew wr.heap.size 36 [.int .i64 s.ord, .bool s.drop]) := HB5.out
      cases hsd : s.drop with
      | false =>
        rw [hsd] at y1
        go_quiet (fail)
        go_wp2_with fail
        go_meet
        exact ⟨false, rfl, fun h => (by cases h), fun _ h => (by rw [hsd] at h; cases h), S5.out.drewN _, HO5.out.drewN _, HB5.out⟩
      | true =>
        rw [hsd] at y1
        have HCALL := Lib.hid (rhas_v (some ⟨b, off, none⟩) k c' (stops.take k) ⟨s.ord, false⟩ _ t2 (stps_front S5D.out.stps (by omega)) T2.out)
        go_region_law (go_simp; go_at_call 48; refine HCALL.out.mono ?_; rintro e w6 ⟨rfl, hb⟩; have S6 := Lib.hid (S5D.out.next hb); have HO6 := Lib.hid (HO5D.out.keep hb (Nat.le_refl _)); have HB6 := Lib.hid (HB5D.out.below hb HB5D.out.lt); clear hb)
        all_goals
          go_wp2_with fail
          go_meet
          exact ⟨!t2, rfl, fun h => ⟨hsd, by simpa using h⟩, fun h _ => by simpa using h, S6, HO6, HB6⟩
    case rest =>
    obtain ⟨t3, rfl, HT3, HT3n, S6, HO6, HB6⟩ := hcut
    clear S5 HO5 HB5 y0 y1
    obtain ⟨w6, rfl⟩ : ∃ w6, w6 = wc := ⟨_, rfl⟩
    cases t3 with
    | true =>
      have HF17 := Lib.hid (HT3.out (by trivial))
      have HD := Lib.hid (HU.out.fault HS.out (step_first HFO.out HNEW.out HF17.out.1 (of_decide_eq_false (by rw [T2.out]; exact HF17.out.2))) V1.out V2.out (by rw [HLS.out]; exact hn80))
      obtain ⟨⟨p0, f0⟩, ⟨p1, f1⟩, ⟨r0, r1⟩, hbp⟩ := S6.out.put k 17
      have HBP := Lib.hid hbp
      clear hbp
      go_wp2_with fail
      refine bodyPost_ret (v := .tuple #[.slice none 0 0, faultV k 17]) ?_ rfl (drive_fault HD.out HBP.out)
      simp [results, Try.results31, go_sem, r0, r1]
    | false =>
    have HFST : Hid (s.drop = true → Stp.mk s.ord false ∈ stops.take k) := fun h => of_decide_eq_true (by rw [T2.out]; exact HT3n.out (by trivial) h)
    clear HT3 HT3n T2
    obtain ⟨bo, oo, o', rfl, hbo, ho', _, g0, g1, g2, g3, g4, g5, g6, g7, g8, g9⟩ := Ords.at_ S6.out.ords hin
    have e' : o' = o := by
      have := HOI.out
      rw [this] at ho'
      injection ho' with ho'
      exact ho'.symm
    subst e'
    clear ho'
    have S7 := Lib.hid (S6.out.alloc (.cells #[.int .i64 o'.id, .int .i64 o'.size, .int .i64 o'.pick.place, .int .i64 o'.pick.win.fr, .int .i64 o'.pick.win.to, .int .i64 o'.pick.serv, .int .i64 o'.drop.place, .int .i64 o'.drop.win.fr, .int .i64 o'.drop.win.to, .int .i64 o'.drop.serv] 31))
    have HO7 := Lib.hid (HO6.out.alloc (.cells #[.int .i64 o'.id, .int .i64 o'.size, .int .i64 o'.pick.place, .int .i64 o'.pick.win.fr, .int .i64 o'.pick.win.to, .int .i64 o'.pick.serv, .int .i64 o'.drop.place, .int .i64 o'.drop.win.fr, .int .i64 o'.drop.win.to, .int .i64 o'.drop.serv] 31))
    have HB7 : Hid (Blk (w6.alloc (.cells #[.int .i64 o'.id, .int .i64 o'.size, .int .i64 o'.pick.place, .int .i64 o'.pick.win.fr, .int .i64 o'.pick.win.to, .int .i64 o'.pick.serv, .int .i64 o'.drop.place, .int .i64 o'.drop.win.fr, .int .i64 o'.drop.win.to, .int .i64 o'.drop.serv] 31)) wr.heap.size 36 [.int .i64 s.ord, .bool s.drop]) := HB6.out.below ((Below.refl _ _).alloc (Nat.le_refl _) _) HB6.out.lt
    have HX7 : Hid (OBox (w6.alloc (.cells #[.int .i64 o'.id, .int .i64 o'.size, .int .i64 o'.pick.place, .int .i64 o'.pick.win.fr, .int .i64 o'.pick.win.to, .int .i64 o'.pick.serv, .int .i64 o'.drop.place, .int .i64 o'.drop.win.fr, .int .i64 o'.drop.win.to, .int .i64 o'.drop.serv] 31)) w6.heap.size o') := Blk.new w6 _ _
    obtain ⟨ld, hld⟩ : ∃ l, loadOf o' s st.load = l := ⟨_, rfl⟩
    have HLD := Lib.hid hld
    clear hld
    obtain ⟨sz1, sz2⟩ := HKO.out.size
    have hload := HU.out.load
    obtain ⟨ll1, ll2⟩ := hload
    have y1 : (w6.alloc (.cells #[.int .i64 o'.id, .int .i64 o'.size, .int .i64 o'.pick.place, .int .i64 o'.pick.win.fr, .int .i64 o'.pick.win.to, .int .i64 o'.pick.serv, .int .i64 o'.drop.place, .int .i64 o'.drop.win.fr, .int .i64 o'.drop.win.to, .int .i64 o'.drop.serv] 31)).cell? ⟨wr.heap.size, 1, none⟩ = some (.bool s.drop) := HB7.out.cell rfl
    obtain ⟨o0, o1, o2, o3, o4, o5, o6, o7, o8, o9⟩ := HX7.out.cells
    go_upto_if 89 with fail
    go_cut [13] (fun lv wx => lv = .int .i64 ld ∧ wx = w6.alloc (.cells #[.int .i64 o'.id, .int .i64 o'.size, .int .i64 o'.pick.place, .int .i64 o'.pick.win.fr, .int .i64 o'.pick.win.to, .int .i64 o'.pick.serv, .int .i64 o'.drop.place, .int .i64 o'.drop.win.fr, .int .i64 o'.drop.win.to, .int .i64 o'.drop.serv] 31))
    case first =>
      cases hsd : s.drop with
      | true =>
        have hl : ld = st.load - o'.size := by rw [← HLD.out]; unfold loadOf; rw [hsd]; rfl
        subst hl
        rw [hsd] at y1
        go_wp2_with fail
        go_meet
        exact ⟨rfl, rfl⟩
      | false =>
        have hl : ld = st.load + o'.size := by rw [← HLD.out]; unfold loadOf; rw [hsd]; rfl
        subst hl
        rw [hsd] at y1
        go_wp2_with fail
        go_meet
        exact ⟨rfl, rfl⟩
    case rest =>
    obtain ⟨rfl, hwc⟩ := hcut
    subst hwc
    clear g0 g1 g2 g3 g4 g5 g6 g7 g8 g9 S6 HO6 HB6
    obtain ⟨d0, d1, d2, d3, d4, d5⟩ := S7.out.drv.cells
    have y0 : (w6.alloc (.cells #[.int .i64 o'.id, .int .i64 o'.size, .int .i64 o'.pick.place, .int .i64 o'.pick.win.fr, .int .i64 o'.pick.win.to, .int .i64 o'.pick.serv, .int .i64 o'.drop.place, .int .i64 o'.drop.win.fr, .int .i64 o'.drop.win.to, .int .i64 o'.drop.serv] 31)).cell? ⟨wr.heap.size, 0, none⟩ = some (.int .i64 s.ord) := HB7.out.cell rfl
    by_cases hroom : d.room < ld
    · have HD := Lib.hid (HU.out.fault HS.out (step_load HFO.out HNEW.out HFST.out (by rw [HLD.out]; exact hroom)) V1.out V2.out (by rw [HLS.out]; exact hn80))
      obtain ⟨⟨p0, f0⟩, ⟨p1, f1⟩, ⟨r0, r1⟩, hbp⟩ := S7.out.put k 14
      have HBP := Lib.hid hbp
      clear hbp
      go_wp2_with fail
      refine bodyPost_ret (v := .tuple #[.slice none 0 0, faultV k 14]) ?_ rfl (drive_fault HD.out HBP.out)
      simp [results, Try.results31, go_sem, r0, r1]
    obtain ⟨si, hsi⟩ : ∃ x, siteOf o' s = x := ⟨_, rfl⟩
    have HSI := Lib.hid hsi
    have HST := Lib.hid (rsite_any o' s (w6.alloc (.cells #[.int .i64 o'.id, .int .i64 o'.size, .int .i64 o'.pick.place, .int .i64 o'.pick.win.fr, .int .i64 o'.pick.win.to, .int .i64 o'.pick.serv, .int .i64 o'.drop.place, .int .i64 o'.drop.win.fr, .int .i64 o'.drop.win.to, .int .i64 o'.drop.serv] 31)))
    rw [hsi] at HST
    have hsv : 0 ≤ si.serv ∧ si.serv ≤ 1000000 := by
      rw [← hsi]
      unfold siteOf
      split
      · exact HKO.out.dropS
      · exact HKO.out.pickS
    obtain ⟨sv1, sv2⟩ := hsv
    clear hsi
    go_wp2_with fail
    refine HST.out.mono ?_
    rintro e w8 ⟨rfl, hb⟩
    have S8 := Lib.hid ((S7.out.next hb).alloc (.cells #[.int .i64 si.place, .int .i64 si.win.fr, .int .i64 si.win.to, .int .i64 si.serv] 29))
    have HO8 := Lib.hid ((HO7.out.keep hb (Nat.le_refl _)).alloc (.cells #[.int .i64 si.place, .int .i64 si.win.fr, .int .i64 si.win.to, .int .i64 si.serv] 29))
    have HB8 : Hid (Blk (w8.alloc (.cells #[.int .i64 si.place, .int .i64 si.win.fr, .int .i64 si.win.to, .int .i64 si.serv] 29)) wr.heap.size 36 [.int .i64 s.ord, .bool s.drop]) := (HB7.out.below hb HB7.out.lt).below ((Below.refl _ _).alloc (Nat.le_refl _) _) (HB7.out.below hb HB7.out.lt).lt
    have HX8 : Hid (SBox (w8.alloc (.cells #[.int .i64 si.place, .int .i64 si.win.fr, .int .i64 si.win.to, .int .i64 si.serv] 29)) w8.heap.size si) := Blk.new w8 _ _
    have HRG : Hid (∀ g, u10.ownBlock = some g → g < w8.heap.size) := fun g hg => ((HO7.out.keep hb (Nat.le_refl _)).1.lt g hg).2
    clear hb S7 HO7 HB7 HX7 HST d0 d1 d2 d3 d4 d5 y0 y1 o0 o1 o2 o3 o4 o5 o6 o7 o8 o9
    obtain ⟨bm, hbm⟩ := map_ptr S8.out.map
    subst hbm
    obtain ⟨tt, htt⟩ : ∃ t, time ⟨mn, ml⟩ st.at_ si.place = t := ⟨_, rfl⟩
    have HTT := Lib.hid htt
    obtain ⟨tb1, tb2⟩ := time_bounds (map_at S8.out.map).2.2 st.at_ si.place
    rw [htt] at tb1 tb2
    clear htt
    obtain ⟨lf1, lf2⟩ := HU.out.left
    go_wp2_with fail
    refine (rtime_val' base bm mn ml st.at_ si.place tt _ (by exact (map_at S8.out.map).1) (map_at S8.out.map).2.1 HTT.out).mono ?_
    rintro e w9 ⟨rr, dd, rfl, hw9⟩
    have S9 : Hid (Stay w X base (.pointer (some ⟨bm, 0, none⟩)) (some ⟨mn, ml⟩) d (some ⟨bo, oo, none⟩) n os (some ⟨b, off, none⟩) n' stops w9) := by rw [hw9]; exact S8.out.drewN _
    have HO9 : Hid (OwnK w9 X.heap.size 44 6 u10 k (vissV vs)) := by rw [hw9]; exact HO8.out.drewN _
    have HB9 : Hid (Blk w9 wr.heap.size 36 [.int .i64 s.ord, .bool s.drop]) := by rw [hw9]; exact HB8.out
    have HX9 : Hid (SBox w9 w8.heap.size si) := by rw [hw9]; exact HX8.out
    clear hw9 S8 HO8 HB8 HX8
    obtain ⟨d0, d1, d2, d3, d4, d5⟩ := S9.out.drv.cells
    obtain ⟨z0, z1, z2, z3⟩ := HX9.out.cells
    rcases twoV_form (FleetMath.served ⟨mn, ml⟩ st.at_ st.left si d.win.to) with ⟨bb, lv, hsr, htv⟩ | ⟨hsr, htv⟩
    case inr =>
      have HSR := Lib.hid hsr
      have HTV := Lib.hid htv
      clear hsr htv
      go_wp2_with fail
      refine (rserved_v base bm mn ml st.at_ st.left si d.win.to _ _ (by exact (map_at S9.out.map).1) (map_at S9.out.map).2.1 (map_at S9.out.map).2.2 lf1 lf2 sv1 sv2 HTV.out).mono ?_
      rintro e wA ⟨rfl, hb⟩
      have SA := Lib.hid (S9.out.next hb)
      clear hb S9 HO9 HB9 HX9 d0 d1 d2 d3 d4 d5 z0 z1 z2 z3
      have HD := Lib.hid (HU.out.fault HS.out (step_tardy HFO.out HNEW.out HFST.out (by rw [HLD.out]; omega) (by rw [HSI.out]; exact HSR.out)) V1.out V2.out (by rw [HLS.out]; exact hn80))
      obtain ⟨⟨p0, f0⟩, ⟨p1, f1⟩, ⟨r0, r1⟩, hbp⟩ := SA.out.put k 15
      have HBP := Lib.hid hbp
      clear hbp
      go_wp2_with fail
      refine bodyPost_ret (v := .tuple #[.slice none 0 0, faultV k 15]) ?_ rfl (drive_fault HD.out HBP.out)
      simp [results, Try.results31, go_sem, r0, r1]
    have HSR := Lib.hid hsr
    have HTV := Lib.hid htv
    clear hsr htv
    go_wp2_with fail
    refine (rserved_v base bm mn ml st.at_ st.left si d.win.to _ _ (by exact (map_at S9.out.map).1) (map_at S9.out.map).2.1 (map_at S9.out.map).2.2 lf1 lf2 sv1 sv2 HTV.out).mono ?_
    rintro e wA ⟨rfl, hb⟩
    have SA := Lib.hid (S9.out.next hb)
    have HOA := Lib.hid (HO9.out.keep hb (Nat.le_refl _))
    have HBA := Lib.hid (HB9.out.below hb HB9.out.lt)
    have HXA := Lib.hid (HX9.out.below hb)
    clear hb S9 HO9 HB9 HX9 d0 d1 d2 d3 d4 d5 z0 z1 z2 z3
    have HUN : Hid (Upto ⟨mn, ml⟩ d os stops (k + 1) ⟨si.place, lv, ld⟩ (vs ++ [⟨s, st.left + tt, bb, lv, ld⟩])) := by
      have := HU.out.next HS.out HKO.out HFO.out HNEW.out HFST.out (by rw [HLD.out]; omega) (by rw [HSI.out]; exact HSR.out)
      rw [HSI.out, HLD.out, HTT.out] at this
      exact this
    obtain ⟨y0, y1⟩ : wA.cell? ⟨wr.heap.size, 0, none⟩ = some (.int .i64 s.ord) ∧ wA.cell? ⟨wr.heap.size, 1, none⟩ = some (.bool s.drop) := ⟨HBA.out.cell rfl, HBA.out.cell rfl⟩
    have SB := Lib.hid (SA.out.alloc (.cells #[.int .i64 s.ord, .bool s.drop, .int .i64 (st.left + tt), .int .i64 bb, .int .i64 lv, .int .i64 ld] 44))
    have HOB := Lib.hid (HOA.out.alloc (.cells #[.int .i64 s.ord, .bool s.drop, .int .i64 (st.left + tt), .int .i64 bb, .int .i64 lv, .int .i64 ld] 44))
    have HVB : Hid (Blk (wA.alloc (.cells #[.int .i64 s.ord, .bool s.drop, .int .i64 (st.left + tt), .int .i64 bb, .int .i64 lv, .int .i64 ld] 44)) wA.heap.size 44 [.int .i64 s.ord, .bool s.drop, .int .i64 (st.left + tt), .int .i64 bb, .int .i64 lv, .int .i64 ld]) := Blk.new wA _ _
    have HXB : Hid (SBox (wA.alloc (.cells #[.int .i64 s.ord, .bool s.drop, .int .i64 (st.left + tt), .int .i64 bb, .int .i64 lv, .int .i64 ld] 44)) w8.heap.size si) := HXA.out.below ((Below.refl _ _).alloc (Nat.le_refl _) _)
    have hone : ∀ u ∈ [Value.int .i64 s.ord, .bool s.drop, .int .i64 (st.left + tt), .int .i64 bb, .int .i64 lv, .int .i64 ld], u.oneCell' = true := by
      intro u hu
      simp only [List.mem_cons, List.not_mem_nil, or_false] at hu
      rcases hu with rfl | rfl | rfl | rfl | rfl | rfl <;> rfl
    have HONE := Lib.hid hone
    clear hone SA HOA HBA HXA
    go_wp2_with (at_builtin; refine wpList_append_k (o := ⟨some 141, _, _, _, _, _⟩) rfl (.tmp 131) (.tmp 140) Try.underlying45 infoVis rfl (by decide) rfl HOB.out rfl HVB.out rfl rfl HONE.out (by unfold maxLen; omega) (by omega) SB.out.below SB.out.below.size SB.out.below.size (Nat.le_refl _) ?_; intro vB wB HOC HBC HGC; have SC := Lib.hid (SB.out.grow HOB.out HGC.out); have HXC : SBox wB w8.heap.size si := (HGC.out.block w8.heap.size (Blk.lt HXB.out) (fun e => absurd (HRG.out _ e.symm) (Nat.lt_irrefl _))).trans HXB.out; have z0 := HXC.cells.1; clear HXC)
    go_roundw
    case rel => exact ⟨k + 1, ⟨si.place, lv, ld⟩, vs ++ [⟨s, st.left + tt, bb, lv, ld⟩], by omega, by go_num, rfl, rfl, rfl, SC, (by show OwnK _ _ _ _ _ _ _; rw [visV_snoc]; exact HOC.out), HUN⟩
    case measure => simp [intOf]; omega

#print axioms rdrive_any
end Go.Proofs.Ytfejnohcggoepaa.Route
