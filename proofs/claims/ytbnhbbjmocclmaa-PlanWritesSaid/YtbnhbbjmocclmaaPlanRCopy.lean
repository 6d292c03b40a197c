/-
  The document's own answer to chapter 9, walked: Copy.
-/
import Derived.Test.YtbnhbbjmocclmaaPlanRWithout
namespace Go.Proofs.Ytbnhbbjmocclmaa.Plan
open Go.ChangeShapes Go.WideShapes Go.ChangeAt Go.RowKit Go.Proofs.Ytbnhbbjmocclmaa.Mem Go.Proofs.Ytbnhbbjmocclmaa.FleetMath Go.Proofs.Ytbnhbbjmocclmaa.PlanMath Go.Proofs.Ytbnhbbjmocclmaa.Rec
set_option linter.unusedVariables false
set_option linter.unusedSimpArgs false

/-- Copy's state ahead of route k -/
structure CS (w : World) (l : List RM) (k : Nat) (v : Value) (wr : World) (l' : List RM) : Prop where
  plan : NewP w wr v l'
  rts : l'.map (·.rt) = (l.take k).map (·.rt)
  fits : ∀ r ∈ l', r.n * 16 ≤ 140737488351232
theorem CS.next {w wr w' : World} {l l' : List RM} {k : Nat} {v v' : Value} {x : RM} {A : Option Addr} {m c : Nat} (h : CS w l k v wr l') (hx : l[k]? = some x) (hq : NewP w w' v' (l' ++ [⟨x.rt, A, m, c⟩])) (hm : m * 16 ≤ 140737488351232) :
    CS w l (k + 1) v' w' (l' ++ [⟨x.rt, A, m, c⟩]) := by
  refine ⟨hq, ?_, fun r hr => ?_⟩
  · rw [List.map_append, h.rts, List.take_add_one, hx, List.map_append]
    rfl
  · rcases List.mem_append.1 hr with hr | hr
    · exact h.fits r hr
    · obtain rfl : r = _ := by simpa using hr
      exact hm
/-- a row of stops that holds a whole list behind what it held -/
theorem RowP.grows {w0 w w' : World} {v u u' : Value} {l : List RM} {s t : List Stp} (h : RowP w0 w v l u s) (ho : OwnK w' w0.heap.size 23 2 u' (s.length + t.length) (stpsV s ++ stpsV t)) (hg : w.grownBy w' u.ownBlock)
    (hn : u'.ownBlock = u.ownBlock ∨ u'.ownBlock = some w.heap.size) : RowP w0 w' v l u' (s ++ t) := by
  refine ⟨⟨h.own.below h.plan.old hg h.plan.old.size (Nat.le_refl _), h.plan.own.other hg fun g hv hu => h.two g hu hv, fun r hr => ⟨(h.plan.each r hr).1.other hg fun g hv hu => h.apart r hr g hu hv, (h.plan.each r hr).2⟩⟩, ?_, ?_, fun r hr => ?_⟩
  · rw [List.length_append]
    have e : stpsV (s ++ t) = stpsV s ++ stpsV t := by simp [stpsV]
    rw [e]
    exact ho
  · exact (h.two.symm.grown h.plan.own hn).symm
  · exact ((h.apart r hr).symm.grown (h.plan.each r hr).1 hn).symm
/-- a row that begins in a new block -/
theorem NewP.row0 {w0 w : World} {v : Value} {l : List RM} (h : NewP w0 w v l) : RowP w0 (w.alloc (.cells #[] 23)).drew v l (.slice (some ⟨w.heap.size, 0, none⟩) 0 0) [] := by
  have hk : NewP w0 (w.alloc (.cells #[] 23)).drew v l := h.keep ((Below.refl _ _).alloc (Nat.le_refl _) _).drew
  refine ⟨hk, (OwnK.new0 w w0.heap.size _ _ h.old.size).drew, fun g hg hv => ?_, fun r hr g hg hv => ?_⟩
  · have e : w.heap.size = g := by simpa [Value.ownBlock] using hg
    have := (own_blk h.own hv).2
    omega
  · have e : w.heap.size = g := by simpa [Value.ownBlock] using hg
    have := (own_blk (h.each r hr).1 hv).2
    omega
theorem at_worldP {P : Program} {o : Oper} {a : Act} {K : Act → World → Prop} {Q : Exit → Act → World → Prop} {E : Prop} {b : Bool} (w : World) (h : if b = true then Oper.wp P o a w K Q else E) : if b = true then Oper.wp P o a w K Q else E := h
theorem row_made {w0 w w' : World} {v : Value} {l : List RM} {g c : Nat} {A : Option Addr} (x : RM) (h : RowP w0 w v l (.slice (some ⟨g, 0, none⟩) 0 0) []) (hx : x.rt.stops.length = x.n) (ho : OwnK w' w0.heap.size 23 2 (.slice A (0 + x.n) c) (0 + x.n) ([] ++ stpsV x.rt.stops))
    (hg : w.grownBy w' (Value.slice (some ⟨g, 0, none⟩) 0 0).ownBlock) (hn : (Value.slice A (0 + x.n) c).ownBlock = (Value.slice (some ⟨g, 0, none⟩) 0 0).ownBlock ∨ (Value.slice A (0 + x.n) c).ownBlock = some w.heap.size) : Hid (RowP w0 w' v l (.slice A x.n c) x.rt.stops) := by
  rw [Nat.zero_add] at ho hn
  have := h.grows (t := x.rt.stops) (u' := .slice A x.n c) (by rw [hx]; exact (by simpa using ho : OwnK w' w0.heap.size 23 2 (.slice A x.n c) (0 + x.n) (stpsV x.rt.stops))) hg hn
  exact this

set_option maxRecDepth 100000 in
set_option maxHeartbeats 8000000 in
theorem rcopy_any (A : Option Addr) (n c : Nat) (l : List RM) (w : World) (hl : Plns w w.heap.size A n l) (hn40 : n * 40 ≤ 140737488351232) :
    Calls Try.prog 55 #[.slice A n c] w (fun e w' => ∃ v l', e = .returned v ∧ CS w l n v w' l') := by
  have hm := Recs.le hl.rows
  have HL := Lib.hid hl.length
  have HI := Lib.hid hl
  clear hl
  go_enter Try.func55, Try.ntmps55
  go_wp2
  go_loopw [3, 4] (fun v i wr => ∃ (k : Nat) (l' : List RM), k ≤ n ∧ i = .int .i64 k ∧ Hid (CS w l k v wr l')) (fun _ i _ => n - (intOf i).toNat)
  case atStart => exact ⟨0, [], Nat.zero_le _, rfl, Lib.hid ⟨NewP.nil w, rfl, fun r h => by cases h⟩⟩
  case round =>
    obtain ⟨k, l', hk, rfl, HW⟩ := hrel
    by_cases hlt : k < n
    · have HI1 : Hid (Plns wr w.heap.size A n l) := HI.out.keep HW.out.plan.old
      obtain ⟨b, off, x, rfl, hbb, hx, _, c0, c1, c2, hst, _⟩ := HI1.out.at_ hlt
      obtain ⟨_, _, _, _, _, _, hfit⟩ := HI1.out.cells hx
      have HX := Lib.hid hx
      have HST := Lib.hid hst
      have hsl : x.rt.stops.length = x.n := hst.length
      have hlk : l'.length = k := by have h := congrArg List.length HW.out.rts; simp only [List.length_map, List.length_take, HL.out] at h; omega
      clear hx hst
      have HR0 := Lib.hid HW.out.plan.row0
      have HS0 : Hid (Stps (wr.alloc (.cells #[] 23)).drew w.heap.size x.a x.n x.rt.stops) := Recs.keep HST.out ((Below.refl _ _).alloc HW.out.plan.old.size _).drew
      have HRO : Hid (OwnK (wr.alloc (.cells #[] 23)).drew w.heap.size 23 2 (.slice (some ⟨wr.heap.size, 0, none⟩) 0 0) 0 []) := HR0.out.own
      obtain ⟨_, e0, e1, e2, _, _, _⟩ := (HI.out.keep HR0.out.plan.old).cells HX.out
      go_wp2
      go_region_law (first | ((with_reducible refine at_worldP (wr.alloc (.cells #[] 23)).drew ?_); refine step_append_ks (by rfl) _ _ Try.underlying24 infoStp rfl (by decide) (by rfl) (base := w.heap.size) HRO.out (by rfl) HS0.out (by rfl) (stpsV_one x.rt.stops) (by unfold maxLen; omega) (by omega) (w0 := w) (B0 := w.heap.size) HR0.out.plan.old HR0.out.plan.old.size HR0.out.plan.old.size (Nat.le_refl _) ?_; intro vA wA HO2 HB2 HG2 HN2; obtain ⟨A9, c9, rfl⟩ := HO2.out.slice; have HRA := row_made x HR0.out hsl HO2.out HG2.out HN2.out; obtain ⟨_, d0, d1, d2, _, _, _⟩ := (HI.out.keep HRA.out.plan.old).cells HX.out; have HA := Lib.hid (HRA.out.keep ((Below.refl wA.heap.size wA).alloc (Nat.le_refl _) (.cells #[.int .i64 x.rt.drv, .int .i64 x.rt.served, .slice A9 x.n c9] 26))); have HY := Lib.hid (blk_recs (Blk.new wA 26 [.int .i64 x.rt.drv, .int .i64 x.rt.served, .slice A9 x.n c9]) rfl); rw [Nat.zero_add]; clear HO2 HB2 HG2 HN2) | (refine step_append_ks (by rfl) _ _ Try.underlying28 infoRte rfl (by decide) (by rfl) (base := w.heap.size) HA.out.plan.own (by rfl) HY.out (by rfl) (rmL_one ⟨x.rt, A9, x.n, c9⟩) (by unfold maxLen; omega) (by omega) (w0 := w) (B0 := w.heap.size) HA.out.plan.old HA.out.plan.old.size HA.out.plan.old.size (Nat.le_refl _) ?_; intro vB wB HO2 HB2 HG2 HN2; have HQ := Lib.hid (HA.out.push (r := ⟨x.rt, A9, x.n, c9⟩) rfl rfl HO2.out HG2.out HN2.out); clear HO2 HB2 HG2 HN2))
      all_goals
        go_wp2
        go_roundw
        case rel => exact ⟨k + 1, _, by omega, by go_num, Lib.hid (HW.out.next HX.out HQ.out hfit)⟩
        case measure => simp [intOf]; omega
    · have hke : k = n := by omega
      subst hke
      go_wp2
      go_ret
      exact ⟨_, l', rfl, HW.out⟩

#print axioms rcopy_any
end Go.Proofs.Ytbnhbbjmocclmaa.Plan
