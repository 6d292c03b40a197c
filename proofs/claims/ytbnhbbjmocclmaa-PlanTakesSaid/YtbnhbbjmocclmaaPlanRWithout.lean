/-
  The document's own answer to chapter 9, walked: Without.
-/
import Derived.Test.YtbnhbbjmocclmaaPlanRBegun
import Derived.Test.YtbnhbbjmocclmaaPlanNew
namespace Go.Proofs.Ytbnhbbjmocclmaa.Plan
open Go.ChangeShapes Go.WideShapes Go.ChangeAt Go.RowKit Go.Proofs.Ytbnhbbjmocclmaa.Mem Go.Proofs.Ytbnhbbjmocclmaa.FleetMath Go.Proofs.Ytbnhbbjmocclmaa.PlanMath Go.Proofs.Ytbnhbbjmocclmaa.Rec
set_option linter.unusedVariables false
set_option linter.unusedSimpArgs false

/-- what stays of a route -/
abbrev stays (p : List Rte) (os : List Int) (s : Stp) : Bool := !decide (s.ord ∈ os) || begunP p s.ord
abbrev outR (p : List Rte) (os : List Int) (r : Rte) : Rte := ⟨r.drv, r.served, r.stops.filter (stays p os)⟩
theorem rin_val (A : Option Addr) (n c : Nat) (l : List Int) (v : Int) (b : Bool) (w : World) (hl : Ints w w.heap.size A n l) (hb : decide (v ∈ l) = b) :
    Calls Try.prog 52 #[.slice A n c, .int .i64 v] w (fun e w' => e = .returned (.bool b) ∧ w = w') := by
  rw [← hb]; exact rin_any A n c l v w hl
theorem rbegun_val (A : Option Addr) (n c : Nat) (l : List RM) (o : Int) (b : Bool) (w : World) (hl : Plns w w.heap.size A n l) (hb : begunP (l.map (·.rt)) o = b) :
    Calls Try.prog 53 #[.slice A n c, .int .i64 o] w (fun e w' => e = .returned (.bool b) ∧ w = w') := by
  rw [← hb]; exact rbegun_any A n c l o w hl
theorem _root_.Go.Proofs.Ytbnhbbjmocclmaa.Rec.Plns.cells {w : World} {B b off n i : Nat} {l : List RM} {x : RM} (h : Plns w B (some ⟨b, off, none⟩) n l) (hx : l[i]? = some x) : b < B ∧ w.cell? ⟨b, off + i * 3, none⟩ = some (.int .i64 x.rt.drv) ∧ w.cell? ⟨b, off + i * 3 + 1, none⟩ = some (.int .i64 x.rt.served) ∧ w.cell? ⟨b, off + i * 3 + 2, none⟩ = some (.slice x.a x.n x.c) ∧ Stps w B x.a x.n x.rt.stops ∧ x.n ≤ x.c ∧ x.n * 16 ≤ 140737488351232 := by
  have hlt := (List.getElem?_eq_some_iff.1 hx).1
  obtain ⟨b', off', e, hb, hc⟩ := Recs.at_ h.rows (i := i) (by rw [← h.length]; exact hlt)
  injection e with e
  injection e with e1 e2
  subst e1 e2
  obtain ⟨h0, h1, h2⟩ := rmsV_at hx
  exact ⟨hb, hc 0 _ h0, hc 1 _ h1, hc 2 _ h2, h.each _ (List.mem_of_getElem? hx)⟩
theorem take_more {l : List Stp} {j : Nat} {s : Stp} (P : Stp → Bool) (hs : l[j]? = some s) : (l.take (j + 1)).filter P = (l.take j).filter P ++ (if P s = true then [s] else []) := by
  rw [List.take_add_one, hs, List.filter_append]
  by_cases h : P s = true <;> simp [h]
/-- Without's state ahead of route k -/
structure WS (w : World) (l : List RM) (p : List Rte) (os : List Int) (k : Nat) (v : Value) (wr : World) (l' : List RM) : Prop where
  plan : NewP w wr v l'
  rts : l'.map (·.rt) = (l.take k).map fun r => outR p os r.rt
  fits : ∀ r ∈ l', r.n * 16 ≤ 140737488351232
theorem WS.next {w wr w' : World} {l l' : List RM} {p : List Rte} {os : List Int} {k : Nat} {v v' : Value} {x : RM} {A : Option Addr} {m c : Nat} (h : WS w l p os k v wr l') (hx : l[k]? = some x) (hq : NewP w w' v' (l' ++ [⟨outR p os x.rt, A, m, c⟩])) (hm : m * 16 ≤ 140737488351232) :
    WS w l p os (k + 1) v' w' (l' ++ [⟨outR p os x.rt, A, m, c⟩]) := by
  refine ⟨hq, ?_, fun r hr => ?_⟩
  · rw [List.map_append, h.rts, List.take_add_one, hx, List.map_append]
    rfl
  · rcases List.mem_append.1 hr with hr | hr
    · exact h.fits r hr
    · obtain rfl : r = _ := by simpa using hr
      exact hm
theorem blk_recs {w : World} {g k : Nat} {u : TypeId} {ys : List Value} (hy : Blk w g u ys) (hk : ys.length = k) : Recs w w.heap.size (some ⟨g, 0, none⟩) 1 k ys := by
  refine ⟨by omega, by unfold maxLen; omega, fun _ => ⟨g, 0, rfl, hy.lt, fun j q hq => ?_⟩⟩
  rw [Nat.zero_add]
  exact hy.cell hq
theorem infoRte : (Try.prog.info? 26).map (fun i => (i.zero, i.size, i.bytes)) = some (some (.agg #[.int .i64 0, .int .i64 0, .slice none 0 0]), 3, 40) := by kernel_rfl
theorem rmL_one (r : RM) : ∀ u ∈ rmL r, u.oneCell' = true := by
  intro u hu
  simp only [List.mem_cons, List.not_mem_nil, or_false] at hu
  rcases hu with rfl | rfl | rfl <;> rfl

set_option maxRecDepth 100000 in
set_option maxHeartbeats 1000000 in
theorem rwithout_any (A : Option Addr) (n c : Nat) (l : List RM) (A2 : Option Addr) (m c2 : Nat) (os : List Int) (w : World) (hl : Plns w w.heap.size A n l) (hn40 : n * 40 ≤ 140737488351232) (ho : Ints w w.heap.size A2 m os) :
    Calls Try.prog 27 #[.slice A n c, .slice A2 m c2] w (fun e w' => ∃ v l', e = .returned v ∧ WS w l (l.map (·.rt)) os n v w' l') := by
  have hm := Recs.le hl.rows
  have HL := Lib.hid hl.length
  have HI := Lib.hid hl
  have HO := Lib.hid ho
  clear hl ho
  go_enter Try.func27, Try.ntmps27
  go_wp2
  go_loopw [5, 6] (fun v i wr => ∃ (k : Nat) (l' : List RM), k ≤ n ∧ i = .int .i64 k ∧ Hid (WS w l (l.map (·.rt)) os k v wr l')) (fun _ i _ => n - (intOf i).toNat)
  case atStart => exact ⟨0, [], Nat.zero_le _, rfl, Lib.hid ⟨NewP.nil w, rfl, fun r h => by cases h⟩⟩
  case round =>
    obtain ⟨k, l', hk, rfl, HW⟩ := hrel
    by_cases hlt : k < n
    · have HI1 : Hid (Plns wr w.heap.size A n l) := HI.out.keep HW.out.plan.old
      obtain ⟨b, off, x, rfl, hbb, hx, hdr, c0, c1, c2', hst, hxc⟩ := HI1.out.at_ hlt
      have HX := Lib.hid hx
      have hxm := Recs.le hst
      have HST := Lib.hid hst
      have HR0 : Hid (RowP w wr u5 l' (.slice none 0 0) ((x.rt.stops.take 0).filter (stays (l.map (·.rt)) os))) := Lib.hid (by simpa using HW.out.plan.row)
      clear hx hdr hst
      go_wp2
      go_loopw [7, 8] (fun u i wi => ∃ (j : Nat), j ≤ x.n ∧ i = .int .i64 j ∧ Hid (RowP w wi u5 l' u ((x.rt.stops.take j).filter (stays (l.map (·.rt)) os)))) (fun _ i _ => x.n - (intOf i).toNat)
      case atStart => exact ⟨0, Nat.zero_le _, rfl, HR0⟩
      case round =>
        clear HR0 c0 c1 c2'
        obtain ⟨j, hj, rfl, HR⟩ := hrel
        obtain ⟨wi, rfl⟩ : ∃ z, z = wr := ⟨_, rfl⟩
        have HI2 : Hid (Plns wi w.heap.size (some ⟨b, off, none⟩) n l) := HI.out.keep HR.out.plan.old
        obtain ⟨_, c0, c1, c2', hst, _, hfit⟩ := HI2.out.cells HX.out
        have HST2 := Lib.hid hst
        clear hst
        by_cases hlt2 : j < x.n
        · obtain ⟨b2, off2, s, hxa, hbb2, hs, _, s0, s1⟩ := Stps.at_ HST2.out hlt2
          rw [hxa] at c2'
          have HT := Lib.hid (take_more (stays (l.map (·.rt)) os) hs)
          obtain ⟨r1, hr1⟩ : ∃ r, decide (s.ord ∈ os) = r := ⟨_, rfl⟩
          obtain ⟨r2, hr2⟩ : ∃ r, begunP (l.map (·.rt)) s.ord = r := ⟨_, rfl⟩
          have HP : Hid (stays (l.map (·.rt)) os s = (!r1 || r2)) := by show (!decide (s.ord ∈ os) || begunP (l.map (·.rt)) s.ord) = _; rw [hr1, hr2]
          have H1 := Lib.hid hr1
          have H2 := Lib.hid hr2
          clear hxa hs hr1 hr2
          have HB0 : Hid (RowP w (wi.alloc (.cells #[.int .i64 s.ord, .bool s.drop] 23)) u5 l' u7 ((x.rt.stops.take j).filter (stays (l.map (·.rt)) os))) := HR.out.keep ((Below.refl _ _).alloc (Nat.le_refl _) _)
          obtain ⟨p, hp⟩ : ∃ p, (x.rt.stops.take j).filter (stays (l.map (·.rt)) os) = p := ⟨_, rfl⟩
          have hpl : p.length ≤ j := by rw [← hp]; exact Nat.le_trans (List.length_filter_le _ _) (by simp; omega)
          rw [hp] at HB0 HT
          clear hp
          obtain ⟨wj, hwj⟩ : ∃ z, z = wi.alloc (.cells #[.int .i64 s.ord, .bool s.drop] 23) := ⟨_, rfl⟩
          have HSB : Hid (Blk (wi.alloc (.cells #[.int .i64 s.ord, .bool s.drop] 23)) wi.heap.size 23 [.int .i64 s.ord, .bool s.drop]) := Blk.new wi _ _
          have t0 := HSB.out.cell (i := 0) rfl
          have t1 := HSB.out.cell (i := 1) rfl
          rw [← hwj] at HB0 t0 t1
          have HWJ := Lib.hid hwj
          clear hwj
          have HI3 : Hid (Plns wj wj.heap.size (some ⟨b, off, none⟩) n l) := (HI.out.keep HB0.out.plan.old).more HB0.out.plan.old.size
          have HO3 : Hid (Ints wj wj.heap.size A2 m os) := (Reads.keep HO.out HB0.out.plan.old).more HB0.out.plan.old.size
          have HA1 : Hid (RowP w (wj.alloc (.cells #[.int .i64 s.ord, .bool s.drop] 23)) u5 l' u7 p) := HB0.out.keep ((Below.refl _ _).alloc (Nat.le_refl _) _)
          have HB1 : Hid (Blk (wj.alloc (.cells #[.int .i64 s.ord, .bool s.drop] 23)) wj.heap.size 23 [.int .i64 s.ord, .bool s.drop]) := Blk.new wj _ _
          go_wp2_with fail
          rw [← HWJ.out]
          refine (rin_val _ _ _ os _ r1 _ (by exact HO3.out) H1.out).mono ?_
          rintro e w1 ⟨rfl, rfl⟩
          cases r1 with
          | false =>
            go_wp2_with (at_builtin; refine wpList_append_ko (o := ⟨some 48, _, _, _, _, _⟩) rfl (.tmp 45) (.tmp 47) Try.underlying24 infoStp rfl (by decide) rfl HA1.out.own rfl HB1.out rfl rfl (stp_one' s) (by unfold maxLen; omega) (by omega) HA1.out.plan.old.size ?_; intro vB wB HO2 HG2 HN2; have HQ := Lib.hid (HA1.out.grow (x := s) HO2.out HG2.out HN2.out); clear HO2 HG2 HN2)
            go_roundw
            case rel => exact ⟨j + 1, by omega, by go_num, Lib.hid (by have h := HT.out; rw [HP.out] at h; simp only [Bool.not_false, Bool.not_true, Bool.true_or, Bool.false_or, Bool.or_true, if_true] at h; rw [h]; exact HQ.out)⟩
            case measure => simp [intOf]; omega
          | true =>
            go_wp2_with fail
            refine (rbegun_val _ _ _ l _ r2 _ (by exact HI3.out) H2.out).mono ?_
            rintro e w1 ⟨rfl, rfl⟩
            cases r2 with
            | true =>
              go_wp2_with (at_builtin; refine wpList_append_ko (o := ⟨some 48, _, _, _, _, _⟩) rfl (.tmp 45) (.tmp 47) Try.underlying24 infoStp rfl (by decide) rfl HA1.out.own rfl HB1.out rfl rfl (stp_one' s) (by unfold maxLen; omega) (by omega) HA1.out.plan.old.size ?_; intro vB wB HO2 HG2 HN2; have HQ := Lib.hid (HA1.out.grow (x := s) HO2.out HG2.out HN2.out); clear HO2 HG2 HN2)
              go_roundw
              case rel => exact ⟨j + 1, by omega, by go_num, Lib.hid (by have h := HT.out; rw [HP.out] at h; simp only [Bool.not_false, Bool.not_true, Bool.true_or, Bool.false_or, Bool.or_true, if_true] at h; rw [h]; exact HQ.out)⟩
              case measure => simp [intOf]; omega
            | false =>
              go_wp2_with fail
              go_roundw
              case rel => exact ⟨j + 1, by omega, by go_num, Lib.hid (by have h := HT.out; rw [HP.out] at h; simp only [Bool.not_true, Bool.false_or, Bool.or_false, Bool.false_eq_true, if_false, List.append_nil] at h; rw [h]; exact HB0.out)⟩
              case measure => simp [intOf]; omega
        · have hje : j = x.n := by omega
          subst hje
          obtain ⟨p, hp⟩ : ∃ p, x.rt.stops.filter (stays (l.map (·.rt)) os) = p := ⟨_, rfl⟩
          have hpl : p.length ≤ x.n := by rw [← hp, ← HST2.out.length]; exact List.length_filter_le _ _
          have HRP : Hid (RowP w wi u5 l' u7 p) := by
            have h := HR.out
            rw [List.take_of_length_le (by rw [HST2.out.length]; exact Nat.le_refl _), hp] at h
            exact h
          have HP := Lib.hid hp
          have hlk : l'.length = k := by have h := congrArg List.length HW.out.rts; simp only [List.length_map, List.length_take, HL.out] at h; omega
          obtain ⟨A9, c9, hu, _, _⟩ := HRP.out.own.read
          subst hu
          clear hp HR
          have HA : Hid (RowP w (wi.alloc (.cells #[.int .i64 x.rt.drv, .int .i64 x.rt.served, .slice A9 p.length c9] 26)).drew u5 l' (.slice A9 p.length c9) p) := HRP.out.keep ((Below.refl _ _).alloc (Nat.le_refl _) _).drew
          have HB1 : Hid (Blk (wi.alloc (.cells #[.int .i64 x.rt.drv, .int .i64 x.rt.served, .slice A9 p.length c9] 26)).drew wi.heap.size 26 [.int .i64 x.rt.drv, .int .i64 x.rt.served, .slice A9 p.length c9]) := Blk.new wi _ _
          have HY : Hid (Recs (wi.alloc (.cells #[.int .i64 x.rt.drv, .int .i64 x.rt.served, .slice A9 p.length c9] 26)).drew (wi.alloc (.cells #[.int .i64 x.rt.drv, .int .i64 x.rt.served, .slice A9 p.length c9] 26)).drew.heap.size (some ⟨wi.heap.size, 0, none⟩) 1 3 [.int .i64 x.rt.drv, .int .i64 x.rt.served, .slice A9 p.length c9]) := blk_recs HB1.out rfl
          go_wp2
          go_region_law (refine step_append_ks (by rfl) _ _ Try.underlying28 infoRte rfl (by decide) (by rfl) (base := w.heap.size) HA.out.plan.own (by rfl) HY.out (by rfl) (rmL_one ⟨outR (l.map (·.rt)) os x.rt, A9, p.length, c9⟩) (by unfold maxLen; omega) (by omega) (w0 := w) (B0 := w.heap.size) HA.out.plan.old HA.out.plan.old.size HA.out.plan.old.size (Nat.le_refl _) ?_; intro vB wB HO2 HB2 HG2 HN2; have HQ := Lib.hid (HA.out.push (r := ⟨outR (l.map (·.rt)) os x.rt, A9, p.length, c9⟩) rfl HP.out HO2.out HG2.out HN2.out); clear HO2 HB2 HG2 HN2)
          all_goals
            go_wp2
            go_roundw
            case rel => exact ⟨k + 1, _, by omega, by go_num, Lib.hid (HW.out.next HX.out HQ.out (by show p.length * 16 ≤ _; omega))⟩
            case measure => simp [intOf]; omega
    · have hke : k = n := by omega
      subst hke
      go_wp2
      go_ret
      exact ⟨_, l', rfl, HW.out⟩

#print axioms rwithout_any
end Go.Proofs.Ytbnhbbjmocclmaa.Plan
