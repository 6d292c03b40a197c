/-
  The document's own answer to chapter 9, walked: Take.
-/
import Derived.Test.YtbnhbbjmocclmaaPlanTake
import Derived.Test.YtbnhbbjmocclmaaPlanCodec
import Derived.Test.YtbnhbbjmocclmaaPlanRWithout
namespace Go.Proofs.Ytbnhbbjmocclmaa.Plan
open Go.ChangeShapes Go.WideShapes Go.ChangeAt Go.RowKit Go.Proofs.Ytbnhbbjmocclmaa.Mem Go.Proofs.Ytbnhbbjmocclmaa.FleetMath Go.Proofs.Ytbnhbbjmocclmaa.PlanMath Go.Proofs.Ytbnhbbjmocclmaa.Rec Go.Proofs.Ytbnhbbjmocclmaa.WireMath Go.Proofs.Ytbnhbbjmocclmaa.Wire
set_option linter.unusedVariables false
set_option linter.unusedSimpArgs false

/-- no row, no box lies in this block -/
structure Free (u v : Value) (l : List RM) (b c : Nat) : Prop where
  u : u.ownBlock ≠ some c
  v : v.ownBlock ≠ some c
  rows : ∀ r ∈ l, r.v.ownBlock ≠ some c
  box : b ≠ c
section
variable {base g b c : Nat} {w w' : World} {v u : Value} {l : List RM} {f : List Stp} {bx : List Value}
theorem TK.fresh (h : TK base w v l b bx u f) : Free u v l b w.heap.size := by
  refine ⟨fun hq => ?_, fun hq => ?_, fun r hr hq => ?_, ?_⟩
  · have := (own_blk h.row hq).2; omega
  · have := (own_blk h.plan.own hq).2; omega
  · have := (own_blk (h.plan.each r hr).1 hq).2; omega
  · have := h.box.lt; omega
theorem TK.setFar (h : TK base w v l b bx u f) (hf : Free u v l b c) (i : Nat) (x : Value) : TK base (w.setCell ⟨c, i, none⟩ x) v l b bx u f := by
  have hsz : (w.setCell ⟨c, i, none⟩ x).heap.size = w.heap.size := by simp [World.setCell]
  exact ⟨⟨by rw [hsz]; exact h.plan.size, OwnK.setOther h.plan.own hf.v, fun r hr => ⟨OwnK.setOther (h.plan.each r hr).1 (hf.rows r hr), (h.plan.each r hr).2⟩⟩, (Below.heap_setCell _ _ _ _ hf.box).trans h.box, h.ge, OwnK.setOther h.row hf.u, h.two, h.apart, h.bu, h.bv, h.br⟩
end
/-- ahead of a route -/
structure TS (w wr : World) (g : Nat) (xs : List UInt8) (v : Value) (l : List RM) (q : Rd) : Prop where
  plan : QP w.heap.size wr v l
  rd : RRef wr g xs q
  save : Save g w wr
  fits : ∀ r ∈ l, r.n * 16 ≤ 140737488351232
/-- within a route -/
structure TI (w wr : World) (g : Nat) (xs : List UInt8) (v : Value) (l : List RM) (b : Nat) (bx : List Value) (u : Value) (f : List Stp) (q : Rd) : Prop where
  tk : TK w.heap.size wr v l b bx u f
  rd : RRef wr g xs q
  save : Save g w wr
section
variable {w wr w' : World} {g b c : Nat} {xs : List UInt8} {v u : Value} {l : List RM} {bx : List Value} {f : List Stp} {q q' : Rd}
theorem RRef.why_cell (h : RRef wr g xs q) : wr.cell? ⟨g, 3, none⟩ = some (.int .i64 q.why) := by
  obtain ⟨⟨A, c, h1, _⟩, _⟩ := h
  exact h1.cell (i := 3) rfl
theorem TS.step (h : TS w wr g xs v l q) (hg : g < w.heap.size) (hs : Save g wr w') (hr : RRef w' g xs q') : TS w w' g xs v l q' := ⟨h.plan.save hs hg, hr, h.save.trans hs, h.fits⟩
theorem TS.box (h : TS w wr g xs v l q) (hg : g < w.heap.size) (bx : List Value) : TI w (wr.alloc (.cells bx.toArray 26)) g xs v l wr.heap.size bx (.slice none 0 0) [] q := by
  have hb : Below wr.heap.size wr (wr.alloc (.cells bx.toArray 26)) := (Below.refl _ _).alloc (Nat.le_refl _) _
  exact ⟨TK.start h.plan bx, h.rd.below hb, h.save.next hb (by have := h.save.size; omega)⟩
theorem TI.step (h : TI w wr g xs v l b bx u f q) (hg : g < w.heap.size) (hs : Save g wr w') (hr : RRef w' g xs q') : TI w w' g xs v l b bx u f q' := ⟨h.tk.save hs hg, hr, h.save.trans hs⟩
theorem TI.keep (h : TI w wr g xs v l b bx u f q) (hg : g < w.heap.size) (hb : Below wr.heap.size wr w') : TI w w' g xs v l b bx u f q := ⟨h.tk.keep hb, h.rd.below hb, h.save.next hb (by have := h.save.size; omega)⟩
theorem TI.set (h : TI w wr g xs v l b bx u f q) (hg : g < w.heap.size) (i : Nat) (x : Value) : TI w (wr.setCell ⟨b, i, none⟩ x) g xs v l b (bx.set i x) u f q := by
  have := h.tk.ge
  exact ⟨h.tk.set i x, RRef.setOther h.rd (by omega), Save.new' h.save (by omega) hg⟩
theorem TI.setFar (h : TI w wr g xs v l b bx u f q) (hg : g < w.heap.size) (hf : Free u v l b c) (hc : w.heap.size ≤ c) (i : Nat) (x : Value) : TI w (wr.setCell ⟨c, i, none⟩ x) g xs v l b bx u f q :=
  ⟨h.tk.setFar hf i x, RRef.setOther h.rd (by omega), Save.new' h.save hc hg⟩
theorem TI.grow {x : Stp} {u' : Value} (h : TI w wr g xs v l b bx u f q) (hgl : g < w.heap.size) (ho : OwnK w' w.heap.size 23 2 u' (f.length + 1) (stpsV f ++ [.int .i64 x.ord, .bool x.drop])) (hg : wr.grownBy w' u.ownBlock)
    (hn : u'.ownBlock = u.ownBlock ∨ u'.ownBlock = some wr.heap.size) : TI w w' g xs v l b bx u' (f ++ [x]) q :=
  ⟨h.tk.grow ho hg hn, RRef.grown h.rd hg fun q hq => by have := (own_blk h.tk.row hq).1; omega, Save.grown h.save hg (fun q hq => (own_blk h.tk.row hq).1) hgl⟩
theorem TI.push {r : RM} {v' : Value} (h : TI w wr g xs v l b bx u f q) (hgl : g < w.heap.size) (hfit : ∀ r ∈ l, r.n * 16 ≤ 140737488351232) (hfr : r.n * 16 ≤ 140737488351232) (hu : u = r.v) (hs : r.rt.stops = f) (ho : OwnK w' w.heap.size 26 3 v' (l.length + 1) (rmsV l ++ rmL r)) (hg : wr.grownBy w' v.ownBlock)
    (hn : v'.ownBlock = v.ownBlock ∨ v'.ownBlock = some wr.heap.size) : TS w w' g xs v' (l ++ [r]) q := by
  refine ⟨h.tk.push hu hs ho hg hn, RRef.grown h.rd hg fun q hq => by have := (own_blk h.tk.plan.own hq).1; omega, Save.grown h.save hg (fun q hq => (own_blk h.tk.plan.own hq).1) hgl, fun y hy => ?_⟩
  rcases List.mem_append.1 hy with hy | hy
  · exact hfit y hy
  · obtain rfl : y = r := by simpa using hy
    exact hfr
end

set_option maxRecDepth 100000 in
set_option maxHeartbeats 8000000 in
theorem rtake_any (g : Nat) (xs : List UInt8) (w : World) (h : RRef w g xs ⟨0, 0, 0⟩) :
    Calls Try.prog 60 #[.pointer (some ⟨g, 0, none⟩)] w (fun e w' => ∃ v l', e = .returned v ∧ TS w w' g xs v l' (rdPlan xs).2 ∧ ((rdPlan xs).2.why = 0 → l'.map (·.rt) = (rdPlan xs).1)) := by
  have hgl : g < w.heap.size := h.lt
  obtain ⟨v1, r1, h1⟩ : ∃ v r1, rdCount xs 8 ⟨0, 0, 0⟩ = (v, r1) := ⟨_, _, rfl⟩
  have hin := rdCount_in xs (most := 8) (by omega) ⟨0, 0, 0⟩
  rw [h1] at hin
  obtain ⟨n, rfl⟩ : ∃ n : Nat, v1 = (n : Int) := ⟨v1.toNat, by have := hin.1; simp only at this; omega⟩
  have hn8 : n ≤ 8 := by have := hin.2; simp only at this; omega
  have HPL : Hid (rdPlan xs = rdRtes xs n r1) := by
    show _ = _
    unfold rdPlan
    rw [h1]
    rfl
  have H1 := Lib.hid h1
  have HR := Lib.hid h
  clear h h1 hin
  go_enter Try.func60, Try.ntmps60
  go_wp2_with fail
  refine (rcount_any g xs ⟨0, 0, 0⟩ 8 _ (by exact HR.out)).mono ?_
  rintro e w1 ⟨rfl, hr1, hs1⟩
  rw [H1.out] at hr1 ⊢
  have HT1 : Hid (TS w w1 g xs (.slice none 0 0) [] (rdRtes xs 0 r1).2) := ⟨(QP.nil w).save hs1 hgl, hr1, hs1, fun r h => by cases h⟩
  clear hr1 hs1 HR H1
  go_wp2_with fail
  go_loopw [3, 5] (fun v i wr => ∃ (k : Nat) (l' : List RM), k ≤ n ∧ i = .int .i64 k ∧ l'.length = k ∧ Hid (TS w wr g xs v l' (rdRtes xs k r1).2) ∧ Hid ((rdRtes xs k r1).2.why = 0 → l'.map (·.rt) = (rdRtes xs k r1).1)) (fun _ i _ => n - (intOf i).toNat)
  case atStart => exact ⟨0, [], Nat.zero_le _, rfl, rfl, HT1, Lib.hid fun _ => rfl⟩
  case round =>
    clear HT1
    obtain ⟨k, l', hk, rfl, hlk, HT, HL⟩ := hrel
    obtain ⟨q, hq⟩ : ∃ q, (rdRtes xs k r1).2 = q := ⟨_, rfl⟩
    rw [hq] at HT HL
    have HQ := Lib.hid hq
    have c3 := RRef.why_cell HT.out.rd
    clear hq
    by_cases hlt : k < n
    · by_cases hw0 : q.why = 0
      · rw [hw0] at c3
        have HL0 := Lib.hid (HL.out hw0)
        obtain ⟨d1, q1, hq1⟩ : ∃ d q1, rdNum xs q = (d, q1) := ⟨_, _, rfl⟩
        obtain ⟨d2, q2, hq2⟩ : ∃ d q2, rdCount xs 80 q1 = (d, q2) := ⟨_, _, rfl⟩
        obtain ⟨d3, q3, hq3⟩ : ∃ d q3, rdNum xs q2 = (d, q3) := ⟨_, _, rfl⟩
        have hin := rdCount_in xs (most := 80) (by omega) q1
        rw [hq2] at hin
        obtain ⟨n2, rfl⟩ : ∃ n2 : Nat, d2 = (n2 : Int) := ⟨d2.toNat, by have := hin.1; simp only at this; omega⟩
        have hn80 : n2 ≤ 80 := by have := hin.2; simp only at this; omega
        have HRT : Hid (rdRtes xs (k + 1) r1 = ((rdRtes xs k r1).1 ++ [⟨d1, d3, (rdStops xs n2 q3).1⟩], (rdStops xs n2 q3).2)) := by
          show _ = _
          rw [rdRtes_succ, HQ.out]
          unfold rdRte
          rw [hq1]
          simp only
          rw [hq2]
          simp only
          rw [hq3]
          rfl
        have HQ1 := Lib.hid hq1
        have HQ2 := Lib.hid hq2
        have HQ3 := Lib.hid hq3
        clear hq1 hq2 hq3 hin hw0 HL
        go_wp2_with fail
        refine (rnumr_any g xs q _ (by exact HT.out.rd)).mono ?_
        rintro e w2 ⟨rfl, hr2, hs2⟩
        rw [HQ1.out] at hr2 ⊢
        have HI2 := Lib.hid ((HT.out.step hgl hs2 hr2).box hgl [.int .i64 d1, .int .i64 0, .slice none 0 0])
        have HFIT := Lib.hid HT.out.fits
        clear hr2 hs2 c3 HT
        go_wp2_with fail
        refine (rcount_any g xs q1 80 _ (by exact HI2.out.rd)).mono ?_
        rintro e w3 ⟨rfl, hr3, hs3⟩
        rw [HQ2.out] at hr3 ⊢
        have HI3 := Lib.hid (HI2.out.step hgl hs3 hr3)
        clear hr3 hs3 HI2
        go_wp2_with fail
        refine (rnumr_any g xs q2 _ (by exact HI3.out.rd)).mono ?_
        rintro e w4 ⟨rfl, hr4, hs4⟩
        rw [HQ3.out] at hr4 ⊢
        have HI4 := Lib.hid (HI3.out.step hgl hs4 hr4)
        obtain ⟨⟨z4, c4⟩, f4⟩ := HI4.out.tk.cell (i := 1) (by simp)
        have HI5 : Hid (TI w (w4.setCell ⟨w2.heap.size, 1, none⟩ (.int .i64 d3)) g xs u3 l' w2.heap.size [.int .i64 d1, .int .i64 d3, .slice none 0 0] (.slice none 0 0) (rdStops xs 0 q3).1 (rdStops xs 0 q3).2) := HI4.out.set hgl 1 (.int .i64 d3)
        obtain ⟨b6, hb6⟩ : ∃ z, w2.heap.size = z := ⟨_, rfl⟩
        rw [hb6] at HI5 c4 f4 ⊢
        clear hr4 hs4 HI3 HI4 hb6
        go_wp2_with fail
        go_loopw [8] (fun i wr => ∃ (j : Nat) (A : Option Addr) (c : Nat) (f : List Stp), j ≤ n2 ∧ i = .int .i64 j ∧ f.length = j ∧ Hid (f = (rdStops xs j q3).1) ∧ Hid (TI w wr g xs u3 l' b6 [.int .i64 d1, .int .i64 d3, .slice A j c] (.slice A j c) f (rdStops xs j q3).2)) (fun i _ => n2 - (intOf i).toNat)
        case atStart => exact ⟨0, none, 0, [], Nat.zero_le _, rfl, rfl, Lib.hid rfl, HI5⟩
        case round =>
          clear HI5 c4 f4
          obtain ⟨j, A, c, f, hj, rfl, hfl, HF, HI⟩ := hrel
          obtain ⟨p0, hp0⟩ : ∃ q, (rdStops xs j q3).2 = q := ⟨_, rfl⟩
          rw [hp0] at HI
          have HP0 := Lib.hid hp0
          have c3 := RRef.why_cell HI.out.rd
          clear hp0
          by_cases hgo : j < n2 ∧ p0.why = 0
          · obtain ⟨hlt2, hw2⟩ := hgo
            rw [hw2] at c3
            obtain ⟨o, p1, hp1⟩ : ∃ o q, rdNum xs p0 = (o, q) := ⟨_, _, rfl⟩
            obtain ⟨d, p2, hp2⟩ : ∃ d q, rdFlag xs p1 = (d, q) := ⟨_, _, rfl⟩
            have HS : Hid (rdStops xs (j + 1) q3 = ((rdStops xs j q3).1 ++ [⟨o, d⟩], p2)) := by
              show _ = _
              rw [rdStops_succ, HP0.out, hp1]
              simp only
              rw [hp2]
            have HP1 := Lib.hid hp1
            have HP2 := Lib.hid hp2
            clear hp1 hp2 hw2
            go_wp2_with fail
            refine (rnumr_any g xs p0 _ (by exact HI.out.rd)).mono ?_
            rintro e w5 ⟨rfl, hr5, hs5⟩
            rw [HP1.out] at hr5 ⊢
            have HI5 := Lib.hid (HI.out.step hgl hs5 hr5)
            have HFR := Lib.hid HI5.out.tk.fresh
            have hsz5 : w.heap.size ≤ w5.heap.size := HI5.out.save.size
            have HI6 := Lib.hid (HI5.out.keep hgl ((Below.refl w5.heap.size w5).alloc (Nat.le_refl _) (.cells #[.int .i64 o, .bool false] 23)))
            have HB6 := Lib.hid (Blk.new w5 23 [.int .i64 o, .bool false])
            clear hr5 hs5 HI HI5 c3
            go_wp2_with fail
            refine (rflagr_any g xs p1 _ (by exact HI6.out.rd)).mono ?_
            rintro e w7 ⟨rfl, hr7, hs7⟩
            rw [HP2.out] at hr7 ⊢
            have HB7 := Lib.hid (hs7.blk HB6.out (by have := hgl; omega))
            have HI7 := Lib.hid (HI6.out.step hgl hs7 hr7)
            obtain ⟨b9, hb9⟩ : ∃ z, w5.heap.size = z := ⟨_, rfl⟩
            rw [hb9] at HB7 HFR hsz5 ⊢
            have t1 := HB7.out.cell (i := 1) rfl
            have g1 := HB7.out.free 1
            have HI8 := Lib.hid (HI7.out.setFar hgl HFR.out hsz5 1 (.bool d))
            have HB8 : Hid (Blk (w7.setCell ⟨b9, 1, none⟩ (.bool d)) b9 23 [.int .i64 o, .bool d]) := HB7.out.put 1 (.bool d)
            have r0 := HB8.out.cell (i := 0) rfl
            have r1' := HB8.out.cell (i := 1) rfl
            have s2 := HI8.out.tk.box.cell (i := 2) rfl
            have HI9 := Lib.hid (HI8.out.keep hgl ((Below.refl (w7.setCell ⟨b9, 1, none⟩ (.bool d)).heap.size _).alloc (Nat.le_refl _) (.cells #[.int .i64 o, .bool d] 23)))
            have HB9 := Lib.hid (Blk.new (w7.setCell ⟨b9, 1, none⟩ (.bool d)) 23 [.int .i64 o, .bool d])
            have HOWN : Hid (OwnK ((w7.setCell ⟨b9, 1, none⟩ (.bool d)).alloc (.cells #[.int .i64 o, .bool d] 23)) w.heap.size 23 2 (.slice A j c) j (stpsV f)) := by
              have h1 := HI9.out.tk.row
              rw [hfl] at h1
              exact h1
            have hbs : (w7.setCell ⟨b9, 1, none⟩ (.bool d)).heap.size = w7.heap.size := by simp [World.setCell]
            have HSZ : Hid (w.heap.size ≤ ((w7.setCell ⟨b9, 1, none⟩ (.bool d)).alloc (.cells #[.int .i64 o, .bool d] 23)).heap.size) := HI9.out.save.size
            have HFL := Lib.hid hfl
            clear hr7 hs7 HI6 HB6 HI7 HB7 hb9 HI8 HB8 hfl HFR hsz5
            rw [hbs] at HB9
            clear hbs
            go_wp2_with (at_builtin; refine wpList_append_ko (o := ⟨some 54, _, _, _, _, _⟩) rfl (.tmp 51) (.tmp 53) Try.underlying24 infoStp rfl (by decide) rfl HOWN.out rfl HB9.out rfl rfl (stp_one' ⟨o, d⟩) (by unfold maxLen; omega) (by omega) HSZ.out ?_; intro vB wB HO2 HG2 HN2; obtain ⟨A2, c2, rfl⟩ := HO2.out.slice; have HI10 := Lib.hid (HI9.out.grow (x := ⟨o, d⟩) hgl (by rw [HFL.out]; exact HO2.out) HG2.out HN2.out); obtain ⟨⟨z2, e2⟩, g2⟩ := HI10.out.tk.cell (i := 2) (by simp); have HI11 := Lib.hid (HI10.out.set hgl 2 (.slice A2 (j + 1) c2)); clear HO2 HG2 HN2)
            refine ⟨⟨j + 1, A2, c2, f ++ [⟨o, d⟩], by omega, by go_num, by rw [List.length_append, HFL.out]; rfl, ?_, ?_⟩, by simp [intOf]; omega⟩
            · refine Lib.hid ?_
              rw [HS.out, ← HF.out]
            · rw [HS.out]
              exact HI11
          · by_cases hlt2 : j < n2
            · have hw2 : ¬ p0.why = 0 := fun h => hgo ⟨hlt2, h⟩
              have hne : (p0.why == 0) = false := by simpa using hw2
              have HPF : Hid (p0.why = 0 → j = n2) := fun h => absurd h hw2
              have HPN : Hid ((rdStops xs n2 q3).2 = p0) := by
                show _ = _
                rw [stops_more (j := j) (Nat.le_of_lt hlt2) (by rw [HP0.out]; exact hw2), HP0.out]
              have HI9 := Lib.hid (HI.out.keep hgl ((Below.refl wr.heap.size wr).alloc (Nat.le_refl _) (.cells #[.int .i64 d1, .int .i64 d3, .slice A j c] 26)))
              have HB9 := Lib.hid (Blk.new wr 26 [.int .i64 d1, .int .i64 d3, .slice A j c])
              have HOWN : Hid (OwnK (wr.alloc (.cells #[.int .i64 d1, .int .i64 d3, .slice A j c] 26)) w.heap.size 26 3 u3 k (rmsV l')) := by
                have h1 := HI9.out.tk.plan.own
                rw [hlk] at h1
                exact h1
              have HSZ : Hid (w.heap.size ≤ (wr.alloc (.cells #[.int .i64 d1, .int .i64 d3, .slice A j c] 26)).heap.size) := HI9.out.save.size
              have m0 := HI.out.tk.box.cell (i := 0) rfl
              have m1 := HI.out.tk.box.cell (i := 1) rfl
              have m2 := HI.out.tk.box.cell (i := 2) rfl
              have HLK := Lib.hid hlk
              have HFL := Lib.hid hfl
              have hj80 : j ≤ 80 := by omega
              clear HI hfl hlk hgo hw2
              go_wp2_with (at_builtin; refine wpList_append_ko (o := ⟨some 59, _, _, _, _, _⟩) rfl (.tmp 56) (.tmp 58) Try.underlying28 infoRte rfl (by decide) rfl HOWN.out rfl HB9.out rfl rfl (rmL_one ⟨⟨d1, d3, f⟩, A, j, c⟩) (by unfold maxLen; omega) (by omega) HSZ.out ?_; intro vB wB HO2 HG2 HN2; have HT9 := Lib.hid (HI9.out.push (r := ⟨⟨d1, d3, f⟩, A, j, c⟩) hgl HFIT.out (show j * 16 ≤ 140737488351232 by omega) rfl rfl (by rw [HLK.out]; exact HO2.out) HG2.out HN2.out); clear HO2 HG2 HN2)
              refine ⟨⟨k + 1, l' ++ [⟨⟨d1, d3, f⟩, A, j, c⟩], by omega, by go_num, by rw [List.length_append, HLK.out]; rfl, ?_, ?_⟩, by simp [intOf]; omega⟩
              · rw [HRT.out, HPN.out]
                exact HT9
              · rw [HRT.out, HPN.out]
                refine Lib.hid fun h => ?_
                have e := HPF.out h
                rw [List.map_append, HL0.out]
                show (rdRtes xs k r1).1 ++ [⟨d1, d3, f⟩] = (rdRtes xs k r1).1 ++ [⟨d1, d3, (rdStops xs n2 q3).1⟩]
                rw [HF.out, e]
            · have HJE : Hid (j = n2) := Lib.hid (by omega)
              have HPF : Hid (p0.why = 0 → j = n2) := fun h => HJE.out
              have HPN : Hid ((rdStops xs n2 q3).2 = p0) := by
                show _ = _
                rw [← HJE.out]
                exact HP0.out
              have HI9 := Lib.hid (HI.out.keep hgl ((Below.refl wr.heap.size wr).alloc (Nat.le_refl _) (.cells #[.int .i64 d1, .int .i64 d3, .slice A j c] 26)))
              have HB9 := Lib.hid (Blk.new wr 26 [.int .i64 d1, .int .i64 d3, .slice A j c])
              have HOWN : Hid (OwnK (wr.alloc (.cells #[.int .i64 d1, .int .i64 d3, .slice A j c] 26)) w.heap.size 26 3 u3 k (rmsV l')) := by
                have h1 := HI9.out.tk.plan.own
                rw [hlk] at h1
                exact h1
              have HSZ : Hid (w.heap.size ≤ (wr.alloc (.cells #[.int .i64 d1, .int .i64 d3, .slice A j c] 26)).heap.size) := HI9.out.save.size
              have m0 := HI.out.tk.box.cell (i := 0) rfl
              have m1 := HI.out.tk.box.cell (i := 1) rfl
              have m2 := HI.out.tk.box.cell (i := 2) rfl
              have HLK := Lib.hid hlk
              have HFL := Lib.hid hfl
              have hj80 : j ≤ 80 := by omega
              clear HI hfl hlk hgo
              go_wp2_with (at_builtin; refine wpList_append_ko (o := ⟨some 59, _, _, _, _, _⟩) rfl (.tmp 56) (.tmp 58) Try.underlying28 infoRte rfl (by decide) rfl HOWN.out rfl HB9.out rfl rfl (rmL_one ⟨⟨d1, d3, f⟩, A, j, c⟩) (by unfold maxLen; omega) (by omega) HSZ.out ?_; intro vB wB HO2 HG2 HN2; have HT9 := Lib.hid (HI9.out.push (r := ⟨⟨d1, d3, f⟩, A, j, c⟩) hgl HFIT.out (show j * 16 ≤ 140737488351232 by omega) rfl rfl (by rw [HLK.out]; exact HO2.out) HG2.out HN2.out); clear HO2 HG2 HN2)
              refine ⟨⟨k + 1, l' ++ [⟨⟨d1, d3, f⟩, A, j, c⟩], by omega, by go_num, by rw [List.length_append, HLK.out]; rfl, ?_, ?_⟩, by simp [intOf]; omega⟩
              · rw [HRT.out, HPN.out]
                exact HT9
              · rw [HRT.out, HPN.out]
                refine Lib.hid fun h => ?_
                have e := HPF.out h
                rw [List.map_append, HL0.out]
                show (rdRtes xs k r1).1 ++ [⟨d1, d3, f⟩] = (rdRtes xs k r1).1 ++ [⟨d1, d3, (rdStops xs n2 q3).1⟩]
                rw [HF.out, e]
      · have HF : Hid (TS w wr g xs u3 l' (rdPlan xs).2 ∧ ((rdPlan xs).2.why = 0 → l'.map (·.rt) = (rdPlan xs).1)) := by
          have hst := rtes_more (xs := xs) (r := r1) (j := k) (k := n) hk (by rw [HQ.out]; exact hw0)
          rw [HPL.out, hst, HQ.out]
          exact ⟨HT.out, fun h => absurd h hw0⟩
        have hne : (q.why == 0) = false := by simpa using hw0
        clear hw0 HL HT
        go_wp2_with fail
        go_ret
        exact ⟨_, l', rfl, HF.out⟩
    · have hke : k = n := by omega
      subst hke
      have HF : Hid (TS w wr g xs u3 l' (rdPlan xs).2 ∧ ((rdPlan xs).2.why = 0 → l'.map (·.rt) = (rdPlan xs).1)) := by
        rw [HPL.out, HQ.out]
        exact ⟨HT.out, HL.out⟩
      clear HL HT
      go_wp2_with fail
      go_ret
      exact ⟨_, l', rfl, HF.out⟩
#print axioms rtake_any
end Go.Proofs.Ytbnhbbjmocclmaa.Plan
