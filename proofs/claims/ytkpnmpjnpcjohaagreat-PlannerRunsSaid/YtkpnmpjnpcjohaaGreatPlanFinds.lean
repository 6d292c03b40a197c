/-
  PlanSpot, PlanPFind: one text.
-/
import Derived.Test.YtkpnmpjnpcjohaaGreatWordsRte
import Derived.Test.YtkpnmpjnpcjohaaGreatLibRows
import Derived.Test.YtkpnmpjnpcjohaaGreatRegions
import Derived.Test.YtkpnmpjnpcjohaaGreatPlanPSmalls
namespace Go.Proofs.YtkpnmpjnpcjohaaGreat.Plan
open Go.ChangeShapes Go.WideShapes Go.ChangeAt Go.RowKit Mem FleetMath PlanMath Rec
set_option linter.unusedVariables false
def spotV : Option Spt → Value
  | none => .tuple #[.agg #[.int .i64 0, .int .i64 0, .int .i64 0, .int .i64 0], .bool false]
  | some s => .tuple #[.agg #[.int .i64 s.drv, .int .i64 s.pick, .int .i64 s.drop, .int .i64 0], .bool true]
def FB (w : World) (wr : World) : Prop := Below w.heap.size w wr ∧ Blk wr w.heap.size 150 [.int .i64 0, .int .i64 0, .int .i64 0, .int .i64 0]
theorem FB.below {w wr w1 : World} (h : FB w wr) (hb : Below wr.heap.size wr w1) : FB w w1 := ⟨h.1.trans (hb.mono h.1.size), h.2.below hb h.2.lt⟩
theorem ends_spot {w w' : World} {s t : Option Spt} {v : Value} (h : s = t) (hv : v = spotV s) (hb : Below w.heap.size w w') : .returned v = Ending.returned (spotV t) ∧ Below w.heap.size w w' := ⟨by rw [hv, h], hb⟩
end Go.Proofs.YtkpnmpjnpcjohaaGreat.Plan

namespace Go.Proofs.YtkpnmpjnpcjohaaGreat.Plan
open Go.ChangeShapes Go.WideShapes Go.ChangeAt Go.RowKit Mem FleetMath PlanMath Rec
set_option linter.unusedVariables false
theorem pindex_val (A : Option Addr) (n c : Nat) (l : List Stp) (o : Int) (f : Bool) (v : Int) (w : World) (hl : Stps w w.heap.size A n l) (hv : idxS l ⟨o, f⟩ = v) :
    Calls Tryz.prog 162 #[.slice A n c, .agg #[.int .i64 o, .bool f]] w (fun e w' => e = .returned (.int .i64 v) ∧ Below w.heap.size w w') := by
  rw [← hv]
  exact pindex_any A n c l ⟨o, f⟩ w hl
set_option maxRecDepth 100000 in
set_option maxHeartbeats 1000000 in
theorem pfindp_any (A : Option Addr) (n c : Nat) (l : List RM) (o : Int) (w : World) (hl : Plns w w.heap.size A n l) :
    Calls Tryz.prog 97 #[.slice A n c, .int .i64 o] w (fun e w' => e = .returned (spotV (findP (l.map (·.rt)) o)) ∧ Below w.heap.size w w') := by
  have hm := Recs.le hl.rows
  have HL := Lib.hid hl.length
  have HI := Lib.hid hl
  clear hl
  go_enter Tryz.func97, Tryz.ntmps97
  go_wp2
  go_loopw [12] (fun i wr => ∃ (k : Nat), k ≤ n ∧ i = .int .i64 k ∧ Hid (FB w wr) ∧ Hid (findP ((l.drop k).map (·.rt)) o = findP (l.map (·.rt)) o)) (fun i _ => n - (intOf i).toNat)
  case atStart => exact ⟨0, Nat.zero_le _, rfl, Lib.hid ⟨(Below.refl _ _).alloc (Nat.le_refl _) _, Blk.new _ _ _⟩, Lib.hid rfl⟩
  case round =>
    obtain ⟨k, hk, rfl, HB, HK⟩ := hrel
    by_cases hlt : k < n
    · have HI1 : Hid (Plns wr w.heap.size A n l) := HI.out.keep HB.out.1
      obtain ⟨b, off, x, rfl, hbb, hx, hdr, c0, c1, c2, hst, hxc⟩ := HI1.out.at_ hlt
      have HS := Lib.hid hst
      have HK1 := HK.out
      rw [hdr, List.map_cons, findP_cons] at HK1
      obtain ⟨va, hva⟩ : ∃ v, idxS x.rt.stops ⟨o, false⟩ = v := ⟨_, rfl⟩
      obtain ⟨vb, hvb⟩ : ∃ v, idxS x.rt.stops ⟨o, true⟩ = v := ⟨_, rfl⟩
      rw [hva, hvb] at HK1
      have HA := Lib.hid hva
      have HV := Lib.hid hvb
      have HKK := Lib.hid HK1
      have HB0 : Hid (Below wr.heap.size wr (wr.alloc (.cells #[.int .i64 x.rt.drv, .int .i64 x.rt.served, .slice x.a x.n x.c] 37))) := (Below.refl _ _).alloc (Nat.le_refl _) _
      have HQ : Hid (Blk (wr.alloc (.cells #[.int .i64 x.rt.drv, .int .i64 x.rt.served, .slice x.a x.n x.c] 37)) wr.heap.size 37 [.int .i64 x.rt.drv, .int .i64 x.rt.served, .slice x.a x.n x.c]) := Blk.new _ _ _
      have HB1 : Hid (FB w (wr.alloc (.cells #[.int .i64 x.rt.drv, .int .i64 x.rt.served, .slice x.a x.n x.c] 37))) := HB.out.below HB0.out
      have HS1 : Hid (Stps (wr.alloc (.cells #[.int .i64 x.rt.drv, .int .i64 x.rt.served, .slice x.a x.n x.c] 37)) w.heap.size x.a x.n x.rt.stops) := Recs.keep HS.out (HB0.out.mono HB.out.1.size)
      clear hx hdr hva hvb HK1 HK hst
      go_wp2_with fail
      refine (pindex_val _ _ _ _ _ _ va _ (by exact Recs.more HS1.out HB1.out.1.size) HA.out).mono ?_
      rintro e w1 ⟨rfl, hb1⟩
      have HB3 : Hid (FB w w1) := HB1.out.below hb1
      have HS3 : Hid (Stps w1 w.heap.size x.a x.n x.rt.stops) := Recs.keep HS1.out (hb1.mono HB1.out.1.size)
      have HQ1 := Lib.hid (HQ.out.below hb1 HQ.out.lt)
      have d2 := HQ1.out.cell (i := 2) rfl
      clear hb1 c0 c1 c2 HB HS HI1 HB1 HS1 HQ HB0
      go_wp2_with fail
      refine (pindex_val _ _ _ _ _ _ vb _ (by exact Recs.more HS3.out HB3.out.1.size) HV.out).mono ?_
      rintro e w2 ⟨rfl, hb2⟩
      have HB2 : Hid (FB w w2) := HB3.out.below hb2
      have HQ2 := Lib.hid (HQ1.out.below hb2 HQ1.out.lt)
      have q0 := HQ2.out.cell (i := 0) rfl
      have m0 := HB2.out.2.cell (i := 0) rfl
      have m1 := HB2.out.2.cell (i := 1) rfl
      have m2 := HB2.out.2.cell (i := 2) rfl
      have m3 := HB2.out.2.cell (i := 3) rfl
      have f0 := HB2.out.2.free 0
      have f1 := HB2.out.2.free 1
      have f2 := HB2.out.2.free 2
      have f3 := HB2.out.2.free 3
      clear hb2 d2 HB3 HS3 HQ1 HA HV
      by_cases h1 : 0 ≤ va
      · have HF : Hid (some ⟨x.rt.drv, va, vb⟩ = findP (l.map (·.rt)) o) := by
          have := HKK.out
          rw [if_pos (.inl h1)] at this
          exact this
        clear HKK
        go_wp2
        (try simp only [Exit.inBlock, Exit.then])
        refine bodyPost_ret (v := spotV (some ⟨x.rt.drv, va, vb⟩)) ?_ rfl (ends_spot HF.out rfl ?_)
        · rw [results_cell_tmp rfl]; go_simp; rfl
        · exact (((HB2.out.1.setCell (Nat.le_refl _) _).setCell (Nat.le_refl _) _).setCell (Nat.le_refl _) _).setCell (Nat.le_refl _) _
      · by_cases h2 : 0 ≤ vb
        · have HF : Hid (some ⟨x.rt.drv, va, vb⟩ = findP (l.map (·.rt)) o) := by
            have := HKK.out
            rw [if_pos (.inr h2)] at this
            exact this
          clear HKK
          go_wp2
          (try simp only [Exit.inBlock, Exit.then])
          refine bodyPost_ret (v := spotV (some ⟨x.rt.drv, va, vb⟩)) ?_ rfl (ends_spot HF.out rfl ?_)
          · rw [results_cell_tmp rfl]; go_simp; rfl
          · exact (((HB2.out.1.setCell (Nat.le_refl _) _).setCell (Nat.le_refl _) _).setCell (Nat.le_refl _) _).setCell (Nat.le_refl _) _
        · have HN : Hid (findP ((l.drop (k + 1)).map (·.rt)) o = findP (l.map (·.rt)) o) := by
            have := HKK.out
            rw [if_neg (by intro h; rcases h with h | h; exact h1 h; exact h2 h)] at this
            exact this
          clear HKK
          go_wp2
          go_roundw
          case rel => exact ⟨k + 1, by omega, by go_num, HB2, HN⟩
          case measure => simp [intOf]; omega
    · have HF : Hid (none = findP (l.map (·.rt)) o) := by
        have := HK.out
        rw [List.drop_of_length_le (by have := HL.out; omega)] at this
        exact this
      clear HK
      have m0 := HB.out.2.cell (i := 0) rfl
      have m1 := HB.out.2.cell (i := 1) rfl
      have m2 := HB.out.2.cell (i := 2) rfl
      have m3 := HB.out.2.cell (i := 3) rfl
      have f0 := HB.out.2.free 0
      have f1 := HB.out.2.free 1
      have f2 := HB.out.2.free 2
      have f3 := HB.out.2.free 3
      go_wp2
      (try simp only [Exit.inBlock, Exit.then])
      refine bodyPost_ret (v := spotV none) ?_ rfl (ends_spot HF.out rfl ?_)
      · rw [results_cell_tmp rfl]; go_simp; rfl
      · exact (((HB.out.1.setCell (Nat.le_refl _) _).setCell (Nat.le_refl _) _).setCell (Nat.le_refl _) _).setCell (Nat.le_refl _) _
end Go.Proofs.YtkpnmpjnpcjohaaGreat.Plan
