/-
  SlackPCat, SlackPCatO, SlackPPut, SlackPDrives, SlackFL, SlackPFits: one text.
-/
import Derived.Test.YtpigklkidagolaaWords
import Derived.Test.YtpigklkidagolaaLibRows
import Derived.Lib.AppendZeros
import Derived.Deep.DeepCutAuto
import Derived.Test.YtpigklkidagolaaSlackSmalls
import Derived.Test.YtpigklkidagolaaRouteKeep
import Derived.Test.YtpigklkidagolaaRouteRs
import Derived.Test.YtpigklkidagolaaRegions
/-
  The library's slices.Grow (of nil) and slices.Concat, walked, at lists of stops.
-/
namespace Go.Proofs.Ytpigklkidagolaa.Slack
open Go.ChangeShapes Go.WideShapes Go.ChangeAt Go.RowKit Go.Proofs.Ytpigklkidagolaa.Mem Go.Proofs.Ytpigklkidagolaa.FleetMath Go.Proofs.Ytpigklkidagolaa.Rec
set_option linter.unusedVariables false

/-- a part of a list of lists: where it lies, how long it is, its room, its cells -/
structure Part where
  at_ : Option Addr
  len : Nat
  cap : Nat
  vs : List Value
abbrev Part.val (p : Part) : Value := .slice p.at_ p.len p.cap
def lens (ps : List Part) : Nat := (ps.map (·.len)).sum
def allOf (ps : List Part) : List Value := ps.flatMap (·.vs)
theorem lens_snoc (ps : List Part) (p : Part) : lens (ps ++ [p]) = lens ps + p.len := by simp [lens]
theorem allOf_snoc (ps : List Part) (p : Part) : allOf (ps ++ [p]) = allOf ps ++ p.vs := by simp [allOf]
theorem take_snoc {ps : List Part} {k : Nat} {p : Part} (h : ps[k]? = some p) : ps.take (k + 1) = ps.take k ++ [p] := by
  rw [List.take_add_one, h]; rfl
theorem lens_take (ps : List Part) (k : Nat) : lens (ps.take k) ≤ lens ps := by
  have h := congrArg List.sum (List.take_append_drop k (ps.map (·.len)))
  rw [List.sum_append, ← List.map_take] at h
  unfold lens
  omega
/-- the parts read, each below block B -/
def Parts (w : World) (B k : Nat) (ps : List Part) : Prop := ∀ p ∈ ps, Recs w B p.at_ p.len k p.vs ∧ ∀ u ∈ p.vs, u.oneCell' = true
theorem Parts.keep {w w' : World} {B k : Nat} {ps : List Part} (h : Parts w B k ps) (hb : Below B w w') : Parts w' B k ps := fun p hp => ⟨(h p hp).1.keep hb, (h p hp).2⟩
theorem own_zeros {w : World} {base k n cap : Nat} {e : TypeId} {cs : Array Value} (hb : base ≤ w.heap.size) (hc : cs.size = cap * k) (hm : cap ≤ maxLen) : OwnK (w.alloc (.cells cs e)) base e k (.slice (some ⟨w.heap.size, 0, none⟩) 0 cap) 0 [] :=
  ⟨⟨by simp, .inr ⟨w.heap.size, cap, cs, rfl, hb, heap_alloc_new w _, Nat.zero_le _, hm, hc, by simp⟩⟩, Nat.zero_le _⟩

set_option maxRecDepth 100000 in
set_option maxHeartbeats 1000000 in
theorem pgrow_stp (n : Nat) (w : World) (hr : n * 16 ≤ 140737488355328) :
    Calls Try.prog 78 #[.slice none 0 0, .int .i64 n] w (MakesK w 36 2 0 []) := by
  have hn63 : (n : Int) ≤ 9223372036854775807 := by omega
  go_enter Try.func78, Try.ntmps78
  rcases Nat.eq_zero_or_pos n with h0 | h0
  · subst h0
    go_wp2_with fail
    go_ret
    exact ⟨_, rfl, Below.refl _ _, OwnK.nil _ _ _ _⟩
  · obtain ⟨i, hi, hz0, hz1, hz2⟩ := info_parts infoStp
    have hrun := Lib.hid (Lib.run_append_nil_zeros (P := Try.prog) w 37 3 37 36 i _ .i64 .i64 Try.underlying37 Try.underlying3 hi hz0 n h0 (by omega) hn63 (by rw [hz2]; omega))
    have hcap : n ≤ grownCap w n 0 36 := grownCap_ge _ _ _ _
    have hcm : grownCap w n 0 36 ≤ maxLen := grownCap_le_maxLen _ _ _ _ (by unfold maxLen; omega)
    have HOWN := Lib.hid (own_zeros (w := w.drew) (base := w.heap.size) (k := 2) (n := 0) (e := 36) (cap := grownCap w n 0 36) (cs := Builtin.zeroCells (Value.cells (.agg #[.int .i64 0, .bool false])) n ++ Builtin.zeroCells (Value.cells (.agg #[.int .i64 0, .bool false])) (grownCap w n 0 36 - n)) (Nat.le_refl _) (by
      rw [Array.size_append, size_zeroCells, size_zeroCells, ← Nat.add_mul, Nat.add_sub_cancel' hcap]; rfl) hcm)
    have HBEL : Hid (Below w.heap.size w (w.drew.alloc (.cells (Builtin.zeroCells (Value.cells (.agg #[.int .i64 0, .bool false])) n ++ Builtin.zeroCells (Value.cells (.agg #[.int .i64 0, .bool false])) (grownCap w n 0 36 - n)) 36))) := (Below.refl _ _).drew.alloc (Nat.le_refl _) _
    obtain ⟨gc, hgc⟩ : ∃ c, grownCap w n 0 36 = c := ⟨_, rfl⟩
    obtain ⟨w1, hw1⟩ : ∃ u, w.drew.alloc (.cells (Builtin.zeroCells (Value.cells (.agg #[.int .i64 0, .bool false])) n ++ Builtin.zeroCells (Value.cells (.agg #[.int .i64 0, .bool false])) (grownCap w n 0 36 - n)) 36) = u := ⟨_, rfl⟩
    rw [hgc] at hcap hcm
    have HR : Hid ((Builtin.append_ #[37, 3] 37 #[.slice none 0 0, .int .i64 n]).run Try.prog w = .ok (.slice (some ⟨w.heap.size, 0, none⟩) n gc) w1) := by
      have := hrun.out
      rw [hgc] at this
      rw [hgc] at hw1
      rw [← hw1]
      exact this
    have HO : Hid (OwnK w1 w.heap.size 36 2 (.slice (some ⟨w.heap.size, 0, none⟩) 0 gc) 0 []) := by
      have := HOWN.out
      rw [← hw1, ← hgc]
      exact this
    have HB : Hid (Below w.heap.size w w1) := by rw [← hw1]; exact HBEL.out
    clear hw1 HOWN HBEL hrun hgc hi hz0 hz1 hz2
    have hpos : (0 : Int) < (n : Int) := by omega
    go_wp2_with (at_builtin; refine Lib.wpList_append_run _ rfl _ _ _ _ rfl _ _ rfl rfl _ _ HR.out ?_)
    go_ret
    exact ⟨_, rfl, HB.out, HO.out⟩

set_option maxRecDepth 100000 in
set_option maxHeartbeats 2000000 in
theorem pconcat_stp (g : Nat) (t : TypeId) (m c : Nat) (ps : List Part) (w : World) (hb : Blk w g t (ps.map Part.val)) (hm : ps.length = m) (hmm : m ≤ 64) (hp : Parts w w.heap.size 2 ps) (hr : lens ps * 16 ≤ 140737488355328) :
    Calls Try.prog 49 #[.slice (some ⟨g, 0, none⟩) m c] w (MakesK w 36 2 (lens ps) (allOf ps)) := by
  have HPS := Lib.hid hp
  have HBK := Lib.hid hb
  have HTK := Lib.hid (lens_take ps)
  have HM := Lib.hid hm
  have HGT : Hid (g < w.heap.size) := hb.lt
  clear hp hb hm
  go_enter Try.func49, Try.ntmps49
  go_wp2_with fail
  go_loopw [3, 11] (fun sv iv wr => ∃ (k s : Nat), k ≤ m ∧ sv = .int .i64 (s : Int) ∧ iv = .int .i64 k ∧ w = wr ∧ Hid (s = lens (ps.take k))) (fun _ iv _ => m - (intOf iv).toNat)
  case atStart => exact ⟨0, 0, Nat.zero_le _, rfl, rfl, rfl, rfl⟩
  case round =>
    obtain ⟨k, s, hk, rfl, rfl, rfl, HS⟩ := hrel
    by_cases hlt : k < m
    · obtain ⟨p, hpk⟩ : ∃ p, ps[k]? = some p := ⟨_, List.getElem?_eq_getElem (by have := HM.out; omega)⟩
      have c0 : w.cell? ⟨g, k, none⟩ = some p.val := HBK.out.cell (by rw [List.getElem?_map, hpk]; rfl)
      obtain ⟨s2, hs2⟩ : ∃ s2, s + p.len = s2 := ⟨_, rfl⟩
      have HS2 : Hid (s2 = lens (ps.take (k + 1))) := by
        show _ = _
        rw [take_snoc hpk, lens_snoc, ← hs2, HS.out]
      have hs3 : s2 ≤ 140737488355328 := by
        have := HTK.out (k + 1)
        rw [← HS2.out] at this
        omega
      have hki : (k : Int) < (m : Int) := by omega
      have hsum : (s : Int) + (p.len : Int) = (s2 : Int) := by omega
      have hs4 : (s2 : Int) ≤ 140737488355328 := by omega
      clear hpk hs2 hs3
      go_wp2_with fail
      go_roundw
      case rel => exact ⟨k + 1, s2, by omega, by go_num, by go_num, trivial, HS2⟩
      case measure => simp [intOf]; omega
    · have e : m = k := by omega
      subst e
      have HS2 : Hid (s = lens ps) := by
        show _ = _
        rw [HS.out, List.take_of_length_le (by have := HM.out; omega)]
      clear HS
      rw [HS2.out]
      clear HS2
      go_wp2_with fail
      refine (pgrow_stp (lens ps) _ hr).mono ?_
      rintro e w1 ⟨v1, rfl, hb1, ho1⟩
      have HB1 := Lib.hid hb1
      have HO1 := Lib.hid ho1
      clear hb1 ho1
      go_wp2_with fail
      go_loopw [6, 27] (fun vv iv wr => ∃ k : Nat, k ≤ m ∧ iv = .int .i64 k ∧ Hid (Below w.heap.size w wr) ∧ Hid (OwnK wr w.heap.size 36 2 vv (lens (ps.take k)) (allOf (ps.take k)))) (fun _ iv _ => m - (intOf iv).toNat)
      case atStart => exact ⟨0, Nat.zero_le _, rfl, HB1, HO1⟩
      case round =>
        clear HB1 HO1
        obtain ⟨k, hk, rfl, HB, HO⟩ := hrel
        by_cases hlt : k < m
        · obtain ⟨p, hpk⟩ : ∃ p, ps[k]? = some p := ⟨_, List.getElem?_eq_getElem (by have := HM.out; omega)⟩
          have c0 : wr.cell? ⟨g, k, none⟩ = some p.val := (Blk.below HBK.out HB.out HGT.out).cell (by rw [List.getElem?_map, hpk]; rfl)
          have hs2 := HTK.out (k + 1)
          rw [take_snoc hpk, lens_snoc] at hs2
          have HP2 : Hid (Recs wr w.heap.size p.at_ p.len 2 p.vs) := (HPS.out p (List.mem_of_getElem? hpk)).1.keep HB.out
          have HP3 : Hid (∀ u ∈ p.vs, u.oneCell' = true) := (HPS.out p (List.mem_of_getElem? hpk)).2
          have HK := Lib.hid hpk
          clear hpk
          go_wp2_with (at_builtin; refine wpList_append_ks (o := ⟨some 33, _, _, _, _, _⟩) rfl (.tmp 31) (.tmp 32) Try.underlying37 infoStp rfl (by decide) rfl HO.out rfl HP2.out rfl HP3.out (by unfold maxLen; omega) (by omega) HB.out HB.out.size HB.out.size (Nat.le_refl _) ?_; intro vB wB HO2 HB2 HG2)
          go_roundw
          case rel => exact ⟨k + 1, by omega, by go_num, HB2, by show OwnK _ _ _ _ _ _ _; rw [take_snoc HK.out, lens_snoc, allOf_snoc]; exact HO2.out⟩
          case measure => simp [intOf]; omega
        · have e : k = m := by omega
          subst e
          have HO2 : Hid (OwnK wr w.heap.size 36 2 u6 (lens ps) (allOf ps)) := by
            have := HO.out
            rw [List.take_of_length_le (by have := HM.out; omega)] at this
            exact this
          clear HO
          go_wp2_with fail
          go_ret
          exact ⟨_, rfl, HB.out, HO2.out⟩

#print axioms pconcat_stp
end Go.Proofs.Ytpigklkidagolaa.Slack

/-
  The library's slices.Grow (of nil) and slices.Concat, walked, at lists of orders.
-/
namespace Go.Proofs.Ytpigklkidagolaa.Slack
open Go.ChangeShapes Go.WideShapes Go.ChangeAt Go.RowKit Go.Proofs.Ytpigklkidagolaa.Mem Go.Proofs.Ytpigklkidagolaa.FleetMath Go.Proofs.Ytpigklkidagolaa.Rec
set_option linter.unusedVariables false

set_option maxRecDepth 100000 in
set_option maxHeartbeats 1000000 in
theorem pgrow_ord (n : Nat) (w : World) (hr : n * 80 ≤ 140737488355328) :
    Calls Try.prog 63 #[.slice none 0 0, .int .i64 n] w (MakesK w 31 10 0 []) := by
  have hn63 : (n : Int) ≤ 9223372036854775807 := by omega
  go_enter Try.func63, Try.ntmps63
  rcases Nat.eq_zero_or_pos n with h0 | h0
  · subst h0
    go_wp2_with fail
    go_ret
    exact ⟨_, rfl, Below.refl _ _, OwnK.nil _ _ _ _⟩
  · obtain ⟨i, hi, hz0, hz1, hz2⟩ := info_parts infoOrd
    have hrun := Lib.hid (Lib.run_append_nil_zeros (P := Try.prog) w 34 3 34 31 i _ .i64 .i64 Try.underlying34 Try.underlying3 hi hz0 n h0 (by omega) hn63 (by rw [hz2]; omega))
    have hcap : n ≤ grownCap w n 0 31 := grownCap_ge _ _ _ _
    have hcm : grownCap w n 0 31 ≤ maxLen := grownCap_le_maxLen _ _ _ _ (by unfold maxLen; omega)
    have HOWN := Lib.hid (own_zeros (w := w.drew) (base := w.heap.size) (k := 10) (n := 0) (e := 31) (cap := grownCap w n 0 31) (cs := Builtin.zeroCells (Value.cells (.agg #[.int .i64 0, .int .i64 0, .int .i64 0, .int .i64 0, .int .i64 0, .int .i64 0, .int .i64 0, .int .i64 0, .int .i64 0, .int .i64 0])) n ++ Builtin.zeroCells (Value.cells (.agg #[.int .i64 0, .int .i64 0, .int .i64 0, .int .i64 0, .int .i64 0, .int .i64 0, .int .i64 0, .int .i64 0, .int .i64 0, .int .i64 0])) (grownCap w n 0 31 - n)) (Nat.le_refl _) (by
      rw [Array.size_append, size_zeroCells, size_zeroCells, ← Nat.add_mul, Nat.add_sub_cancel' hcap]; rfl) hcm)
    have HBEL : Hid (Below w.heap.size w (w.drew.alloc (.cells (Builtin.zeroCells (Value.cells (.agg #[.int .i64 0, .int .i64 0, .int .i64 0, .int .i64 0, .int .i64 0, .int .i64 0, .int .i64 0, .int .i64 0, .int .i64 0, .int .i64 0])) n ++ Builtin.zeroCells (Value.cells (.agg #[.int .i64 0, .int .i64 0, .int .i64 0, .int .i64 0, .int .i64 0, .int .i64 0, .int .i64 0, .int .i64 0, .int .i64 0, .int .i64 0])) (grownCap w n 0 31 - n)) 31))) := (Below.refl _ _).drew.alloc (Nat.le_refl _) _
    obtain ⟨gc, hgc⟩ : ∃ c, grownCap w n 0 31 = c := ⟨_, rfl⟩
    obtain ⟨w1, hw1⟩ : ∃ u, w.drew.alloc (.cells (Builtin.zeroCells (Value.cells (.agg #[.int .i64 0, .int .i64 0, .int .i64 0, .int .i64 0, .int .i64 0, .int .i64 0, .int .i64 0, .int .i64 0, .int .i64 0, .int .i64 0])) n ++ Builtin.zeroCells (Value.cells (.agg #[.int .i64 0, .int .i64 0, .int .i64 0, .int .i64 0, .int .i64 0, .int .i64 0, .int .i64 0, .int .i64 0, .int .i64 0, .int .i64 0])) (grownCap w n 0 31 - n)) 31) = u := ⟨_, rfl⟩
    rw [hgc] at hcap hcm
    have HR : Hid ((Builtin.append_ #[34, 3] 34 #[.slice none 0 0, .int .i64 n]).run Try.prog w = .ok (.slice (some ⟨w.heap.size, 0, none⟩) n gc) w1) := by
      have := hrun.out
      rw [hgc] at this
      rw [hgc] at hw1
      rw [← hw1]
      exact this
    have HO : Hid (OwnK w1 w.heap.size 31 10 (.slice (some ⟨w.heap.size, 0, none⟩) 0 gc) 0 []) := by
      have := HOWN.out
      rw [← hw1, ← hgc]
      exact this
    have HB : Hid (Below w.heap.size w w1) := by rw [← hw1]; exact HBEL.out
    clear hw1 HOWN HBEL hrun hgc hi hz0 hz1 hz2
    have hpos : (0 : Int) < (n : Int) := by omega
    go_wp2_with (at_builtin; refine Lib.wpList_append_run _ rfl _ _ _ _ rfl _ _ rfl rfl _ _ HR.out ?_)
    go_ret
    exact ⟨_, rfl, HB.out, HO.out⟩

set_option maxRecDepth 100000 in
set_option maxHeartbeats 2000000 in
theorem pconcat_ord (g : Nat) (t : TypeId) (m c : Nat) (ps : List Part) (w : World) (hb : Blk w g t (ps.map Part.val)) (hm : ps.length = m) (hmm : m ≤ 64) (hp : Parts w w.heap.size 10 ps) (hr : lens ps * 80 ≤ 140737488355328) :
    Calls Try.prog 35 #[.slice (some ⟨g, 0, none⟩) m c] w (MakesK w 31 10 (lens ps) (allOf ps)) := by
  have HPS := Lib.hid hp
  have HBK := Lib.hid hb
  have HTK := Lib.hid (lens_take ps)
  have HM := Lib.hid hm
  have HGT : Hid (g < w.heap.size) := hb.lt
  clear hp hb hm
  go_enter Try.func35, Try.ntmps35
  go_wp2_with fail
  go_loopw [3, 11] (fun sv iv wr => ∃ (k s : Nat), k ≤ m ∧ sv = .int .i64 (s : Int) ∧ iv = .int .i64 k ∧ w = wr ∧ Hid (s = lens (ps.take k))) (fun _ iv _ => m - (intOf iv).toNat)
  case atStart => exact ⟨0, 0, Nat.zero_le _, rfl, rfl, rfl, rfl⟩
  case round =>
    obtain ⟨k, s, hk, rfl, rfl, rfl, HS⟩ := hrel
    by_cases hlt : k < m
    · obtain ⟨p, hpk⟩ : ∃ p, ps[k]? = some p := ⟨_, List.getElem?_eq_getElem (by have := HM.out; omega)⟩
      have c0 : w.cell? ⟨g, k, none⟩ = some p.val := HBK.out.cell (by rw [List.getElem?_map, hpk]; rfl)
      obtain ⟨s2, hs2⟩ : ∃ s2, s + p.len = s2 := ⟨_, rfl⟩
      have HS2 : Hid (s2 = lens (ps.take (k + 1))) := by
        show _ = _
        rw [take_snoc hpk, lens_snoc, ← hs2, HS.out]
      have hs3 : s2 ≤ 140737488355328 := by
        have := HTK.out (k + 1)
        rw [← HS2.out] at this
        omega
      have hki : (k : Int) < (m : Int) := by omega
      have hsum : (s : Int) + (p.len : Int) = (s2 : Int) := by omega
      have hs4 : (s2 : Int) ≤ 140737488355328 := by omega
      clear hpk hs2 hs3
      go_wp2_with fail
      go_roundw
      case rel => exact ⟨k + 1, s2, by omega, by go_num, by go_num, trivial, HS2⟩
      case measure => simp [intOf]; omega
    · have e : m = k := by omega
      subst e
      have HS2 : Hid (s = lens ps) := by
        show _ = _
        rw [HS.out, List.take_of_length_le (by have := HM.out; omega)]
      clear HS
      rw [HS2.out]
      clear HS2
      go_wp2_with fail
      refine (pgrow_ord (lens ps) _ hr).mono ?_
      rintro e w1 ⟨v1, rfl, hb1, ho1⟩
      have HB1 := Lib.hid hb1
      have HO1 := Lib.hid ho1
      clear hb1 ho1
      go_wp2_with fail
      go_loopw [6, 27] (fun vv iv wr => ∃ k : Nat, k ≤ m ∧ iv = .int .i64 k ∧ Hid (Below w.heap.size w wr) ∧ Hid (OwnK wr w.heap.size 31 10 vv (lens (ps.take k)) (allOf (ps.take k)))) (fun _ iv _ => m - (intOf iv).toNat)
      case atStart => exact ⟨0, Nat.zero_le _, rfl, HB1, HO1⟩
      case round =>
        clear HB1 HO1
        obtain ⟨k, hk, rfl, HB, HO⟩ := hrel
        by_cases hlt : k < m
        · obtain ⟨p, hpk⟩ : ∃ p, ps[k]? = some p := ⟨_, List.getElem?_eq_getElem (by have := HM.out; omega)⟩
          have c0 : wr.cell? ⟨g, k, none⟩ = some p.val := (Blk.below HBK.out HB.out HGT.out).cell (by rw [List.getElem?_map, hpk]; rfl)
          have hs2 := HTK.out (k + 1)
          rw [take_snoc hpk, lens_snoc] at hs2
          have HP2 : Hid (Recs wr w.heap.size p.at_ p.len 10 p.vs) := (HPS.out p (List.mem_of_getElem? hpk)).1.keep HB.out
          have HP3 : Hid (∀ u ∈ p.vs, u.oneCell' = true) := (HPS.out p (List.mem_of_getElem? hpk)).2
          have HK := Lib.hid hpk
          clear hpk
          go_wp2_with (at_builtin; refine wpList_append_ks (o := ⟨some 33, _, _, _, _, _⟩) rfl (.tmp 31) (.tmp 32) Try.underlying34 infoOrd rfl (by decide) rfl HO.out rfl HP2.out rfl HP3.out (by unfold maxLen; omega) (by omega) HB.out HB.out.size HB.out.size (Nat.le_refl _) ?_; intro vB wB HO2 HB2 HG2)
          go_roundw
          case rel => exact ⟨k + 1, by omega, by go_num, HB2, by show OwnK _ _ _ _ _ _ _; rw [take_snoc HK.out, lens_snoc, allOf_snoc]; exact HO2.out⟩
          case measure => simp [intOf]; omega
        · have e : k = m := by omega
          subst e
          have HO2 : Hid (OwnK wr w.heap.size 31 10 u6 (lens ps) (allOf ps)) := by
            have := HO.out
            rw [List.take_of_length_le (by have := HM.out; omega)] at this
            exact this
          clear HO
          go_wp2_with fail
          go_ret
          exact ⟨_, rfl, HB.out, HO2.out⟩

#print axioms pconcat_ord
end Go.Proofs.Ytpigklkidagolaa.Slack

/-
  The program's slack.Put, walked.
-/
namespace Go.Proofs.Ytpigklkidagolaa.Slack
open Go.ChangeShapes Go.WideShapes Go.ChangeAt Go.RowKit Go.Proofs.Ytpigklkidagolaa.Mem Go.Proofs.Ytpigklkidagolaa.FleetMath Go.Proofs.Ytpigklkidagolaa.Rec
set_option linter.unusedVariables false

theorem exec_one_stp {p : Operand} {o : Oper} {a : Act} {u : World} {x : Stp} (h : o.op = .buildSlice 37 1 #[(0, p)]) (hp : a.eval p = stpV x) : (execOp a.eval o).run Try.prog u = .ok (.value (.slice (some ⟨u.heap.size, 0, none⟩) 1 1)) (u.alloc (.cells #[.int .i64 x.ord, .bool x.drop] 36)) := by
  obtain ⟨ρ, hρ⟩ : ∃ ρ, a.eval = ρ := ⟨_, rfl⟩
  rw [hρ] at hp ⊢
  unfold execOp
  rw [h]
  simp [go_sem, hp]
abbrev sl3 (p : Option Addr × Nat × Nat) : Value := .slice p.1 p.2.1 p.2.2
theorem exec_five {p0 p1 p2 p3 p4 : Operand} {v0 v1 v2 v3 v4 : Option Addr × Nat × Nat} {o : Oper} {a : Act} {u : World} (h : o.op = .buildSlice 151 5 #[(0, p0), (1, p1), (2, p2), (3, p3), (4, p4)]) (h0 : a.eval p0 = sl3 v0) (h1 : a.eval p1 = sl3 v1) (h2 : a.eval p2 = sl3 v2) (h3 : a.eval p3 = sl3 v3) (h4 : a.eval p4 = sl3 v4) :
    (execOp a.eval o).run Try.prog u = .ok (.value (.slice (some ⟨u.heap.size, 0, none⟩) 5 5)) (u.alloc (.cells #[sl3 v0, sl3 v1, sl3 v2, sl3 v3, sl3 v4] 37)) := by
  obtain ⟨ρ, hρ⟩ : ∃ ρ, a.eval = ρ := ⟨_, rfl⟩
  rw [hρ] at h0 h1 h2 h3 h4 ⊢
  unfold execOp
  rw [h]
  simp [go_sem, h0, h1, h2, h3, h4]
theorem exec_call1 {o : Oper} {a : Act} {u : World} {f : Nat} {ts : Array TypeId} {x : Operand} {v : Value} (h : o.op = .call { callee := .value (.func f), args := #[x], argTypes := ts }) (h1 : a.eval x = v) (hf : (callFunc f #[v]).run Try.prog u = .ok (.enter f #[v]) u) :
    (execOp a.eval o).run Try.prog u = .ok (.enter f #[v]) u := by
  have hf' : a.eval (.func f) = .func (.func f) #[] #[] := rfl
  obtain ⟨ρ, hρ⟩ : ∃ ρ, a.eval = ρ := ⟨_, rfl⟩
  rw [hρ] at h1 hf' ⊢
  unfold execOp
  rw [h]
  simp [go_sem, hf', h1, hf]
/-- what the operations of Put's region leave -/
def putFact (base : Nat) (A : Option Addr) (n c : Nat) (stops : List Stp) (o : Int) (i j : Nat) (k : Nat) (v : Value) (D : Nat → Prop) (u : World) : Prop :=
  match k with
  | 0 => pureF (fun v => v = .slice A n c) v D
  | 1 => pureF (fun v => v = .int .i64 (i : Int)) v D
  | 2 => pureF (fun v => v = sl3 (partAt A 0 c, i - 0, c - 0)) v D
  | 3 => pureF (fun v => v = stpV ⟨o, false⟩) v D
  | 4 => blkF (fun g => .slice (some ⟨g, 0, none⟩) 1 1) 36 [.int .i64 o, .bool false] v D u
  | 5 => pureF (fun v => v = .slice A n c) v D
  | 6 => pureF (fun v => v = .int .i64 (i : Int)) v D
  | 7 => pureF (fun v => v = .int .i64 (j : Int)) v D
  | 8 => pureF (fun v => v = sl3 (partAt A i c, j - i, c - i)) v D
  | 9 => pureF (fun v => v = stpV ⟨o, true⟩) v D
  | 10 => blkF (fun g => .slice (some ⟨g, 0, none⟩) 1 1) 36 [.int .i64 o, .bool true] v D u
  | 11 => pureF (fun v => v = .slice A n c) v D
  | 12 => pureF (fun v => v = .int .i64 (j : Int)) v D
  | 13 => pureF (fun v => v = sl3 (partAt A j c, n - j, c - j)) v D
  | 14 => ∃ g ga gb, v = .slice (some ⟨g, 0, none⟩) 5 5 ∧ Blk u g 37 [sl3 (partAt A 0 c, i - 0, c - 0), sl3 (some ⟨ga, 0, none⟩, 1, 1), sl3 (partAt A i c, j - i, c - i), sl3 (some ⟨gb, 0, none⟩, 1, 1), sl3 (partAt A j c, n - j, c - j)] ∧ Blk u ga 36 [.int .i64 o, .bool false] ∧ Blk u gb 36 [.int .i64 o, .bool true] ∧ ∀ b, D b ↔ b = g ∨ b = ga ∨ b = gb
  | 15 => ownF base 2 36 (n + 2) (stpsV (putM stops o i j)) v D u
  | 16 => ownF base 2 36 (n + 2) (stpsV (putM stops o i j)) v D u
  | _ => pureF (fun _ => True) v D
def putRF (base : Nat) (A : Option Addr) (n c : Nat) (stops : List Stp) (o : Int) (i j : Nat) : RF :=
  ⟨fun k => [28, 29, 30, 31, 32, 33, 34, 35, 36, 37, 38, 39, 40, 41, 42, 43, 8].getD k 0, fun k => if k = 4 then some 14 else if k = 10 then some 14 else if k = 15 then some 16 else none, putFact base A n c stops o i j⟩
theorem put_mon {base : Nat} {A : Option Addr} {n c : Nat} {stops : List Stp} {o : Int} {i j : Nat} (k : Nat) (v : Value) (D : Nat → Prop) (u u' : World) (h : putFact base A n c stops o i j k v D u) (hk : ∀ b, D b → u'.heap[b]? = u.heap[b]?) :
    putFact base A n c stops o i j k v D u' := by
  revert h
  unfold putFact
  split <;> intro h <;> first | exact h | exact ownF.mon h hk | exact blkF.mon h hk | skip
  obtain ⟨g, ga, gb, e, h1, h2, h3, hd⟩ := h
  exact ⟨g, ga, gb, e, (hk g ((hd g).2 (.inl rfl))).trans h1, (hk ga ((hd ga).2 (.inr (.inl rfl)))).trans h2, (hk gb ((hd gb).2 (.inr (.inr rfl)))).trans h3, hd⟩
/-- the two stops in boxes -/
structure PB (w : World) (o : Int) (u : World) : Prop where
  old : Below w.heap.size w u
  pick : Blk u w.heap.size 36 [.int .i64 o, .bool false]
  drop : Blk u (w.heap.size + 1) 36 [.int .i64 o, .bool true]

theorem run_load_stpb {u : World} {g : Nat} {x : Int} {b : Bool} (h : Blk u g 36 [.int .i64 x, .bool b]) : (Instr.loadAt 36 (.pointer (some ⟨g, 0, none⟩))).run Try.prog u = .ok (stpV ⟨x, b⟩) u := by
  have c0 := h.cell (i := 0) rfl
  have c1 := h.cell (i := 1) rfl
  simp [go_sem, c0, c1]
theorem newp {R : RF} {w0 u : World} {D : Nat → Nat → Prop} {i : Nat} {v : Value} {ob : Obj} (ho : Below w0.heap.size w0 u) (hf : R.fact i v (fun b => b = u.heap.size) (u.alloc ob)) : RPostV R w0 i u D v (u.alloc ob) (fun b => b = u.heap.size) :=
  ⟨ho.alloc ho.size _, by simp, fun b hlt _ => Below.heap_alloc u ob b hlt, fun b hd => .inr (by subst hd; simp), hf⟩
theorem ownp {R : RF} {w0 u u' : World} {D : Nat → Nat → Prop} {k m i : Nat} {e : TypeId} {v : Value} {vs : List Value} (ho : Below w0.heap.size w0 u) (hb : Below u.heap.size u u') (hv : OwnK u' u.heap.size e k v m vs) (hf : R.fact i v (fun b => v.ownBlock = some b) u') : RPostV R w0 i u D v u' (fun b => v.ownBlock = some b) :=
  ⟨ho.trans (hb.mono ho.size), hb.size, fun b hlt _ => hb.block b hlt, fun b hd => .inr (hv.1.lt b hd), hf⟩
/-- the five parts -/
def putParts (A : Option Addr) (n c : Nat) (stops : List Stp) (o : Int) (i j ga gb : Nat) : List Part :=
  [⟨partAt A 0 c, i - 0, c - 0, stpsV ((stops.drop 0).take (i - 0))⟩, ⟨some ⟨ga, 0, none⟩, 1, 1, [.int .i64 o, .bool false]⟩, ⟨partAt A i c, j - i, c - i, stpsV ((stops.drop i).take (j - i))⟩, ⟨some ⟨gb, 0, none⟩, 1, 1, [.int .i64 o, .bool true]⟩, ⟨partAt A j c, n - j, c - j, stpsV ((stops.drop j).take (n - j))⟩]
section
variable {A : Option Addr} {n c i j ga gb : Nat} {stops : List Stp} {o : Int}
theorem putParts_len (hij : i ≤ j) (hj : j ≤ n) : lens (putParts A n c stops o i j ga gb) = n + 2 := by
  simp only [putParts, lens, List.map_cons, List.map_nil, List.sum_cons, List.sum_nil]
  omega
theorem putParts_all (hl : stops.length = n) (hij : i ≤ j) (hj : j ≤ n) : allOf (putParts A n c stops o i j ga gb) = stpsV (putM stops o i j) := by
  have e : stpsV (stops.drop j) = stpsV ((stops.drop j).take (n - j)) := by rw [List.take_of_length_le (by rw [List.length_drop]; omega)]
  simp only [putParts, allOf, List.flatMap_cons, List.flatMap_nil, putM, stpsV_append, List.drop_zero, Nat.sub_zero, List.append_nil]
  rw [← e]
  simp [stpsV]
theorem blk_recs {u : World} {g : Nat} {x : Int} {b : Bool} (h : Blk u g 36 [.int .i64 x, .bool b]) : Recs u u.heap.size (some ⟨g, 0, none⟩) 1 2 [.int .i64 x, .bool b] :=
  ⟨rfl, by unfold maxLen; omega, fun _ => ⟨g, 0, rfl, h.lt, fun p y hy => by rw [Nat.zero_add]; exact h.cell hy⟩⟩
theorem putParts_read {u : World} (hs : Stps u u.heap.size A n stops) (hcc : n ≤ c) (hij : i ≤ j) (hj : j ≤ n) (ha : Blk u ga 36 [.int .i64 o, .bool false]) (hb : Blk u gb 36 [.int .i64 o, .bool true]) : Parts u u.heap.size 2 (putParts A n c stops o i j ga gb) := by
  intro p hp
  simp only [putParts, List.mem_cons, List.not_mem_nil, or_false] at hp
  rcases hp with rfl | rfl | rfl | rfl | rfl
  · exact ⟨Stps.part hs (Nat.zero_le _) (by omega) hcc, stpsV_one _⟩
  · exact ⟨blk_recs ha, stp_one o false⟩
  · exact ⟨Stps.part hs hij hj hcc, stpsV_one _⟩
  · exact ⟨blk_recs hb, stp_one o true⟩
  · exact ⟨Stps.part hs hj (Nat.le_refl _) hcc, stpsV_one _⟩
end

set_option maxRecDepth 100000 in
set_option maxHeartbeats 4000000 in
theorem gput_nat (A : Option Addr) (n c : Nat) (stops : List Stp) (o : Int) (i j : Nat) (w : World) (hs : Stps w w.heap.size A n stops) (hcc : n ≤ c) (hij : i ≤ j) (hj : j ≤ n) (hr : n * 16 ≤ 140737488351232) :
    Calls Try.prog 23 #[.slice A n c, .int .i64 o, .int .i64 i, .int .i64 j] w (MakesK w 36 2 (n + 2) (stpsV (putM stops o i j))) := by
  have HST := Lib.hid hs
  have HL := Lib.hid hs.length
  have hm := Recs.le hs
  clear hs
  have q1 : ¬ ((i : Int) < 0) := by omega
  have q2 : ¬ ((j : Int) < (i : Int)) := by omega
  have q3 : ¬ ((n : Int) < (j : Int)) := by omega
  go_enter Try.func23, Try.ntmps23
  go_upto_region 4 with fail
  have HPB : Hid (PB w o ((w.alloc (.cells #[.int .i64 o, .bool false] 36)).alloc (.cells #[.int .i64 o, .bool true] 36))) := by
    have h1 := Blk.new (w.alloc (.cells #[.int .i64 o, .bool false] 36)) 36 [.int .i64 o, .bool true]
    rw [World.size_alloc] at h1
    exact ⟨((Below.refl _ _).alloc (Nat.le_refl _) _).alloc (by simp) _, Blk.below (Blk.new w 36 [.int .i64 o, .bool false]) ((Below.refl _ _).alloc (Nat.le_refl _) _) (Blk.new w 36 [.int .i64 o, .bool false]).lt, h1⟩
  obtain ⟨w4, hw4⟩ : ∃ u, ((w.alloc (.cells #[.int .i64 o, .bool false] 36)).alloc (.cells #[.int .i64 o, .bool true] 36)) = u := ⟨_, rfl⟩
  rw [hw4] at HPB ⊢
  clear hw4
  go_cut [8] (fun v wx => Hid (Below w.heap.size w wx) ∧ Hid (OwnK wx w.heap.size 36 2 v (n + 2) (stpsV (putM stops o i j))))
  case first =>
    have hN4 := HPB.out.old.size
    refine wp_region_steps (putRF w4.drew.heap.size A n c stops o i j) (by kernel_rfl) (by kernel_rfl) (by kernel_rfl) (fun k hk => ?_) (by kernel_rfl) put_mon ?_ ?_
    · simp only [List.length_cons, List.length_nil] at hk
      simp only [putRF]
      rw [if_neg (by omega), if_neg (by omega), if_neg (by omega)]
    · have KEEP : ∀ u, Below w4.drew.heap.size w4.drew u → Below w4.heap.size w4 u := fun u h => (Below.refl w4.heap.size w4).drew.trans h
      refine ⟨?_, ?_, ?_, ?_, ?_, ?_, ?_, ?_, ?_, ?_, ?_, ?_, ?_, ?_, ?_, ?_, ?_, trivial⟩
      · exact RStep.pure rfl 28 rfl rfl (by simp) fun listed a u D hI hr hn => ⟨_, exec_move (.inl rfl) (hI.out 0 (by kernel_rfl)), pureF.new rfl⟩
      · exact RStep.pure rfl 29 rfl rfl (by simp) fun listed a u D hI hr hn => ⟨_, exec_move (.inl rfl) (hI.out 2 (by kernel_rfl)), pureF.new rfl⟩
      · refine RStep.pure rfl 30 rfl rfl (by simp) fun listed a u D hI hr hn => ?_
        obtain ⟨e0, _⟩ : pureF _ _ _ := (hI.get hr hn 0 (by kernel_rfl) (.inl rfl)).1
        obtain ⟨e1, _⟩ : pureF _ _ _ := (hI.get hr hn 1 (by kernel_rfl) (.inl rfl)).1
        exact ⟨_, exec_slice (l := 0) (h := i) rfl e0 (.inl ⟨rfl, rfl⟩) (.inr ⟨_, rfl, e1⟩) (Nat.zero_le _) (by omega) hcc, pureF.new rfl⟩
      · exact RStep.pure rfl 31 rfl rfl (by simp) fun listed a u D hI hr hn => ⟨_, exec_load rfl (hI.out 9 (by kernel_rfl)) (run_load_stpb ((HPB.out.pick).below (KEEP u hI.old) HPB.out.pick.lt)), pureF.new rfl⟩
      · refine RStep.val rfl 32 rfl rfl (by simp) fun listed a u D hI hr hn => ?_
        obtain ⟨e3, _⟩ : pureF _ _ _ := (hI.get hr hn 3 (by kernel_rfl) (.inl rfl)).1
        exact ⟨_, _, _, exec_one_stp rfl e3, newp hI.old ⟨_, rfl, Blk.new u _ _, fun b => Iff.rfl⟩⟩
      · exact RStep.pure rfl 33 rfl rfl (by simp) fun listed a u D hI hr hn => ⟨_, exec_move (.inl rfl) (hI.out 0 (by kernel_rfl)), pureF.new rfl⟩
      · exact RStep.pure rfl 34 rfl rfl (by simp) fun listed a u D hI hr hn => ⟨_, exec_move (.inl rfl) (hI.out 2 (by kernel_rfl)), pureF.new rfl⟩
      · exact RStep.pure rfl 35 rfl rfl (by simp) fun listed a u D hI hr hn => ⟨_, exec_move (.inl rfl) (hI.out 3 (by kernel_rfl)), pureF.new rfl⟩
      · refine RStep.pure rfl 36 rfl rfl (by simp) fun listed a u D hI hr hn => ?_
        obtain ⟨e5, _⟩ : pureF _ _ _ := (hI.get hr hn 5 (by kernel_rfl) (.inl rfl)).1
        obtain ⟨e6, _⟩ : pureF _ _ _ := (hI.get hr hn 6 (by kernel_rfl) (.inl rfl)).1
        obtain ⟨e7, _⟩ : pureF _ _ _ := (hI.get hr hn 7 (by kernel_rfl) (.inl rfl)).1
        exact ⟨_, exec_slice (l := i) (h := j) rfl e5 (.inr ⟨_, rfl, e6⟩) (.inr ⟨_, rfl, e7⟩) hij hj hcc, pureF.new rfl⟩
      · exact RStep.pure rfl 37 rfl rfl (by simp) fun listed a u D hI hr hn => ⟨_, exec_load rfl (hI.out 10 (by kernel_rfl)) (run_load_stpb ((HPB.out.drop).below (KEEP u hI.old) HPB.out.drop.lt)), pureF.new rfl⟩
      · refine RStep.val rfl 38 rfl rfl (by simp) fun listed a u D hI hr hn => ?_
        obtain ⟨e3, _⟩ : pureF _ _ _ := (hI.get hr hn 9 (by kernel_rfl) (.inl rfl)).1
        exact ⟨_, _, _, exec_one_stp rfl e3, newp hI.old ⟨_, rfl, Blk.new u _ _, fun b => Iff.rfl⟩⟩
      · exact RStep.pure rfl 39 rfl rfl (by simp) fun listed a u D hI hr hn => ⟨_, exec_move (.inl rfl) (hI.out 0 (by kernel_rfl)), pureF.new rfl⟩
      · exact RStep.pure rfl 40 rfl rfl (by simp) fun listed a u D hI hr hn => ⟨_, exec_move (.inl rfl) (hI.out 3 (by kernel_rfl)), pureF.new rfl⟩
      · refine RStep.pure rfl 41 rfl rfl (by simp) fun listed a u D hI hr hn => ?_
        obtain ⟨e11, _⟩ : pureF _ _ _ := (hI.get hr hn 11 (by kernel_rfl) (.inl rfl)).1
        obtain ⟨e12, _⟩ : pureF _ _ _ := (hI.get hr hn 12 (by kernel_rfl) (.inl rfl)).1
        exact ⟨_, exec_slice (l := j) (h := n) rfl e11 (.inr ⟨_, rfl, e12⟩) (.inl ⟨rfl, rfl⟩) hj (Nat.le_refl _) hcc, pureF.new rfl⟩
      · refine RStep.val rfl 42 rfl rfl (by simp) fun listed a u D hI hr hn => ?_
        obtain ⟨e2, _⟩ : pureF _ _ _ := (hI.get hr hn 2 (by kernel_rfl) (.inl rfl)).1
        obtain ⟨e8, _⟩ : pureF _ _ _ := (hI.get hr hn 8 (by kernel_rfl) (.inl rfl)).1
        obtain ⟨e13, _⟩ : pureF _ _ _ := (hI.get hr hn 13 (by kernel_rfl) (.inl rfl)).1
        obtain ⟨ga, e4, hba, hda⟩ : blkF _ _ _ _ _ _ := (hI.get hr hn 4 (by kernel_rfl) (.inr rfl)).1
        obtain ⟨gb, e10, hbb, hdb⟩ : blkF _ _ _ _ _ _ := (hI.get hr hn 10 (by kernel_rfl) (.inr rfl)).1
        refine ⟨_, _, fun b => b = u.heap.size ∨ b = ga ∨ b = gb, exec_five (v1 := (some ⟨ga, 0, none⟩, 1, 1)) (v3 := (some ⟨gb, 0, none⟩, 1, 1)) rfl e2 e4 e8 e10 e13, hI.old.alloc hI.old.size _, by simp, fun b hlt _ => Below.heap_alloc u _ b hlt, fun b hd => ?_, ⟨_, ga, gb, rfl, Blk.new u _ _, hba.below ((Below.refl _ _).alloc (Nat.le_refl _) _) hba.lt, hbb.below ((Below.refl _ _).alloc (Nat.le_refl _) _) hbb.lt, fun b => Iff.rfl⟩⟩
        rcases hd with rfl | rfl | rfl
        · exact .inr ⟨Nat.le_refl _, by simp⟩
        · exact .inl ⟨4, rfl, (hda _).2 rfl⟩
        · exact .inl ⟨10, rfl, (hdb _).2 rfl⟩
      · refine RStep.call rfl 43 rfl rfl (by simp) fun listed a u D hI hr hn => ?_
        obtain ⟨g, ga, gb, e14, hb, hba, hbb, _⟩ : ∃ g ga gb, _ ∧ _ ∧ _ ∧ _ ∧ _ := (hI.get hr hn 14 (by kernel_rfl) (.inl rfl)).1
        refine ⟨_, _, exec_call1 rfl e14 (by simp [go_sem]), ?_⟩
        have hold := (HPB.out.old.trans ((KEEP u hI.old).mono HPB.out.old.size))
        have hsu : Stps u u.heap.size A n stops := Recs.more (Recs.keep HST.out hold) hold.size
        have hlen : stops.length = n := HL.out
        have e1 : lens (putParts A n c stops o i j ga gb) = n + 2 := putParts_len hij hj
        have e2 : allOf (putParts A n c stops o i j ga gb) = stpsV (putM stops o i j) := putParts_all hlen hij hj
        have hc := pconcat_stp g 37 5 5 (putParts A n c stops o i j ga gb) u hb rfl (by omega) (putParts_read hsu hcc hij hj hba hbb) (by rw [e1]; omega)
        rw [e1, e2] at hc
        refine hc.mono ?_
        rintro e u' ⟨v, rfl, hb', hv⟩
        exact ⟨v, _, rfl, ownp hI.old hb' hv ⟨hv.lower hI.old.size, fun b => Iff.rfl⟩⟩
      · refine RStep.val rfl 8 rfl rfl (by simp) fun listed a u D hI hr hn => ?_
        obtain ⟨ho, hd⟩ : ownF _ _ _ _ _ _ _ _ := (hI.get hr hn 15 (by kernel_rfl) (.inr rfl)).1
        exact ⟨_, u, _, exec_move (.inr rfl) rfl, hI.old, Nat.le_refl _, fun _ _ _ => rfl, fun b hb => .inl ⟨15, rfl, hb⟩, ho, hd⟩
    · intro listed a u D hI hall
      obtain ⟨ho, _⟩ : ownF _ _ _ _ _ _ _ _ := hI.fact 16 ⟨hall 16 (by simp), fun k hk => by cases hk⟩
      have hold := HPB.out.old.trans (((Below.refl w4.heap.size w4).drew.trans hI.old).mono HPB.out.old.size)
      have hl := hI.fill [28, 29, 30, 31, 32, 33, 34, 35, 36, 37, 38, 39, 40, 41, 42, 43, 8] (by kernel_rfl)
      replace ho : OwnK u w4.drew.heap.size 36 2 (a.tmps.getD 8 undef) (n + 2) (stpsV (putM stops o i j)) := ho
      have ho2 := ho.lower (b' := w.heap.size) HPB.out.old.size
      clear hI hall ho
      obtain ⟨σ, hσ⟩ : ∃ σ : Nat → Value, ∀ t, a.tmps.getD t undef = σ t := ⟨_, fun _ => rfl⟩
      simp only [hσ] at hl ho2
      clear hσ
      simp only [List.foldl_cons, List.foldl_nil, List.setIfInBounds_toArray, List.set_cons_zero, List.set_cons_succ] at hl
      subst hl
      go_wp2_with fail
      go_meet
      exact ⟨hold, ho2⟩
  case rest =>
  obtain ⟨HB, HO⟩ := hcut
  go_wp2_with fail
  go_ret
  exact ⟨_, rfl, HB.out, HO.out⟩
theorem gput_any (A : Option Addr) (n c : Nat) (stops : List Stp) (o i j : Int) (w : World) (hs : Stps w w.heap.size A n stops) (hcc : n ≤ c) (hr : n * 16 ≤ 140737488351232) :
    Calls Try.prog 23 #[.slice A n c, .int .i64 o, .int .i64 i, .int .i64 j] w (MakesK w 36 2 (putR stops o i j).length (stpsV (putR stops o i j))) := by
  have hl := hs.length
  have hm := Recs.le hs
  by_cases h : 0 ≤ i ∧ i ≤ j ∧ j ≤ (n : Int)
  · obtain ⟨i, rfl⟩ : ∃ x : Nat, i = x := ⟨i.toNat, by omega⟩
    obtain ⟨j, rfl⟩ : ∃ x : Nat, j = x := ⟨j.toNat, by omega⟩
    rw [putR_nat (by omega) (by omega), putM_len (by omega) (by omega), hl]
    exact gput_nat A n c stops o i j w hs hcc (by omega) (by omega) hr
  · have HP := Lib.hid (putR_no (o := o) (by rw [hl]; exact h))
    clear hs hl
    go_enter Try.func23, Try.ntmps23
    by_cases h1 : i < 0
    · go_wp2_with fail
      go_ret
      rw [HP.out]
      exact ⟨_, rfl, Below.refl _ _, OwnK.nil _ _ _ _⟩
    by_cases h2 : j < i
    · go_wp2_with fail
      go_ret
      rw [HP.out]
      exact ⟨_, rfl, Below.refl _ _, OwnK.nil _ _ _ _⟩
    by_cases h3 : (n : Int) < j
    · go_wp2_with fail
      go_ret
      rw [HP.out]
      exact ⟨_, rfl, Below.refl _ _, OwnK.nil _ _ _ _⟩
    exact absurd (by omega) h

#print axioms gput_any
end Go.Proofs.Ytpigklkidagolaa.Slack

/-
  The program's slack.drives, walked.
-/
namespace Go.Proofs.Ytpigklkidagolaa.Slack
open Go.ChangeShapes Go.WideShapes Go.ChangeAt Go.RowKit Go.Proofs.Ytpigklkidagolaa.Mem Go.Proofs.Ytpigklkidagolaa.GeoMath Go.Proofs.Ytpigklkidagolaa.FleetMath Go.Proofs.Ytpigklkidagolaa.Rec Go.Proofs.Ytpigklkidagolaa.Geo Go.Proofs.Ytpigklkidagolaa.Span Go.Proofs.Ytpigklkidagolaa.Deal Go.Proofs.Ytpigklkidagolaa.Route
set_option linter.unusedVariables false

set_option maxRecDepth 100000 in
theorem gdrives_any (base : Nat) (pv : Value) (m : Option Mp) (d : Drv) (A : Option Addr) (n c : Nat) (os : List FleetMath.Ord) (A' : Option Addr) (n' c' : Nat) (stops : List Stp) (w : World) (h : MapP w 82 base pv m) (ho : Ords w w.heap.size A n os) (hs : Stps w w.heap.size A' n' stops) (hcc : n' ≤ c') (hnc : n ≤ c) :
    Calls Try.prog 48 #[pv, drvV d, .slice A n c, .slice A' n' c'] w (Gives w (.bool (decide ((drive m d os stops).2.2 = 0)))) := by
  have HM := Lib.hid h
  have HOS := Lib.hid ho
  have HST := Lib.hid hs
  obtain ⟨q, hq⟩ : ∃ q, pv = .pointer q := by
    rcases h with ⟨rfl, _⟩ | ⟨b, _, _, rfl, _⟩
    · exact ⟨_, rfl⟩
    · exact ⟨_, rfl⟩
  subst hq
  clear h ho hs
  have HB0 : Hid (Below w.heap.size w (w.alloc (.cells #[.int .i64 d.id, .int .i64 d.room, .int .i64 d.home, .int .i64 d.win.fr, .int .i64 d.win.to, .bool d.retired] 33))) := (Below.refl _ _).alloc (Nat.le_refl _) _
  obtain ⟨⟨vs, k, e⟩, hdr⟩ : ∃ r, drive m d os stops = r := ⟨_, rfl⟩
  have HDR := Lib.hid hdr
  have HRV : Hid (decide ((drive m d os stops).2.2 = 0) = (e == 0)) := by
    show _ = _
    rw [hdr]
    by_cases h0 : e = 0 <;> simp [h0]
  clear hdr
  go_enter Try.func48, Try.ntmps48
  go_wp2_with fail
  refine (gdrive_any base (.pointer q) m d A n c os A' n' c' stops _ (by exact HM.out.keep HB0.out) (by exact Recs.more (Recs.keep HOS.out HB0.out) HB0.out.size) (by exact Recs.more (Recs.keep HST.out HB0.out) HB0.out.size) hcc hnc).mono ?_
  rintro e2 w3 ⟨hb3, v3, rfl, hv3⟩
  rw [HDR.out] at hv3 ⊢
  obtain ⟨B3, c3, rfl, _, _⟩ := hv3.read
  have F3 : Hid (FBox (w3.alloc (.cells #[.int .i64 k, .int .i64 e] 75)) w3.heap.size k e) := Blk.new w3 _ _
  have HB3 := Lib.hid ((HB0.out.trans (hb3.mono HB0.out.size)).alloc (HB0.out.trans (hb3.mono HB0.out.size)).size (.cells #[.int .i64 k, .int .i64 e] 75))
  clear hb3 hv3 HB0
  obtain ⟨x0, x1⟩ := F3.out.cells
  go_wp2_with fail
  refine (fgood_any k e _).mono ?_
  rintro e2 w4 ⟨rfl, hb4⟩
  have HB4 := Lib.hid (HB3.out.trans (hb4.mono HB3.out.size))
  clear hb4 HB3 x0 x1
  go_wp2_with fail
  go_ret
  exact ⟨ret_bool HRV.out.symm, HB4.out⟩
theorem gdrives_v (base : Nat) (pv : Value) (m : Option Mp) (d : Drv) (A : Option Addr) (n c : Nat) (os : List FleetMath.Ord) (A' : Option Addr) (n' c' : Nat) (stops : List Stp) (b : Bool) (w : World) (hb : decide ((drive m d os stops).2.2 = 0) = b) (h : MapP w 82 base pv m) (ho : Ords w w.heap.size A n os) (hs : Stps w w.heap.size A' n' stops) (hcc : n' ≤ c') (hnc : n ≤ c) :
    Calls Try.prog 48 #[pv, drvV d, .slice A n c, .slice A' n' c'] w (Gives w (.bool b)) := by subst hb; exact gdrives_any base pv m d A n c os A' n' c' stops w h ho hs hcc hnc

#print axioms gdrives_any
end Go.Proofs.Ytpigklkidagolaa.Slack

/-
  Chapter 8: what the walks of Fits share.
-/
namespace Go.Proofs.Ytpigklkidagolaa.Slack
open Go.ChangeShapes Go.WideShapes Go.ChangeAt Go.RowKit Go.Proofs.Ytpigklkidagolaa.Mem Go.Proofs.Ytpigklkidagolaa.GeoMath Go.Proofs.Ytpigklkidagolaa.FleetMath Go.Proofs.Ytpigklkidagolaa.Rec Go.Proofs.Ytpigklkidagolaa.Geo Go.Proofs.Ytpigklkidagolaa.Span Go.Proofs.Ytpigklkidagolaa.Deal Go.Proofs.Ytpigklkidagolaa.Route
set_option linter.unusedVariables false

theorem below_drew {w u' : World} (hb : Below w.drew.heap.size w.drew u') : Below w.heap.size w u' := (Below.refl w.heap.size w).drew.trans hb
theorem fits_no {m : Option Mp} {d : Drv} {os : List FleetMath.Ord} {stops : List Stp} {o : FleetMath.Ord} {i j : Int} (h : ¬ (0 ≤ i ∧ i ≤ j ∧ j ≤ stops.length) ∨ find os o.id ≠ none) : fits m d os stops o i j = false := by
  unfold fits
  rcases h with h | h
  · rw [decide_eq_false h]; rfl
  · rw [decide_eq_false h]; simp
theorem fits_yes {m : Option Mp} {d : Drv} {os : List FleetMath.Ord} {stops : List Stp} {o : FleetMath.Ord} {i j : Nat} (h : i ≤ j ∧ j ≤ stops.length) (hf : find os o.id = none) :
    fits m d os stops o i j = (decide ((drive m d os stops).2.2 = 0) && decide ((drive m d (os ++ [o]) (putM stops o.id i j)).2.2 = 0)) := by
  unfold fits
  rw [decide_eq_true (by omega : 0 ≤ (i : Int) ∧ (i : Int) ≤ (j : Int) ∧ (j : Int) ≤ stops.length), decide_eq_true hf]
  rfl
theorem find_idxV {os : List FleetMath.Ord} {id : Int} : 0 ≤ idxV (findI os id) ↔ find os id ≠ none := by
  cases h : findI os id with
  | none => rw [findI_none h]; simp [idxV]
  | some i =>
    obtain ⟨o, _, _, hf⟩ := findI_some h
    rw [hf]
    simp [idxV]
/-- the boxes: the driver, the order -/
structure FK (w : World) (d : Drv) (o : FleetMath.Ord) (u : World) : Prop where
  old : Below w.heap.size w u
  drv : DBox u w.heap.size d
  ord : OBox u (w.heap.size + 1) o
theorem FK.below {w u u' : World} {d : Drv} {o : FleetMath.Ord} (h : FK w d o u) (hb : Below u.heap.size u u') : FK w d o u' := ⟨h.old.trans (hb.mono h.old.size), h.drv.below hb, h.ord.below hb⟩

theorem run_load_drv {u : World} {g : Nat} {d : Drv} (h : DBox u g d) : (Instr.loadAt 33 (.pointer (some ⟨g, 0, none⟩))).run Try.prog u = .ok (drvV d) u := by
  obtain ⟨d0, d1, d2, d3, d4, d5⟩ := h.cells
  simp [go_sem, d0, d1, d2, d3, d4, d5]
theorem run_load_ord {u : World} {g : Nat} {o : FleetMath.Ord} (h : OBox u g o) : (Instr.loadAt 31 (.pointer (some ⟨g, 0, none⟩))).run Try.prog u = .ok (ordV o) u := by
  obtain ⟨g0, g1, g2, g3, g4, g5, g6, g7, g8, g9⟩ := h.cells
  simp [go_sem, g0, g1, g2, g3, g4, g5, g6, g7, g8, g9]
theorem run_load_id {u : World} {g : Nat} {o : FleetMath.Ord} (h : OBox u g o) : (Instr.loadAt 3 (.pointer (some ⟨g, 0, none⟩))).run Try.prog u = .ok (.int .i64 o.id) u := by
  obtain ⟨g0, _⟩ := h.cells
  simp [go_sem, g0]
theorem exec_id {o : Oper} {a : Act} {u : World} {x : Operand} {g : Nat} (h : o.op = .fieldAddr 31 x 0) (hp : a.eval x = .pointer (some ⟨g, 0, none⟩)) : (execOp a.eval o).run Try.prog u = .ok (.value (.pointer (some ⟨g, 0, none⟩))) u := by
  unfold execOp
  rw [h]
  simp only [hp]
  simp [go_sem]
theorem exec_none {o : Oper} {a : Act} {u : World} (h : o.op = .buildSlice 34 0 #[]) : (execOp a.eval o).run Try.prog u = .ok (.value (.slice (some ⟨u.heap.size, 0, none⟩) 0 0)) (u.alloc (.cells #[] 31)) := by
  unfold execOp
  rw [h]
  simp [go_sem]
theorem exec_one {p : Operand} {o : Oper} {a : Act} {u : World} {x : FleetMath.Ord} (h : o.op = .buildSlice 34 1 #[(0, p)]) (hp : a.eval p = ordV x) : (execOp a.eval o).run Try.prog u = .ok (.value (.slice (some ⟨u.heap.size, 0, none⟩) 1 1)) (u.alloc (.cells (ordL x).toArray 31)) := by
  obtain ⟨ρ, hρ⟩ : ∃ ρ, a.eval = ρ := ⟨_, rfl⟩
  rw [hρ] at hp ⊢
  unfold execOp
  rw [h]
  simp [go_sem, hp]
theorem exec_alloc {o : Oper} {a : Act} {u : World} (h : o.op = .alloc 75) : (execOp a.eval o).run Try.prog u = .ok (.value (.pointer (some ⟨u.heap.size, 0, none⟩))) (u.alloc (.cells #[.int .i64 0, .int .i64 0] 75)) := by
  unfold execOp
  rw [h]
  simp [go_sem]
theorem run_store_fault {u : World} {g k : Nat} {e x y : Int} (h : Blk u g 75 [.int .i64 x, .int .i64 y]) : (Instr.storeAt 75 (.pointer (some ⟨g, 0, none⟩)) (faultV k e)).run Try.prog u = .ok () ((u.setCell ⟨g, 0, none⟩ (.int .i64 k)).setCell ⟨g, 1, none⟩ (.int .i64 e)) := by
  have c0 := h.cell (i := 0) rfl
  have c1 := h.cell (i := 1) rfl
  have f0 := h.free 0
  have f1 := h.free 1
  have hcs := cell_apart g
  have hfs := frozen_set
  simp [go_sem, c0, c1, f0, f1, hcs, hfs]
theorem exec_extract {P : Program} {o : Oper} {a : Act} {u : World} {x : Operand} {k : Nat} {vs : Array Value} {v : Value} (h : o.op = .extract x k) (hp : a.eval x = .tuple vs) (hv : vs[k]? = some v) : (execOp a.eval o).run P u = .ok (.value v) u := by
  unfold execOp
  rw [h]
  simp only [hp]
  simp [go_sem, hv]
/-- what the operations of the region leave in which the second Drive stands -/
theorem own_eval {a : Act} {t : Nat} {v : Value} (h : a.tmps.getD t undef = v) : a.eval (.tmp t) = v := h
/-- a row of the call's own made anew behind u -/
theorem own_post {R : RF} {w0 u u' : World} {D : Nat → Nat → Prop} {k m i : Nat} {e : TypeId} {v : Value} {vs : List Value} (ho : Below w0.heap.size w0 u) (hb : Below u.heap.size u u') (hv : OwnK u' u.heap.size e k v m vs) (hf : R.fact i v (fun b => v.ownBlock = some b) u') : RPostV R w0 i u D v u' (fun b => v.ownBlock = some b) :=
  ⟨ho.trans (hb.mono ho.size), hb.size, fun b hlt _ => hb.block b hlt, fun b hd => .inr (own_lt hv hd), hf⟩
/-- one block made behind u -/
theorem new_post {R : RF} {w0 u : World} {D : Nat → Nat → Prop} {i : Nat} {v : Value} {ob : Obj} (ho : Below w0.heap.size w0 u) (hf : R.fact i v (fun b => b = u.heap.size) (u.alloc ob)) : RPostV R w0 i u D v (u.alloc ob) (fun b => b = u.heap.size) :=
  ⟨ho.alloc ho.size _, by simp, fun b hlt _ => Below.heap_alloc u ob b hlt, fun b hd => .inr (by subst hd; simp), hf⟩
/-- a row of the call's own that grows -/
theorem grow_post {R : RF} {w0 u u' : World} {D : Nat → Nat → Prop} {k m m' i j : Nat} {e : TypeId} {v v' : Value} {vs vs' : List Value} (ho : Below w0.heap.size w0 u) (hD : ∀ b, D j b ↔ v.ownBlock = some b) (hj : R.eater j = some i) (hv : OwnK u w0.heap.size e k v m vs) (hv' : OwnK u' w0.heap.size e k v' m' vs')
    (hg : u.grownBy u' v.ownBlock) (hor : v'.ownBlock = v.ownBlock ∨ v'.ownBlock = some u.heap.size) (hf : R.fact i v' (fun b => v'.ownBlock = some b) u') : RPostV R w0 i u D v' u' (fun b => v'.ownBlock = some b) := by
  refine ⟨hv.below ho hg ho.size (Nat.le_refl _), hg.size, fun b hlt hn => hg.block b hlt fun e => hn j hj ((hD b).2 e.symm), fun b hd => ?_, hf⟩
  rcases hor with h | h
  · exact .inl ⟨j, hj, (hD b).2 (by rw [← h]; exact hd)⟩
  · rw [h] at hd
    injection hd with hd
    subst hd
    have h6 := own_lt hv' h
    exact .inr ⟨Nat.le_refl _, h6.2⟩
end Go.Proofs.Ytpigklkidagolaa.Slack

/-
  The program's slack.Fits, walked.
-/
namespace Go.Proofs.Ytpigklkidagolaa.Slack
open Go.ChangeShapes Go.WideShapes Go.ChangeAt Go.RowKit Go.Proofs.Ytpigklkidagolaa.Mem Go.Proofs.Ytpigklkidagolaa.GeoMath Go.Proofs.Ytpigklkidagolaa.FleetMath Go.Proofs.Ytpigklkidagolaa.Rec Go.Proofs.Ytpigklkidagolaa.Geo Go.Proofs.Ytpigklkidagolaa.Span Go.Proofs.Ytpigklkidagolaa.Deal Go.Proofs.Ytpigklkidagolaa.Route
set_option linter.unusedVariables false

/-- as the program asks it -/
theorem fits_all {m : Option Mp} {d : Drv} {os : List FleetMath.Ord} {stops : List Stp} {o : FleetMath.Ord} {i j : Int} :
    fits m d os stops o i j = (decide ((drive m d os stops).2.2 = 0) && (decide (0 < (putR stops o.id i j).length) && decide ((drive m d (os ++ [o]) (putR stops o.id i j)).2.2 = 0))) := by
  by_cases h : 0 ≤ i ∧ i ≤ j ∧ j ≤ stops.length
  · obtain ⟨i, rfl⟩ : ∃ x : Nat, i = x := ⟨i.toNat, by omega⟩
    obtain ⟨j, rfl⟩ : ∃ x : Nat, j = x := ⟨j.toNat, by omega⟩
    have hij : i ≤ j := by omega
    have hj : j ≤ stops.length := by omega
    rw [putR_nat hij hj, putM_len hij hj, decide_eq_true (show 0 < stops.length + 2 by omega), Bool.true_and]
    cases hf : find os o.id with
    | none => rw [fits_yes ⟨hij, hj⟩ hf]
    | some p =>
      rw [fits_no (.inr (by rw [hf]; simp))]
      have : (drive m d (os ++ [o]) (putM stops o.id i j)).2.2 ≠ 0 := fun h0 => by
        obtain ⟨_, _, _, _, _, hk, _⟩ := drive_fine h0
        obtain ⟨_, _, hd⟩ := known_iff.1 hk
        obtain ⟨hp, he⟩ := find_some hf
        exact (List.pairwise_append.1 hd).2.2 p hp o (by simp) he
      rw [decide_eq_false this, Bool.and_false]
  · rw [fits_no (.inl h), putR_no h]
    simp

theorem exec_len {o : Oper} {a : Act} {u : World} {x : Operand} {t : TypeId} {A : Option Addr} {n c : Nat} (h : o.op = .call { callee := .builtin .len, args := #[x], argTypes := #[37] }) (hp : a.eval x = .slice A n c) : (execOp a.eval o).run Try.prog u = .ok (.value (.int .i64 (n : Int))) u := by
  obtain ⟨ρ, hρ⟩ : ∃ ρ, a.eval = ρ := ⟨_, rfl⟩
  rw [hρ] at hp ⊢
  unfold execOp
  rw [h]
  simp [go_sem, hp]
theorem exec_pos {o : Oper} {a : Act} {u : World} {x : Operand} {n : Nat} {b : Bool} {T : TypeId} (h : o.op = .binOp .gtr 3 x (.const (.int .i64 0)) T) (hp : a.eval x = .int .i64 (n : Int)) (hb : decide (0 < n) = b) : (execOp a.eval o).run Try.prog u = .ok (.value (.bool b)) u := by
  have hc : a.eval (.const (.int .i64 0)) = .int .i64 0 := rfl
  obtain ⟨ρ, hρ⟩ : ∃ ρ, a.eval = ρ := ⟨_, rfl⟩
  rw [hρ] at hp hc ⊢
  subst hb
  unfold execOp
  rw [h]
  simp [go_sem, hp, hc]
theorem exec_pick {o : Oper} {a : Act} {u : World} {x y z : Operand} {b : Bool} {v : Value} (h : o.op = .pick x y z) (hp : a.eval x = .bool b) (hv : (if b then a.eval y else a.eval z) = v) : (execOp a.eval o).run Try.prog u = .ok (.value v) u := by
  subst hv
  unfold execOp
  rw [h]
  simp only [hp]
  cases b <;> simp [go_sem]
theorem exec_two {p0 p1 : Operand} {v0 v1 : Option Addr × Nat × Nat} {o : Oper} {a : Act} {u : World} (h : o.op = .buildSlice 131 2 #[(0, p0), (1, p1)]) (h0 : a.eval p0 = sl3 v0) (h1 : a.eval p1 = sl3 v1) :
    (execOp a.eval o).run Try.prog u = .ok (.value (.slice (some ⟨u.heap.size, 0, none⟩) 2 2)) (u.alloc (.cells #[sl3 v0, sl3 v1] 34)) := by
  obtain ⟨ρ, hρ⟩ : ∃ ρ, a.eval = ρ := ⟨_, rfl⟩
  rw [hρ] at h0 h1 ⊢
  unfold execOp
  rw [h]
  simp [go_sem, h0, h1]
theorem exec_call4 {o : Oper} {a : Act} {u : World} {f : Nat} {ts : Array TypeId} {x y z t : Operand} {v1 v2 v3 v4 : Value} (h : o.op = .call { callee := .value (.func f), args := #[x, y, z, t], argTypes := ts }) (h1 : a.eval x = v1) (h2 : a.eval y = v2) (h3 : a.eval z = v3) (h4 : a.eval t = v4) (hf : (callFunc f #[v1, v2, v3, v4]).run Try.prog u = .ok (.enter f #[v1, v2, v3, v4]) u) :
    (execOp a.eval o).run Try.prog u = .ok (.enter f #[v1, v2, v3, v4]) u := by
  have hf' : a.eval (.func f) = .func (.func f) #[] #[] := rfl
  obtain ⟨ρ, hρ⟩ : ∃ ρ, a.eval = ρ := ⟨_, rfl⟩
  rw [hρ] at h1 h2 h3 h4 hf' ⊢
  unfold execOp
  rw [h]
  simp [go_sem, hf', h1, h2, h3, h4, hf]

/-- what the operations of the region leave in which the second drive stands -/
def pfitsFact (base : Nat) (q : Option Addr) (d : Drv) (A : Option Addr) (n c : Nat) (os : List FleetMath.Ord) (A' : Option Addr) (n' c' : Nat) (o : FleetMath.Ord) (r : Bool) (k : Nat) (v : Value) (D : Nat → Prop) (u : World) : Prop :=
  match k with
  | 0 => pureF (fun v => v = .slice A' n' c') v D
  | 1 => pureF (fun v => v = .int .i64 (n' : Int)) v D
  | 2 => pureF (fun v => v = .bool true) v D
  | 3 => pureF (fun v => v = .bool true) v D
  | 4 => pureF (fun v => v = .pointer q) v D
  | 5 => pureF (fun v => v = drvV d) v D
  | 6 => pureF (fun v => v = .slice A n c) v D
  | 7 => pureF (fun v => v = ordV o) v D
  | 8 => blkF (fun g => .slice (some ⟨g, 0, none⟩) 1 1) 31 (ordL o) v D u
  | 9 => ∃ g ga, v = .slice (some ⟨g, 0, none⟩) 2 2 ∧ Blk u g 34 [sl3 (A, n, c), sl3 (some ⟨ga, 0, none⟩, 1, 1)] ∧ Blk u ga 31 (ordL o) ∧ ∀ b, D b ↔ b = g ∨ b = ga
  | 10 => ownF base 10 31 (n + 1) (ordsV (os ++ [o])) v D u
  | 11 => pureF (fun v => v = .slice A' n' c') v D
  | 12 => pureF (fun v => v = .bool r) v D
  | 13 => pureF (fun v => v = .bool r) v D
  | 14 => pureF (fun v => v = .bool r) v D
  | _ => pureF (fun _ => True) v D
def pfitsRF (base : Nat) (q : Option Addr) (d : Drv) (A : Option Addr) (n c : Nat) (os : List FleetMath.Ord) (A' : Option Addr) (n' c' : Nat) (o : FleetMath.Ord) (r : Bool) : RF :=
  ⟨fun k => [28, 29, 30, 31, 32, 33, 34, 35, 36, 37, 38, 39, 40, 41, 14].getD k 0, fun k => if k = 8 then some 9 else none, pfitsFact base q d A n c os A' n' c' o r⟩
theorem pfits_mon {base : Nat} {q : Option Addr} {d : Drv} {A : Option Addr} {n c : Nat} {os : List FleetMath.Ord} {A' : Option Addr} {n' c' : Nat} {o : FleetMath.Ord} {r : Bool} (k : Nat) (v : Value) (D : Nat → Prop) (u u' : World) (h : pfitsFact base q d A n c os A' n' c' o r k v D u) (hk : ∀ b, D b → u'.heap[b]? = u.heap[b]?) :
    pfitsFact base q d A n c os A' n' c' o r k v D u' := by
  revert h
  unfold pfitsFact
  split <;> intro h <;> first | exact h | exact ownF.mon h hk | exact blkF.mon h hk | skip
  obtain ⟨g, ga, e, h1, h2, hd⟩ := h
  exact ⟨g, ga, e, (hk g ((hd g).2 (.inl rfl))).trans h1, (hk ga ((hd ga).2 (.inr rfl))).trans h2, hd⟩
/-- the two parts -/
def ordParts (A : Option Addr) (n c : Nat) (os : List FleetMath.Ord) (o : FleetMath.Ord) (ga : Nat) : List Part := [⟨A, n, c, ordsV os⟩, ⟨some ⟨ga, 0, none⟩, 1, 1, ordL o⟩]
section
variable {A : Option Addr} {n c ga : Nat} {os : List FleetMath.Ord} {o : FleetMath.Ord}
theorem ordParts_len : lens (ordParts A n c os o ga) = n + 1 := by
  simp only [ordParts, lens, List.map_cons, List.map_nil, List.sum_cons, List.sum_nil]
  omega
theorem ordParts_all : allOf (ordParts A n c os o ga) = ordsV (os ++ [o]) := by
  simp only [ordParts, allOf, List.flatMap_cons, List.flatMap_nil, List.append_nil, ordsV_append]
  rfl
theorem ordParts_read {u : World} (hs : Ords u u.heap.size A n os) (ha : Blk u ga 31 (ordL o)) : Parts u u.heap.size 10 (ordParts A n c os o ga) := by
  intro p hp
  simp only [ordParts, List.mem_cons, List.not_mem_nil, or_false] at hp
  rcases hp with rfl | rfl
  · exact ⟨hs, ordsV_one _⟩
  · exact ⟨⟨rfl, by show 1 ≤ maxLen; unfold maxLen; omega, fun _ => ⟨ga, 0, rfl, ha.lt, fun p y hy => by rw [Nat.zero_add]; exact ha.cell hy⟩⟩, ordL_one o⟩
end

set_option maxRecDepth 100000 in
set_option maxHeartbeats 4000000 in
theorem gfits_any (base : Nat) (pv : Value) (m : Option Mp) (d : Drv) (A : Option Addr) (n c : Nat) (os : List FleetMath.Ord) (A' : Option Addr) (n' c' : Nat) (stops : List Stp) (o : FleetMath.Ord) (i j : Int) (w : World) (h : MapP w 82 base pv m) (ho : Ords w w.heap.size A n os) (hs : Stps w w.heap.size A' n' stops) (hcc : n' ≤ c') (hnc : n ≤ c)
    (hr : n * 80 ≤ 140737488351232) (hr' : n' * 16 ≤ 140737488351232) :
    Calls Try.prog 22 #[pv, drvV d, .slice A n c, .slice A' n' c', ordV o, .int .i64 i, .int .i64 j] w (Gives w (.bool (fits m d os stops o i j))) := by
  have K0 : Hid (FK w d o ((w.alloc (.cells #[.int .i64 d.id, .int .i64 d.room, .int .i64 d.home, .int .i64 d.win.fr, .int .i64 d.win.to, .bool d.retired] 33)).alloc (.cells #[.int .i64 o.id, .int .i64 o.size, .int .i64 o.pick.place, .int .i64 o.pick.win.fr, .int .i64 o.pick.win.to, .int .i64 o.pick.serv, .int .i64 o.drop.place, .int .i64 o.drop.win.fr, .int .i64 o.drop.win.to, .int .i64 o.drop.serv] 31))) := by
    have h1 := Blk.new (w.alloc (.cells #[.int .i64 d.id, .int .i64 d.room, .int .i64 d.home, .int .i64 d.win.fr, .int .i64 d.win.to, .bool d.retired] 33)) 31 [.int .i64 o.id, .int .i64 o.size, .int .i64 o.pick.place, .int .i64 o.pick.win.fr, .int .i64 o.pick.win.to, .int .i64 o.pick.serv, .int .i64 o.drop.place, .int .i64 o.drop.win.fr, .int .i64 o.drop.win.to, .int .i64 o.drop.serv]
    rw [World.size_alloc] at h1
    exact ⟨((Below.refl _ _).alloc (Nat.le_refl _) _).alloc (by simp) _, DBox.below (d := d) (Blk.new w _ _) ((Below.refl _ _).alloc (Nat.le_refl _) _), h1⟩
  have HM := Lib.hid h
  have HOS := Lib.hid ho
  have HST := Lib.hid hs
  have HLS := Lib.hid hs.length
  have HLO := Lib.hid ho.length
  have hnm := Recs.le ho
  have hnm' := Recs.le hs
  obtain ⟨q, hq⟩ : ∃ q, pv = .pointer q := by
    rcases h with ⟨rfl, _⟩ | ⟨b, _, _, rfl, _⟩
    · exact ⟨_, rfl⟩
    · exact ⟨_, rfl⟩
  subst hq
  clear h ho hs
  obtain ⟨d0, d1, d2, d3, d4, d5⟩ := K0.out.drv.cells
  go_enter Try.func22, Try.ntmps22
  go_wp2_with fail
  by_cases hfine : (drive m d os stops).2.2 = 0
  case neg =>
    refine (gdrives_v base (.pointer q) m d A n c os A' n' c' stops false _ (decide_eq_false hfine) (by exact HM.out.keep K0.out.old) (by exact Recs.more (Recs.keep HOS.out K0.out.old) K0.out.old.size) (by exact Recs.more (Recs.keep HST.out K0.out.old) K0.out.old.size) hcc hnc).mono ?_
    rintro e w1 ⟨rfl, hb1⟩
    have K1 := Lib.hid (K0.out.below hb1)
    have HZ : Hid (fits m d os stops o i j = false) := by show _ = _; rw [fits_all, decide_eq_false hfine]; rfl
    clear hb1 hfine K0 d0 d1 d2 d3 d4 d5
    go_wp2_with fail
    go_ret
    exact ⟨ret_bool HZ.out.symm, K1.out.old⟩
  refine (gdrives_v base (.pointer q) m d A n c os A' n' c' stops true _ (decide_eq_true hfine) (by exact HM.out.keep K0.out.old) (by exact Recs.more (Recs.keep HOS.out K0.out.old) K0.out.old.size) (by exact Recs.more (Recs.keep HST.out K0.out.old) K0.out.old.size) hcc hnc).mono ?_
  rintro e w1 ⟨rfl, hb1⟩
  have K1 := Lib.hid (K0.out.below hb1)
  clear hb1 K0 d0 d1 d2 d3 d4 d5
  obtain ⟨g0, _⟩ := K1.out.ord.cells
  obtain ⟨l, hlp⟩ : ∃ l, putR stops o.id i j = l := ⟨_, rfl⟩
  obtain ⟨r, hr2⟩ : ∃ r, decide ((drive m d (os ++ [o]) l).2.2 = 0) = r := ⟨_, rfl⟩
  have HFT : Hid (fits m d os stops o i j = (decide (0 < l.length) && r)) := by show _ = _; rw [fits_all, decide_eq_true hfine, hlp, hr2]; rfl
  have HR2 := Lib.hid hr2
  have HLP := Lib.hid hlp
  clear hfine hlp hr2
  go_wp2_with fail
  refine (gput_any A' n' c' stops o.id i j w1 (by exact Recs.more (Recs.keep HST.out K1.out.old) K1.out.old.size) hcc hr').mono ?_
  rintro e w2 ⟨v2, rfl, hb2, ho2⟩
  rw [HLP.out] at ho2
  obtain ⟨A2, c2, rfl, hc2, hr2⟩ := ho2.read
  have K2 := Lib.hid (K1.out.below hb2)
  have HS2 := Lib.hid hr2
  clear hb2 ho2 hr2 g0 K1
  obtain ⟨nl, hnl⟩ : ∃ x, l.length = x := ⟨_, rfl⟩
  rw [hnl] at HFT hc2 HS2 ⊢
  have HNL := Lib.hid hnl
  clear hnl
  go_upto_region 4 with fail
  go_cut [14] (fun v wx => v = .bool (decide (0 < nl) && r) ∧ Hid (Below w.heap.size w wx))
  case first =>
    rcases Nat.eq_zero_or_pos nl with h0 | h0
    · subst h0
      refine wp_region_steps (valRF [28, 29, 30, 31, 32, 33, 34, 35, 36, 37, 38, 39, 40, 41, 14] [.slice A2 0 c2, .int .i64 ((0 : Nat) : Int), .bool false, .bool false, undef, undef, undef, undef, undef, undef, undef, undef, undef, .bool false, .bool false]) (by kernel_rfl) (by kernel_rfl) (by kernel_rfl) (fun _ _ => rfl) (by kernel_rfl) valRF.mon ?_ ?_
      · refine ⟨?_, ?_, ?_, ?_, ?_, ?_, ?_, ?_, ?_, ?_, ?_, ?_, ?_, ?_, ?_, trivial⟩
        · exact valRF.pureStep rfl 28 rfl rfl (by simp) _ rfl fun listed a u D hI hr hn => exec_move (.inl rfl) (hI.out 15 (by kernel_rfl))
        · exact valRF.pureStep rfl 29 rfl rfl (by simp) _ rfl fun listed a u D hI hr hn => exec_len (t := 0) rfl (valRF.val hI hr hn 0 (by kernel_rfl) rfl rfl)
        · exact valRF.pureStep rfl 30 rfl rfl (by simp) _ rfl fun listed a u D hI hr hn => exec_pos rfl (valRF.val hI hr hn 1 (by kernel_rfl) rfl rfl) rfl
        · exact valRF.pureStep rfl 31 rfl rfl (by simp) _ rfl fun listed a u D hI hr hn => exec_move (.inl rfl) (valRF.val hI hr hn 2 (by kernel_rfl) rfl rfl)
        · exact valRF.skipStep 32 rfl rfl (by simp) rfl fun listed a u D hI hr hn => guard_no (t := 31) rfl (by kernel_rfl) (valRF.val hI hr hn 3 (by kernel_rfl) rfl rfl)
        · exact valRF.skipStep 33 rfl rfl (by simp) rfl fun listed a u D hI hr hn => guard_no (t := 31) rfl (by kernel_rfl) (valRF.val hI hr hn 3 (by kernel_rfl) rfl rfl)
        · exact valRF.skipStep 34 rfl rfl (by simp) rfl fun listed a u D hI hr hn => guard_no (t := 31) rfl (by kernel_rfl) (valRF.val hI hr hn 3 (by kernel_rfl) rfl rfl)
        · exact valRF.skipStep 35 rfl rfl (by simp) rfl fun listed a u D hI hr hn => guard_no (t := 31) rfl (by kernel_rfl) (valRF.val hI hr hn 3 (by kernel_rfl) rfl rfl)
        · exact valRF.skipStep 36 rfl rfl (by simp) rfl fun listed a u D hI hr hn => guard_no (t := 31) rfl (by kernel_rfl) (valRF.val hI hr hn 3 (by kernel_rfl) rfl rfl)
        · exact valRF.skipStep 37 rfl rfl (by simp) rfl fun listed a u D hI hr hn => guard_no (t := 31) rfl (by kernel_rfl) (valRF.val hI hr hn 3 (by kernel_rfl) rfl rfl)
        · exact valRF.skipStep 38 rfl rfl (by simp) rfl fun listed a u D hI hr hn => guard_no (t := 31) rfl (by kernel_rfl) (valRF.val hI hr hn 3 (by kernel_rfl) rfl rfl)
        · exact valRF.skipStep 39 rfl rfl (by simp) rfl fun listed a u D hI hr hn => guard_no (t := 31) rfl (by kernel_rfl) (valRF.val hI hr hn 3 (by kernel_rfl) rfl rfl)
        · exact valRF.skipStep 40 rfl rfl (by simp) rfl fun listed a u D hI hr hn => guard_no (t := 31) rfl (by kernel_rfl) (valRF.val hI hr hn 3 (by kernel_rfl) rfl rfl)
        · exact valRF.pureStep rfl 41 rfl rfl (by simp) _ rfl fun listed a u D hI hr hn => exec_pick rfl (valRF.val hI hr hn 3 (by kernel_rfl) rfl rfl) rfl
        · exact valRF.pureStep rfl 14 rfl rfl (by simp) _ rfl fun listed a u D hI hr hn => exec_move (.inr rfl) (valRF.val hI hr hn 13 (by kernel_rfl) rfl rfl)
      · intro listed a u D hI hall
        have e14 : a.tmps.getD 14 undef = .bool false := (hI.fact 14 ⟨hall 14 (by simp), fun k hk => by cases hk⟩).1
        have hold := K2.out.old.trans ((below_drew hI.old).mono K2.out.old.size)
        have hl := hI.fill [28, 29, 30, 31, 32, 33, 34, 35, 36, 37, 38, 39, 40, 41, 14] (by kernel_rfl)
        clear hI hall
        obtain ⟨σ, hσ⟩ : ∃ σ : Nat → Value, ∀ t, a.tmps.getD t undef = σ t := ⟨_, fun _ => rfl⟩
        simp only [hσ] at hl e14
        clear hσ
        simp only [List.foldl_cons, List.foldl_nil, List.setIfInBounds_toArray, List.set_cons_zero, List.set_cons_succ, e14] at hl
        subst hl
        go_wp2_with fail
        go_meet
        exact ⟨rfl, hold⟩
    · refine wp_region_steps (pfitsRF w2.drew.heap.size q d A n c os A2 nl c2 o r) (by kernel_rfl) (by kernel_rfl) (by kernel_rfl) (fun k hk => ?_) (by kernel_rfl) pfits_mon ?_ ?_
      · simp only [List.length_cons, List.length_nil] at hk
        simp only [pfitsRF]
        rw [if_neg (by omega)]
      · refine ⟨?_, ?_, ?_, ?_, ?_, ?_, ?_, ?_, ?_, ?_, ?_, ?_, ?_, ?_, ?_, trivial⟩
        · exact RStep.pure rfl 28 rfl rfl (by simp) fun listed a u D hI hr hn => ⟨_, exec_move (.inl rfl) (hI.out 15 (by kernel_rfl)), pureF.new rfl⟩
        · refine RStep.pure rfl 29 rfl rfl (by simp) fun listed a u D hI hr hn => ?_
          obtain ⟨e0, _⟩ : pureF _ _ _ := (hI.get hr hn 0 (by kernel_rfl) (.inl rfl)).1
          exact ⟨_, exec_len (t := 0) rfl (own_eval e0), pureF.new rfl⟩
        · refine RStep.pure rfl 30 rfl rfl (by simp) fun listed a u D hI hr hn => ?_
          obtain ⟨e0, _⟩ : pureF _ _ _ := (hI.get hr hn 1 (by kernel_rfl) (.inl rfl)).1
          exact ⟨_, exec_pos rfl (own_eval e0) (decide_eq_true h0), pureF.new rfl⟩
        · refine RStep.pure rfl 31 rfl rfl (by simp) fun listed a u D hI hr hn => ?_
          obtain ⟨e0, _⟩ : pureF _ _ _ := (hI.get hr hn 2 (by kernel_rfl) (.inl rfl)).1
          exact ⟨_, exec_move (.inl rfl) (own_eval e0), pureF.new rfl⟩
        · refine RStep.pureW 32 rfl rfl (by simp) fun listed a u D hI hr hn => ?_
          obtain ⟨e3, _⟩ : pureF _ _ _ := (hI.get hr hn 3 (by kernel_rfl) (.inl rfl)).1
          exact ⟨guard_yes (t := 31) rfl (by kernel_rfl) e3, _, exec_move (.inl rfl) (hI.out 0 (by kernel_rfl)), pureF.new rfl⟩
        · refine RStep.pureW 33 rfl rfl (by simp) fun listed a u D hI hr hn => ?_
          obtain ⟨e3, _⟩ : pureF _ _ _ := (hI.get hr hn 3 (by kernel_rfl) (.inl rfl)).1
          exact ⟨guard_yes (t := 31) rfl (by kernel_rfl) e3, _, exec_load rfl (hI.out 8 (by kernel_rfl)) (run_load_drv (K2.out.drv.below (below_drew hI.old))), pureF.new rfl⟩
        · refine RStep.pureW 34 rfl rfl (by simp) fun listed a u D hI hr hn => ?_
          obtain ⟨e3, _⟩ : pureF _ _ _ := (hI.get hr hn 3 (by kernel_rfl) (.inl rfl)).1
          exact ⟨guard_yes (t := 31) rfl (by kernel_rfl) e3, _, exec_move (.inl rfl) (hI.out 2 (by kernel_rfl)), pureF.new rfl⟩
        · refine RStep.pureW 35 rfl rfl (by simp) fun listed a u D hI hr hn => ?_
          obtain ⟨e3, _⟩ : pureF _ _ _ := (hI.get hr hn 3 (by kernel_rfl) (.inl rfl)).1
          exact ⟨guard_yes (t := 31) rfl (by kernel_rfl) e3, _, exec_load rfl (hI.out 11 (by kernel_rfl)) (run_load_ord (K2.out.ord.below (below_drew hI.old))), pureF.new rfl⟩
        · refine RStep.valW 36 rfl rfl (by simp) fun listed a u D hI hr hn => ?_
          obtain ⟨e3, _⟩ : pureF _ _ _ := (hI.get hr hn 3 (by kernel_rfl) (.inl rfl)).1
          obtain ⟨e7, _⟩ : pureF _ _ _ := (hI.get hr hn 7 (by kernel_rfl) (.inl rfl)).1
          exact ⟨guard_yes (t := 31) rfl (by kernel_rfl) e3, _, _, _, exec_one rfl (own_eval e7), newp hI.old ⟨_, rfl, Blk.new u _ _, fun b => Iff.rfl⟩⟩
        · refine RStep.valW 37 rfl rfl (by simp) fun listed a u D hI hr hn => ?_
          obtain ⟨e3, _⟩ : pureF _ _ _ := (hI.get hr hn 3 (by kernel_rfl) (.inl rfl)).1
          obtain ⟨e6, _⟩ : pureF _ _ _ := (hI.get hr hn 6 (by kernel_rfl) (.inl rfl)).1
          obtain ⟨ga, e8, hba, hda⟩ : blkF _ _ _ _ _ _ := (hI.get hr hn 8 (by kernel_rfl) (.inr rfl)).1
          refine ⟨guard_yes (t := 31) rfl (by kernel_rfl) e3, _, _, fun b => b = u.heap.size ∨ b = ga, exec_two (v0 := (A, n, c)) (v1 := (some ⟨ga, 0, none⟩, 1, 1)) rfl e6 e8, hI.old.alloc hI.old.size _, by simp, fun b hlt _ => Below.heap_alloc u _ b hlt, fun b hd => ?_, ⟨_, ga, rfl, Blk.new u _ _, hba.below ((Below.refl _ _).alloc (Nat.le_refl _) _) hba.lt, fun b => Iff.rfl⟩⟩
          rcases hd with rfl | rfl
          · exact .inr ⟨Nat.le_refl _, by simp⟩
          · exact .inl ⟨8, rfl, (hda _).2 rfl⟩
        · refine RStep.callW 38 rfl rfl (by simp) fun listed a u D hI hr hn => ?_
          obtain ⟨e3, _⟩ : pureF _ _ _ := (hI.get hr hn 3 (by kernel_rfl) (.inl rfl)).1
          obtain ⟨g, ga, e9, hb, hba, _⟩ : ∃ g ga, _ ∧ _ ∧ _ ∧ _ := (hI.get hr hn 9 (by kernel_rfl) (.inl rfl)).1
          refine ⟨guard_yes (t := 31) rfl (by kernel_rfl) e3, _, _, exec_call1 rfl e9 (by simp [go_sem]), ?_⟩
          have hold := K2.out.old.trans ((below_drew hI.old).mono K2.out.old.size)
          have hsu : Ords u u.heap.size A n os := Recs.more (Recs.keep HOS.out hold) hold.size
          have e1 : lens (ordParts A n c os o ga) = n + 1 := ordParts_len
          have e2 : allOf (ordParts A n c os o ga) = ordsV (os ++ [o]) := ordParts_all
          have hc := pconcat_ord g 34 2 2 (ordParts A n c os o ga) u hb rfl (by omega) (ordParts_read hsu hba) (by rw [e1]; omega)
          rw [e1, e2] at hc
          refine hc.mono ?_
          rintro e u' ⟨v, rfl, hb', hv⟩
          exact ⟨v, _, rfl, ownp hI.old hb' hv ⟨hv.lower hI.old.size, fun b => Iff.rfl⟩⟩
        · refine RStep.pureW 39 rfl rfl (by simp) fun listed a u D hI hr hn => ?_
          obtain ⟨e3, _⟩ : pureF _ _ _ := (hI.get hr hn 3 (by kernel_rfl) (.inl rfl)).1
          exact ⟨guard_yes (t := 31) rfl (by kernel_rfl) e3, _, exec_move (.inl rfl) (hI.out 15 (by kernel_rfl)), pureF.new rfl⟩
        · refine RStep.callW 40 rfl rfl (by simp) fun listed a u D hI hr hn => ?_
          obtain ⟨e3, _⟩ : pureF _ _ _ := (hI.get hr hn 3 (by kernel_rfl) (.inl rfl)).1
          obtain ⟨e4, _⟩ : pureF _ _ _ := (hI.get hr hn 4 (by kernel_rfl) (.inl rfl)).1
          obtain ⟨e5, _⟩ : pureF _ _ _ := (hI.get hr hn 5 (by kernel_rfl) (.inl rfl)).1
          obtain ⟨e11, _⟩ : pureF _ _ _ := (hI.get hr hn 11 (by kernel_rfl) (.inl rfl)).1
          obtain ⟨ho10, _⟩ : ownF _ _ _ _ _ _ _ _ := (hI.get hr hn 10 (by kernel_rfl) (.inl rfl)).1
          obtain ⟨A10, c10, e10, hc10, hr10⟩ := ho10.read
          refine ⟨guard_yes (t := 31) rfl (by kernel_rfl) e3, _, _, exec_call4 rfl (own_eval e4) (own_eval e5) (own_eval e10) (own_eval e11) (by simp [go_sem]), ?_⟩
          have hold := K2.out.old.trans ((below_drew hI.old).mono K2.out.old.size)
          have hsu : Stps u u.heap.size A2 nl l := Recs.more (Recs.keep HS2.out (below_drew hI.old)) (below_drew hI.old).size
          refine (gdrives_v base (.pointer q) m d A10 (n + 1) c10 (os ++ [o]) A2 nl c2 l r u HR2.out (HM.out.keep hold) hr10 hsu hc2 hc10).mono ?_
          rintro e u' ⟨rfl, hb⟩
          exact ⟨_, fun _ => False, rfl, hI.old.trans (hb.mono hI.old.size), hb.size, fun b hlt _ => hb.block b hlt, fun b hd => hd.elim, pureF.new rfl⟩
        · refine RStep.pure rfl 41 rfl rfl (by simp) fun listed a u D hI hr hn => ?_
          obtain ⟨e3, _⟩ : pureF _ _ _ := (hI.get hr hn 3 (by kernel_rfl) (.inl rfl)).1
          obtain ⟨e12, _⟩ : pureF _ _ _ := (hI.get hr hn 12 (by kernel_rfl) (.inl rfl)).1
          exact ⟨_, exec_pick rfl (own_eval e3) (own_eval e12), pureF.new rfl⟩
        · refine RStep.pure rfl 14 rfl rfl (by simp) fun listed a u D hI hr hn => ?_
          obtain ⟨e13, _⟩ : pureF _ _ _ := (hI.get hr hn 13 (by kernel_rfl) (.inl rfl)).1
          exact ⟨_, exec_move (.inr rfl) (own_eval e13), pureF.new rfl⟩
      · intro listed a u D hI hall
        have e14 : a.tmps.getD 14 undef = .bool r := (hI.fact 14 ⟨hall 14 (by simp), fun k hk => by cases hk⟩).1
        have hold := K2.out.old.trans ((below_drew hI.old).mono K2.out.old.size)
        have hl := hI.fill [28, 29, 30, 31, 32, 33, 34, 35, 36, 37, 38, 39, 40, 41, 14] (by kernel_rfl)
        clear hI hall
        obtain ⟨σ, hσ⟩ : ∃ σ : Nat → Value, ∀ t, a.tmps.getD t undef = σ t := ⟨_, fun _ => rfl⟩
        simp only [hσ] at hl e14
        clear hσ
        simp only [List.foldl_cons, List.foldl_nil, List.setIfInBounds_toArray, List.set_cons_zero, List.set_cons_succ, e14] at hl
        subst hl
        go_wp2_with fail
        go_meet
        exact ⟨by rw [decide_eq_true h0]; rfl, hold⟩
  case rest =>
  obtain ⟨rfl, HB⟩ := hcut
  go_wp2_with fail
  go_ret
  exact ⟨ret_bool HFT.out.symm, HB.out⟩

#print axioms gfits_any
end Go.Proofs.Ytpigklkidagolaa.Slack
