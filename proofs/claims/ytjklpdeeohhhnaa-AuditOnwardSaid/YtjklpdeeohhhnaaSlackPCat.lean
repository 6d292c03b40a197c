/-
  The library's slices.Grow (of nil) and slices.Concat, walked, at lists of stops.
-/
import Derived.Test.YtjklpdeeohhhnaaWords
import Derived.Test.YtjklpdeeohhhnaaLibRows
import Derived.Lib.AppendZeros
import Derived.Deep.DeepCutAuto
namespace Go.Proofs.Ytjklpdeeohhhnaa.Slack
open Go.ChangeShapes Go.WideShapes Go.ChangeAt Go.RowKit Go.Proofs.Ytjklpdeeohhhnaa.Mem Go.Proofs.Ytjklpdeeohhhnaa.FleetMath Go.Proofs.Ytjklpdeeohhhnaa.Rec
set_option linter.unusedVariables false

/-- a part of a list of lists: where it lies, how long it is, its room, its cells -/
structure Part where
  at_ : Option Addr
  len : Nat
  cap : Nat
  vs : List Value
abbrev Part.val (p : Part) : Value := .slice p.at_ p.len p.cap
def lens (ps : List Part) : Nat := (ps.map (·.len)).sum
def allOf (ps : List Part) : List Value := ps.flatMap (·.vs)
theorem lens_snoc (ps : List Part) (p : Part) : lens (ps ++ [p]) = lens ps + p.len := by simp [lens]
theorem allOf_snoc (ps : List Part) (p : Part) : allOf (ps ++ [p]) = allOf ps ++ p.vs := by simp [allOf]
theorem take_snoc {ps : List Part} {k : Nat} {p : Part} (h : ps[k]? = some p) : ps.take (k + 1) = ps.take k ++ [p] := by
  rw [List.take_add_one, h]; rfl
theorem lens_take (ps : List Part) (k : Nat) : lens (ps.take k) ≤ lens ps := by
  have h := congrArg List.sum (List.take_append_drop k (ps.map (·.len)))
  rw [List.sum_append, ← List.map_take] at h
  unfold lens
  omega
/-- the parts read, each below block B -/
def Parts (w : World) (B k : Nat) (ps : List Part) : Prop := ∀ p ∈ ps, Recs w B p.at_ p.len k p.vs ∧ ∀ u ∈ p.vs, u.oneCell' = true
theorem Parts.keep {w w' : World} {B k : Nat} {ps : List Part} (h : Parts w B k ps) (hb : Below B w w') : Parts w' B k ps := fun p hp => ⟨(h p hp).1.keep hb, (h p hp).2⟩
theorem own_zeros {w : World} {base k n cap : Nat} {e : TypeId} {cs : Array Value} (hb : base ≤ w.heap.size) (hc : cs.size = cap * k) (hm : cap ≤ maxLen) : OwnK (w.alloc (.cells cs e)) base e k (.slice (some ⟨w.heap.size, 0, none⟩) 0 cap) 0 [] :=
  ⟨⟨by simp, .inr ⟨w.heap.size, cap, cs, rfl, hb, heap_alloc_new w _, Nat.zero_le _, hm, hc, by simp⟩⟩, Nat.zero_le _⟩

set_option maxRecDepth 100000 in
set_option maxHeartbeats 1000000 in
theorem pgrow_stp (n : Nat) (w : World) (hr : n * 16 ≤ 140737488355328) :
    Calls Try.prog 92 #[.slice none 0 0, .int .i64 n] w (MakesK w 36 2 0 []) := by
  have hn63 : (n : Int) ≤ 9223372036854775807 := by omega
  go_enter Try.func92, Try.ntmps92
  rcases Nat.eq_zero_or_pos n with h0 | h0
  · subst h0
    go_wp2_with fail
    go_ret
    exact ⟨_, rfl, Below.refl _ _, OwnK.nil _ _ _ _⟩
  · obtain ⟨i, hi, hz0, hz1, hz2⟩ := info_parts infoStp
    have hrun := Lib.hid (Lib.run_append_nil_zeros (P := Try.prog) w 38 3 38 36 i _ .i64 .i64 Try.underlying38 Try.underlying3 hi hz0 n h0 (by omega) hn63 (by rw [hz2]; omega))
    have hcap : n ≤ grownCap w n 0 36 := grownCap_ge _ _ _ _
    have hcm : grownCap w n 0 36 ≤ maxLen := grownCap_le_maxLen _ _ _ _ (by unfold maxLen; omega)
    have HOWN := Lib.hid (own_zeros (w := w.drew) (base := w.heap.size) (k := 2) (n := 0) (e := 36) (cap := grownCap w n 0 36) (cs := Builtin.zeroCells (Value.cells (.agg #[.int .i64 0, .bool false])) n ++ Builtin.zeroCells (Value.cells (.agg #[.int .i64 0, .bool false])) (grownCap w n 0 36 - n)) (Nat.le_refl _) (by
      rw [Array.size_append, size_zeroCells, size_zeroCells, ← Nat.add_mul, Nat.add_sub_cancel' hcap]; rfl) hcm)
    have HBEL : Hid (Below w.heap.size w (w.drew.alloc (.cells (Builtin.zeroCells (Value.cells (.agg #[.int .i64 0, .bool false])) n ++ Builtin.zeroCells (Value.cells (.agg #[.int .i64 0, .bool false])) (grownCap w n 0 36 - n)) 36))) := (Below.refl _ _).drew.alloc (Nat.le_refl _) _
    obtain ⟨gc, hgc⟩ : ∃ c, grownCap w n 0 36 = c := ⟨_, rfl⟩
    obtain ⟨w1, hw1⟩ : ∃ u, w.drew.alloc (.cells (Builtin.zeroCells (Value.cells (.agg #[.int .i64 0, .bool false])) n ++ Builtin.zeroCells (Value.cells (.agg #[.int .i64 0, .bool false])) (grownCap w n 0 36 - n)) 36) = u := ⟨_, rfl⟩
    rw [hgc] at hcap hcm
    have HR : Hid ((Builtin.append_ #[38, 3] 38 #[.slice none 0 0, .int .i64 n]).run Try.prog w = .ok (.slice (some ⟨w.heap.size, 0, none⟩) n gc) w1) := by
      have := hrun.out
      rw [hgc] at this
      rw [hgc] at hw1
      rw [← hw1]
      exact this
    have HO : Hid (OwnK w1 w.heap.size 36 2 (.slice (some ⟨w.heap.size, 0, none⟩) 0 gc) 0 []) := by
      have := HOWN.out
      rw [← hw1, ← hgc]
      exact this
    have HB : Hid (Below w.heap.size w w1) := by rw [← hw1]; exact HBEL.out
    clear hw1 HOWN HBEL hrun hgc hi hz0 hz1 hz2
    have hpos : (0 : Int) < (n : Int) := by omega
    go_wp2_with (at_builtin; refine Lib.wpList_append_run _ rfl _ _ _ _ rfl _ _ rfl rfl _ _ HR.out ?_)
    go_ret
    exact ⟨_, rfl, HB.out, HO.out⟩

set_option maxRecDepth 100000 in
set_option maxHeartbeats 2000000 in
theorem pconcat_stp (g : Nat) (t : TypeId) (m c : Nat) (ps : List Part) (w : World) (hb : Blk w g t (ps.map Part.val)) (hm : ps.length = m) (hmm : m ≤ 64) (hp : Parts w w.heap.size 2 ps) (hr : lens ps * 16 ≤ 140737488355328) :
    Calls Try.prog 72 #[.slice (some ⟨g, 0, none⟩) m c] w (MakesK w 36 2 (lens ps) (allOf ps)) := by
  have HPS := Lib.hid hp
  have HBK := Lib.hid hb
  have HTK := Lib.hid (lens_take ps)
  have HM := Lib.hid hm
  have HGT : Hid (g < w.heap.size) := hb.lt
  clear hp hb hm
  go_enter Try.func72, Try.ntmps72
  go_wp2_with fail
  go_loopw [3, 11] (fun sv iv wr => ∃ (k s : Nat), k ≤ m ∧ sv = .int .i64 (s : Int) ∧ iv = .int .i64 k ∧ w = wr ∧ Hid (s = lens (ps.take k))) (fun _ iv _ => m - (intOf iv).toNat)
  case atStart => exact ⟨0, 0, Nat.zero_le _, rfl, rfl, rfl, rfl⟩
  case round =>
    obtain ⟨k, s, hk, rfl, rfl, rfl, HS⟩ := hrel
    by_cases hlt : k < m
    · obtain ⟨p, hpk⟩ : ∃ p, ps[k]? = some p := ⟨_, List.getElem?_eq_getElem (by have := HM.out; omega)⟩
      have c0 : w.cell? ⟨g, k, none⟩ = some p.val := HBK.out.cell (by rw [List.getElem?_map, hpk]; rfl)
      obtain ⟨s2, hs2⟩ : ∃ s2, s + p.len = s2 := ⟨_, rfl⟩
      have HS2 : Hid (s2 = lens (ps.take (k + 1))) := by
        show _ = _
        rw [take_snoc hpk, lens_snoc, ← hs2, HS.out]
      have hs3 : s2 ≤ 140737488355328 := by
        have := HTK.out (k + 1)
        rw [← HS2.out] at this
        omega
      have hki : (k : Int) < (m : Int) := by omega
      have hsum : (s : Int) + (p.len : Int) = (s2 : Int) := by omega
      have hs4 : (s2 : Int) ≤ 140737488355328 := by omega
      clear hpk hs2 hs3
      go_wp2_with fail
      go_roundw
      case rel => exact ⟨k + 1, s2, by omega, by go_num, by go_num, trivial, HS2⟩
      case measure => simp [intOf]; omega
    · have e : m = k := by omega
      subst e
      have HS2 : Hid (s = lens ps) := by
        show _ = _
        rw [HS.out, List.take_of_length_le (by have := HM.out; omega)]
      clear HS
      rw [HS2.out]
      clear HS2
      go_wp2_with fail
      refine (pgrow_stp (lens ps) _ hr).mono ?_
      rintro e w1 ⟨v1, rfl, hb1, ho1⟩
      have HB1 := Lib.hid hb1
      have HO1 := Lib.hid ho1
      clear hb1 ho1
      go_wp2_with fail
      go_loopw [6, 27] (fun vv iv wr => ∃ k : Nat, k ≤ m ∧ iv = .int .i64 k ∧ Hid (Below w.heap.size w wr) ∧ Hid (OwnK wr w.heap.size 36 2 vv (lens (ps.take k)) (allOf (ps.take k)))) (fun _ iv _ => m - (intOf iv).toNat)
      case atStart => exact ⟨0, Nat.zero_le _, rfl, HB1, HO1⟩
      case round =>
        clear HB1 HO1
        obtain ⟨k, hk, rfl, HB, HO⟩ := hrel
        by_cases hlt : k < m
        · obtain ⟨p, hpk⟩ : ∃ p, ps[k]? = some p := ⟨_, List.getElem?_eq_getElem (by have := HM.out; omega)⟩
          have c0 : wr.cell? ⟨g, k, none⟩ = some p.val := (Blk.below HBK.out HB.out HGT.out).cell (by rw [List.getElem?_map, hpk]; rfl)
          have hs2 := HTK.out (k + 1)
          rw [take_snoc hpk, lens_snoc] at hs2
          have HP2 : Hid (Recs wr w.heap.size p.at_ p.len 2 p.vs) := (HPS.out p (List.mem_of_getElem? hpk)).1.keep HB.out
          have HP3 : Hid (∀ u ∈ p.vs, u.oneCell' = true) := (HPS.out p (List.mem_of_getElem? hpk)).2
          have HK := Lib.hid hpk
          clear hpk
          go_wp2_with (at_builtin; refine wpList_append_ks (o := ⟨some 33, _, _, _, _, _⟩) rfl (.tmp 31) (.tmp 32) Try.underlying38 infoStp rfl (by decide) rfl HO.out rfl HP2.out rfl HP3.out (by unfold maxLen; omega) (by omega) HB.out HB.out.size HB.out.size (Nat.le_refl _) ?_; intro vB wB HO2 HB2 HG2)
          go_roundw
          case rel => exact ⟨k + 1, by omega, by go_num, HB2, by show OwnK _ _ _ _ _ _ _; rw [take_snoc HK.out, lens_snoc, allOf_snoc]; exact HO2.out⟩
          case measure => simp [intOf]; omega
        · have e : k = m := by omega
          subst e
          have HO2 : Hid (OwnK wr w.heap.size 36 2 u6 (lens ps) (allOf ps)) := by
            have := HO.out
            rw [List.take_of_length_le (by have := HM.out; omega)] at this
            exact this
          clear HO
          go_wp2_with fail
          go_ret
          exact ⟨_, rfl, HB.out, HO2.out⟩

#print axioms pconcat_stp
end Go.Proofs.Ytjklpdeeohhhnaa.Slack
