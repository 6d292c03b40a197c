/-
  The document's own answer to chapter 8, walked: Put.
-/
import Derived.Test.YtbnhbbjmocclmaaWordsStp
import Derived.Test.YtbnhbbjmocclmaaLibRows
import Derived.Test.YtbnhbbjmocclmaaMaths
import Derived.Deep.DeepCutAuto
namespace Go.Proofs.Ytbnhbbjmocclmaa.Slack
open Go.ChangeShapes Go.WideShapes Go.ChangeAt Go.RowKit Go.Proofs.Ytbnhbbjmocclmaa.Mem Go.Proofs.Ytbnhbbjmocclmaa.FleetMath Go.Proofs.Ytbnhbbjmocclmaa.Rec
set_option linter.unusedVariables false

theorem putTo_len (l : List Stp) (o : Int) (i j k : Nat) (hij : i ≤ j) : (putTo l o i j k).length ≤ k + 2 := by
  unfold putTo
  split
  · simp only [List.length_take]; omega
  · split
    · simp only [List.length_append, List.length_cons, List.length_take, List.length_drop]; omega
    · simp only [List.length_append, List.length_cons, List.length_take, List.length_drop]; omega
theorem stpsV_snoc (p : List Stp) (x : Stp) : stpsV (p ++ [x]) = stpsV p ++ [.int .i64 x.ord, .bool x.drop] := by rw [stpsV_append]; rfl
theorem stp_one (a : Int) (b : Bool) : ∀ v ∈ [Value.int .i64 a, .bool b], v.oneCell' = true := by
  intro v hv
  simp only [List.mem_cons, List.not_mem_nil, or_false] at hv
  rcases hv with rfl | rfl <;> rfl
/-- a list of stops of the call's own -/
structure PL (w : World) (v : Value) (p : List Stp) (u : World) : Prop where
  old : Below w.heap.size w u
  own : OwnK u w.heap.size 23 2 v p.length (stpsV p)
section
variable {w u u' : World} {v v' : Value} {p : List Stp}
theorem PL.alloc (h : PL w v p u) (o : Obj) : PL w v p (u.alloc o) := ⟨h.old.alloc h.old.size o, h.own.alloc o⟩
theorem PL.snoc (x : Stp) (ho : OwnK u' w.heap.size 23 2 v' (p.length + 1) (stpsV p ++ [.int .i64 x.ord, .bool x.drop])) (hb : Below w.heap.size w u') : PL w v' (p ++ [x]) u' :=
  ⟨hb, by rw [stpsV_snoc, List.length_append]; exact ho⟩
end

set_option maxRecDepth 100000 in
set_option maxHeartbeats 1000000 in
theorem rput_any (A : Option Addr) (n c : Nat) (stops : List Stp) (o : Int) (i j : Nat) (w : World) (hs : Stps w w.heap.size A n stops) (hij : i ≤ j) (hj : j ≤ n) (hr : n * 16 ≤ 140737488351232) :
    Calls Try.prog 56 #[.slice A n c, .int .i64 o, .int .i64 i, .int .i64 j] w (MakesK w 23 2 (n + 2) (stpsV (putM stops o i j))) := by
  have HST := Lib.hid hs
  have HL := Lib.hid hs.length
  have hm := Recs.le hs
  clear hs
  have P0 : Hid (PL w (.slice none 0 0) (putTo stops o i j 0) w) := by
    rw [putTo_zero]
    exact ⟨Below.refl _ _, OwnK.nil _ _ _ _⟩
  go_enter Try.func56, Try.ntmps56
  go_wp2_with fail
  go_loopw [9, 10] (fun vv iv wr => ∃ k : Nat, k ≤ n + 1 ∧ iv = .int .i64 k ∧ Hid (PL w vv (putTo stops o i j k) wr)) (fun _ iv _ => n + 1 - (intOf iv).toNat)
  case atStart => exact ⟨0, Nat.zero_le _, rfl, P0⟩
  case round =>
    clear P0
    obtain ⟨k, hk, rfl, HP⟩ := hrel
    by_cases hlt : k ≤ n
    case neg =>
      have e : k = n + 1 := by omega
      subst e
      have HZ : Hid (MakesK w 23 2 (n + 2) (stpsV (putM stops o i j)) (.returned u9) wr) := by
        have h := HP.out
        have hl := HL.out
        rw [show n + 1 = stops.length + 1 by omega, putTo_end hij (by omega)] at h
        have h2 := h.own
        rw [putM_len hij (by omega), hl] at h2
        exact ⟨u9, rfl, h.old, h2⟩
      clear HP
      go_wp2_with fail
      go_ret
      exact HZ.out
    have HN : Hid (putTo stops o i j (k + 1) = putTo stops o i j k ++ (one (decide (k = i)) ⟨o, false⟩ ++ (one (decide (k = j)) ⟨o, true⟩ ++ stops[k]?.toList))) := putTo_next hij
    obtain ⟨p, hp⟩ : ∃ p, putTo stops o i j k = p := ⟨_, rfl⟩
    have hpl : p.length ≤ n + 2 := by have := putTo_len stops o i j k hij; rw [hp] at this; omega
    rw [hp] at HP HN
    clear hp
    have hki : (k : Int) ≤ (n : Int) := by omega
    go_upto_if 19 with fail
    go_cut [9] (fun vv wx => ∃ p1 : List Stp, Hid (PL w vv p1 wx) ∧ Hid (p1 = p ++ one (decide (k = i)) ⟨o, false⟩))
    case first =>
      by_cases hi : k = i
      · have e1 : ((k : Int) == (i : Int)) = true := by simp [hi]
        have HI := Lib.hid hi
        clear hi
        have HB1 : Hid (Blk (wr.alloc (.cells #[.int .i64 o, .bool false] 23)) wr.heap.size 23 [.int .i64 o, .bool false]) := Blk.new wr _ _
        have HA1 := Lib.hid (HP.out.alloc (.cells #[.int .i64 o, .bool false] 23))
        go_wp2_with (at_builtin; refine wpList_append_k (o := ⟨some 24, _, _, _, _, _⟩) rfl (.tmp 20) (.tmp 23) Try.underlying24 infoStp rfl (by decide) rfl HA1.out.own rfl HB1.out rfl rfl (stp_one o false) (by unfold maxLen; omega) (by omega) HA1.out.old HA1.out.old.size HA1.out.old.size (Nat.le_refl _) ?_; intro vB wB HO2 HB2 HG2; have HQ := Lib.hid (PL.snoc ⟨o, false⟩ HO2.out HB2.out); clear HO2 HB2 HG2)
        go_meet
        exact ⟨_, HQ, by show _ = _; rw [decide_eq_true HI.out]; rfl⟩
      · have e1 : ((k : Int) == (i : Int)) = false := by simp; omega
        have HI := Lib.hid hi
        clear hi
        go_wp2_with fail
        go_meet
        exact ⟨p, HP, by show _ = _; rw [decide_eq_false HI.out]; simp [one]⟩
    case rest =>
    obtain ⟨p1, HP1, HE1⟩ := hcut
    obtain ⟨w1, rfl⟩ : ∃ u, u = wc := ⟨_, rfl⟩
    have hp1 : p1.length ≤ n + 3 := by
      rw [HE1.out, List.length_append]
      unfold one
      split <;> simp <;> omega
    clear HP
    go_upto_if 27 with fail
    go_cut [9] (fun vv wx => ∃ p2 : List Stp, Hid (PL w vv p2 wx) ∧ Hid (p2 = p1 ++ one (decide (k = j)) ⟨o, true⟩))
    case first =>
      by_cases hi : k = j
      · have e1 : ((k : Int) == (j : Int)) = true := by simp [hi]
        have HI := Lib.hid hi
        clear hi
        have HB1 : Hid (Blk (w1.alloc (.cells #[.int .i64 o, .bool true] 23)) w1.heap.size 23 [.int .i64 o, .bool true]) := Blk.new w1 _ _
        have HA1 := Lib.hid (HP1.out.alloc (.cells #[.int .i64 o, .bool true] 23))
        go_wp2_with (at_builtin; refine wpList_append_k (o := ⟨some 32, _, _, _, _, _⟩) rfl (.tmp 28) (.tmp 31) Try.underlying24 infoStp rfl (by decide) rfl HA1.out.own rfl HB1.out rfl rfl (stp_one o true) (by unfold maxLen; omega) (by omega) HA1.out.old HA1.out.old.size HA1.out.old.size (Nat.le_refl _) ?_; intro vB wB HO2 HB2 HG2; have HQ := Lib.hid (PL.snoc ⟨o, true⟩ HO2.out HB2.out); clear HO2 HB2 HG2)
        go_meet
        exact ⟨_, HQ, by show _ = _; rw [decide_eq_true HI.out]; rfl⟩
      · have e1 : ((k : Int) == (j : Int)) = false := by simp; omega
        have HI := Lib.hid hi
        clear hi
        go_wp2_with fail
        go_meet
        exact ⟨p1, HP1, by show _ = _; rw [decide_eq_false HI.out]; simp [one]⟩
    case rest =>
    obtain ⟨p2, HP2, HE2⟩ := hcut
    obtain ⟨w2, rfl⟩ : ∃ u, u = wc := ⟨_, rfl⟩
    have hp2 : p2.length ≤ n + 4 := by
      rw [HE2.out, List.length_append]
      unfold one
      split <;> simp <;> omega
    clear HP1
    have HNX : Hid (putTo stops o i j (k + 1) = p2 ++ stops[k]?.toList) := by
      show _ = _
      rw [HN.out, HE2.out, HE1.out]
      simp
    clear HN HE1 HE2
    by_cases hkn : k < n
    · have HSW : Hid (Stps w2 w.heap.size A n stops) := Recs.keep HST.out HP2.out.old
      obtain ⟨b, off, s, rfl, hbw, hs, _, c0, c1⟩ := Stps.at_ HSW.out hkn
      have HNY : Hid (putTo stops o i j (k + 1) = p2 ++ [⟨s.ord, s.drop⟩]) := by
        show _ = _
        rw [HNX.out, hs]
        rfl
      clear HNX hs
      have hki2 : (k : Int) < (n : Int) := by omega
      have HB1 : Hid (Blk (w2.alloc (.cells #[.int .i64 s.ord, .bool s.drop] 23)) w2.heap.size 23 [.int .i64 s.ord, .bool s.drop]) := Blk.new w2 _ _
      have HA1 := Lib.hid (HP2.out.alloc (.cells #[.int .i64 s.ord, .bool s.drop] 23))
      go_wp2_with (at_builtin; refine wpList_append_k (o := ⟨some 43, _, _, _, _, _⟩) rfl (.tmp 37) (.tmp 42) Try.underlying24 infoStp rfl (by decide) rfl HA1.out.own rfl HB1.out rfl rfl (stp_one s.ord s.drop) (by unfold maxLen; omega) (by omega) HA1.out.old HA1.out.old.size HA1.out.old.size (Nat.le_refl _) ?_; intro vB wB HO2 HB2 HG2; have HQ := Lib.hid (PL.snoc ⟨s.ord, s.drop⟩ HO2.out HB2.out); clear HO2 HB2 HG2)
      go_roundw
      case rel => exact ⟨k + 1, by omega, by go_num, by show PL _ _ _ _; rw [HNY.out]; exact HQ.out⟩
      case measure => simp [intOf]; omega
    · have hki2 : ¬ (k : Int) < (n : Int) := by omega
      have HNY : Hid (putTo stops o i j (k + 1) = p2) := by
        show _ = _
        rw [HNX.out, List.getElem?_eq_none (by have := HL.out; omega)]
        simp
      clear HNX
      go_wp2_with fail
      go_roundw
      case rel => exact ⟨k + 1, by omega, by go_num, by show PL _ _ _ _; rw [HNY.out]; exact HP2.out⟩
      case measure => simp [intOf]; omega

#print axioms rput_any
end Go.Proofs.Ytbnhbbjmocclmaa.Slack
