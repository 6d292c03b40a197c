/-
  SlackMath, SlackPL, SlackRPut, SlackPart: one text.
-/
import Derived.Test.YtpigklkidagolaaMaths
import Derived.Test.YtpigklkidagolaaWords
import Derived.Test.YtpigklkidagolaaLibRows
import Derived.Deep.DeepCutAuto
import Derived.RegionTactic
import Derived.Deep.QuietTactic
import Derived.BigQuiet
/-
  What follows of latest times, as the walks of chapter 8 ask it. No program is named here.
-/
namespace Go.Proofs.Ytpigklkidagolaa.FleetMath
open Go.Proofs.Ytpigklkidagolaa.GeoMath

theorem latest_bound {m : Mp} {til : Int} {l : List Site} (h : ∀ s ∈ l, SiteOk s) : ∀ x ∈ latest m til l, 0 ≤ x ∧ x ≤ 1000000 := by
  induction l with
  | nil => intro x hx; simp [latest] at hx
  | cons s r ih =>
    intro x hx
    simp only [latest, List.mem_cons] at hx
    rcases hx with rfl | hx
    · obtain ⟨h1, h2, h3⟩ := right_iff.1 (h s (by simp)).win
      cases ht : lastT s.win s.serv (untilOf m til s r (latest m til r)) with
      | none => simp
      | some t =>
        obtain ⟨_, _, h4, _, h5⟩ := lastT_some.1 ht
        simp only [Option.getD_some]
        split at h5 <;> omega
    · exact ih (fun s hs => h s (by simp [hs])) x hx
theorem latest_next {m : Mp} {til : Int} {l : List Site} {k : Nat} {s : Site} (h : l[k]? = some s) : latest m til (l.drop k) = (lastT s.win s.serv (untilOf m til s (l.drop (k + 1)) (latest m til (l.drop (k + 1))))).getD 0 :: latest m til (l.drop (k + 1)) := by
  obtain ⟨hlt, he⟩ := List.getElem?_eq_some_iff.1 h
  rw [List.drop_eq_getElem_cons hlt, he]
  rfl
theorem until_last {m : Mp} {til : Int} {s : Site} {l : List Site} {k : Nat} (h : l.length ≤ k) : untilOf m til s (l.drop k) (latest m til (l.drop k)) = til := by
  rw [List.drop_of_length_le h]
  rfl
theorem until_next {m : Mp} {til : Int} {s s' : Site} {l : List Site} {k : Nat} {t : Int} (h : l[k]? = some s') (ht : (latest m til (l.drop k))[0]? = some t) :
    untilOf m til s (l.drop k) (latest m til (l.drop k)) = if t - time m s.place s'.place < til then t - time m s.place s'.place else til := by
  obtain ⟨hlt, he⟩ := List.getElem?_eq_some_iff.1 h
  rw [List.drop_eq_getElem_cons hlt, he] at ht ⊢
  cases hl : latest m til (s' :: l.drop (k + 1)) with
  | nil => rw [hl] at ht; cases ht
  | cons a r =>
    rw [hl] at ht
    simp at ht
    subst ht
    rfl
/-- what Latest answers -/
def latestR (m : Option Mp) (d : Drv) (os : List Ord) (stops : List Stp) : Option (List Int) :=
  match m with
  | none => none
  | some m' => if (drive m d os stops).2.2 = 0 then some (latestOf m' d os stops) else none
theorem latestR_none {m : Option Mp} {d : Drv} {os : List Ord} {stops : List Stp} (h : (drive m d os stops).2.2 ≠ 0) : latestR m d os stops = none := by
  cases m with
  | none => rfl
  | some m' => exact if_neg h
theorem latestR_some {m : Mp} {d : Drv} {os : List Ord} {stops : List Stp} (h : (drive (some m) d os stops).2.2 = 0) : latestR (some m) d os stops = some (latestOf m d os stops) := if_pos h
/-- how far the latest times are known, from behind -/
def LatTo (m : Mp) (d : Drv) (os : List Ord) (stops : List Stp) (j : Nat) (xs : List Int) : Prop :=
  xs.length = stops.length ∧ xs.drop j = latest m d.win.to ((stops.map (siteAt os)).drop j)
theorem LatTo.start (m : Mp) (d : Drv) (os : List Ord) (stops : List Stp) {xs : List Int} (h : xs.length = stops.length) : LatTo m d os stops stops.length xs := by
  refine ⟨h, ?_⟩
  rw [List.drop_of_length_le (by omega), List.drop_of_length_le (by simp)]
  rfl
theorem LatTo.end_ {m : Mp} {d : Drv} {os : List Ord} {stops : List Stp} {xs : List Int} (h : LatTo m d os stops 0 xs) : xs = latestOf m d os stops := h.2
theorem LatTo.set {m : Mp} {d : Drv} {os : List Ord} {stops : List Stp} {k : Nat} {xs : List Int} {s : Stp} {til v : Int} (h : LatTo m d os stops (k + 1) xs) (hs : stops[k]? = some s)
    (hu : untilOf m d.win.to (siteAt os s) ((stops.map (siteAt os)).drop (k + 1)) (latest m d.win.to ((stops.map (siteAt os)).drop (k + 1))) = til)
    (hv : (lastT (siteAt os s).win (siteAt os s).serv til).getD 0 = v) : LatTo m d os stops k (xs.set k v) := by
  have hk : k < xs.length := by have := (List.getElem?_eq_some_iff.1 hs).1; have := h.1; omega
  refine ⟨by rw [List.length_set]; exact h.1, ?_⟩
  rw [latest_next (s := siteAt os s) (by rw [List.getElem?_map, hs]; rfl), hu, hv, ← h.2]
  rw [List.drop_eq_getElem_cons (by rw [List.length_set]; exact hk)]
  congr 1
  · simp
  · rw [List.drop_set_of_lt (by omega)]
theorem LatTo.at_ {m : Mp} {d : Drv} {os : List Ord} {stops : List Stp} {k : Nat} {xs : List Int} {u : Int} (h : LatTo m d os stops k xs) (hu : xs[k]? = some u) : (latest m d.win.to ((stops.map (siteAt os)).drop k))[0]? = some u := by
  rw [← h.2, List.getElem?_drop, Nat.add_zero]
  exact hu

#print axioms LatTo.set
end Go.Proofs.Ytpigklkidagolaa.FleetMath

/-
  A list of stops of the call's own, as the walks of Put share it.
-/
namespace Go.Proofs.Ytpigklkidagolaa.Slack
open Go.ChangeShapes Go.WideShapes Go.ChangeAt Go.RowKit Go.Proofs.Ytpigklkidagolaa.Mem Go.Proofs.Ytpigklkidagolaa.FleetMath Go.Proofs.Ytpigklkidagolaa.Rec
set_option linter.unusedVariables false

theorem putTo_len (l : List Stp) (o : Int) (i j k : Nat) (hij : i ≤ j) : (putTo l o i j k).length ≤ k + 2 := by
  unfold putTo
  split
  · simp only [List.length_take]; omega
  · split
    · simp only [List.length_append, List.length_cons, List.length_take, List.length_drop]; omega
    · simp only [List.length_append, List.length_cons, List.length_take, List.length_drop]; omega
theorem stpsV_snoc (p : List Stp) (x : Stp) : stpsV (p ++ [x]) = stpsV p ++ [.int .i64 x.ord, .bool x.drop] := by rw [stpsV_append]; rfl
theorem stp_one (a : Int) (b : Bool) : ∀ v ∈ [Value.int .i64 a, .bool b], v.oneCell' = true := by
  intro v hv
  simp only [List.mem_cons, List.not_mem_nil, or_false] at hv
  rcases hv with rfl | rfl <;> rfl
/-- a list of stops of the call's own -/
structure PL (w : World) (v : Value) (p : List Stp) (u : World) : Prop where
  old : Below w.heap.size w u
  own : OwnK u w.heap.size 36 2 v p.length (stpsV p)
section
variable {w u u' : World} {v v' : Value} {p : List Stp}
theorem PL.alloc (h : PL w v p u) (o : Obj) : PL w v p (u.alloc o) := ⟨h.old.alloc h.old.size o, h.own.alloc o⟩
theorem PL.snoc (x : Stp) (ho : OwnK u' w.heap.size 36 2 v' (p.length + 1) (stpsV p ++ [.int .i64 x.ord, .bool x.drop])) (hb : Below w.heap.size w u') : PL w v' (p ++ [x]) u' :=
  ⟨hb, by rw [stpsV_snoc, List.length_append]; exact ho⟩
end

end Go.Proofs.Ytpigklkidagolaa.Slack

/-
  The document's own answer to chapter 8, walked: Put.
-/
namespace Go.Proofs.Ytpigklkidagolaa.Slack
open Go.ChangeShapes Go.WideShapes Go.ChangeAt Go.RowKit Go.Proofs.Ytpigklkidagolaa.Mem Go.Proofs.Ytpigklkidagolaa.FleetMath Go.Proofs.Ytpigklkidagolaa.Rec
set_option linter.unusedVariables false

set_option maxRecDepth 100000 in
set_option maxHeartbeats 1000000 in
theorem rput_any (A : Option Addr) (n c : Nat) (stops : List Stp) (o : Int) (i j : Nat) (w : World) (hs : Stps w w.heap.size A n stops) (hij : i ≤ j) (hj : j ≤ n) (hr : n * 16 ≤ 140737488351232) :
    Calls Try.prog 72 #[.slice A n c, .int .i64 o, .int .i64 i, .int .i64 j] w (MakesK w 36 2 (n + 2) (stpsV (putM stops o i j))) := by
  have HST := Lib.hid hs
  have HL := Lib.hid hs.length
  have hm := Recs.le hs
  clear hs
  have P0 : Hid (PL w (.slice none 0 0) (putTo stops o i j 0) w) := by
    rw [putTo_zero]
    exact ⟨Below.refl _ _, OwnK.nil _ _ _ _⟩
  go_enter Try.func72, Try.ntmps72
  go_wp2_with fail
  go_loopw [9, 10] (fun vv iv wr => ∃ k : Nat, k ≤ n + 1 ∧ iv = .int .i64 k ∧ Hid (PL w vv (putTo stops o i j k) wr)) (fun _ iv _ => n + 1 - (intOf iv).toNat)
  case atStart => exact ⟨0, Nat.zero_le _, rfl, P0⟩
  case round =>
    clear P0
    obtain ⟨k, hk, rfl, HP⟩ := hrel
    by_cases hlt : k ≤ n
    case neg =>
      have e : k = n + 1 := by omega
      subst e
      have HZ : Hid (MakesK w 36 2 (n + 2) (stpsV (putM stops o i j)) (.returned u9) wr) := by
        have h := HP.out
        have hl := HL.out
        rw [show n + 1 = stops.length + 1 by omega, putTo_end hij (by omega)] at h
        have h2 := h.own
        rw [putM_len hij (by omega), hl] at h2
        exact ⟨u9, rfl, h.old, h2⟩
      clear HP
      go_wp2_with fail
      go_ret
      exact HZ.out
    have HN : Hid (putTo stops o i j (k + 1) = putTo stops o i j k ++ (one (decide (k = i)) ⟨o, false⟩ ++ (one (decide (k = j)) ⟨o, true⟩ ++ stops[k]?.toList))) := putTo_next hij
    obtain ⟨p, hp⟩ : ∃ p, putTo stops o i j k = p := ⟨_, rfl⟩
    have hpl : p.length ≤ n + 2 := by have := putTo_len stops o i j k hij; rw [hp] at this; omega
    rw [hp] at HP HN
    clear hp
    have hki : (k : Int) ≤ (n : Int) := by omega
    go_upto_if 19 with fail
    go_cut [9] (fun vv wx => ∃ p1 : List Stp, Hid (PL w vv p1 wx) ∧ Hid (p1 = p ++ one (decide (k = i)) ⟨o, false⟩))
    case first =>
      by_cases hi : k = i
      · have e1 : ((k : Int) == (i : Int)) = true := by simp [hi]
        have HI := Lib.hid hi
        clear hi
        have HB1 : Hid (Blk (wr.alloc (.cells #[.int .i64 o, .bool false] 36)) wr.heap.size 36 [.int .i64 o, .bool false]) := Blk.new wr _ _
        have HA1 := Lib.hid (HP.out.alloc (.cells #[.int .i64 o, .bool false] 36))
        go_wp2_with (at_builtin; refine wpList_append_k (o := ⟨some 24, _, _, _, _, _⟩) rfl (.tmp 20) (.tmp 23) Try.underlying37 infoStp rfl (by decide) rfl HA1.out.own rfl HB1.out rfl rfl (stp_one o false) (by unfold maxLen; omega) (by omega) HA1.out.old HA1.out.old.size HA1.out.old.size (Nat.le_refl _) ?_; intro vB wB HO2 HB2 HG2; have HQ := Lib.hid (PL.snoc ⟨o, false⟩ HO2.out HB2.out); clear HO2 HB2 HG2)
        go_meet
        exact ⟨_, HQ, by show _ = _; rw [decide_eq_true HI.out]; rfl⟩
      · have e1 : ((k : Int) == (i : Int)) = false := by simp; omega
        have HI := Lib.hid hi
        clear hi
        go_wp2_with fail
        go_meet
        exact ⟨p, HP, by show _ = _; rw [decide_eq_false HI.out]; simp [one]⟩
    case rest =>
    obtain ⟨p1, HP1, HE1⟩ := hcut
    obtain ⟨w1, rfl⟩ : ∃ u, u = wc := ⟨_, rfl⟩
    have hp1 : p1.length ≤ n + 3 := by
      rw [HE1.out, List.length_append]
      unfold one
      split <;> simp <;> omega
    clear HP
    go_upto_if 27 with fail
    go_cut [9] (fun vv wx => ∃ p2 : List Stp, Hid (PL w vv p2 wx) ∧ Hid (p2 = p1 ++ one (decide (k = j)) ⟨o, true⟩))
    case first =>
      by_cases hi : k = j
      · have e1 : ((k : Int) == (j : Int)) = true := by simp [hi]
        have HI := Lib.hid hi
        clear hi
        have HB1 : Hid (Blk (w1.alloc (.cells #[.int .i64 o, .bool true] 36)) w1.heap.size 36 [.int .i64 o, .bool true]) := Blk.new w1 _ _
        have HA1 := Lib.hid (HP1.out.alloc (.cells #[.int .i64 o, .bool true] 36))
        go_wp2_with (at_builtin; refine wpList_append_k (o := ⟨some 32, _, _, _, _, _⟩) rfl (.tmp 28) (.tmp 31) Try.underlying37 infoStp rfl (by decide) rfl HA1.out.own rfl HB1.out rfl rfl (stp_one o true) (by unfold maxLen; omega) (by omega) HA1.out.old HA1.out.old.size HA1.out.old.size (Nat.le_refl _) ?_; intro vB wB HO2 HB2 HG2; have HQ := Lib.hid (PL.snoc ⟨o, true⟩ HO2.out HB2.out); clear HO2 HB2 HG2)
        go_meet
        exact ⟨_, HQ, by show _ = _; rw [decide_eq_true HI.out]; rfl⟩
      · have e1 : ((k : Int) == (j : Int)) = false := by simp; omega
        have HI := Lib.hid hi
        clear hi
        go_wp2_with fail
        go_meet
        exact ⟨p1, HP1, by show _ = _; rw [decide_eq_false HI.out]; simp [one]⟩
    case rest =>
    obtain ⟨p2, HP2, HE2⟩ := hcut
    obtain ⟨w2, rfl⟩ : ∃ u, u = wc := ⟨_, rfl⟩
    have hp2 : p2.length ≤ n + 4 := by
      rw [HE2.out, List.length_append]
      unfold one
      split <;> simp <;> omega
    clear HP1
    have HNX : Hid (putTo stops o i j (k + 1) = p2 ++ stops[k]?.toList) := by
      show _ = _
      rw [HN.out, HE2.out, HE1.out]
      simp
    clear HN HE1 HE2
    by_cases hkn : k < n
    · have HSW : Hid (Stps w2 w.heap.size A n stops) := Recs.keep HST.out HP2.out.old
      obtain ⟨b, off, s, rfl, hbw, hs, _, c0, c1⟩ := Stps.at_ HSW.out hkn
      have HNY : Hid (putTo stops o i j (k + 1) = p2 ++ [⟨s.ord, s.drop⟩]) := by
        show _ = _
        rw [HNX.out, hs]
        rfl
      clear HNX hs
      have hki2 : (k : Int) < (n : Int) := by omega
      have HB1 : Hid (Blk (w2.alloc (.cells #[.int .i64 s.ord, .bool s.drop] 36)) w2.heap.size 36 [.int .i64 s.ord, .bool s.drop]) := Blk.new w2 _ _
      have HA1 := Lib.hid (HP2.out.alloc (.cells #[.int .i64 s.ord, .bool s.drop] 36))
      go_wp2_with (at_builtin; refine wpList_append_k (o := ⟨some 43, _, _, _, _, _⟩) rfl (.tmp 37) (.tmp 42) Try.underlying37 infoStp rfl (by decide) rfl HA1.out.own rfl HB1.out rfl rfl (stp_one s.ord s.drop) (by unfold maxLen; omega) (by omega) HA1.out.old HA1.out.old.size HA1.out.old.size (Nat.le_refl _) ?_; intro vB wB HO2 HB2 HG2; have HQ := Lib.hid (PL.snoc ⟨s.ord, s.drop⟩ HO2.out HB2.out); clear HO2 HB2 HG2)
      go_roundw
      case rel => exact ⟨k + 1, by omega, by go_num, by show PL _ _ _ _; rw [HNY.out]; exact HQ.out⟩
      case measure => simp [intOf]; omega
    · have hki2 : ¬ (k : Int) < (n : Int) := by omega
      have HNY : Hid (putTo stops o i j (k + 1) = p2) := by
        show _ = _
        rw [HNX.out, List.getElem?_eq_none (by have := HL.out; omega)]
        simp
      clear HNX
      go_wp2_with fail
      go_roundw
      case rel => exact ⟨k + 1, by omega, by go_num, by show PL _ _ _ _; rw [HNY.out]; exact HP2.out⟩
      case measure => simp [intOf]; omega

#print axioms rput_any
end Go.Proofs.Ytpigklkidagolaa.Slack

/-
  Parts of lists of stops.
-/
namespace Go.Proofs.Ytpigklkidagolaa.Slack
open Go.ChangeShapes Go.WideShapes Go.ChangeAt Go.RowKit Go.Proofs.Ytpigklkidagolaa.Mem Go.Proofs.Ytpigklkidagolaa.FleetMath Go.Proofs.Ytpigklkidagolaa.Rec
set_option linter.unusedVariables false

theorem _root_.Go.Proofs.Ytpigklkidagolaa.Mem.Recs.part {w : World} {B n k l h c : Nat} {A : Option Addr} {vs : List Value} (hr : Recs w B A n k vs) (h1 : l ≤ h) (h2 : h ≤ n) (h3 : n ≤ c) :
    Recs w B (if c = l then A else A.map (·.add (l * k))) (h - l) k ((vs.drop (l * k)).take ((h - l) * k)) := by
  have hl := hr.1
  have e1 : (h - l) * k + l * k = h * k := by rw [← Nat.add_mul]; congr 1; omega
  have e2 : h * k ≤ n * k := Nat.mul_le_mul_right _ h2
  refine ⟨by rw [List.length_take, List.length_drop]; omega, by have := hr.2.1; omega, fun hp => ?_⟩
  obtain ⟨b, off, rfl, hb, hc⟩ := hr.2.2 (by omega)
  rw [if_neg (by omega)]
  refine ⟨b, off + l * k, by rw [Option.map_some, add_at], hb, fun j u hu => ?_⟩
  rw [List.getElem?_take] at hu
  split at hu
  · rw [List.getElem?_drop] at hu
    rw [Nat.add_assoc]
    exact hc _ u hu
  · cases hu
theorem stpsV_drop (l : List Stp) (i : Nat) : (stpsV l).drop (i * 2) = stpsV (l.drop i) := by
  induction l generalizing i with
  | nil => simp [stpsV]
  | cons x r ih =>
    cases i with
    | zero => simp
    | succ i =>
      rw [show (i + 1) * 2 = i * 2 + 2 by omega, List.drop_succ_cons, ← ih]
      rfl
theorem stpsV_take (l : List Stp) (i : Nat) : (stpsV l).take (i * 2) = stpsV (l.take i) := by
  induction l generalizing i with
  | nil => simp [stpsV]
  | cons x r ih =>
    cases i with
    | zero => simp [stpsV]
    | succ i =>
      rw [show (i + 1) * 2 = i * 2 + 2 by omega, List.take_succ_cons]
      have e : stpsV (x :: r) = .int .i64 x.ord :: .bool x.drop :: stpsV r := rfl
      have e' : stpsV (x :: r.take i) = .int .i64 x.ord :: .bool x.drop :: stpsV (r.take i) := rfl
      rw [e, e', ← ih]
      rfl
theorem Stps.part {w : World} {B n l h c : Nat} {A : Option Addr} {xs : List Stp} (hr : Stps w B A n xs) (h1 : l ≤ h) (h2 : h ≤ n) (h3 : n ≤ c) :
    Stps w B (if c = l then A else A.map (·.add (l * 2))) (h - l) ((xs.drop l).take (h - l)) := by
  have := Recs.part hr h1 h2 h3
  rwa [stpsV_drop, stpsV_take] at this
/-- a part of a slice of stops -/
abbrev partAt (A : Option Addr) (l c : Nat) : Option Addr := if c = l then A else A.map (·.add (l * 2))
theorem run_slice_stp {A : Option Addr} {n c l h : Nat} {lo hi : Option Value} (u : World) (hlo : (lo = none ∧ l = 0) ∨ lo = some (.int .i64 (l : Int))) (hhi : (hi = none ∧ h = n) ∨ hi = some (.int .i64 (h : Int))) (h1 : l ≤ h) (h2 : h ≤ n) (h3 : n ≤ c) :
    (Instr.sliceAt 37 (.slice A n c) lo hi none).run Try.prog u = .ok (.slice (partAt A l c) (h - l) (c - l)) u := by
  have hsz : (sizeOf 36).run Try.prog u = .ok 2 u := by
    obtain ⟨i, hi, _, hz, _⟩ := info_parts infoStp
    simp [sizeOf, typeInfo, hi, hz]
  have q : h ≤ c := Nat.le_trans h2 h3
  rcases hlo with ⟨rfl, rfl⟩ | rfl <;> rcases hhi with ⟨rfl, rfl⟩ | rfl <;>
    simp [Instr.sliceAt, Instr.slice, Instr.sliceBounds, Instr.sliceBound, run_underlying Try.underlying37, asIntOf, hsz, partAt, h1, q]
theorem exec_slice {o : Oper} {a : Act} {u : World} {x : Operand} {lo hi : Option Operand} {A : Option Addr} {n c l h : Nat} (ho : o.op = .slice 37 x lo hi none) (hx : a.eval x = .slice A n c)
    (hlo : (lo = none ∧ l = 0) ∨ ∃ y, lo = some y ∧ a.eval y = .int .i64 (l : Int)) (hhi : (hi = none ∧ h = n) ∨ ∃ y, hi = some y ∧ a.eval y = .int .i64 (h : Int)) (h1 : l ≤ h) (h2 : h ≤ n) (h3 : n ≤ c) :
    (execOp a.eval o).run Try.prog u = .ok (.value (.slice (partAt A l c) (h - l) (c - l))) u := by
  have hr := run_slice_stp (A := A) (n := n) (c := c) (l := l) (h := h) (lo := lo.map a.eval) (hi := hi.map a.eval) u (by
    rcases hlo with ⟨rfl, e⟩ | ⟨y, rfl, e⟩
    · exact .inl ⟨rfl, e⟩
    · exact .inr (by rw [Option.map_some, e])) (by
    rcases hhi with ⟨rfl, e⟩ | ⟨y, rfl, e⟩
    · exact .inl ⟨rfl, e⟩
    · exact .inr (by rw [Option.map_some, e])) h1 h2 h3
  unfold execOp
  rw [ho]
  simp only [hx, Option.map_none, Sem.run_bind, hr, Result.andThen_ok, Sem.run_pure]
end Go.Proofs.Ytpigklkidagolaa.Slack
