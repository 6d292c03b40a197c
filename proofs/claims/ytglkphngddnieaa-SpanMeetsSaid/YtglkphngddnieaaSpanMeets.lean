/-
  SpanMeets and SpanMembers walked.
-/
import Derived.Test.YtglkphngddnieaaSpanLate
import Derived.Test.YtglkphngddnieaaRecWin
namespace Go.Proofs.Ytglkphngddnieaa.Span
open Go.ChangeShapes Go.WideShapes Go.ChangeAt Go.RowKit Go.Proofs.Ytglkphngddnieaa.Mem Go.Proofs.Ytglkphngddnieaa.FleetMath Go.Proofs.Ytglkphngddnieaa.Rec
set_option linter.unusedVariables false

theorem optW_form (o : Option Win) : ∃ y r, optW o = .tuple #[winV y, .bool r] := by cases o; exact ⟨_, _, rfl⟩; exact ⟨_, _, rfl⟩
theorem rmeet_val (A : Option Addr) (n c : Nat) (l : List Win) (w : World) (h : Wins w w.heap.size A n l) (y : Win) (r : Bool) (hm : optW (meet l) = .tuple #[winV y, .bool r]) : Calls Try.prog 21 #[.slice A n c] w (Gives w (.tuple #[winV y, .bool r])) := by rw [← hm]; exact rmeet_any A n c l w h

set_option maxRecDepth 100000 in
set_option maxHeartbeats 4000000 in
theorem spanMeets_walk (A : Option Addr) (n c : Nat) (l : List Win) (W : World) (hc : n ≤ c) (hr : c * 16 ≤ 140737488351232) (hl : Wins W W.heap.size A n l ∧ ∀ x ∈ l, (Lit.int .i64 x.fr).wf = true ∧ (Lit.int .i64 x.to).wf = true) :
    Calls Try.prog 5 #[.slice A n c] W fun e w' => e = .returned (.bool true) ∧ Below W.heap.size W w' := by
  have h := hl.1
  clear hl
  obtain ⟨y, r, hy⟩ := optW_form (meet l)
  have HY := Lib.hid hy
  have HI := Lib.hid h
  have HL := Lib.hid h.length
  have hn : n * 16 ≤ 140737488351232 := by omega
  have hm := Recs.le h
  clear h hy hr hc
  go_enter Try.func5, Try.ntmps5
  go_wp2_with fail
  refine (roomyWin A n c l W ⟨-3, -4⟩ HI.out hn).mono ?_
  rintro e w1 ⟨rfl, hb1, hf1⟩
  have HB1 := Lib.hid hb1
  have HF1 := Lib.hid hf1
  have HI1 : Hid (Wins w1 W.heap.size A n l) := Recs.keep HI.out hb1
  clear hb1 hf1
  go_wp2_with fail
  refine (gmeet_val _ n (n + 80) l _ (frontWin HF1.out HL.out (by unfold maxLen; omega)) y r HY.out).mono ?_
  rintro e w2 ⟨rfl, hb2⟩
  have HB2 : Hid (Below W.heap.size W (w2.alloc (.cells #[.int .i64 y.fr, .int .i64 y.to] 23))) := by
    have h1 := HB1.out.trans (hb2.mono HB1.out.size)
    exact h1.alloc h1.size _
  have HF2 : Hid (Blk (w2.alloc (.cells #[.int .i64 y.fr, .int .i64 y.to] 23)) (W.heap.size + 1) 23 (winsV (l ++ List.replicate 80 ⟨-3, -4⟩))) := by
    have h1 := HF1.out.below hb2 HF1.out.lt
    exact h1.below ((Below.refl _ _).alloc (Nat.le_refl _) _) h1.lt
  have HI2 : Hid (Wins (w2.alloc (.cells #[.int .i64 y.fr, .int .i64 y.to] 23)) W.heap.size A n l) := Recs.keep HI.out HB2.out
  have Y2 : Hid (BoxAt (w2.alloc (.cells #[.int .i64 y.fr, .int .i64 y.to] 23)) w2.heap.size y) := BoxAt.new w2 y
  clear hb2 HB1 HF1 HI1
  go_wp2_with fail
  refine (rmeet_val A n c l _ (by exact Recs.more HI2.out HB2.out.size) y r HY.out).mono ?_
  rintro e w3 ⟨rfl, hb3⟩
  have HB3 : Hid (Below W.heap.size W (w3.alloc (.cells #[.int .i64 y.fr, .int .i64 y.to] 23))) := by
    have h1 := HB2.out.trans (hb3.mono HB2.out.size)
    exact h1.alloc h1.size _
  have HF3 : Hid (Blk (w3.alloc (.cells #[.int .i64 y.fr, .int .i64 y.to] 23)) (W.heap.size + 1) 23 (winsV (l ++ List.replicate 80 ⟨-3, -4⟩))) := by
    have h1 := HF2.out.below hb3 HF2.out.lt
    exact h1.below ((Below.refl _ _).alloc (Nat.le_refl _) _) h1.lt
  have HI3 : Hid (Wins (w3.alloc (.cells #[.int .i64 y.fr, .int .i64 y.to] 23)) W.heap.size A n l) := Recs.keep HI.out HB3.out
  obtain ⟨p0, p1⟩ := (((Y2.out.below hb3)).alloc (.cells #[.int .i64 y.fr, .int .i64 y.to] 23)).cells
  obtain ⟨q0, q1⟩ := (BoxAt.new w3 y).cells
  clear hb3 HB2 HF2 HI2 Y2
  go_wp2_with fail
  refine (intactWin A (W.heap.size + 1) n c l W.heap.size ⟨-3, -4⟩ _ (by exact HI3.out) (by omega) (by exact HF3.out) (by exact HB3.out.size)).mono ?_
  rintro e w4 ⟨rfl, hb4⟩
  have HB4 : Hid (Below W.heap.size W w4) := HB3.out.trans (hb4.mono HB3.out.size)
  clear hb4 HB3 HF3 HI3 p0 p1 q0 q1
  go_wp2_with fail
  refine (runs_any _).mono ?_
  rintro e w5 ⟨rfl, hb5⟩
  have HB5 : Hid (Below W.heap.size W w5) := HB4.out.trans (hb5.mono HB4.out.size)
  clear hb5
  go_wp2_with fail
  go_ret
  exact ⟨rfl, HB5.out⟩

/-- what SpanMembers has gathered behind the first k windows -/
def allR (l : List Win) : Bool := l.all right
def allH (t : Int) (l : List Win) : Bool := decide (0 ≤ t ∧ t ≤ 1000000) && l.all fun w => has w t
theorem allR_snoc {l : List Win} {k : Nat} {x : Win} (h : l[k]? = some x) : allR (l.take (k + 1)) = (allR (l.take k) && right x) := by
  unfold allR; rw [List.take_add_one, h]; simp
theorem allH_snoc {l : List Win} {k : Nat} {x : Win} {t : Int} (h : l[k]? = some x) : allH t (l.take (k + 1)) = (allH t (l.take k) && has x t) := by
  unfold allH; rw [List.take_add_one, h]; simp [Bool.and_assoc]
theorem met {l : List Win} {y : Win} (t : Int) (h : meet l = some y) : allR l = true ∧ right y = true ∧ has y t = allH t l := by
  obtain ⟨h1, h2, h3, h4, h5⟩ := meetGo_some h
  simp only at h3 h4 h5
  have hR : allR l = true := by unfold allR; rw [List.all_eq_true]; exact h1
  have hy : right y = true := right_iff.2 ⟨by omega, h2, by omega⟩
  refine ⟨hR, hy, ?_⟩
  rw [Bool.eq_iff_iff]
  unfold allH
  rw [has_iff, Bool.and_eq_true, decide_eq_true_eq, List.all_eq_true]
  constructor
  · rintro ⟨_, h6⟩
    obtain ⟨h7, h8⟩ := (h5 t).1 h6
    exact ⟨h7, fun w hw => has_iff.2 ⟨h1 w hw, h8 w hw⟩⟩
  · rintro ⟨h6, h7⟩
    exact ⟨hy, (h5 t).2 ⟨h6, fun w hw => (has_iff.1 (h7 w hw)).2⟩⟩
theorem unmet {l : List Win} (t : Int) (h : meet l = none) : allR l = false ∨ allH t l = false := by
  cases hR : allR l
  · exact .inl rfl
  · right
    unfold allR at hR
    rw [List.all_eq_true] at hR
    have := meetGo_none h hR t
    cases hH : allH t l
    · rfl
    · unfold allH at hH
      rw [Bool.and_eq_true, decide_eq_true_eq, List.all_eq_true] at hH
      exact absurd ⟨hH.1, fun w hw => (has_iff.1 (hH.2 w hw)).2⟩ this

set_option maxRecDepth 100000 in
set_option maxHeartbeats 4000000 in
theorem spanMembers_walk (A : Option Addr) (n c : Nat) (l : List Win) (t : Int) (W : World) (hc : n ≤ c) (hr : c * 16 ≤ 140737488351232) (hl : Wins W W.heap.size A n l ∧ ∀ x ∈ l, (Lit.int .i64 x.fr).wf = true ∧ (Lit.int .i64 x.to).wf = true) (ht : (Lit.int .i64 t).wf = true) :
    Calls Try.prog 6 #[.slice A n c, .int .i64 t] W fun e w' => e = .returned (.bool true) ∧ Below W.heap.size W w' := by
  have h := hl.1
  clear hl
  have HI := Lib.hid h
  have HL := Lib.hid h.length
  have hm := Recs.le h
  clear h hr hc ht
  go_enter Try.func6, Try.ntmps6
  go_upto_region 1 with fail
  go_cut [5] (fun v wx => v = .bool (allH t []) ∧ wx = W)
  case first =>
    go_wp2
    all_goals
      go_meet
      refine ⟨congrArg Value.bool ?_, rfl⟩
      first
        | (simp_all [allH]; done)
        | (simp_all [allH]; omega)
  case rest =>
    obtain ⟨rfl, rfl⟩ := hcut
    obtain ⟨a0, ha0⟩ : ∃ a, allH t [] = a := ⟨_, rfl⟩
    have HA0 := Lib.hid ha0
    rw [ha0]
    clear ha0
    go_wp2
    go_loopw [5, 6, 7] (fun av rv iv wr => ∃ (k : Nat) (ab rb : Bool), k ≤ n ∧ av = .bool ab ∧ rv = .bool rb ∧ iv = .int .i64 k ∧ Hid (Below wc.heap.size wc wr) ∧ Hid (allH t (l.take k) = ab) ∧ Hid (allR (l.take k) = rb)) (fun _ _ i _ => n - (intOf i).toNat)
    case atStart => exact ⟨0, a0, true, Nat.zero_le _, rfl, rfl, rfl, Below.refl _ _, by rw [List.take_zero]; exact HA0, rfl⟩
    case round =>
      obtain ⟨k, ab, rb, hk, rfl, rfl, rfl, HB, HA, HR⟩ := hrel
      by_cases hlt : k < n
      · obtain ⟨b, off, x, rfl, hb, hx, hd, c0, c1⟩ := Wins.at_ (Recs.keep HI.out HB.out) hlt
        have HAN : Hid (allH t (l.take (k + 1)) = (ab && has x t)) := by rw [allH_snoc hx, HA.out]; exact rfl
        have HRN : Hid (allR (l.take (k + 1)) = (rb && right x)) := by rw [allR_snoc hx, HR.out]; exact rfl
        clear hx hd HA HR
        obtain ⟨rx, hrx⟩ : ∃ r, right x = r := ⟨_, rfl⟩
        obtain ⟨hx, hhx⟩ : ∃ r, has x t = r := ⟨_, rfl⟩
        rw [hrx] at HRN
        rw [hhx] at HAN
        have HX := Lib.hid hrx
        have HHX := Lib.hid hhx
        clear hrx hhx
        have hbw : b < wr.heap.size := Nat.lt_of_lt_of_le hb HB.out.size
        cases rb with
        | false =>
          cases ab with
          | false =>
            go_wp2_with fail
            go_roundw
            case rel => exact ⟨k + 1, false, false, by omega, rfl, rfl, by go_num, HB, HAN, HRN⟩
            case measure => simp [intOf]; omega
          | true =>
            go_wp2_with fail
            refine (ghas_val x _ t hx HHX.out).mono ?_
            rintro e w1 ⟨rfl, hb1⟩
            have HB1 : Hid (Below wc.heap.size wc w1) := HB.out.trans (hb1.mono HB.out.size)
            clear hb1
            go_wp2_with fail
            go_roundw
            case rel => exact ⟨k + 1, hx, false, by omega, rfl, rfl, by go_num, HB1, HAN, HRN⟩
            case measure => simp [intOf]; omega
        | true =>
          go_wp2_with fail
          refine (gright_val x _ rx HX.out).mono ?_
          rintro e w1 ⟨rfl, hb1⟩
          have HB1 : Hid (Below wc.heap.size wc w1) := HB.out.trans (hb1.mono HB.out.size)
          have d0 := (hb1.cell (p := ⟨b, off + k * 2, none⟩) hbw).trans c0
          have d1 := (hb1.cell (p := ⟨b, off + k * 2 + 1, none⟩) hbw).trans c1
          clear hb1 c0 c1
          cases ab with
          | false =>
            go_wp2_with fail
            go_roundw
            case rel => exact ⟨k + 1, false, rx, by omega, rfl, rfl, by go_num, HB1, HAN, HRN⟩
            case measure => simp [intOf]; omega
          | true =>
            go_wp2_with fail
            refine (ghas_val x _ t hx HHX.out).mono ?_
            rintro e w2 ⟨rfl, hb2⟩
            have HB2 : Hid (Below wc.heap.size wc w2) := HB1.out.trans (hb2.mono HB1.out.size)
            clear hb2
            go_wp2_with fail
            go_roundw
            case rel => exact ⟨k + 1, hx, rx, by omega, rfl, rfl, by go_num, HB2, HAN, HRN⟩
            case measure => simp [intOf]; omega
      · have HAE : Hid (allH t l = ab) := by
          have := HA.out
          rw [List.take_of_length_le (by have := HL.out; omega)] at this
          exact this
        have HRE : Hid (allR l = rb) := by
          have := HR.out
          rw [List.take_of_length_le (by have := HL.out; omega)] at this
          exact this
        have HIW : Hid (Wins wr wc.heap.size A n l) := Recs.keep HI.out HB.out
        clear HA HR
        cases hq : meet l with
        | none =>
          have HY : Hid (optW (meet l) = .tuple #[winV ⟨0, 0⟩, .bool false]) := by rw [hq]; rfl
          have hno : rb = false ∨ ab = false := by rw [← HRE.out, ← HAE.out]; exact unmet t hq
          clear hq
          go_wp2_with fail
          refine (gmeet_val A n c l _ (Recs.more HIW.out HB.out.size) ⟨0, 0⟩ false HY.out).mono ?_
          rintro e w2 ⟨rfl, hb2⟩
          have HB2 : Hid (Below wc.heap.size wc (w2.alloc (.cells #[.int .i64 0, .int .i64 0] 23))) := by
            have h1 := HB.out.trans (hb2.mono HB.out.size)
            exact h1.alloc h1.size _
          clear hb2
          cases rb with
          | false =>
            clear hno
            go_wp2_with fail
            refine (runs_any _).mono ?_
            rintro e w3 ⟨rfl, hb3⟩
            have HB3 : Hid (Below wc.heap.size wc w3) := HB2.out.trans (hb3.mono HB2.out.size)
            clear hb3
            go_wp2_with fail
            go_ret
            exact ⟨rfl, HB3.out⟩
          | true =>
            have hab : ab = false := by simpa using hno
            subst hab
            clear hno
            go_wp2_with fail
            refine (runs_any _).mono ?_
            rintro e w3 ⟨rfl, hb3⟩
            have HB3 : Hid (Below wc.heap.size wc w3) := HB2.out.trans (hb3.mono HB2.out.size)
            clear hb3
            go_wp2_with fail
            go_ret
            exact ⟨rfl, HB3.out⟩
        | some y =>
          have HY : Hid (optW (meet l) = .tuple #[winV y, .bool true]) := by rw [hq]; rfl
          obtain ⟨e1, e2, e3⟩ := met t hq
          rw [HRE.out] at e1
          rw [HAE.out] at e3
          subst e1
          have HE2 := Lib.hid e2
          have HE3 := Lib.hid e3
          clear hq e2 e3
          go_wp2_with fail
          refine (gmeet_val A n c l _ (Recs.more HIW.out HB.out.size) y true HY.out).mono ?_
          rintro e w2 ⟨rfl, hb2⟩
          have HB2 : Hid (Below wc.heap.size wc (w2.alloc (.cells #[.int .i64 y.fr, .int .i64 y.to] 23))) := by
            have h1 := HB.out.trans (hb2.mono HB.out.size)
            exact h1.alloc h1.size _
          have Y2 : Hid (BoxAt (w2.alloc (.cells #[.int .i64 y.fr, .int .i64 y.to] 23)) w2.heap.size y) := BoxAt.new w2 y
          clear hb2
          go_wp2_with fail
          refine (gright_val y _ true HE2.out).mono ?_
          rintro e w3 ⟨rfl, hb3⟩
          have HB3 : Hid (Below wc.heap.size wc w3) := HB2.out.trans (hb3.mono HB2.out.size)
          have Y3 := Lib.hid (Y2.out.below hb3)
          obtain ⟨p0, p1⟩ := Y3.out.cells
          clear hb3 HB2 Y2
          go_wp2_with fail
          refine (ghas_val y _ t ab HE3.out).mono ?_
          rintro e w4 ⟨rfl, hb4⟩
          have HB4 : Hid (Below wc.heap.size wc w4) := HB3.out.trans (hb4.mono HB3.out.size)
          clear hb4 HB3 Y3 p0 p1
          go_wp2_with fail
          refine (runs_any _).mono ?_
          rintro e w5 ⟨rfl, hb5⟩
          have HB5 : Hid (Below wc.heap.size wc w5) := HB4.out.trans (hb5.mono HB4.out.size)
          clear hb5
          go_wp2_with fail
          go_ret
          exact ⟨rfl, HB5.out⟩

#print axioms spanMembers_walk
#print axioms spanMeets_walk
end Go.Proofs.Ytglkphngddnieaa.Span
