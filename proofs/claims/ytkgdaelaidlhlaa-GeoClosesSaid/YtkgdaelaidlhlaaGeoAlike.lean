/-
  The statements' own helpers of chapter 4: both, alike.
-/
import Derived.Test.YtkgdaelaidlhlaaGeoRuns
import Derived.Test.YtkgdaelaidlhlaaIntsSame
namespace Go.Proofs.Ytkgdaelaidlhlaa.Geo
open Go.ChangeShapes Go.WideShapes Go.ChangeAt Go.RowKit Go.Proofs.Ytkgdaelaidlhlaa.Mem Go.Proofs.Ytkgdaelaidlhlaa.MemI Go.Proofs.Ytkgdaelaidlhlaa.GeoMath

/-- the program's map and the document's are there, side by side -/
def Pair (w : World) (bg br b r n : Nat) (l m : List Int) (u : World) : Prop := MapAt u 56 bg b n l ∧ MapAt u 60 br r n m ∧ Below w.heap.size w u
theorem Pair.drew {w u : World} {bg br b r n : Nat} {l m : List Int} (h : Pair w bg br b r n l m u) : Pair w bg br b r n l m u.drew := ⟨h.1.same fun _ _ _ => rfl, h.2.1.same fun _ _ _ => rfl, h.2.2.drew⟩
theorem Pair.drewN {w u : World} {bg br b r n : Nat} {l m : List Int} (h : Pair w bg br b r n l m u) (d : Nat) : Pair w bg br b r n l m (u.drewN d) := ⟨h.1.drewN d, h.2.1.drewN d, below_drewN h.2.2 d⟩
theorem Pair.keep {w u u' : World} {bg br b r n : Nat} {l m : List Int} (h : Pair w bg br b r n l m u) (hb : Below u.heap.size u u') : Pair w bg br b r n l m u' := ⟨h.1.keep hb (Nat.le_refl _), h.2.1.keep hb (Nat.le_refl _), h.2.2.trans (hb.mono h.2.2.size)⟩

theorem gtimes_row (base b n : Nat) (l : List Int) (w : World) (h : MapAt w 56 base b n l) (hn : n ≤ 12) (hn1 : 1 ≤ n) :
    Calls Try.prog 17 #[.pointer (some ⟨b, 0, none⟩)] w fun e w' => ∃ g c, e = .returned (.slice (some ⟨g, 0, none⟩) (n * n) c) ∧ n * n ≤ c ∧ Below w.heap.size w w' ∧ Own w' w.heap.size 3 (.slice (some ⟨g, 0, none⟩) (n * n) c) (n * n) (intsV l) := by
  refine (gtimes_any base b n l w h hn hn1).mono ?_
  rintro e w' ⟨v, rfl, hb, ho⟩
  obtain ⟨g, c, rfl, _, hc⟩ := ho.row (Nat.mul_pos hn1 hn1)
  exact ⟨g, c, rfl, hc, hb, ho⟩

section
variable (w : World) (bg br b r n : Nat) (l m : List Int) (u : World)
theorem places_pair (h : Pair w bg br b r n l m u) : Calls Try.prog 16 #[.pointer (some ⟨b, 0, none⟩)] u (Quietly u (.int .i64 n)) := gplaces_any bg b n l u h.1
theorem times_pair (h : Pair w bg br b r n l m u) (hn : n ≤ 12) (hn1 : 1 ≤ n) : Calls Try.prog 17 #[.pointer (some ⟨b, 0, none⟩)] u fun e w' => ∃ g c, e = .returned (.slice (some ⟨g, 0, none⟩) (n * n) c) ∧ Pair w bg br b r n l m w' ∧ Ints w' w'.heap.size (some ⟨g, 0, none⟩) (n * n) l := by
  refine (gtimes_row bg b n l u h.1 hn hn1).mono ?_
  rintro e w' ⟨g, c, rfl, _, hb, ho⟩
  exact ⟨g, c, rfl, h.keep hb, ho.reads⟩
end

set_option maxRecDepth 100000 in
set_option maxHeartbeats 2000000 in
theorem alike_yes (bg br b r n : Nat) (l : List Int) (w : World) (h : MapAt w 56 bg b n l) (h' : MapAt w 60 br r n l) (hn : n ≤ 12) (hn1 : 1 ≤ n) :
    Calls Try.prog 19 #[.pointer (some ⟨b, 0, none⟩), .pointer (some ⟨r, 0, none⟩)] w fun e w' => e = .returned (.bool true) ∧ Below w.heap.size w w' := by
  obtain ⟨g, c, hb, hbb, hcap, hown⟩ := h'
  have HP : Hid (Pair w bg br b r n l l w) := ⟨h, ⟨g, c, hb, hbb, hcap, hown⟩, Below.refl _ _⟩
  have hlt := hb.lt
  have hgl := (hown.range g rfl).2
  have HC : Hid (∀ u, Pair w bg br b r n l l u → u.cell? ⟨r, 0, none⟩ = some (.int .i64 n) ∧ u.cell? ⟨r, 1, none⟩ = some (.slice (some ⟨g, 0, none⟩) (n * n) c) ∧ Pair w bg br b r n l l u) := fun u hu =>
    ⟨(hu.2.2.cell (p := ⟨r, 0, none⟩) hlt).trans (hb.cell rfl), (hu.2.2.cell (p := ⟨r, 1, none⟩) hlt).trans (hb.cell rfl), hu⟩
  have HR : Hid (∀ u, Pair w bg br b r n l l u → Ints u w.heap.size (some ⟨g, 0, none⟩) (n * n) l) := fun u hu => Reads.keep (hown.reads) hu.2.2
  clear h hb hbb hown hlt hgl
  go_enter Try.func19, Try.ntmps19
  go_upto_region 1 with fail
  go_region_held3 (fun u => u.cell? ⟨r, 0, none⟩ = some (.int .i64 n) ∧ u.cell? ⟨r, 1, none⟩ = some (.slice (some ⟨g, 0, none⟩) (n * n) c) ∧ Pair w bg br b r n l l u)
    (first
      | exact HC.out _ HP.out.drew
      | exact HC.out _ (HP.out.drewN _)
      | exact HC.out _ HP1.out
      | exact HC.out _ (HP1.out.drewN _))
    (first
      | (go_at_call 16; (with_reducible refine (places_pair w bg br b r n l l _ (by first | assumption | exact HP.out.drew | exact HP1.out)).mono ?_); rintro e w' ⟨rfl, d, rfl⟩)
      | (go_at_call 17; (with_reducible refine (times_pair w bg br b r n l l _ (by first | assumption | exact HP.out.drew | exact HP.out.drewN _) hn hn1).mono ?_); rintro e w1 ⟨g1, c1, rfl, hp1, ho1⟩; have HP1 := Lib.hid hp1; have HO1 := Lib.hid ho1; clear hp1 ho1)
      | (go_at_call 23; (with_reducible refine (same_yes (some ⟨g1, 0, none⟩) (some ⟨g, 0, none⟩) _ _ _ _ l w1.heap.size w.heap.size _ (by first | exact HO1.out | exact Reads.drewN HO1.out _) (by first | exact HR.out _ HP1.out | exact HR.out _ (HP1.out.drewN _))).mono ?_); rintro e w' ⟨rfl, d2, rfl⟩))
  all_goals
    go_wp2_with fail
    go_ret
    exact ⟨rfl, by first | exact (HP1.out.drewN _).2.2 | exact HP1.out.2.2⟩

/-- what both leaves -/
def BothOk (w : World) (nn : Int) (xs : List Int) (e : Ending) (w' : World) : Prop :=
  Below w.heap.size w w' ∧ ((newE nn xs ≠ 0 ∧ e = .returned (.tuple #[.pointer none, .pointer none, .bool true])) ∨
    (newE nn xs = 0 ∧ ∃ b r n : Nat, nn = n ∧ e = .returned (.tuple #[.pointer (some ⟨b, 0, none⟩), .pointer (some ⟨r, 0, none⟩), .bool true]) ∧ MapAt w' 56 w.heap.size b n xs ∧ MapAt w' 60 w.heap.size r n xs))
theorem rnew_ok (n : Nat) (A : Option Addr) (k c : Nat) (xs : List Int) (w : World) (h : Ints w w.heap.size A k xs) (h0 : newE n xs = 0) :
    Calls Try.prog 14 #[.int .i64 n, .slice A k c] w fun e w' => ∃ b, e = .returned (.tuple #[.pointer (some ⟨b, 0, none⟩), .int .i64 0]) ∧ Below w.heap.size w w' ∧ MapAt w' 60 w.heap.size b n xs := by
  refine (rnew_any n A k c xs w h).mono ?_
  rintro e w' ⟨hb, ⟨h1, _⟩ | ⟨_, b, n', e1, rfl, hm⟩⟩
  · exact absurd h0 h1
  · have e2 : n' = n := by omega
    subst e2
    exact ⟨b, rfl, hb, hm⟩
theorem rnew_bad (nn v : Int) (A : Option Addr) (k c : Nat) (xs : List Int) (w : World) (h : Ints w w.heap.size A k xs) (hv : newE nn xs = v) (h0 : v ≠ 0) :
    Calls Try.prog 14 #[.int .i64 nn, .slice A k c] w fun e w' => e = .returned (.tuple #[.pointer none, .int .i64 v]) ∧ Below w.heap.size w w' := by
  refine (rnew_any nn A k c xs w h).mono ?_
  rintro e w' ⟨hb, ⟨_, rfl⟩ | ⟨h1, _⟩⟩
  · exact ⟨by rw [hv], hb⟩
  · rw [hv] at h1; exact absurd h1 h0
theorem newE_nat {nn : Int} {xs : List Int} (h : newE nn xs = 0) : ∃ n : Nat, nn = n := by
  unfold newE at h
  split at h
  · omega
  · rename_i h1; exact ⟨nn.toNat, by omega⟩

theorem both_any (nn : Int) (A : Option Addr) (k c : Nat) (xs : List Int) (w : World) (h : Ints w w.heap.size A k xs) :
    Calls Try.prog 20 #[.int .i64 nn, .slice A k c] w (BothOk w nn xs) := by
  have HI := Lib.hid h
  clear h
  by_cases h0 : newE nn xs = 0
  · obtain ⟨n, rfl⟩ := newE_nat h0
    have HE := Lib.hid h0
    clear h0
    go_enter Try.func20, Try.ntmps20
    go_wp2_with fail
    refine (gnew_ok n A k c xs _ HI.out HE.out).mono ?_
    rintro e w1 ⟨b, rfl, hb1, hm1⟩
    have HB1 := Lib.hid hb1
    have HM1 := Lib.hid hm1
    have HI1 : Hid (Ints w1 w.heap.size A k xs) := Reads.keep HI.out hb1
    clear hb1 hm1
    go_wp2_with fail
    refine (rnew_ok n A k c xs _ (Reads.more HI1.out HB1.out.size) HE.out).mono ?_
    rintro e w2 ⟨r, rfl, hb2, hm2⟩
    have HF : Hid (BothOk w n xs (.returned (.tuple #[.pointer (some ⟨b, 0, none⟩), .pointer (some ⟨r, 0, none⟩), .bool true])) w2) :=
      ⟨HB1.out.trans (hb2.mono HB1.out.size), .inr ⟨HE.out, b, r, n, rfl, rfl, HM1.out.keep hb2 (Nat.le_refl _), hm2.lower HB1.out.size⟩⟩
    clear hb2 hm2 HB1 HM1 HI1
    go_wp2_with fail
    go_ret3
    exact HF.out
  · obtain ⟨v, hv⟩ : ∃ v, newE nn xs = v := ⟨_, rfl⟩
    have hv0 : v ≠ 0 := by rw [← hv]; exact h0
    have HV := Lib.hid hv
    have HV0 := Lib.hid hv0
    have HE := Lib.hid h0
    clear h0 hv hv0
    go_enter Try.func20, Try.ntmps20
    go_wp2_with fail
    refine (gnew_bad nn v A k c xs _ HI.out HV.out HV0.out).mono ?_
    rintro e w1 ⟨rfl, hb1⟩
    have HB1 := Lib.hid hb1
    have HI1 : Hid (Ints w1 w.heap.size A k xs) := Reads.keep HI.out hb1
    clear hb1
    go_wp2_with fail
    refine (rnew_bad nn v A k c xs _ (Reads.more HI1.out HB1.out.size) HV.out HV0.out).mono ?_
    rintro e w2 ⟨rfl, hb2⟩
    have HF : Hid (BothOk w nn xs (.returned (.tuple #[.pointer none, .pointer none, .bool true])) w2) := ⟨HB1.out.trans (hb2.mono HB1.out.size), .inl ⟨HE.out, rfl⟩⟩
    clear hb2 HB1 HI1
    go_wp2_with fail
    go_ret3
    exact HF.out

#print axioms alike_yes
#print axioms both_any
end Go.Proofs.Ytkgdaelaidlhlaa.Geo
