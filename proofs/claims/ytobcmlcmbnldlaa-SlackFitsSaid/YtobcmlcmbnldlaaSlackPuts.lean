/-
  SlackPuts walked.
-/
import Derived.Test.YtobcmlcmbnldlaaSlackRuns
import Derived.Test.YtobcmlcmbnldlaaLibRows
namespace Go.Proofs.Ytobcmlcmbnldlaa.Slack
open Go.ChangeShapes Go.WideShapes Go.ChangeAt Go.RowKit Go.Proofs.Ytobcmlcmbnldlaa.Mem Go.Proofs.Ytobcmlcmbnldlaa.GeoMath Go.Proofs.Ytobcmlcmbnldlaa.FleetMath Go.Proofs.Ytobcmlcmbnldlaa.Rec Go.Proofs.Ytobcmlcmbnldlaa.Geo Go.Proofs.Ytobcmlcmbnldlaa.Span Go.Proofs.Ytobcmlcmbnldlaa.Deal Go.Proofs.Ytobcmlcmbnldlaa.Keep Go.Proofs.Ytobcmlcmbnldlaa.Route
set_option linter.unusedVariables false

/-- the stops that came in, and the copy of them with marks behind -/
structure PK (W : World) (A : Option Addr) (n : Nat) (stops : List Stp) (g : Nat) (u : World) : Prop where
  old : Below W.heap.size W u
  st0 : Stps W W.heap.size A n stops
  blk : Blk u g 35 (stpsV (stops ++ List.replicate 80 mkS))
section
variable {W u u' : World} {A : Option Addr} {n g : Nat} {stops : List Stp}
theorem PK.below {B : Nat} (h : PK W A n stops g u) (hb : Below B u u') (h1 : W.heap.size ≤ B) (h2 : g < B) : PK W A n stops g u' := ⟨h.old.trans (hb.mono h1), h.st0, h.blk.below hb h2⟩
theorem PK.next (h : PK W A n stops g u) (hb : Below u.heap.size u u') : PK W A n stops g u' := h.below hb h.old.size h.blk.lt
theorem PK.stps (h : PK W A n stops g u) : Stps u u.heap.size A n stops := Recs.more (Recs.keep h.st0 h.old) h.old.size
end
theorem gput_v (A : Option Addr) (n c : Nat) (stops : List Stp) (o i j : Int) (l : List Stp) (w : World) (hs : Stps w w.heap.size A n stops) (hcc : n ≤ c) (hr : n * 16 ≤ 140737488351232) (hl : putR stops o i j = l) :
    Calls Try.prog 12 #[.slice A n c, .int .i64 o, .int .i64 i, .int .i64 j] w fun e w' => ∃ B c2, e = .returned (.slice B l.length c2) ∧ Below w.heap.size w w' ∧ Hid (OwnK w' w.heap.size 35 2 (.slice B l.length c2) l.length (stpsV l)) := by
  refine (gput_any A n c stops o i j w hs hcc hr).mono ?_
  rintro e w' ⟨v, rfl, hb, ho⟩
  rw [hl] at ho
  obtain ⟨B, c2, rfl, _, _⟩ := ho.read
  exact ⟨B, c2, rfl, hb, ho⟩

set_option maxRecDepth 100000 in
set_option maxHeartbeats 4000000 in
theorem slackPuts_walk (A : Option Addr) (n c : Nat) (stops : List Stp) (o i j : Int) (W : World) (hst : Stps W W.heap.size A n stops) (hc : n ≤ c) (hr : n * 16 ≤ 140737488351232) :
    Calls Try.prog 5 #[.slice A n c, .int .i64 o, .int .i64 i, .int .i64 j] W fun e w' => e = .returned (.bool true) ∧ Below W.heap.size W w' := by
  have HST := Lib.hid hst
  have HL := Lib.hid hst.length
  have hnm : n ≤ 9223372036854775807 := by omega
  have hmx : n ≤ maxLen := by unfold maxLen; omega
  clear hst
  go_enter Try.func5, Try.ntmps5
  go_wp2_with fail
  refine (roomyStp A n c stops W mkS HST.out hr).mono ?_
  rintro e w2 ⟨rfl, hb2, hf2⟩
  obtain ⟨g, hg⟩ : ∃ x, W.heap.size + 1 = x := ⟨_, rfl⟩
  rw [hg] at hf2 ⊢
  have K2 : Hid (PK W A n stops g w2) := ⟨hb2, HST.out, hf2⟩
  clear hb2 hf2 hg HST
  have hi2 : (0 : Int) ≤ (n : Int) := by omega
  have hi3 : (n : Int) ≤ (n : Int) + 80 := by omega
  obtain ⟨l, hl⟩ : ∃ l, putR stops o i j = l := ⟨_, rfl⟩
  have HPL := Lib.hid hl
  clear hl
  go_wp2_with fail
  refine (gput_v _ n _ stops o i j l _ (frontStp K2.out.blk HL.out hmx) (by omega) hr HPL.out).mono ?_
  rintro e w3 ⟨B3, c3, rfl, hb3, HO3⟩
  have K3 := Lib.hid (K2.out.next hb3)
  have HS23 := Lib.hid hb3.size
  have HW2 := Lib.hid K2.out.old.size
  have HG2 := Lib.hid K2.out.blk.lt
  clear hb3 K2
  by_cases hok : 0 ≤ i ∧ i ≤ j ∧ j ≤ (n : Int)
  case neg =>
    have hl0 : l = [] := by rw [← HPL.out]; exact putR_no (by rw [HL.out]; exact hok)
    subst hl0
    simp only [List.length_nil]
    clear HPL HO3
    go_upto_region 3 with fail
    go_cut [35] (fun b wx => b = .bool true ∧ wx = w3)
    case first =>
      by_cases h1 : i < 0
      · go_wp2_with fail
        go_meet
        exact ⟨rfl, rfl⟩
      by_cases h2 : j < i
      · go_wp2_with fail
        go_meet
        exact ⟨rfl, rfl⟩
      have h3 : (n : Int) < j := by omega
      clear hok
      go_wp2_with fail
      go_meet
      exact ⟨rfl, rfl⟩
    case rest =>
    obtain ⟨rfl, rfl⟩ := hcut
    clear hok
    go_wp2_with fail
    refine (intactStp A g n c stops W.heap.size mkS _ (by exact Recs.keep K3.out.st0 K3.out.old) (by omega) (by exact K3.out.blk) (by exact K3.out.old.size)).mono ?_
    rintro e w4 ⟨rfl, hb4⟩
    have K4 := Lib.hid (K3.out.next hb4)
    clear hb4 K3
    go_wp2_with fail
    refine (runs_any _).mono ?_
    rintro e w5 ⟨rfl, hb⟩
    have LZ : Hid (Below W.heap.size W w5) := K4.out.old.trans (hb.mono K4.out.old.size)
    clear hb
    go_wp2_with fail
    go_ret
    exact ⟨rfl, LZ.out⟩
  obtain ⟨hk0, hk1, hk2⟩ := hok
  obtain ⟨i, rfl⟩ : ∃ x : Nat, i = x := ⟨i.toNat, by omega⟩
  obtain ⟨j, rfl⟩ : ∃ x : Nat, j = x := ⟨j.toNat, by omega⟩
  have hij : i ≤ j := by omega
  have hjn : j ≤ n := by omega
  have HPM : Hid (putM stops o i j = l ∧ l.length = n + 2) := by
    have h1 := putR_nat (l := stops) (o := o) hij (by rw [HL.out]; exact hjn)
    have h2 := putM_len (l := stops) (o := o) hij (by rw [HL.out]; exact hjn)
    rw [HPL.out] at h1
    rw [← h1, HL.out] at h2
    exact ⟨h1.symm, h2⟩
  clear HPL
  go_wp2_with fail
  refine (rput_any A n c stops o i j _ (by exact K3.out.stps) hij hjn hr).mono ?_
  rintro e w4 ⟨v4, rfl, hb4, ho4⟩
  rw [HPM.out.1, ← HPM.out.2] at ho4
  obtain ⟨B4, c4, rfl, _, hr4⟩ := ho4.read
  have K4 := Lib.hid (K3.out.next hb4)
  have HO4 := Lib.hid (HO3.out.keep hb4 (Nat.le_refl _))
  have HR4 := Lib.hid hr4
  have HB4 := Lib.hid hb4
  clear hb4 ho4 hr4 K3
  go_wp2_with fail
  refine (sameStp B3 B4 l.length c3 c4 l _ _ _ (by exact HO4.out.read' rfl) (by exact HR4.out)).mono ?_
  rintro e w5 ⟨rfl, dn, hw5⟩
  have K5 : Hid (PK W A n stops g w5) := by rw [hw5]; exact K4.out.next (below_drewN (Below.refl _ _) _)
  have HB5 : Hid (Below w3.heap.size w3 w5) := by rw [hw5]; exact below_drewN HB4.out _
  have T0 : Hid (Turns w5 w2.heap.size w3.heap.size B3 l.length 2 35 w5) := Turns.start HO3.out HB5.out
  have hlm : l.length ≤ 9223372036854775807 := by rw [HPM.out.2]; omega
  clear hw5 K4 HO4 HR4 HB4 HO3
  go_wp2_with fail
  go_loopw [11] (fun iv wr => ∃ k : Nat, k ≤ l.length ∧ iv = .int .i64 k ∧ Hid (Turns w5 w2.heap.size w3.heap.size B3 l.length 2 35 wr)) (fun iv _ => l.length - (intOf iv).toNat)
  case atStart => exact ⟨0, Nat.zero_le _, rfl, T0⟩
  case round =>
    clear T0
    obtain ⟨k, hk, rfl, HT⟩ := hrel
    by_cases hlt : k < l.length
    · obtain ⟨g3, rfl, hg1, hg2, hall⟩ := HT.out.at_ hlt
      obtain ⟨⟨x0, y0⟩, z0⟩ := hall 0 (by omega)
      obtain ⟨⟨x1, y1⟩, z1⟩ := hall 1 (by omega)
      simp only [Nat.add_zero] at y0 z0
      have HG := Lib.hid (And.intro hg1 hg2)
      clear hall hg1 hg2
      go_wp2_with fail
      go_roundw
      case rel => exact ⟨k + 1, by omega, by go_num, (HT.out.set HG.out.1 HG.out.2 _ _).set HG.out.1 HG.out.2 _ _⟩
      case measure => simp [intOf]; omega
    · have KZ : Hid (PK W A n stops g wr) := K5.out.below HT.out.below HW2.out HG2.out
      clear HT K5
      go_wp2_with fail
      refine (intactStp A g n c stops W.heap.size mkS _ (by exact Recs.keep KZ.out.st0 KZ.out.old) (by omega) (by exact KZ.out.blk) (by exact KZ.out.old.size)).mono ?_
      rintro e w6 ⟨rfl, hb6⟩
      have K6 := Lib.hid (KZ.out.next hb6)
      clear hb6 KZ
      go_wp2_with fail
      refine (runs_any _).mono ?_
      rintro e w7 ⟨rfl, hb⟩
      have LZ : Hid (Below W.heap.size W w7) := K6.out.old.trans (hb.mono K6.out.old.size)
      clear hb
      go_wp2_with fail
      go_ret
      exact ⟨rfl, LZ.out⟩

#print axioms slackPuts_walk
end Go.Proofs.Ytobcmlcmbnldlaa.Slack
