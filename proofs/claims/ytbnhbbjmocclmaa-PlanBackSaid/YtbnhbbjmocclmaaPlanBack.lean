/-
  A right plan's bytes are read as it, and no other plan has bytes; what is read from any bytes is written as these: PlanBack, walked.
-/
import Derived.Test.YtbnhbbjmocclmaaPlanUse
namespace Go.Proofs.Ytbnhbbjmocclmaa.Plan
open Go.ChangeShapes Go.WideShapes Go.ChangeAt Go.RowKit Go.Proofs.Ytbnhbbjmocclmaa.Mem Go.Proofs.Ytbnhbbjmocclmaa.MemI Go.Proofs.Ytbnhbbjmocclmaa.FleetMath Go.Proofs.Ytbnhbbjmocclmaa.PlanMath Go.Proofs.Ytbnhbbjmocclmaa.Rec Go.Proofs.Ytbnhbbjmocclmaa.Frames
set_option linter.unusedVariables false
set_option linter.unusedSimpArgs false

set_option maxRecDepth 100000 in
set_option maxHeartbeats 4000000 in
theorem planBack_w (A : Option Addr) (n c : Nat) (l : List RM) (A2 : Option Addr) (n2 c2 : Nat) (xs : List UInt8) (W : World) (fp : PlnOk W A n c l) (hle : n2 ≤ c2) (hr : c2 ≤ 140737488351232) (hb : Bytes W W.heap.size A2 n2 xs) :
    Calls Try.prog 9 #[.slice A n c, .slice A2 n2 c2] W (fun e w' => e = .returned (.bool true) ∧ Below W.heap.size W w') := by
  have HP := Lib.hid fp.plns
  have HX := Lib.hid hb
  have HL : Hid (n = (l.map (·.rt)).length) := by rw [List.length_map]; exact fp.plns.length.symm
  have H0 : Hid (Below W.heap.size W W) := Below.refl _ _
  have hn2 : n2 ≤ 140737488355328 := by omega
  clear hb fp hr
  obtain ⟨bs, hbs⟩ : ∃ bs, encodeP (l.map (·.rt)) = bs := ⟨_, rfl⟩
  obtain ⟨⟨p, z⟩, hd⟩ : ∃ q, decodeP bs = q := ⟨_, rfl⟩
  obtain ⟨⟨p2, z2⟩, hd2⟩ : ∃ q, decodeP xs = q := ⟨_, rfl⟩
  obtain ⟨nb, hnb⟩ : ∃ nb, bs.length = nb := ⟨_, rfl⟩
  have hnb2 : nb ≤ 140737488355328 := by rw [← hnb, ← hbs]; have := encode_len (l.map (·.rt)); omega
  have HBS := Lib.hid hbs
  have HD := Lib.hid hd
  have HD2 := Lib.hid hd2
  have HNB := Lib.hid hnb
  clear hbs hd hd2 hnb
  go_enter Try.func9, Try.ntmps9
  go_wp2_with fail
  refine (use_encode W _ A n c l bs (by exact HP.out) (by exact H0.out) HBS.out).mono ?_
  rintro e w1 ⟨B1, k1, rfl, hb1, hw1, hx1⟩
  rw [HNB.out] at hx1 ⊢
  have H1 := Lib.hid hw1
  have HX1 := Lib.hid hx1
  clear hb1 hw1 hx1 H0
  go_wp2_with fail
  refine (use_decode W _ B1 nb k1 bs p z (by exact HX1.out) hnb2 (by exact H1.out) HD.out).mono ?_
  rintro e w2 ⟨B2, k2, l2, rfl, hb2, hw2, hp2, hl2⟩
  obtain ⟨np, hnp⟩ : ∃ np, p.length = np := ⟨_, rfl⟩
  rw [hnp] at hp2 ⊢
  have H2 := Lib.hid hw2
  have HP2 := Lib.hid hp2
  have HL2 := Lib.hid hl2
  have HNP := Lib.hid hnp
  clear hb2 hw2 hp2 hl2 hnp H1 HX1
  obtain ⟨rp, hrp⟩ : ∃ b, rightP (l.map (·.rt)) = b := ⟨_, rfl⟩
  have HRP := Lib.hid hrp
  clear hrp
  go_wp2_with fail
  refine (use_right W _ A n c l rp (by exact (HP.out.keep H2.out).more H2.out.size) (by exact H2.out) HRP.out).mono ?_
  rintro e w3 ⟨rfl, hb3, hw3⟩
  have H3 := Lib.hid hw3
  have HP3 := Lib.hid (HP2.out.next hb3)
  clear hb3 hw3 H2 HP2
  have key : Hid (rp = true → p = l.map (·.rt) ∧ z = 0 ∧ 0 < nb ∧ np = n) ∧ Hid (rp = false → nb = 0) := by
    refine ⟨fun hrp => ?_, fun hrp => ?_⟩
    · subst hrp
      have e1 := decode_encode HRP.out
      rw [HBS.out, HD.out] at e1
      injection e1 with e1 e2
      refine ⟨e1, e2, ?_, by rw [← HNP.out, e1, HL.out]⟩
      rw [← HNB.out, ← HBS.out]
      unfold encodeP
      rw [if_pos HRP.out]
      exact encP_ne _
    · subst hrp
      rw [← HNB.out, ← HBS.out]
      unfold encodeP
      rw [if_neg (by rw [HRP.out]; decide)]
      rfl
  have HXL : Hid (xs.length = n2) := Bytes.length HX.out
  cases rp with
  | true =>
    obtain ⟨e1, e2, e3, e4⟩ := key.1.out rfl
    subst e2 e4
    have hne : ((nb : Int) == 0) = false := by simp; omega
    have HE : Hid (l2.map (·.rt) = l.map (·.rt)) := by rw [HL2.out, e1]; exact rfl
    clear e1 e3 key
    go_wp2_with fail
    refine (use_routes W _ A B2 np c k2 l l2 _ _ (by exact HP.out.keep H3.out) (by exact HP3.out) HE.out.symm (by exact H3.out)).mono ?_
    rintro e w4 ⟨rfl, hb4, hw4⟩
    have H4 := Lib.hid hw4
    clear hb4 hw4 H3 HP3 HE
    go_wp2_with fail
    refine (use_decode W _ A2 n2 c2 xs p2 z2 (by exact (Reads.keep HX.out H4.out).more H4.out.size) hn2 (by exact H4.out) HD2.out).mono ?_
    rintro e w5 ⟨B5, k5, l5, rfl, hb5, hw5, hp5, hl5⟩
    obtain ⟨nq, hnq⟩ : ∃ nq, p2.length = nq := ⟨_, rfl⟩
    rw [hnq] at hp5 ⊢
    have H5 := Lib.hid hw5
    have HP5 := Lib.hid hp5
    have HL5 := Lib.hid hl5
    have HNQ := Lib.hid hnq
    clear hb5 hw5 hp5 hl5 hnq H4
    by_cases hz : z2 = 0
    · subst hz
      have hq := encode_decode (xs := xs) (by rw [HD2.out])
      rw [HD2.out, ← HL5.out] at hq
      have HQ := Lib.hid hq
      clear hq
      go_wp2_with fail
      refine (use_right W _ B5 nq k5 l5 true (by exact HP5.out) (by exact H5.out) HQ.out.1).mono ?_
      rintro e w6 ⟨rfl, hb6, hw6⟩
      have H6 := Lib.hid hw6
      have HP6 := Lib.hid (HP5.out.next hb6)
      clear hb6 hw6 H5 HP5
      go_wp2_with fail
      refine (use_encode W _ B5 nq k5 l5 xs (by exact HP6.out) (by exact H6.out) HQ.out.2).mono ?_
      rintro e w7 ⟨B7, k7, rfl, hb7, hw7, hx7⟩
      rw [HXL.out] at hx7 ⊢
      have H7 := Lib.hid hw7
      have HX7 := Lib.hid hx7
      clear hb7 hw7 hx7 H6 HP6
      go_wp2_with fail
      refine (use_bytes W _ B7 A2 n2 k7 c2 xs _ _ (by exact HX7.out) (by exact Reads.keep HX.out H7.out) (by exact H7.out)).mono ?_
      rintro e w8 ⟨rfl, hb8, hw8⟩
      have H8 := Lib.hid hw8
      clear hb8 hw8 H7 HX7
      go_wp2_with fail
      refine (use_runs W _ (by exact H8.out)).mono ?_
      rintro e w9 ⟨rfl, hw9⟩
      have H9 := Lib.hid hw9
      clear hw9 H8
      go_wp2
      go_ret
      exact ⟨rfl, H9.out⟩
    · have h0 : nq = 0 := by
        have := decode_none (xs := xs) (by rw [HD2.out]; exact hz)
        rw [HD2.out] at this
        rw [← HNQ.out, show p2 = [] from this]
        rfl
      subst h0
      have hz1 : (z2 == 0) = false := by simpa using hz
      have hz2 : (z2 != 0) = true := by simpa using hz
      clear hz
      go_wp2_with fail
      refine (use_runs W _ (by exact H5.out)).mono ?_
      rintro e w9 ⟨rfl, hw9⟩
      have H9 := Lib.hid hw9
      clear hw9 H5
      go_wp2
      go_ret
      exact ⟨rfl, H9.out⟩
  | false =>
    have e3 := key.2.out rfl
    subst e3
    clear key HP3
    obtain ⟨w4, rfl⟩ : ∃ w, w = w3 := ⟨_, rfl⟩
    have H4 := H3
    clear H3
    go_wp2_with fail
    refine (use_decode W _ A2 n2 c2 xs p2 z2 (by exact (Reads.keep HX.out H4.out).more H4.out.size) hn2 (by exact H4.out) HD2.out).mono ?_
    rintro e w5 ⟨B5, k5, l5, rfl, hb5, hw5, hp5, hl5⟩
    obtain ⟨nq, hnq⟩ : ∃ nq, p2.length = nq := ⟨_, rfl⟩
    rw [hnq] at hp5 ⊢
    have H5 := Lib.hid hw5
    have HP5 := Lib.hid hp5
    have HL5 := Lib.hid hl5
    have HNQ := Lib.hid hnq
    clear hb5 hw5 hp5 hl5 hnq H4
    by_cases hz : z2 = 0
    · subst hz
      have hq := encode_decode (xs := xs) (by rw [HD2.out])
      rw [HD2.out, ← HL5.out] at hq
      have HQ := Lib.hid hq
      clear hq
      go_wp2_with fail
      refine (use_right W _ B5 nq k5 l5 true (by exact HP5.out) (by exact H5.out) HQ.out.1).mono ?_
      rintro e w6 ⟨rfl, hb6, hw6⟩
      have H6 := Lib.hid hw6
      have HP6 := Lib.hid (HP5.out.next hb6)
      clear hb6 hw6 H5 HP5
      go_wp2_with fail
      refine (use_encode W _ B5 nq k5 l5 xs (by exact HP6.out) (by exact H6.out) HQ.out.2).mono ?_
      rintro e w7 ⟨B7, k7, rfl, hb7, hw7, hx7⟩
      rw [HXL.out] at hx7 ⊢
      have H7 := Lib.hid hw7
      have HX7 := Lib.hid hx7
      clear hb7 hw7 hx7 H6 HP6
      go_wp2_with fail
      refine (use_bytes W _ B7 A2 n2 k7 c2 xs _ _ (by exact HX7.out) (by exact Reads.keep HX.out H7.out) (by exact H7.out)).mono ?_
      rintro e w8 ⟨rfl, hb8, hw8⟩
      have H8 := Lib.hid hw8
      clear hb8 hw8 H7 HX7
      go_wp2_with fail
      refine (use_runs W _ (by exact H8.out)).mono ?_
      rintro e w9 ⟨rfl, hw9⟩
      have H9 := Lib.hid hw9
      clear hw9 H8
      go_wp2
      go_ret
      exact ⟨rfl, H9.out⟩
    · have h0 : nq = 0 := by
        have := decode_none (xs := xs) (by rw [HD2.out]; exact hz)
        rw [HD2.out] at this
        rw [← HNQ.out, show p2 = [] from this]
        rfl
      subst h0
      have hz1 : (z2 == 0) = false := by simpa using hz
      have hz2 : (z2 != 0) = true := by simpa using hz
      clear hz
      go_wp2_with fail
      refine (use_runs W _ (by exact H5.out)).mono ?_
      rintro e w9 ⟨rfl, hw9⟩
      have H9 := Lib.hid hw9
      clear hw9 H5
      go_wp2
      go_ret
      exact ⟨rfl, H9.out⟩
#print axioms planBack_w
end Go.Proofs.Ytbnhbbjmocclmaa.Plan
