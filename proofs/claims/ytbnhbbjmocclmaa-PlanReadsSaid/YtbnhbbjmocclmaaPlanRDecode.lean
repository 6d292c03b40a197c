/-
  The document's own answer to chapter 9, walked: Decode.
-/
import Derived.Test.YtbnhbbjmocclmaaPlanRTake
import Derived.Test.YtbnhbbjmocclmaaPlanRRight
namespace Go.Proofs.Ytbnhbbjmocclmaa.Plan
open Go.ChangeShapes Go.WideShapes Go.ChangeAt Go.RowKit Go.Proofs.Ytbnhbbjmocclmaa.Mem Go.Proofs.Ytbnhbbjmocclmaa.FleetMath Go.Proofs.Ytbnhbbjmocclmaa.PlanMath Go.Proofs.Ytbnhbbjmocclmaa.Rec Go.Proofs.Ytbnhbbjmocclmaa.WireMath Go.Proofs.Ytbnhbbjmocclmaa.Wire
set_option linter.unusedVariables false
set_option linter.unusedSimpArgs false

theorem QP.made {base : Nat} {w w' : World} {v : Value} {l : List RM} {p : List Rte} (h : QP base w' v l) (hb : Below w.heap.size w w') (hw : w.heap.size ≤ base) (hr : l.map (·.rt) = p) (hf : ∀ r ∈ l, r.n * 16 ≤ 140737488351232) : Made w w' v p :=
  ⟨l, ⟨hb, h.own.lower hw, fun r hm => ⟨(h.each r hm).1.lower hw, (h.each r hm).2⟩⟩, hr, hf⟩

set_option maxRecDepth 100000 in
set_option maxHeartbeats 4000000 in
theorem rdecode_any (A : Option Addr) (m c : Nat) (xs : List UInt8) (w : World) (hb : Bytes w w.heap.size A m xs) (hm : m ≤ 140737488355328) :
    Calls Try.prog 33 #[.slice A m c] w (fun e w' => ∃ v, e = .returned (.tuple #[v, .int .i64 (decodeP xs).2]) ∧ Made w w' v (decodeP xs).1) := by
  have HBY := Lib.hid hb
  clear hb
  obtain ⟨⟨ls, q⟩, hpl⟩ : ∃ r, rdPlan xs = r := ⟨_, rfl⟩
  have HPL := Lib.hid hpl
  obtain ⟨z, hz⟩ : ∃ y, (rdEnd xs q).1 = y := ⟨_, rfl⟩
  have HZ := Lib.hid hz
  have HD : Hid (decodeP xs = if z = 0 then (if rightP ls then (ls, 0) else ([], 4)) else ([], z)) := by
    show _ = _
    unfold decodeP
    rw [hpl]
    simp only
    rw [hz]
  clear hpl hz
  go_enter Try.func33, Try.ntmps33
  go_wp2_with fail
  refine (rread_any A m c xs _ (by exact HBY.out) hm).mono ?_
  rintro e w1 ⟨g, rfl, hge, hr1, hb1⟩
  have HG := Lib.hid hge
  have HR1 := Lib.hid hr1
  have HB1 := Lib.hid hb1
  clear hge hr1 hb1
  go_wp2_with fail
  refine (rtake_any g xs _ (by exact HR1.out)).mono ?_
  rintro e w2 ⟨v, l', rfl, hts, hrt⟩
  rw [HPL.out] at hts hrt
  simp only at hts hrt
  have HTS := Lib.hid hts
  have HRT := Lib.hid hrt
  have HGL := Lib.hid HR1.out.lt
  clear hts hrt HR1
  go_wp2_with fail
  refine (rend_any g xs q _ (by exact HTS.out.rd)).mono ?_
  rintro e w3 ⟨rfl, hr3, hs3⟩
  rw [HZ.out]
  have HQ3 := Lib.hid (HTS.out.plan.save hs3 HGL.out)
  have HB3 : Hid (Below w.heap.size w w3) := HB1.out.trans ((HTS.out.save.trans hs3).below.mono HG.out)
  have HFIT := Lib.hid HTS.out.fits
  have HBS := Lib.hid HB1.out.size
  clear hr3 hs3 HTS
  obtain ⟨A7, c7, rfl, _, hp7⟩ := HQ3.out.np.plns HFIT.out
  have HP7 := Lib.hid hp7
  clear hp7
  obtain ⟨n, hn⟩ : ∃ n, l'.length = n := ⟨_, rfl⟩
  rw [hn] at HQ3 HP7 ⊢
  clear hn
  by_cases h0 : z = 0
  · subst h0
    have hls := HRT.out (end_zero HZ.out).1
    have HLS := Lib.hid hls
    obtain ⟨rp, hrp⟩ : ∃ b, rightP ls = b := ⟨_, rfl⟩
    have HRP := Lib.hid hrp
    have hd := HD.out
    rw [if_pos rfl, hrp] at hd
    have HD2 := Lib.hid hd
    clear hls hrp hd HD HRT
    go_wp2_with fail
    refine (rright_any A7 n c7 l' _ (by exact HP7.out)).mono ?_
    rintro e w4 ⟨rfl, hb4⟩
    rw [HLS.out, HRP.out]
    have HB4 := Lib.hid (HB3.out.trans (hb4.mono HB3.out.size))
    have HQ4 := Lib.hid (HQ3.out.keep hb4)
    clear hb4 HQ3 HP7
    cases rp with
    | true =>
      go_wp2_with fail
      go_ret2
      rw [HD2.out]
      exact ⟨_, rfl, HQ4.out.made HB4.out HBS.out HLS.out HFIT.out⟩
    | false =>
      go_wp2_with fail
      go_ret2
      rw [HD2.out]
      exact ⟨_, rfl, made_nil HB4.out⟩
  · have hd := HD.out
    rw [if_neg h0] at hd
    have HD2 := Lib.hid hd
    have hz1 : (z == 0) = false := by simpa using h0
    have hz2 : (z != 0) = true := by simpa using h0
    clear hd HD h0 HRT
    go_wp2_with fail
    go_ret2
    rw [HD2.out]
    exact ⟨_, rfl, made_nil HB3.out⟩
#print axioms rdecode_any
end Go.Proofs.Ytbnhbbjmocclmaa.Plan
