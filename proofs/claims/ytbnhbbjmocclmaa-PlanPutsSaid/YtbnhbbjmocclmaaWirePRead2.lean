/-
  The program's reader, walked: Count, Flag, End.
-/
import Derived.Test.YtbnhbbjmocclmaaWirePRead
namespace Go.Proofs.Ytbnhbbjmocclmaa.Wire
open Go.ChangeShapes Go.WideShapes Go.ChangeAt Go.RowKit Go.Proofs.Ytbnhbbjmocclmaa.Mem Go.Proofs.Ytbnhbbjmocclmaa.WireMath
set_option linter.unusedVariables false

theorem op_eqn {o : Oper} {a : Act} {u : World} {x y : Operand} {m n : Nat} {b : Bool} {T : TypeId} (h : o.op = .binOp .eql 3 x y T) (hp : a.eval x = .int .i64 (m : Int)) (hq : a.eval y = .int .i64 (n : Int)) (hb : ((m : Int) == (n : Int)) = b) : (execOp a.eval o).run Try.prog u = .ok (.value (.bool b)) u := by
  subst hb
  obtain ⟨ρ, hρ⟩ : ∃ ρ, a.eval = ρ := ⟨_, rfl⟩
  rw [hρ] at hp hq ⊢
  unfold execOp
  rw [h]
  simp [go_sem, hp, hq]
theorem run_ld_f {u : World} {g : Nat} {k e : Int} (h0 : u.cell? ⟨g, 0, none⟩ = some (.int .i64 k)) (h1 : u.cell? ⟨g, 1, none⟩ = some (.int .i64 e)) : (Instr.loadAt 95 (.pointer (some ⟨g, 0, none⟩))).run Try.prog u = .ok (fltV k e) u := by
  simp [go_sem, h0, h1]

set_option maxRecDepth 100000 in
set_option maxHeartbeats 1000000 in
theorem pcount_any (g : Nat) (xs : List UInt8) (r : Rd) (most : Int) (w : World) (h : RProg w g xs r) :
    Calls Try.prog 45 #[.pointer (some ⟨g, 0, none⟩), .int .i64 most] w (fun en w' => en = .returned (.int .i64 (rdCount xs most r).1) ∧ RProg w' g xs (rdCount xs most r).2 ∧ Save g w w') := by
  have HR0 := Lib.hid h
  obtain ⟨⟨A, c, hb, hy, hc⟩, hle, hmx⟩ := h
  obtain ⟨c0, c1, c2, c3⟩ := hb.cells4
  have HBK0 := Lib.hid hb
  have HBY0 := Lib.hid hy
  have HCC := Lib.hid hc
  clear hb hy hc hle hmx
  go_enter Try.func45, Try.ntmps45
  go_wp2_with fail
  refine (pnumr_any g xs r w HR0.out).mono ?_
  rintro en w1 ⟨rfl, hr1, hs1⟩
  obtain ⟨⟨v, r1⟩, hrd⟩ : ∃ p, rdNum xs r = p := ⟨_, rfl⟩
  rw [hrd] at hr1 ⊢
  simp only at hr1 ⊢
  have HRD := Lib.hid hrd
  have HR1 := Lib.hid hr1
  have HS1 := Lib.hid hs1
  obtain ⟨⟨A1, k1, hb1, _, _⟩, _, _⟩ := hr1
  clear c0 c1 c2 c3 hs1 hrd
  obtain ⟨c0, c1, c2, c3⟩ := hb1.cells4
  clear hb1
  go_wp2_with fail
  refine (pgood_any (r1.at_ : Int) r1.why w1).mono ?_
  rintro en w2 ⟨rfl, hb2⟩
  have HR2 := Lib.hid (HR1.out.below hb2)
  have HS2 := Lib.hid (HS1.out.next hb2 (Nat.le_of_lt HR1.out.lt))
  clear hb2 c0 c1 c2 c3
  by_cases hw : r1.why = 0
  case neg =>
    have HZ : Hid (rdCount xs most r = (0, r1)) := by
      show _ = _
      have h := HRD.out
      unfold rdNum at h
      unfold rdCount getC
      split at h
      · rename_i h0
        rw [if_pos h0]
        cases hg : getN (xs.drop r.next) with
        | ok p => rw [hg] at h; injection h with _ h; rw [← h] at hw; exact absurd rfl hw
        | error e => rw [hg] at h; injection h with _ h; rw [← h]
      · rename_i h0
        rw [if_neg h0]
        injection h with _ h
        rw [h]
    have e1 : (r1.why == 0) = false := by simpa using hw
    clear hw
    go_wp2_with fail
    go_ret
    rw [HZ.out]
    exact ⟨rfl, HR2.out, HS2.out⟩
  have e1 : (r1.why == 0) = true := by simpa using hw
  have HZ : Hid (rdCount xs most r = if v < 0 ∨ most < v then (0, ⟨r.next, r.next, 2⟩) else (v, r1)) := by
    show _ = _
    have h := HRD.out
    unfold rdNum at h
    unfold rdCount getC
    split at h
    · rename_i h0
      rw [if_pos h0]
      cases hg : getN (xs.drop r.next) with
      | ok p =>
        obtain ⟨v', k'⟩ := p
        rw [hg] at h
        injection h with h1 h2
        subst h1
        rw [← h2]
        by_cases hc : v' < 0 ∨ most < v'
        · simp only [if_pos hc]
        · simp only [if_neg hc]
      | error e =>
        rw [hg] at h
        injection h with _ h
        rw [← h] at hw
        have := getN_err hg
        simp only at hw
        omega
    · rename_i h0
      injection h with _ h
      rw [← h] at hw
      exact absurd hw h0
  clear hw
  by_cases h1 : v < 0
  · rw [if_pos (.inl h1)] at HZ
    go_wp2_with fail
    refine (pfail_any g xs r1 r.next 2 w2 HR2.out HR0.out.le).mono ?_
    rintro en w3 ⟨rfl, hr3, hs3⟩
    have HR3 := Lib.hid hr3
    have HS3 := Lib.hid (HS2.out.trans hs3)
    clear hr3 hs3
    go_wp2_with fail
    go_ret
    rw [HZ.out]
    exact ⟨rfl, HR3.out, HS3.out⟩
  by_cases h2 : most < v
  · rw [if_pos (.inr h2)] at HZ
    go_wp2_with fail
    refine (pfail_any g xs r1 r.next 2 w2 HR2.out HR0.out.le).mono ?_
    rintro en w3 ⟨rfl, hr3, hs3⟩
    have HR3 := Lib.hid hr3
    have HS3 := Lib.hid (HS2.out.trans hs3)
    clear hr3 hs3
    go_wp2_with fail
    go_ret
    rw [HZ.out]
    exact ⟨rfl, HR3.out, HS3.out⟩
  · rw [if_neg (by omega)] at HZ
    go_wp2_with fail
    go_ret
    rw [HZ.out]
    exact ⟨rfl, HR2.out, HS2.out⟩

set_option maxRecDepth 100000 in
set_option maxHeartbeats 1000000 in
theorem pflagr_any (g : Nat) (xs : List UInt8) (r : Rd) (w : World) (h : RProg w g xs r) :
    Calls Try.prog 69 #[.pointer (some ⟨g, 0, none⟩)] w (fun en w' => en = .returned (.bool (rdFlag xs r).1) ∧ RProg w' g xs (rdFlag xs r).2 ∧ Save g w w') := by
  have HR0 := Lib.hid h
  obtain ⟨⟨A, c, hb, hy, hc⟩, hle, hmx⟩ := h
  obtain ⟨c0, c1, c2, c3⟩ := hb.cells4
  have HBK0 := Lib.hid hb
  have HBY0 := Lib.hid hy
  have HCC := Lib.hid hc
  clear hb hy hc hle hmx
  go_enter Try.func69, Try.ntmps69
  go_wp2_with fail
  refine (pgood_any (r.at_ : Int) r.why w).mono ?_
  rintro en w0 ⟨rfl, hb0⟩
  have HR := Lib.hid (HR0.out.below hb0)
  have HBK := Lib.hid (HBK0.out.below hb0 HBK0.out.lt)
  have HBY : Hid (Bytes w0 g A xs.length xs) := Reads.keep HBY0.out (hb0.mono (Nat.le_of_lt HBK0.out.lt))
  have HS := Lib.hid (Save.of hb0 (Nat.le_of_lt HBK0.out.lt))
  clear hb0 c0 c1 c2 c3 HR0 HBK0 HBY0
  by_cases hw : r.why = 0
  case neg =>
    have HZ : Hid (rdFlag xs r = (false, r)) := by show _ = _; unfold rdFlag; rw [if_neg hw]
    have e1 : (r.why == 0) = false := by simpa using hw
    clear hw
    go_wp2_with fail
    go_ret
    rw [HZ.out]
    exact ⟨rfl, HR.out, HS.out⟩
  have e1 : (r.why == 0) = true := by simpa using hw
  have HW0 := Lib.hid hw
  obtain ⟨gb, hgb⟩ : ∃ b, ((r.next : Int) == (xs.length : Int)) = b := ⟨_, rfl⟩
  have HGB := Lib.hid hgb
  clear hgb
  go_upto_region 3 with fail
  go_cut [19] (fun v wx => v = .bool gb ∧ Hid (Below w0.heap.size w0 wx))
  case first =>
    refine wp_region_steps (valRF [10, 11, 12, 13, 14, 15, 16, 17, 18, 19] [.pointer (some ⟨g, 0, none⟩), .pointer (some ⟨g, 0, none⟩), .pointer (some ⟨g, 3, none⟩), .int .i64 (r.next : Int), .pointer (some ⟨g, 0, none⟩), .pointer (some ⟨g, 0, none⟩), .pointer (some ⟨g, 2, none⟩), .slice A xs.length c, .int .i64 (xs.length : Int), .bool gb]) (by kernel_rfl) (by kernel_rfl) (by kernel_rfl) (fun _ _ => rfl) (by kernel_rfl) valRF.mon ?_ ?_
    · refine ⟨?_, ?_, ?_, ?_, ?_, ?_, ?_, ?_, ?_, ?_, trivial⟩
      · exact valRF.pureStep rfl 10 rfl rfl (by simp) _ rfl fun listed a u D hI hr hn => exec_move (.inl rfl) (hI.out 0 (by kernel_rfl))
      · exact valRF.pureStep rfl 11 rfl rfl (by simp) _ rfl fun listed a u D hI hr hn => op_nil rfl (valRF.val hI hr hn 0 (by kernel_rfl) rfl rfl)
      · exact valRF.pureStep rfl 12 rfl rfl (by simp) _ rfl fun listed a u D hI hr hn => op_field rfl (valRF.val hI hr hn 1 (by kernel_rfl) rfl rfl) (by simp [go_sem])
      · exact valRF.pureStep rfl 13 rfl rfl (by simp) _ rfl fun listed a u D hI hr hn => exec_load rfl (valRF.val hI hr hn 2 (by kernel_rfl) rfl rfl) (run_ld_i (HBK.out.below (below_d hI.old) HBK.out.lt).cells4.2.2.2)
      · exact valRF.pureStep rfl 14 rfl rfl (by simp) _ rfl fun listed a u D hI hr hn => exec_move (.inl rfl) (hI.out 0 (by kernel_rfl))
      · exact valRF.pureStep rfl 15 rfl rfl (by simp) _ rfl fun listed a u D hI hr hn => op_nil rfl (valRF.val hI hr hn 4 (by kernel_rfl) rfl rfl)
      · exact valRF.pureStep rfl 16 rfl rfl (by simp) _ rfl fun listed a u D hI hr hn => op_field rfl (valRF.val hI hr hn 5 (by kernel_rfl) rfl rfl) (by simp [go_sem])
      · exact valRF.pureStep rfl 17 rfl rfl (by simp) _ rfl fun listed a u D hI hr hn => exec_load rfl (valRF.val hI hr hn 6 (by kernel_rfl) rfl rfl) (run_ld_sl (HBK.out.below (below_d hI.old) HBK.out.lt).cells4.2.2.1)
      · exact valRF.pureStep rfl 18 rfl rfl (by simp) _ rfl fun listed a u D hI hr hn => op_len rfl (valRF.val hI hr hn 7 (by kernel_rfl) rfl rfl)
      · exact valRF.pureStep rfl 19 rfl rfl (by simp) _ rfl fun listed a u D hI hr hn => op_eqn rfl (valRF.val hI hr hn 3 (by kernel_rfl) rfl rfl) (valRF.val hI hr hn 8 (by kernel_rfl) rfl rfl) HGB.out
    · intro listed a u D hI hall
      have eR0 : a.tmps.getD 19 undef = .bool gb := (hI.fact 9 ⟨hall 9 (by simp), fun k hk => by cases hk⟩).1
      have hold := below_d hI.old
      have hl := hI.fill [10, 11, 12, 13, 14, 15, 16, 17, 18, 19] (by kernel_rfl)
      clear hI hall
      obtain ⟨σ, hσ⟩ : ∃ σ : Nat → Value, ∀ t, a.tmps.getD t undef = σ t := ⟨_, fun _ => rfl⟩
      simp only [hσ] at hl eR0
      clear hσ
      simp only [List.foldl_cons, List.foldl_nil, List.setIfInBounds_toArray, List.set_cons_zero, List.set_cons_succ, eR0] at hl
      subst hl
      go_wp2_with fail
      go_meet
      exact ⟨rfl, hold⟩
  case rest =>
  obtain ⟨rfl, HB⟩ := hcut
  obtain ⟨w1, rfl⟩ : ∃ u, u = wc := ⟨_, rfl⟩
  have HR1 := Lib.hid (HR.out.below HB.out)
  have HS1 := Lib.hid (HS.out.next HB.out (Nat.le_of_lt HBK.out.lt))
  have HBK1 := Lib.hid (HBK.out.below HB.out HBK.out.lt)
  cases gb with
  | true =>
    have hge : xs.length ≤ r.next := by have := HGB.out; simp at this; omega
    have HZ : Hid (rdFlag xs r = (false, ⟨r.next, r.next, 3⟩)) := by show _ = _; unfold rdFlag; rw [if_pos hw, List.drop_of_length_le hge]; rfl
    obtain ⟨d0, d1, d2, d3⟩ := HBK1.out.cells4
    clear hge hw
    go_wp2_with fail
    refine (pfail_any g xs r r.next 3 w1 HR1.out HR1.out.le).mono ?_
    rintro en w2 ⟨rfl, hr2, hs2⟩
    have HR2 := Lib.hid hr2
    have HS2 := Lib.hid (HS1.out.trans hs2)
    clear hr2 hs2 d0 d1 d2 d3
    go_wp2_with fail
    go_ret
    rw [HZ.out]
    exact ⟨rfl, HR2.out, HS2.out⟩
  | false =>
  have hlt : r.next < xs.length := by have := HGB.out; have := HR.out.le; simp at *; omega
  obtain ⟨b, off, x, rfl, hx, cx, hbg, hdr⟩ := Bytes.at_ (Reads.keep HBY.out (HB.out.mono (Nat.le_of_lt HBK.out.lt))) hlt
  have HCX := Lib.hid cx
  have HDR := Lib.hid hdr
  have hxl := x.toNat_lt
  clear cx hdr hx
  go_upto_region 6 with fail
  go_cut [3] (fun v wx => v = .int .u8 (x.toNat : Int) ∧ Hid (Below w1.heap.size w1 wx))
  case first =>
    refine wp_region_steps (valRF [26, 27, 28, 29, 30, 31, 32, 33, 34, 35, 3] [.pointer (some ⟨g, 0, none⟩), .pointer (some ⟨g, 0, none⟩), .pointer (some ⟨g, 2, none⟩), .slice (some ⟨b, off, none⟩) xs.length c, .pointer (some ⟨g, 0, none⟩), .pointer (some ⟨g, 0, none⟩), .pointer (some ⟨g, 3, none⟩), .int .i64 (r.next : Int), .pointer (some ⟨b, off + r.next, none⟩), .int .u8 (x.toNat : Int), .int .u8 (x.toNat : Int)]) (by kernel_rfl) (by kernel_rfl) (by kernel_rfl) (fun _ _ => rfl) (by kernel_rfl) valRF.mon ?_ ?_
    · refine ⟨?_, ?_, ?_, ?_, ?_, ?_, ?_, ?_, ?_, ?_, ?_, trivial⟩
      · exact valRF.pureStep rfl 26 rfl rfl (by simp) _ rfl fun listed a u D hI hr hn => exec_move (.inl rfl) (hI.out 0 (by kernel_rfl))
      · exact valRF.pureStep rfl 27 rfl rfl (by simp) _ rfl fun listed a u D hI hr hn => op_nil rfl (valRF.val hI hr hn 0 (by kernel_rfl) rfl rfl)
      · exact valRF.pureStep rfl 28 rfl rfl (by simp) _ rfl fun listed a u D hI hr hn => op_field rfl (valRF.val hI hr hn 1 (by kernel_rfl) rfl rfl) (by simp [go_sem])
      · exact valRF.pureStep rfl 29 rfl rfl (by simp) _ rfl fun listed a u D hI hr hn => exec_load rfl (valRF.val hI hr hn 2 (by kernel_rfl) rfl rfl) (run_ld_sl (HBK1.out.below (below_d hI.old) HBK1.out.lt).cells4.2.2.1)
      · exact valRF.pureStep rfl 30 rfl rfl (by simp) _ rfl fun listed a u D hI hr hn => exec_move (.inl rfl) (hI.out 0 (by kernel_rfl))
      · exact valRF.pureStep rfl 31 rfl rfl (by simp) _ rfl fun listed a u D hI hr hn => op_nil rfl (valRF.val hI hr hn 4 (by kernel_rfl) rfl rfl)
      · exact valRF.pureStep rfl 32 rfl rfl (by simp) _ rfl fun listed a u D hI hr hn => op_field rfl (valRF.val hI hr hn 5 (by kernel_rfl) rfl rfl) (by simp [go_sem])
      · exact valRF.pureStep rfl 33 rfl rfl (by simp) _ rfl fun listed a u D hI hr hn => exec_load rfl (valRF.val hI hr hn 6 (by kernel_rfl) rfl rfl) (run_ld_i (HBK1.out.below (below_d hI.old) HBK1.out.lt).cells4.2.2.2)
      · exact valRF.pureStep rfl 34 rfl rfl (by simp) _ rfl fun listed a u D hI hr hn => op_index_b rfl (valRF.val hI hr hn 3 (by kernel_rfl) rfl rfl) (valRF.val hI hr hn 7 (by kernel_rfl) rfl rfl) hlt
      · exact valRF.pureStep rfl 35 rfl rfl (by simp) _ rfl fun listed a u D hI hr hn => exec_load rfl (valRF.val hI hr hn 8 (by kernel_rfl) rfl rfl) (run_ld_b ((((below_d hI.old).mono (Nat.le_of_lt HBK1.out.lt)).cell (p := ⟨b, off + r.next, none⟩) hbg).trans HCX.out))
      · exact valRF.pureStep rfl 3 rfl rfl (by simp) _ rfl fun listed a u D hI hr hn => exec_move (.inr rfl) (valRF.val hI hr hn 9 (by kernel_rfl) rfl rfl)
    · intro listed a u D hI hall
      have eR0 : a.tmps.getD 3 undef = .int .u8 (x.toNat : Int) := (hI.fact 10 ⟨hall 10 (by simp), fun k hk => by cases hk⟩).1
      have hold := below_d hI.old
      have hl := hI.fill [26, 27, 28, 29, 30, 31, 32, 33, 34, 35, 3] (by kernel_rfl)
      clear hI hall
      obtain ⟨σ, hσ⟩ : ∃ σ : Nat → Value, ∀ t, a.tmps.getD t undef = σ t := ⟨_, fun _ => rfl⟩
      simp only [hσ] at hl eR0
      clear hσ
      simp only [List.foldl_cons, List.foldl_nil, List.setIfInBounds_toArray, List.set_cons_zero, List.set_cons_succ, eR0] at hl
      subst hl
      go_wp2_with fail
      go_meet
      exact ⟨rfl, hold⟩
  case rest =>
  obtain ⟨rfl, HB2⟩ := hcut
  obtain ⟨w3, rfl⟩ : ∃ u, u = wc := ⟨_, rfl⟩
  have HR3 := Lib.hid (HR1.out.below HB2.out)
  have HS3 := Lib.hid (HS1.out.next HB2.out (Nat.le_of_lt HBK1.out.lt))
  have HBK3 := Lib.hid (HBK1.out.below HB2.out HBK1.out.lt)
  obtain ⟨d0, d1, d2, d3⟩ := HBK3.out.cells4
  by_cases h1 : 1 < x.toNat
  · have HZ : Hid (rdFlag xs r = (false, ⟨r.next, r.next, 4⟩)) := by
      show _ = _
      unfold rdFlag getF
      rw [if_pos hw, HDR.out]
      simp only
      rw [if_pos h1]
    have h2 : (1 : Int) < (x.toNat : Int) := by omega
    clear h1 hw
    go_wp2_with fail
    refine (pfail_any g xs r r.next 4 w3 HR3.out HR3.out.le).mono ?_
    rintro en w4 ⟨rfl, hr2, hs2⟩
    have HR4 := Lib.hid hr2
    have HS4 := Lib.hid (HS3.out.trans hs2)
    clear hr2 hs2 d0 d1 d2 d3
    go_wp2_with fail
    go_ret
    rw [HZ.out]
    exact ⟨rfl, HR4.out, HS4.out⟩
  · obtain ⟨fb, hfb⟩ : ∃ fb : Bool, ((x.toNat : Int) == 1) = fb := ⟨_, rfl⟩
    have HZ : Hid (rdFlag xs r = (fb, ⟨r.next + 1, r.at_, 0⟩)) := by
      show _ = _
      unfold rdFlag getF
      rw [if_pos hw, HDR.out, ← hfb]
      simp only
      rw [if_neg h1]
      simp only
      congr 1
      rw [Bool.eq_iff_iff]
      simp
      omega
    have h2 : ¬ (1 : Int) < (x.toNat : Int) := by omega
    have hfz := HBK3.out.free
    obtain ⟨n1, hn1⟩ : ∃ n1, r.next + 1 = n1 := ⟨_, rfl⟩
    have hn2 : (r.next : Int) + 1 = (n1 : Int) := by omega
    have hn3 : IntKind.i64.wrap (n1 : Int) = (n1 : Int) := IntWalk.i64_in _ (by have := HR.out.max; omega)
    have HRES : Hid (RProg (w3.setCell ⟨g, 3, none⟩ (.int .i64 (n1 : Int))) g xs ⟨n1, r.at_, 0⟩ ∧ Save g w (w3.setCell ⟨g, 3, none⟩ (.int .i64 (n1 : Int)))) := by
      refine ⟨⟨⟨some ⟨b, off, none⟩, c, ?_, Reads.keep (Reads.keep (Reads.keep HBY.out (HB.out.mono (Nat.le_of_lt HBK.out.lt))) (HB2.out.mono (Nat.le_of_lt HBK1.out.lt))) keep_set, HCC.out⟩, by show n1 ≤ _; omega, HR.out.max⟩, HS3.out.set _ _⟩
      have := HBK3.out.put 3 (.int .i64 (n1 : Int))
      rw [HW0.out] at this
      exact this
    rw [hn1] at HZ
    clear h1 hw hn1 HBK3
    go_wp2_with fail
    go_ret
    rw [HZ.out]
    exact ⟨rfl, HRES.out⟩

set_option maxRecDepth 100000 in
set_option maxHeartbeats 1000000 in
theorem pend_any (g : Nat) (xs : List UInt8) (r : Rd) (w : World) (h : RProg w g xs r) :
    Calls Try.prog 47 #[.pointer (some ⟨g, 0, none⟩)] w (fun en w' => en = .returned (.int .i64 (rdEnd xs r).1) ∧ RProg w' g xs (rdEnd xs r).2 ∧ Save g w w') := by
  have HR := Lib.hid h
  obtain ⟨⟨A, c, hb, hy, hc⟩, hle, hmx⟩ := h
  obtain ⟨c0, c1, c2, c3⟩ := hb.cells4
  have HBK := Lib.hid hb
  have HBY := Lib.hid hy
  have HCC := Lib.hid hc
  clear hb hy hc hle hmx
  clear c0 c1 c2 c3
  go_enter Try.func47, Try.ntmps47
  go_upto_region 1 with fail
  obtain ⟨gb, hgb⟩ : ∃ b, decide (r.next < xs.length) = b := ⟨_, rfl⟩
  have HGB := Lib.hid hgb
  obtain ⟨tb, htb⟩ : ∃ b, decide (r.why = 0 ∧ r.next < xs.length) = b := ⟨_, rfl⟩
  have HTB := Lib.hid htb
  go_cut [19] (fun v wx => v = .bool tb ∧ Hid (Below w.heap.size w wx))
  case first =>
    by_cases hw : r.why = 0
    · have e1 : (r.why == 0) = true := by simpa using hw
      obtain rfl : gb = tb := by rw [← htb, ← hgb]; simp [hw]
      clear hgb htb hw
      refine wp_region_steps (valRF [3, 4, 5, 6, 7, 8, 9, 10, 11, 12, 13, 14, 15, 16, 17, 18, 19] [.pointer (some ⟨g, 0, none⟩), .pointer (some ⟨g, 0, none⟩), .pointer (some ⟨g, 0, none⟩), fltV (r.at_ : Int) r.why, .bool true, .bool true, .pointer (some ⟨g, 0, none⟩), .pointer (some ⟨g, 0, none⟩), .pointer (some ⟨g, 3, none⟩), .int .i64 (r.next : Int), .pointer (some ⟨g, 0, none⟩), .pointer (some ⟨g, 0, none⟩), .pointer (some ⟨g, 2, none⟩), .slice A xs.length c, .int .i64 (xs.length : Int), .bool gb, .bool gb]) (by kernel_rfl) (by kernel_rfl) (by kernel_rfl) (fun _ _ => rfl) (by kernel_rfl) valRF.mon ?_ ?_
      · refine ⟨?_, ?_, ?_, ?_, ?_, ?_, ?_, ?_, ?_, ?_, ?_, ?_, ?_, ?_, ?_, ?_, ?_, trivial⟩
        · exact valRF.pureStep rfl 3 rfl rfl (by simp) _ rfl fun listed a u D hI hr hn => exec_move (.inl rfl) (hI.out 0 (by kernel_rfl))
        · exact valRF.pureStep rfl 4 rfl rfl (by simp) _ rfl fun listed a u D hI hr hn => op_nil rfl (valRF.val hI hr hn 0 (by kernel_rfl) rfl rfl)
        · exact valRF.pureStep rfl 5 rfl rfl (by simp) _ rfl fun listed a u D hI hr hn => op_field rfl (valRF.val hI hr hn 1 (by kernel_rfl) rfl rfl) (by simp [go_sem])
        · exact valRF.pureStep rfl 6 rfl rfl (by simp) _ rfl fun listed a u D hI hr hn => exec_load rfl (valRF.val hI hr hn 2 (by kernel_rfl) rfl rfl) (run_ld_f (HBK.out.below (below_d hI.old) HBK.out.lt).cells4.1 (HBK.out.below (below_d hI.old) HBK.out.lt).cells4.2.1)
        · exact valRF.callStep rfl 7 rfl rfl (by simp) (.bool true) rfl fun listed a u D hI hr hn => ⟨_, _, op_call1 rfl (valRF.val hI hr hn 3 (by kernel_rfl) rfl rfl) (by simp [go_sem]), (pgood_any (r.at_ : Int) r.why u).mono fun _ _ h => ⟨by rw [h.1, e1], h.2⟩⟩
        · exact valRF.pureStep rfl 8 rfl rfl (by simp) _ rfl fun listed a u D hI hr hn => exec_move (.inl rfl) (valRF.val hI hr hn 4 (by kernel_rfl) rfl rfl)
        · exact valRF.pureStepG 9 rfl rfl (by simp) _ rfl fun listed a u D hI hr hn => ⟨guard_yes (t := 8) rfl (by kernel_rfl) (valRF.val hI hr hn 5 (by kernel_rfl) rfl rfl), exec_move (.inl rfl) (hI.out 0 (by kernel_rfl))⟩
        · exact valRF.pureStepG 10 rfl rfl (by simp) _ rfl fun listed a u D hI hr hn => ⟨guard_yes (t := 8) rfl (by kernel_rfl) (valRF.val hI hr hn 5 (by kernel_rfl) rfl rfl), op_nil rfl (valRF.val hI hr hn 6 (by kernel_rfl) rfl rfl)⟩
        · exact valRF.pureStepG 11 rfl rfl (by simp) _ rfl fun listed a u D hI hr hn => ⟨guard_yes (t := 8) rfl (by kernel_rfl) (valRF.val hI hr hn 5 (by kernel_rfl) rfl rfl), op_field rfl (valRF.val hI hr hn 7 (by kernel_rfl) rfl rfl) (by simp [go_sem])⟩
        · exact valRF.pureStepG 12 rfl rfl (by simp) _ rfl fun listed a u D hI hr hn => ⟨guard_yes (t := 8) rfl (by kernel_rfl) (valRF.val hI hr hn 5 (by kernel_rfl) rfl rfl), exec_load rfl (valRF.val hI hr hn 8 (by kernel_rfl) rfl rfl) (run_ld_i (HBK.out.below (below_d hI.old) HBK.out.lt).cells4.2.2.2)⟩
        · exact valRF.pureStepG 13 rfl rfl (by simp) _ rfl fun listed a u D hI hr hn => ⟨guard_yes (t := 8) rfl (by kernel_rfl) (valRF.val hI hr hn 5 (by kernel_rfl) rfl rfl), exec_move (.inl rfl) (hI.out 0 (by kernel_rfl))⟩
        · exact valRF.pureStepG 14 rfl rfl (by simp) _ rfl fun listed a u D hI hr hn => ⟨guard_yes (t := 8) rfl (by kernel_rfl) (valRF.val hI hr hn 5 (by kernel_rfl) rfl rfl), op_nil rfl (valRF.val hI hr hn 10 (by kernel_rfl) rfl rfl)⟩
        · exact valRF.pureStepG 15 rfl rfl (by simp) _ rfl fun listed a u D hI hr hn => ⟨guard_yes (t := 8) rfl (by kernel_rfl) (valRF.val hI hr hn 5 (by kernel_rfl) rfl rfl), op_field rfl (valRF.val hI hr hn 11 (by kernel_rfl) rfl rfl) (by simp [go_sem])⟩
        · exact valRF.pureStepG 16 rfl rfl (by simp) _ rfl fun listed a u D hI hr hn => ⟨guard_yes (t := 8) rfl (by kernel_rfl) (valRF.val hI hr hn 5 (by kernel_rfl) rfl rfl), exec_load rfl (valRF.val hI hr hn 12 (by kernel_rfl) rfl rfl) (run_ld_sl (HBK.out.below (below_d hI.old) HBK.out.lt).cells4.2.2.1)⟩
        · exact valRF.pureStepG 17 rfl rfl (by simp) _ rfl fun listed a u D hI hr hn => ⟨guard_yes (t := 8) rfl (by kernel_rfl) (valRF.val hI hr hn 5 (by kernel_rfl) rfl rfl), op_len rfl (valRF.val hI hr hn 13 (by kernel_rfl) rfl rfl)⟩
        · exact valRF.pureStepG 18 rfl rfl (by simp) _ rfl fun listed a u D hI hr hn => ⟨guard_yes (t := 8) rfl (by kernel_rfl) (valRF.val hI hr hn 5 (by kernel_rfl) rfl rfl), op_lss rfl (valRF.val hI hr hn 9 (by kernel_rfl) rfl rfl) (valRF.val hI hr hn 14 (by kernel_rfl) rfl rfl) HGB.out⟩
        · exact valRF.pureStep rfl 19 rfl rfl (by simp) _ rfl fun listed a u D hI hr hn => op_pick (b := true) rfl (valRF.val hI hr hn 5 (by kernel_rfl) rfl rfl) (valRF.val hI hr hn 15 (by kernel_rfl) rfl rfl)
      · intro listed a u D hI hall
        have eR0 : a.tmps.getD 19 undef = .bool gb := (hI.fact 16 ⟨hall 16 (by simp), fun k hk => by cases hk⟩).1
        have hold := below_d hI.old
        have hl := hI.fill [3, 4, 5, 6, 7, 8, 9, 10, 11, 12, 13, 14, 15, 16, 17, 18, 19] (by kernel_rfl)
        clear hI hall
        obtain ⟨σ, hσ⟩ : ∃ σ : Nat → Value, ∀ t, a.tmps.getD t undef = σ t := ⟨_, fun _ => rfl⟩
        simp only [hσ] at hl eR0
        clear hσ
        simp only [List.foldl_cons, List.foldl_nil, List.setIfInBounds_toArray, List.set_cons_zero, List.set_cons_succ, eR0] at hl
        subst hl
        go_wp2_with fail
        go_meet
        exact ⟨rfl, hold⟩
    · have e1 : (r.why == 0) = false := by simpa using hw
      obtain rfl : tb = false := by rw [← htb]; simp [hw]
      clear hgb htb hw
      refine wp_region_steps (valRF [3, 4, 5, 6, 7, 8, 9, 10, 11, 12, 13, 14, 15, 16, 17, 18, 19] [.pointer (some ⟨g, 0, none⟩), .pointer (some ⟨g, 0, none⟩), .pointer (some ⟨g, 0, none⟩), fltV (r.at_ : Int) r.why, .bool false, .bool false, undef, undef, undef, undef, undef, undef, undef, undef, undef, undef, .bool false]) (by kernel_rfl) (by kernel_rfl) (by kernel_rfl) (fun _ _ => rfl) (by kernel_rfl) valRF.mon ?_ ?_
      · refine ⟨?_, ?_, ?_, ?_, ?_, ?_, ?_, ?_, ?_, ?_, ?_, ?_, ?_, ?_, ?_, ?_, ?_, trivial⟩
        · exact valRF.pureStep rfl 3 rfl rfl (by simp) _ rfl fun listed a u D hI hr hn => exec_move (.inl rfl) (hI.out 0 (by kernel_rfl))
        · exact valRF.pureStep rfl 4 rfl rfl (by simp) _ rfl fun listed a u D hI hr hn => op_nil rfl (valRF.val hI hr hn 0 (by kernel_rfl) rfl rfl)
        · exact valRF.pureStep rfl 5 rfl rfl (by simp) _ rfl fun listed a u D hI hr hn => op_field rfl (valRF.val hI hr hn 1 (by kernel_rfl) rfl rfl) (by simp [go_sem])
        · exact valRF.pureStep rfl 6 rfl rfl (by simp) _ rfl fun listed a u D hI hr hn => exec_load rfl (valRF.val hI hr hn 2 (by kernel_rfl) rfl rfl) (run_ld_f (HBK.out.below (below_d hI.old) HBK.out.lt).cells4.1 (HBK.out.below (below_d hI.old) HBK.out.lt).cells4.2.1)
        · exact valRF.callStep rfl 7 rfl rfl (by simp) (.bool false) rfl fun listed a u D hI hr hn => ⟨_, _, op_call1 rfl (valRF.val hI hr hn 3 (by kernel_rfl) rfl rfl) (by simp [go_sem]), (pgood_any (r.at_ : Int) r.why u).mono fun _ _ h => ⟨by rw [h.1, e1], h.2⟩⟩
        · exact valRF.pureStep rfl 8 rfl rfl (by simp) _ rfl fun listed a u D hI hr hn => exec_move (.inl rfl) (valRF.val hI hr hn 4 (by kernel_rfl) rfl rfl)
        · exact valRF.skipStep 9 rfl rfl (by simp) rfl fun listed a u D hI hr hn => guard_no (t := 8) rfl (by kernel_rfl) (valRF.val hI hr hn 5 (by kernel_rfl) rfl rfl)
        · exact valRF.skipStep 10 rfl rfl (by simp) rfl fun listed a u D hI hr hn => guard_no (t := 8) rfl (by kernel_rfl) (valRF.val hI hr hn 5 (by kernel_rfl) rfl rfl)
        · exact valRF.skipStep 11 rfl rfl (by simp) rfl fun listed a u D hI hr hn => guard_no (t := 8) rfl (by kernel_rfl) (valRF.val hI hr hn 5 (by kernel_rfl) rfl rfl)
        · exact valRF.skipStep 12 rfl rfl (by simp) rfl fun listed a u D hI hr hn => guard_no (t := 8) rfl (by kernel_rfl) (valRF.val hI hr hn 5 (by kernel_rfl) rfl rfl)
        · exact valRF.skipStep 13 rfl rfl (by simp) rfl fun listed a u D hI hr hn => guard_no (t := 8) rfl (by kernel_rfl) (valRF.val hI hr hn 5 (by kernel_rfl) rfl rfl)
        · exact valRF.skipStep 14 rfl rfl (by simp) rfl fun listed a u D hI hr hn => guard_no (t := 8) rfl (by kernel_rfl) (valRF.val hI hr hn 5 (by kernel_rfl) rfl rfl)
        · exact valRF.skipStep 15 rfl rfl (by simp) rfl fun listed a u D hI hr hn => guard_no (t := 8) rfl (by kernel_rfl) (valRF.val hI hr hn 5 (by kernel_rfl) rfl rfl)
        · exact valRF.skipStep 16 rfl rfl (by simp) rfl fun listed a u D hI hr hn => guard_no (t := 8) rfl (by kernel_rfl) (valRF.val hI hr hn 5 (by kernel_rfl) rfl rfl)
        · exact valRF.skipStep 17 rfl rfl (by simp) rfl fun listed a u D hI hr hn => guard_no (t := 8) rfl (by kernel_rfl) (valRF.val hI hr hn 5 (by kernel_rfl) rfl rfl)
        · exact valRF.skipStep 18 rfl rfl (by simp) rfl fun listed a u D hI hr hn => guard_no (t := 8) rfl (by kernel_rfl) (valRF.val hI hr hn 5 (by kernel_rfl) rfl rfl)
        · exact valRF.pureStep rfl 19 rfl rfl (by simp) _ rfl fun listed a u D hI hr hn => op_pick (b := false) rfl (valRF.val hI hr hn 5 (by kernel_rfl) rfl rfl) rfl
      · intro listed a u D hI hall
        have eR0 : a.tmps.getD 19 undef = .bool false := (hI.fact 16 ⟨hall 16 (by simp), fun k hk => by cases hk⟩).1
        have hold := below_d hI.old
        have hl := hI.fill [3, 4, 5, 6, 7, 8, 9, 10, 11, 12, 13, 14, 15, 16, 17, 18, 19] (by kernel_rfl)
        clear hI hall
        obtain ⟨σ, hσ⟩ : ∃ σ : Nat → Value, ∀ t, a.tmps.getD t undef = σ t := ⟨_, fun _ => rfl⟩
        simp only [hσ] at hl eR0
        clear hσ
        simp only [List.foldl_cons, List.foldl_nil, List.setIfInBounds_toArray, List.set_cons_zero, List.set_cons_succ, eR0] at hl
        subst hl
        go_wp2_with fail
        go_meet
        exact ⟨rfl, hold⟩
  case rest =>
  obtain ⟨rfl, HB⟩ := hcut
  obtain ⟨w1, rfl⟩ : ∃ u, u = wc := ⟨_, rfl⟩
  have HR1 := Lib.hid (HR.out.below HB.out)
  have HS1 := Lib.hid (Save.of HB.out (Nat.le_of_lt HBK.out.lt))
  obtain ⟨d0, d1, d2, d3⟩ := (HBK.out.below HB.out HBK.out.lt).cells4
  clear hgb htb
  cases tb with
  | true =>
    have HZ : Hid (rdEnd xs r = (5, ⟨r.next, r.next, 5⟩)) := by show _ = _; unfold rdEnd; rw [if_pos (of_decide_eq_true HTB.out)]
    go_wp2_with fail
    refine (pfail_any g xs r r.next 5 w1 HR1.out HR1.out.le).mono ?_
    rintro en w2 ⟨rfl, hr2, hs2⟩
    have HR2 := Lib.hid hr2
    have HS2 := Lib.hid (HS1.out.trans hs2)
    clear d0 d1 d2 d3
    obtain ⟨⟨A2, c2, hb2, _, _⟩, _, _⟩ := hr2
    obtain ⟨d0, d1, d2, d3⟩ := hb2.cells4
    clear hs2 hb2
    go_wp2_with fail
    refine (perr_any (r.next : Int) 5 w2).mono ?_
    rintro en w3 ⟨rfl, hb3⟩
    have HR3 := Lib.hid (HR2.out.below hb3)
    have HS3 := Lib.hid (HS2.out.next hb3 (Nat.le_of_lt HR2.out.lt))
    clear hb3 d0 d1 d2 d3
    go_wp2_with fail
    go_ret
    rw [HZ.out]
    exact ⟨rfl, HR3.out, HS3.out⟩
  | false =>
    have HZ : Hid (rdEnd xs r = (r.why, r)) := by show _ = _; unfold rdEnd; rw [if_neg (of_decide_eq_false HTB.out)]
    go_wp2_with fail
    refine (perr_any (r.at_ : Int) r.why w1).mono ?_
    rintro en w3 ⟨rfl, hb3⟩
    have HR3 := Lib.hid (HR1.out.below hb3)
    have HS3 := Lib.hid (HS1.out.next hb3 (Nat.le_of_lt HR1.out.lt))
    clear hb3 d0 d1 d2 d3
    go_wp2_with fail
    go_ret
    rw [HZ.out]
    exact ⟨rfl, HR3.out, HS3.out⟩

#print axioms pcount_any
#print axioms pflagr_any
#print axioms pend_any
end Go.Proofs.Ytbnhbbjmocclmaa.Wire
