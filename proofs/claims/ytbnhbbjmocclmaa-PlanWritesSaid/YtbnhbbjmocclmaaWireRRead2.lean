/-
  The document's own reader, walked: Flag, End, Read.
-/
import Derived.Test.YtbnhbbjmocclmaaWireRRead
namespace Go.Proofs.Ytbnhbbjmocclmaa.Wire
open Go.ChangeShapes Go.WideShapes Go.ChangeAt Go.RowKit Go.Proofs.Ytbnhbbjmocclmaa.Mem Go.Proofs.Ytbnhbbjmocclmaa.WireMath
set_option linter.unusedVariables false

section
variable {o : Oper} {a : Act} {u : World}
theorem op_len {x : Operand} {A : Option Addr} {n c : Nat} (h : o.op = .call { callee := .builtin .len, args := #[x], argTypes := #[44] }) (hp : a.eval x = .slice A n c) : (execOp a.eval o).run Try.prog u = .ok (.value (.int .i64 (n : Int))) u := by
  obtain ⟨ρ, hρ⟩ : ∃ ρ, a.eval = ρ := ⟨_, rfl⟩
  rw [hρ] at hp ⊢
  unfold execOp
  rw [h]
  simp [go_sem, hp]
theorem op_geq {x y : Operand} {m n : Nat} {b : Bool} {T : TypeId} (h : o.op = .binOp .geq 3 x y T) (hp : a.eval x = .int .i64 (m : Int)) (hq : a.eval y = .int .i64 (n : Int)) (hb : decide (n ≤ m) = b) : (execOp a.eval o).run Try.prog u = .ok (.value (.bool b)) u := by
  subst hb
  obtain ⟨ρ, hρ⟩ : ∃ ρ, a.eval = ρ := ⟨_, rfl⟩
  rw [hρ] at hp hq ⊢
  unfold execOp
  rw [h]
  simp [go_sem, hp, hq]
theorem op_lss {x y : Operand} {m n : Nat} {b : Bool} {T : TypeId} (h : o.op = .binOp .lss 3 x y T) (hp : a.eval x = .int .i64 (m : Int)) (hq : a.eval y = .int .i64 (n : Int)) (hb : decide (m < n) = b) : (execOp a.eval o).run Try.prog u = .ok (.value (.bool b)) u := by
  subst hb
  obtain ⟨ρ, hρ⟩ : ∃ ρ, a.eval = ρ := ⟨_, rfl⟩
  rw [hρ] at hp hq ⊢
  unfold execOp
  rw [h]
  simp [go_sem, hp, hq]
theorem op_eql {x : Operand} {m : Int} {b : Bool} {T : TypeId} (h : o.op = .binOp .eql 3 x (.const (.int .i64 0)) T) (hp : a.eval x = .int .i64 m) (hb : (m == 0) = b) : (execOp a.eval o).run Try.prog u = .ok (.value (.bool b)) u := by
  subst hb
  have hc : a.eval (.const (.int .i64 0)) = .int .i64 0 := rfl
  obtain ⟨ρ, hρ⟩ : ∃ ρ, a.eval = ρ := ⟨_, rfl⟩
  rw [hρ] at hp hc ⊢
  unfold execOp
  rw [h]
  simp [go_sem, hp, hc]
theorem op_pick {P : Program} {x y z : Operand} {b : Bool} {v : Value} (h : o.op = .pick x y z) (hp : a.eval x = .bool b) (hv : (if b then a.eval y else a.eval z) = v) : (execOp a.eval o).run P u = .ok (.value v) u := by
  subst hv
  unfold execOp
  rw [h]
  simp only [hp]
  cases b <;> simp [go_sem]
theorem op_index_b {x y : Operand} {b off n c k : Nat} (h : o.op = .indexAddr 44 x y) (hx : a.eval x = .slice (some ⟨b, off, none⟩) n c) (hy : a.eval y = .int .i64 k) (hk : k < n) : (execOp a.eval o).run Try.prog u = .ok (.value (.pointer (some ⟨b, off + k, none⟩))) u := by
  obtain ⟨ρ, hρ⟩ : ∃ ρ, a.eval = ρ := ⟨_, rfl⟩
  rw [hρ] at hx hy ⊢
  have hk1 : (k : Int) < (n : Int) := by omega
  unfold execOp
  rw [h]
  simp [go_sem, hx, hy, hk1]
end
theorem run_ld_b {u : World} {p : Addr} {v : Int} (h : u.cell? p = some (.int .u8 v)) : (Instr.loadAt 5 (.pointer (some p))).run Try.prog u = .ok (.int .u8 v) u := by
  simp [go_sem, h]

set_option maxRecDepth 100000 in
set_option maxHeartbeats 1000000 in
theorem rflagr_any (g : Nat) (xs : List UInt8) (r : Rd) (w : World) (h : RRef w g xs r) :
    Calls Try.prog 75 #[.pointer (some ⟨g, 0, none⟩)] w (fun en w' => en = .returned (.bool (rdFlag xs r).1) ∧ RRef w' g xs (rdFlag xs r).2 ∧ Save g w w') := by
  have HR := Lib.hid h
  obtain ⟨⟨A, c, hb, hy, hc⟩, hle, hmx⟩ := h
  obtain ⟨c0, c1, c2, c3⟩ := hb.cells4
  have HBK := Lib.hid hb
  have HBY := Lib.hid hy
  have HCC := Lib.hid hc
  by_cases hw : r.why = 0
  case neg =>
    have HZ : Hid (rdFlag xs r = (false, r)) := by show _ = _; unfold rdFlag; rw [if_neg hw]
    have e1 : (r.why == 0) = false := by simpa using hw
    clear hb hy hc hle hmx hw
    go_enter Try.func75, Try.ntmps75
    go_wp2_with fail
    go_ret
    rw [HZ.out]
    exact ⟨rfl, HR.out, Save.refl (Nat.le_of_lt HR.out.lt)⟩
  have e1 : (r.why == 0) = true := by simpa using hw
  have HW0 := Lib.hid hw
  obtain ⟨gb, hgb⟩ : ∃ b, decide (xs.length ≤ r.next) = b := ⟨_, rfl⟩
  have HGB := Lib.hid hgb
  clear hb hy hc hle hmx hgb
  go_enter Try.func75, Try.ntmps75
  go_upto_region 3 with fail
  clear c0 c1 c2 c3
  go_cut [18] (fun v wx => v = .bool gb ∧ Hid (Below w.heap.size w wx))
  case first =>
    refine wp_region_steps (valRF [9, 10, 11, 12, 13, 14, 15, 16, 17, 18] [.pointer (some ⟨g, 0, none⟩), .pointer (some ⟨g, 0, none⟩), .pointer (some ⟨g, 1, none⟩), .int .i64 (r.next : Int), .pointer (some ⟨g, 0, none⟩), .pointer (some ⟨g, 0, none⟩), .pointer (some ⟨g, 0, none⟩), .slice A xs.length c, .int .i64 (xs.length : Int), .bool gb]) (by kernel_rfl) (by kernel_rfl) (by kernel_rfl) (fun _ _ => rfl) (by kernel_rfl) valRF.mon ?_ ?_
    · refine ⟨?_, ?_, ?_, ?_, ?_, ?_, ?_, ?_, ?_, ?_, trivial⟩
      · exact valRF.pureStep rfl 9 rfl rfl (by simp) _ rfl fun listed a u D hI hr hn => exec_move (.inl rfl) (hI.out 0 (by kernel_rfl))
      · exact valRF.pureStep rfl 10 rfl rfl (by simp) _ rfl fun listed a u D hI hr hn => op_nil rfl (valRF.val hI hr hn 0 (by kernel_rfl) rfl rfl)
      · exact valRF.pureStep rfl 11 rfl rfl (by simp) _ rfl fun listed a u D hI hr hn => op_field rfl (valRF.val hI hr hn 1 (by kernel_rfl) rfl rfl) (by simp [go_sem])
      · exact valRF.pureStep rfl 12 rfl rfl (by simp) _ rfl fun listed a u D hI hr hn => exec_load rfl (valRF.val hI hr hn 2 (by kernel_rfl) rfl rfl) (run_ld_i (HBK.out.below (below_d hI.old) HBK.out.lt).cells4.2.1)
      · exact valRF.pureStep rfl 13 rfl rfl (by simp) _ rfl fun listed a u D hI hr hn => exec_move (.inl rfl) (hI.out 0 (by kernel_rfl))
      · exact valRF.pureStep rfl 14 rfl rfl (by simp) _ rfl fun listed a u D hI hr hn => op_nil rfl (valRF.val hI hr hn 4 (by kernel_rfl) rfl rfl)
      · exact valRF.pureStep rfl 15 rfl rfl (by simp) _ rfl fun listed a u D hI hr hn => op_field rfl (valRF.val hI hr hn 5 (by kernel_rfl) rfl rfl) (by simp [go_sem])
      · exact valRF.pureStep rfl 16 rfl rfl (by simp) _ rfl fun listed a u D hI hr hn => exec_load rfl (valRF.val hI hr hn 6 (by kernel_rfl) rfl rfl) (run_ld_sl (HBK.out.below (below_d hI.old) HBK.out.lt).cells4.1)
      · exact valRF.pureStep rfl 17 rfl rfl (by simp) _ rfl fun listed a u D hI hr hn => op_len rfl (valRF.val hI hr hn 7 (by kernel_rfl) rfl rfl)
      · exact valRF.pureStep rfl 18 rfl rfl (by simp) _ rfl fun listed a u D hI hr hn => op_geq rfl (valRF.val hI hr hn 3 (by kernel_rfl) rfl rfl) (valRF.val hI hr hn 8 (by kernel_rfl) rfl rfl) HGB.out
    · intro listed a u D hI hall
      have eR0 : a.tmps.getD 18 undef = .bool gb := (hI.fact 9 ⟨hall 9 (by simp), fun k hk => by cases hk⟩).1
      have hold := below_d hI.old
      have hl := hI.fill [9, 10, 11, 12, 13, 14, 15, 16, 17, 18] (by kernel_rfl)
      clear hI hall
      obtain ⟨σ, hσ⟩ : ∃ σ : Nat → Value, ∀ t, a.tmps.getD t undef = σ t := ⟨_, fun _ => rfl⟩
      simp only [hσ] at hl eR0
      clear hσ
      simp only [List.foldl_cons, List.foldl_nil, List.setIfInBounds_toArray, List.set_cons_zero, List.set_cons_succ, eR0] at hl
      subst hl
      go_wp2_with fail
      go_meet
      exact ⟨rfl, hold⟩
  case rest =>
  obtain ⟨rfl, HB⟩ := hcut
  obtain ⟨w1, rfl⟩ : ∃ u, u = wc := ⟨_, rfl⟩
  have HR1 := Lib.hid (HR.out.below HB.out)
  have HS1 := Lib.hid (Save.of HB.out (Nat.le_of_lt HBK.out.lt))
  cases gb with
  | true =>
    have hge : xs.length ≤ r.next := of_decide_eq_true HGB.out
    have HZ : Hid (rdFlag xs r = (false, ⟨r.next, r.next, 3⟩)) := by show _ = _; unfold rdFlag; rw [if_pos hw, List.drop_of_length_le hge]; rfl
    clear hge hw
    go_wp2_with fail
    refine (rwrong_any g xs r 3 w1 HR1.out).mono ?_
    rintro en w2 ⟨rfl, hr2, hs2⟩
    have HR2 := Lib.hid hr2
    have HS2 := Lib.hid (HS1.out.trans hs2)
    clear hr2 hs2
    go_wp2_with fail
    go_ret
    rw [HZ.out]
    exact ⟨rfl, HR2.out, HS2.out⟩
  | false =>
  have hlt : r.next < xs.length := by have := of_decide_eq_false HGB.out; omega
  have HBK1 := Lib.hid (HBK.out.below HB.out HBK.out.lt)
  obtain ⟨b, off, x, rfl, hx, cx, hbg, hdr⟩ := Bytes.at_ (Reads.keep HBY.out (HB.out.mono (Nat.le_of_lt HBK.out.lt))) hlt
  have HCX := Lib.hid cx
  have HDR := Lib.hid hdr
  have hxl := x.toNat_lt
  clear cx hdr hx
  go_upto_region 6 with fail
  go_cut [3] (fun v wx => v = .int .u8 (x.toNat : Int) ∧ Hid (Below w1.heap.size w1 wx))
  case first =>
    refine wp_region_steps (valRF [21, 22, 23, 24, 25, 26, 27, 28, 29, 30, 3] [.pointer (some ⟨g, 0, none⟩), .pointer (some ⟨g, 0, none⟩), .pointer (some ⟨g, 0, none⟩), .slice (some ⟨b, off, none⟩) xs.length c, .pointer (some ⟨g, 0, none⟩), .pointer (some ⟨g, 0, none⟩), .pointer (some ⟨g, 1, none⟩), .int .i64 (r.next : Int), .pointer (some ⟨b, off + r.next, none⟩), .int .u8 (x.toNat : Int), .int .u8 (x.toNat : Int)]) (by kernel_rfl) (by kernel_rfl) (by kernel_rfl) (fun _ _ => rfl) (by kernel_rfl) valRF.mon ?_ ?_
    · refine ⟨?_, ?_, ?_, ?_, ?_, ?_, ?_, ?_, ?_, ?_, ?_, trivial⟩
      · exact valRF.pureStep rfl 21 rfl rfl (by simp) _ rfl fun listed a u D hI hr hn => exec_move (.inl rfl) (hI.out 0 (by kernel_rfl))
      · exact valRF.pureStep rfl 22 rfl rfl (by simp) _ rfl fun listed a u D hI hr hn => op_nil rfl (valRF.val hI hr hn 0 (by kernel_rfl) rfl rfl)
      · exact valRF.pureStep rfl 23 rfl rfl (by simp) _ rfl fun listed a u D hI hr hn => op_field rfl (valRF.val hI hr hn 1 (by kernel_rfl) rfl rfl) (by simp [go_sem])
      · exact valRF.pureStep rfl 24 rfl rfl (by simp) _ rfl fun listed a u D hI hr hn => exec_load rfl (valRF.val hI hr hn 2 (by kernel_rfl) rfl rfl) (run_ld_sl (HBK1.out.below (below_d hI.old) HBK1.out.lt).cells4.1)
      · exact valRF.pureStep rfl 25 rfl rfl (by simp) _ rfl fun listed a u D hI hr hn => exec_move (.inl rfl) (hI.out 0 (by kernel_rfl))
      · exact valRF.pureStep rfl 26 rfl rfl (by simp) _ rfl fun listed a u D hI hr hn => op_nil rfl (valRF.val hI hr hn 4 (by kernel_rfl) rfl rfl)
      · exact valRF.pureStep rfl 27 rfl rfl (by simp) _ rfl fun listed a u D hI hr hn => op_field rfl (valRF.val hI hr hn 5 (by kernel_rfl) rfl rfl) (by simp [go_sem])
      · exact valRF.pureStep rfl 28 rfl rfl (by simp) _ rfl fun listed a u D hI hr hn => exec_load rfl (valRF.val hI hr hn 6 (by kernel_rfl) rfl rfl) (run_ld_i (HBK1.out.below (below_d hI.old) HBK1.out.lt).cells4.2.1)
      · exact valRF.pureStep rfl 29 rfl rfl (by simp) _ rfl fun listed a u D hI hr hn => op_index_b rfl (valRF.val hI hr hn 3 (by kernel_rfl) rfl rfl) (valRF.val hI hr hn 7 (by kernel_rfl) rfl rfl) hlt
      · exact valRF.pureStep rfl 30 rfl rfl (by simp) _ rfl fun listed a u D hI hr hn => exec_load rfl (valRF.val hI hr hn 8 (by kernel_rfl) rfl rfl) (run_ld_b ((((below_d hI.old).mono (Nat.le_of_lt HBK1.out.lt)).cell (p := ⟨b, off + r.next, none⟩) hbg).trans HCX.out))
      · exact valRF.pureStep rfl 3 rfl rfl (by simp) _ rfl fun listed a u D hI hr hn => exec_move (.inr rfl) (valRF.val hI hr hn 9 (by kernel_rfl) rfl rfl)
    · intro listed a u D hI hall
      have eR0 : a.tmps.getD 3 undef = .int .u8 (x.toNat : Int) := (hI.fact 10 ⟨hall 10 (by simp), fun k hk => by cases hk⟩).1
      have hold := below_d hI.old
      have hl := hI.fill [21, 22, 23, 24, 25, 26, 27, 28, 29, 30, 3] (by kernel_rfl)
      clear hI hall
      obtain ⟨σ, hσ⟩ : ∃ σ : Nat → Value, ∀ t, a.tmps.getD t undef = σ t := ⟨_, fun _ => rfl⟩
      simp only [hσ] at hl eR0
      clear hσ
      simp only [List.foldl_cons, List.foldl_nil, List.setIfInBounds_toArray, List.set_cons_zero, List.set_cons_succ, eR0] at hl
      subst hl
      go_wp2_with fail
      go_meet
      exact ⟨rfl, hold⟩
  case rest =>
  obtain ⟨rfl, HB2⟩ := hcut
  obtain ⟨w3, rfl⟩ : ∃ u, u = wc := ⟨_, rfl⟩
  have HR3 := Lib.hid (HR1.out.below HB2.out)
  have HS3 := Lib.hid (HS1.out.next HB2.out (Nat.le_of_lt HBK1.out.lt))
  by_cases h1 : 1 < x.toNat
  · have HZ : Hid (rdFlag xs r = (false, ⟨r.next, r.next, 4⟩)) := by
      show _ = _
      unfold rdFlag getF
      rw [if_pos hw, HDR.out]
      simp only
      rw [if_pos h1]
    have h2 : (1 : Int) < (x.toNat : Int) := by omega
    clear h1 hw
    go_wp2_with fail
    refine (rwrong_any g xs r 4 w3 HR3.out).mono ?_
    rintro en w4 ⟨rfl, hr2, hs2⟩
    have HR4 := Lib.hid hr2
    have HS4 := Lib.hid (HS3.out.trans hs2)
    clear hr2 hs2
    go_wp2_with fail
    go_ret
    rw [HZ.out]
    exact ⟨rfl, HR4.out, HS4.out⟩
  · obtain ⟨fb, hfb⟩ : ∃ fb : Bool, ((x.toNat : Int) == 1) = fb := ⟨_, rfl⟩
    have HZ : Hid (rdFlag xs r = (fb, ⟨r.next + 1, r.at_, 0⟩)) := by
      show _ = _
      unfold rdFlag getF
      rw [if_pos hw, HDR.out, ← hfb]
      simp only
      rw [if_neg h1]
      simp only
      congr 1
      rw [Bool.eq_iff_iff]
      simp
      omega
    have h2 : ¬ (1 : Int) < (x.toNat : Int) := by omega
    have HBK3 := Lib.hid (HBK1.out.below HB2.out HBK1.out.lt)
    obtain ⟨d0, d1, d2, d3⟩ := HBK3.out.cells4
    have hfz := HBK3.out.free
    obtain ⟨n1, hn1⟩ : ∃ n1, r.next + 1 = n1 := ⟨_, rfl⟩
    have hn2 : (r.next : Int) + 1 = (n1 : Int) := by omega
    have hn3 : IntKind.i64.wrap (n1 : Int) = (n1 : Int) := IntWalk.i64_in _ (by have := HR.out.max; omega)
    have HRES : Hid (RRef (w3.setCell ⟨g, 1, none⟩ (.int .i64 (n1 : Int))) g xs ⟨n1, r.at_, 0⟩ ∧ Save g w (w3.setCell ⟨g, 1, none⟩ (.int .i64 (n1 : Int)))) := by
      refine ⟨⟨⟨some ⟨b, off, none⟩, c, ?_, Reads.keep (Reads.keep (Reads.keep HBY.out (HB.out.mono (Nat.le_of_lt HBK.out.lt))) (HB2.out.mono (Nat.le_of_lt HBK1.out.lt))) keep_set, HCC.out⟩, by show n1 ≤ _; omega, HR.out.max⟩, HS3.out.set _ _⟩
      have := HBK3.out.put 1 (.int .i64 (n1 : Int))
      rw [HW0.out] at this
      exact this
    rw [hn1] at HZ
    clear h1 hw hn1 HBK3
    go_wp2_with fail
    go_ret
    rw [HZ.out]
    exact ⟨rfl, HRES.out⟩

set_option maxRecDepth 100000 in
set_option maxHeartbeats 1000000 in
theorem rend_any (g : Nat) (xs : List UInt8) (r : Rd) (w : World) (h : RRef w g xs r) :
    Calls Try.prog 61 #[.pointer (some ⟨g, 0, none⟩)] w (fun en w' => en = .returned (.int .i64 (rdEnd xs r).1) ∧ RRef w' g xs (rdEnd xs r).2 ∧ Save g w w') := by
  have HR := Lib.hid h
  obtain ⟨⟨A, c, hb, hy, hc⟩, hle, hmx⟩ := h
  obtain ⟨c0, c1, c2, c3⟩ := hb.cells4
  have HBK := Lib.hid hb
  have HBY := Lib.hid hy
  have HCC := Lib.hid hc
  clear hb hy hc hle hmx c0 c1 c2 c3
  go_enter Try.func61, Try.ntmps61
  go_upto_region 1 with fail
  obtain ⟨gb, hgb⟩ : ∃ b, decide (r.next < xs.length) = b := ⟨_, rfl⟩
  have HGB := Lib.hid hgb
  obtain ⟨tb, htb⟩ : ∃ b, decide (r.why = 0 ∧ r.next < xs.length) = b := ⟨_, rfl⟩
  have HTB := Lib.hid htb
  go_cut [19] (fun v wx => v = .bool tb ∧ Hid (Below w.heap.size w wx))
  case first =>
    by_cases hw : r.why = 0
    · have e1 : (r.why == 0) = true := by simpa using hw
      obtain rfl : gb = tb := by rw [← htb, ← hgb]; simp [hw]
      clear hgb htb hw
      refine wp_region_steps (valRF [3, 4, 5, 6, 7, 8, 9, 10, 11, 12, 13, 14, 15, 16, 17, 18, 19] [.pointer (some ⟨g, 0, none⟩), .pointer (some ⟨g, 0, none⟩), .pointer (some ⟨g, 3, none⟩), .int .i64 r.why, .bool true, .bool true, .pointer (some ⟨g, 0, none⟩), .pointer (some ⟨g, 0, none⟩), .pointer (some ⟨g, 1, none⟩), .int .i64 (r.next : Int), .pointer (some ⟨g, 0, none⟩), .pointer (some ⟨g, 0, none⟩), .pointer (some ⟨g, 0, none⟩), .slice A xs.length c, .int .i64 (xs.length : Int), .bool gb, .bool gb]) (by kernel_rfl) (by kernel_rfl) (by kernel_rfl) (fun _ _ => rfl) (by kernel_rfl) valRF.mon ?_ ?_
      · refine ⟨?_, ?_, ?_, ?_, ?_, ?_, ?_, ?_, ?_, ?_, ?_, ?_, ?_, ?_, ?_, ?_, ?_, trivial⟩
        · exact valRF.pureStep rfl 3 rfl rfl (by simp) _ rfl fun listed a u D hI hr hn => exec_move (.inl rfl) (hI.out 0 (by kernel_rfl))
        · exact valRF.pureStep rfl 4 rfl rfl (by simp) _ rfl fun listed a u D hI hr hn => op_nil rfl (valRF.val hI hr hn 0 (by kernel_rfl) rfl rfl)
        · exact valRF.pureStep rfl 5 rfl rfl (by simp) _ rfl fun listed a u D hI hr hn => op_field rfl (valRF.val hI hr hn 1 (by kernel_rfl) rfl rfl) (by simp [go_sem])
        · exact valRF.pureStep rfl 6 rfl rfl (by simp) _ rfl fun listed a u D hI hr hn => exec_load rfl (valRF.val hI hr hn 2 (by kernel_rfl) rfl rfl) (run_ld_i (HBK.out.below (below_d hI.old) HBK.out.lt).cells4.2.2.2)
        · exact valRF.pureStep rfl 7 rfl rfl (by simp) _ rfl fun listed a u D hI hr hn => op_eql rfl (valRF.val hI hr hn 3 (by kernel_rfl) rfl rfl) e1
        · exact valRF.pureStep rfl 8 rfl rfl (by simp) _ rfl fun listed a u D hI hr hn => exec_move (.inl rfl) (valRF.val hI hr hn 4 (by kernel_rfl) rfl rfl)
        · exact valRF.pureStepG 9 rfl rfl (by simp) _ rfl fun listed a u D hI hr hn => ⟨guard_yes (t := 8) rfl (by kernel_rfl) (valRF.val hI hr hn 5 (by kernel_rfl) rfl rfl), exec_move (.inl rfl) (hI.out 0 (by kernel_rfl))⟩
        · exact valRF.pureStepG 10 rfl rfl (by simp) _ rfl fun listed a u D hI hr hn => ⟨guard_yes (t := 8) rfl (by kernel_rfl) (valRF.val hI hr hn 5 (by kernel_rfl) rfl rfl), op_nil rfl (valRF.val hI hr hn 6 (by kernel_rfl) rfl rfl)⟩
        · exact valRF.pureStepG 11 rfl rfl (by simp) _ rfl fun listed a u D hI hr hn => ⟨guard_yes (t := 8) rfl (by kernel_rfl) (valRF.val hI hr hn 5 (by kernel_rfl) rfl rfl), op_field rfl (valRF.val hI hr hn 7 (by kernel_rfl) rfl rfl) (by simp [go_sem])⟩
        · exact valRF.pureStepG 12 rfl rfl (by simp) _ rfl fun listed a u D hI hr hn => ⟨guard_yes (t := 8) rfl (by kernel_rfl) (valRF.val hI hr hn 5 (by kernel_rfl) rfl rfl), exec_load rfl (valRF.val hI hr hn 8 (by kernel_rfl) rfl rfl) (run_ld_i (HBK.out.below (below_d hI.old) HBK.out.lt).cells4.2.1)⟩
        · exact valRF.pureStepG 13 rfl rfl (by simp) _ rfl fun listed a u D hI hr hn => ⟨guard_yes (t := 8) rfl (by kernel_rfl) (valRF.val hI hr hn 5 (by kernel_rfl) rfl rfl), exec_move (.inl rfl) (hI.out 0 (by kernel_rfl))⟩
        · exact valRF.pureStepG 14 rfl rfl (by simp) _ rfl fun listed a u D hI hr hn => ⟨guard_yes (t := 8) rfl (by kernel_rfl) (valRF.val hI hr hn 5 (by kernel_rfl) rfl rfl), op_nil rfl (valRF.val hI hr hn 10 (by kernel_rfl) rfl rfl)⟩
        · exact valRF.pureStepG 15 rfl rfl (by simp) _ rfl fun listed a u D hI hr hn => ⟨guard_yes (t := 8) rfl (by kernel_rfl) (valRF.val hI hr hn 5 (by kernel_rfl) rfl rfl), op_field rfl (valRF.val hI hr hn 11 (by kernel_rfl) rfl rfl) (by simp [go_sem])⟩
        · exact valRF.pureStepG 16 rfl rfl (by simp) _ rfl fun listed a u D hI hr hn => ⟨guard_yes (t := 8) rfl (by kernel_rfl) (valRF.val hI hr hn 5 (by kernel_rfl) rfl rfl), exec_load rfl (valRF.val hI hr hn 12 (by kernel_rfl) rfl rfl) (run_ld_sl (HBK.out.below (below_d hI.old) HBK.out.lt).cells4.1)⟩
        · exact valRF.pureStepG 17 rfl rfl (by simp) _ rfl fun listed a u D hI hr hn => ⟨guard_yes (t := 8) rfl (by kernel_rfl) (valRF.val hI hr hn 5 (by kernel_rfl) rfl rfl), op_len rfl (valRF.val hI hr hn 13 (by kernel_rfl) rfl rfl)⟩
        · exact valRF.pureStepG 18 rfl rfl (by simp) _ rfl fun listed a u D hI hr hn => ⟨guard_yes (t := 8) rfl (by kernel_rfl) (valRF.val hI hr hn 5 (by kernel_rfl) rfl rfl), op_lss rfl (valRF.val hI hr hn 9 (by kernel_rfl) rfl rfl) (valRF.val hI hr hn 14 (by kernel_rfl) rfl rfl) HGB.out⟩
        · exact valRF.pureStep rfl 19 rfl rfl (by simp) _ rfl fun listed a u D hI hr hn => op_pick (b := true) rfl (valRF.val hI hr hn 5 (by kernel_rfl) rfl rfl) (valRF.val hI hr hn 15 (by kernel_rfl) rfl rfl)
      · intro listed a u D hI hall
        have eR0 : a.tmps.getD 19 undef = .bool gb := (hI.fact 16 ⟨hall 16 (by simp), fun k hk => by cases hk⟩).1
        have hold := below_d hI.old
        have hl := hI.fill [3, 4, 5, 6, 7, 8, 9, 10, 11, 12, 13, 14, 15, 16, 17, 18, 19] (by kernel_rfl)
        clear hI hall
        obtain ⟨σ, hσ⟩ : ∃ σ : Nat → Value, ∀ t, a.tmps.getD t undef = σ t := ⟨_, fun _ => rfl⟩
        simp only [hσ] at hl eR0
        clear hσ
        simp only [List.foldl_cons, List.foldl_nil, List.setIfInBounds_toArray, List.set_cons_zero, List.set_cons_succ, eR0] at hl
        subst hl
        go_wp2_with fail
        go_meet
        exact ⟨rfl, hold⟩
    · have e1 : (r.why == 0) = false := by simpa using hw
      obtain rfl : tb = false := by rw [← htb]; simp [hw]
      clear hgb htb hw
      refine wp_region_steps (valRF [3, 4, 5, 6, 7, 8, 9, 10, 11, 12, 13, 14, 15, 16, 17, 18, 19] [.pointer (some ⟨g, 0, none⟩), .pointer (some ⟨g, 0, none⟩), .pointer (some ⟨g, 3, none⟩), .int .i64 r.why, .bool false, .bool false, undef, undef, undef, undef, undef, undef, undef, undef, undef, undef, .bool false]) (by kernel_rfl) (by kernel_rfl) (by kernel_rfl) (fun _ _ => rfl) (by kernel_rfl) valRF.mon ?_ ?_
      · refine ⟨?_, ?_, ?_, ?_, ?_, ?_, ?_, ?_, ?_, ?_, ?_, ?_, ?_, ?_, ?_, ?_, ?_, trivial⟩
        · exact valRF.pureStep rfl 3 rfl rfl (by simp) _ rfl fun listed a u D hI hr hn => exec_move (.inl rfl) (hI.out 0 (by kernel_rfl))
        · exact valRF.pureStep rfl 4 rfl rfl (by simp) _ rfl fun listed a u D hI hr hn => op_nil rfl (valRF.val hI hr hn 0 (by kernel_rfl) rfl rfl)
        · exact valRF.pureStep rfl 5 rfl rfl (by simp) _ rfl fun listed a u D hI hr hn => op_field rfl (valRF.val hI hr hn 1 (by kernel_rfl) rfl rfl) (by simp [go_sem])
        · exact valRF.pureStep rfl 6 rfl rfl (by simp) _ rfl fun listed a u D hI hr hn => exec_load rfl (valRF.val hI hr hn 2 (by kernel_rfl) rfl rfl) (run_ld_i (HBK.out.below (below_d hI.old) HBK.out.lt).cells4.2.2.2)
        · exact valRF.pureStep rfl 7 rfl rfl (by simp) _ rfl fun listed a u D hI hr hn => op_eql rfl (valRF.val hI hr hn 3 (by kernel_rfl) rfl rfl) e1
        · exact valRF.pureStep rfl 8 rfl rfl (by simp) _ rfl fun listed a u D hI hr hn => exec_move (.inl rfl) (valRF.val hI hr hn 4 (by kernel_rfl) rfl rfl)
        · exact valRF.skipStep 9 rfl rfl (by simp) rfl fun listed a u D hI hr hn => guard_no (t := 8) rfl (by kernel_rfl) (valRF.val hI hr hn 5 (by kernel_rfl) rfl rfl)
        · exact valRF.skipStep 10 rfl rfl (by simp) rfl fun listed a u D hI hr hn => guard_no (t := 8) rfl (by kernel_rfl) (valRF.val hI hr hn 5 (by kernel_rfl) rfl rfl)
        · exact valRF.skipStep 11 rfl rfl (by simp) rfl fun listed a u D hI hr hn => guard_no (t := 8) rfl (by kernel_rfl) (valRF.val hI hr hn 5 (by kernel_rfl) rfl rfl)
        · exact valRF.skipStep 12 rfl rfl (by simp) rfl fun listed a u D hI hr hn => guard_no (t := 8) rfl (by kernel_rfl) (valRF.val hI hr hn 5 (by kernel_rfl) rfl rfl)
        · exact valRF.skipStep 13 rfl rfl (by simp) rfl fun listed a u D hI hr hn => guard_no (t := 8) rfl (by kernel_rfl) (valRF.val hI hr hn 5 (by kernel_rfl) rfl rfl)
        · exact valRF.skipStep 14 rfl rfl (by simp) rfl fun listed a u D hI hr hn => guard_no (t := 8) rfl (by kernel_rfl) (valRF.val hI hr hn 5 (by kernel_rfl) rfl rfl)
        · exact valRF.skipStep 15 rfl rfl (by simp) rfl fun listed a u D hI hr hn => guard_no (t := 8) rfl (by kernel_rfl) (valRF.val hI hr hn 5 (by kernel_rfl) rfl rfl)
        · exact valRF.skipStep 16 rfl rfl (by simp) rfl fun listed a u D hI hr hn => guard_no (t := 8) rfl (by kernel_rfl) (valRF.val hI hr hn 5 (by kernel_rfl) rfl rfl)
        · exact valRF.skipStep 17 rfl rfl (by simp) rfl fun listed a u D hI hr hn => guard_no (t := 8) rfl (by kernel_rfl) (valRF.val hI hr hn 5 (by kernel_rfl) rfl rfl)
        · exact valRF.skipStep 18 rfl rfl (by simp) rfl fun listed a u D hI hr hn => guard_no (t := 8) rfl (by kernel_rfl) (valRF.val hI hr hn 5 (by kernel_rfl) rfl rfl)
        · exact valRF.pureStep rfl 19 rfl rfl (by simp) _ rfl fun listed a u D hI hr hn => op_pick (b := false) rfl (valRF.val hI hr hn 5 (by kernel_rfl) rfl rfl) rfl
      · intro listed a u D hI hall
        have eR0 : a.tmps.getD 19 undef = .bool false := (hI.fact 16 ⟨hall 16 (by simp), fun k hk => by cases hk⟩).1
        have hold := below_d hI.old
        have hl := hI.fill [3, 4, 5, 6, 7, 8, 9, 10, 11, 12, 13, 14, 15, 16, 17, 18, 19] (by kernel_rfl)
        clear hI hall
        obtain ⟨σ, hσ⟩ : ∃ σ : Nat → Value, ∀ t, a.tmps.getD t undef = σ t := ⟨_, fun _ => rfl⟩
        simp only [hσ] at hl eR0
        clear hσ
        simp only [List.foldl_cons, List.foldl_nil, List.setIfInBounds_toArray, List.set_cons_zero, List.set_cons_succ, eR0] at hl
        subst hl
        go_wp2_with fail
        go_meet
        exact ⟨rfl, hold⟩
  case rest =>
  obtain ⟨rfl, HB⟩ := hcut
  obtain ⟨w1, rfl⟩ : ∃ u, u = wc := ⟨_, rfl⟩
  have HR1 := Lib.hid (HR.out.below HB.out)
  have HS1 := Lib.hid (Save.of HB.out (Nat.le_of_lt HBK.out.lt))
  clear hgb htb
  cases tb with
  | true =>
    have HZ : Hid (rdEnd xs r = (5, ⟨r.next, r.next, 5⟩)) := by show _ = _; unfold rdEnd; rw [if_pos (of_decide_eq_true HTB.out)]
    go_wp2_with fail
    refine (rwrong_any g xs r 5 w1 HR1.out).mono ?_
    rintro en w2 ⟨rfl, hr2, hs2⟩
    have HR2 := Lib.hid hr2
    have HS2 := Lib.hid (HS1.out.trans hs2)
    obtain ⟨⟨A2, c2, hb2, _, _⟩, _, _⟩ := hr2
    obtain ⟨d0, d1, d2, d3⟩ := hb2.cells4
    clear hs2 hb2
    go_wp2_with fail
    go_ret
    rw [HZ.out]
    exact ⟨rfl, HR2.out, HS2.out⟩
  | false =>
    have HZ : Hid (rdEnd xs r = (r.why, r)) := by show _ = _; unfold rdEnd; rw [if_neg (of_decide_eq_false HTB.out)]
    obtain ⟨d0, d1, d2, d3⟩ := (HBK.out.below HB.out HBK.out.lt).cells4
    go_wp2_with fail
    go_ret
    rw [HZ.out]
    exact ⟨rfl, HR1.out, HS1.out⟩

set_option maxRecDepth 100000 in
set_option maxHeartbeats 1000000 in
theorem rread_any (A : Option Addr) (n c : Nat) (xs : List UInt8) (w : World) (h : Bytes w w.heap.size A n xs) (hr : n ≤ 140737488355328) :
    Calls Try.prog 59 #[.slice A n c] w (fun en w' => ∃ g, en = .returned (.pointer (some ⟨g, 0, none⟩)) ∧ w.heap.size ≤ g ∧ RRef w' g xs ⟨0, 0, 0⟩ ∧ Below w.heap.size w w') := by
  have HI : Hid (Bytes (w.alloc (.cells #[] 5)) w.heap.size A n xs) := Reads.alloc h (Nat.le_refl _) _
  have HO : Hid (Own (w.alloc (.cells #[] 5)) w.heap.size 5 (.slice (some ⟨w.heap.size, 0, none⟩) 0 0) 0 []) := Own.new w w.heap.size 5 [] (Nat.le_refl _) (Nat.zero_le _)
  have HB : Hid (Below w.heap.size w (w.alloc (.cells #[] 5))) := (Below.refl _ _).alloc (Nat.le_refl _) _
  have HL := Lib.hid (Bytes.length h)
  clear h
  go_enter Try.func59, Try.ntmps59
  go_wp2_with (at_builtin; refine wpList_append_b (o := ⟨some 5, _, _, _, _, _⟩) rfl (.tmp 3) (.tmp 4) Try.underlying44 infoByte rfl rfl HO.out rfl HI.out rfl (bytesV_one _) (by unfold maxLen; omega) (by omega) HB.out HB.out.size HB.out.size (Nat.le_refl _) ?_; intro vB wB HO2 HB2 _ HG2; rw [Nat.zero_add, List.nil_append] at HO2; obtain ⟨A2, c2, hv, hc2, hr2⟩ := HO2.out.read; have HV := Lib.hid hv; subst hv; have HY2 := Lib.hid hr2)
  go_ret
  refine ⟨_, rfl, HB2.size, ⟨⟨A2, c2, ?_, ?_, by rw [HL.out]; exact hc2⟩, Nat.zero_le _, by rw [HL.out]; omega⟩, HB2.alloc HB2.size _⟩
  · rw [HL.out]
    exact Blk.new wB _ _
  · rw [HL.out]
    exact Reads.alloc HY2.out (Nat.le_refl _) _

#print axioms rflagr_any
#print axioms rend_any
#print axioms rread_any
end Go.Proofs.Ytbnhbbjmocclmaa.Wire
