/-
  The program's reader, walked: Good, Err, fail, Read, Num, Count.
-/
import Derived.Test.YtbnhbbjmocclmaaWireRRead2
import Derived.Test.YtbnhbbjmocclmaaWirePGet
import Derived.Test.YtbnhbbjmocclmaaWireAll
namespace Go.Proofs.Ytbnhbbjmocclmaa.Wire
open Go.ChangeShapes Go.WideShapes Go.ChangeAt Go.RowKit Go.Proofs.Ytbnhbbjmocclmaa.Mem Go.Proofs.Ytbnhbbjmocclmaa.WireMath
set_option linter.unusedVariables false

/-- a part of a slice of bytes -/
abbrev bpart (A : Option Addr) (l c : Nat) : Option Addr := if c = l then A else A.map (·.add l)
theorem op_slice_b {o : Oper} {a : Act} {u : World} {x y : Operand} {A : Option Addr} {n c l : Nat} (ho : o.op = .slice 44 x (some y) none none) (hx : a.eval x = .slice A n c) (hy : a.eval y = .int .i64 (l : Int)) (h2 : l ≤ n) (h3 : n ≤ c) :
    (execOp a.eval o).run Try.prog u = .ok (.value (.slice (bpart A l c) (n - l) (c - l))) u := by
  have hsz : (sizeOf 5).run Try.prog u = .ok 1 u := by
    obtain ⟨i, hi, _, hz, _⟩ := info_parts infoByte
    simp [sizeOf, typeInfo, hi, hz]
  have hr : (Instr.sliceAt 44 (.slice A n c) (some (.int .i64 (l : Int))) none none).run Try.prog u = .ok (.slice (bpart A l c) (n - l) (c - l)) u := by
    simp [Instr.sliceAt, Instr.slice, Instr.sliceBounds, Instr.sliceBound, run_underlying Try.underlying44, asIntOf, hsz, h2, bpart]
  unfold execOp
  rw [ho]
  simp only [hx, hy, Option.map_some, Option.map_none, Sem.run_bind, hr, Result.andThen_ok, Sem.run_pure]
theorem pnumber_on (A : Option Addr) (c at_ B : Nat) (xs : List UInt8) (u : World) (h : Bytes u B A xs.length xs) (hat : at_ ≤ xs.length) (hc : xs.length ≤ c) (hn : xs.length ≤ 140737488355328) :
    Calls Try.prog 89 #[.slice (bpart A at_ c) (xs.length - at_) (c - at_)] u (fun e w' => e = .returned (numP (getN (xs.drop at_))) ∧ Below u.heap.size u w') := by
  have hp := Bytes.part h hat (Nat.le_refl _) hc
  rw [List.take_of_length_le (by rw [List.length_drop]; omega)] at hp
  exact (pnumber_any (bpart A at_ c) (xs.length - at_) (c - at_) B (xs.drop at_) u hp (by omega)).mono fun _ _ h => ⟨h.1, by rw [← h.2]; exact Below.refl _ _⟩
abbrev fltV (k e : Int) : Value := .agg #[.int .i64 k, .int .i64 e]
theorem pgood_any (k e : Int) (w : World) : Calls Try.prog 67 #[fltV k e] w (fun en w' => en = .returned (.bool (e == 0)) ∧ Below w.heap.size w w') := by
  go_enter Try.func67, Try.ntmps67
  go_wp2
  go_ret
  exact ⟨rfl, (Below.refl _ _).alloc (Nat.le_refl _) _⟩
theorem perr_any (k e : Int) (w : World) : Calls Try.prog 70 #[fltV k e] w (fun en w' => en = .returned (.int .i64 e) ∧ Below w.heap.size w w') := by
  go_enter Try.func70, Try.ntmps70
  go_wp2
  go_ret
  exact ⟨rfl, (Below.refl _ _).alloc (Nat.le_refl _) _⟩

set_option maxRecDepth 100000 in
set_option maxHeartbeats 1000000 in
theorem pfail_any (g : Nat) (xs : List UInt8) (r : Rd) (at_ : Nat) (e : Int) (w : World) (h : RProg w g xs r) (ha : at_ ≤ xs.length) :
    Calls Try.prog 68 #[.pointer (some ⟨g, 0, none⟩), .int .i64 (at_ : Int), .int .i64 e] w (fun en w' => en = .returned (.tuple #[]) ∧ RProg w' g xs ⟨at_, at_, e⟩ ∧ Save g w w') := by
  obtain ⟨⟨A, c, hb, hy, hc⟩, hle, hmx⟩ := h
  obtain ⟨c0, c1, c2, c3⟩ := hb.cells4
  have hfz := hb.free
  have HRES : Hid (RProg (((w.setCell ⟨g, 3, none⟩ (.int .i64 (at_ : Int))).setCell ⟨g, 0, none⟩ (.int .i64 (at_ : Int))).setCell ⟨g, 1, none⟩ (.int .i64 e)) g xs ⟨at_, at_, e⟩ ∧ Save g w (((w.setCell ⟨g, 3, none⟩ (.int .i64 (at_ : Int))).setCell ⟨g, 0, none⟩ (.int .i64 (at_ : Int))).setCell ⟨g, 1, none⟩ (.int .i64 e))) :=
    ⟨⟨⟨A, c, ((hb.put 3 _).put 0 _).put 1 _, Reads.keep hy ((keep_set.trans keep_set).trans keep_set), hc⟩, ha, hmx⟩, (((Save.refl (Nat.le_of_lt hb.lt)).set _ _).set _ _).set _ _⟩
  have hcs : ∀ (u : World) (i j : Nat) (v : Value), i ≠ j → (u.setCell ⟨g, i, none⟩ v).cell? ⟨g, j, none⟩ = u.cell? ⟨g, j, none⟩ := fun u i j v h => World.cell?_setCell_other u _ _ v fun e => h (by injection e)
  have hfs : ∀ (u : World) (a b : Addr) (v : Value), (u.setCell a v).frozen? b = u.frozen? b := fun u a b v => by simp
  clear hb hy
  go_enter Try.func68, Try.ntmps68
  go_wp2_with fail
  first
    | (go_end0; exact ⟨rfl, HRES.out⟩)
    | exact bodyPost_ret (v := .tuple #[]) (by kernel_rfl) rfl ⟨rfl, HRES.out⟩

set_option maxRecDepth 100000 in
set_option maxHeartbeats 1000000 in
theorem pread_any (A : Option Addr) (n c : Nat) (xs : List UInt8) (w : World) (h : Bytes w w.heap.size A n xs) (hr : n ≤ 140737488355328) :
    Calls Try.prog 44 #[.slice A n c] w (fun en w' => ∃ g, en = .returned (.pointer (some ⟨g, 0, none⟩)) ∧ w.heap.size ≤ g ∧ RProg w' g xs ⟨0, 0, 0⟩ ∧ Below w.heap.size w w') := by
  have HI := Lib.hid h
  have HL := Lib.hid (Bytes.length h)
  clear h
  go_enter Try.func44, Try.ntmps44
  go_wp2_with fail
  refine (pcopied_any A n c 0 xs w HI.out (by omega)).mono ?_
  rintro e w1 ⟨v1, rfl, hb1, ho1⟩
  obtain ⟨A2, c2, rfl, hc2, hr2⟩ := ho1.read
  have HB2 := Lib.hid hb1
  have HY2 : Hid (Bytes w1 w1.heap.size A2 n xs) := hr2
  clear hb1 ho1 hr2
  go_wp2_with fail
  go_ret
  refine ⟨_, rfl, HB2.out.size, ⟨⟨A2, c2, ?_, ?_, by rw [HL.out]; exact hc2⟩, Nat.zero_le _, by rw [HL.out]; omega⟩, HB2.out.alloc HB2.out.size _⟩
  · rw [HL.out]
    exact Blk.new w1 _ _
  · rw [HL.out]
    exact Reads.alloc HY2.out (Nat.le_refl _) _

set_option maxRecDepth 100000 in
set_option maxHeartbeats 1000000 in
theorem pnumr_any (g : Nat) (xs : List UInt8) (r : Rd) (w : World) (h : RProg w g xs r) :
    Calls Try.prog 66 #[.pointer (some ⟨g, 0, none⟩)] w (fun en w' => en = .returned (.int .i64 (rdNum xs r).1) ∧ RProg w' g xs (rdNum xs r).2 ∧ Save g w w') := by
  have HR0 := Lib.hid h
  obtain ⟨⟨A, c, hb, hy, hc⟩, hle, hmx⟩ := h
  obtain ⟨c0, c1, c2, c3⟩ := hb.cells4
  have HBK0 := Lib.hid hb
  have HBY0 := Lib.hid hy
  have HCC := Lib.hid hc
  clear hb hy hc hle hmx
  go_enter Try.func66, Try.ntmps66
  go_wp2_with fail
  refine (pgood_any (r.at_ : Int) r.why w).mono ?_
  rintro en w0 ⟨rfl, hb0⟩
  have HR := Lib.hid (HR0.out.below hb0)
  have HBK := Lib.hid (HBK0.out.below hb0 HBK0.out.lt)
  have HBY : Hid (Bytes w0 g A xs.length xs) := Reads.keep HBY0.out (hb0.mono (Nat.le_of_lt HBK0.out.lt))
  have HS := Lib.hid (Save.of hb0 (Nat.le_of_lt HBK0.out.lt))
  clear hb0 c0 c1 c2 c3 HR0 HBK0 HBY0
  obtain ⟨c0, c1, c2, c3⟩ := HBK.out.cells4
  by_cases hw : r.why = 0
  case neg =>
    have HZ : Hid (rdNum xs r = (0, r)) := by show _ = _; unfold rdNum; rw [if_neg hw]
    have e1 : (r.why == 0) = false := by simpa using hw
    clear hw
    go_wp2_with fail
    go_ret
    rw [HZ.out]
    exact ⟨rfl, HR.out, HS.out⟩
  have e1 : (r.why == 0) = true := by simpa using hw
  have HW0 := Lib.hid hw
  go_upto_region 3 with fail
  clear c0 c1 c2 c3
  cases hg : getN (xs.drop r.next) with
  | ok p =>
    obtain ⟨v, k⟩ := p
    have HGN := Lib.hid hg
    obtain ⟨hk, _⟩ := getN_k hg
    rw [List.length_drop] at hk
    have HZ : Hid (rdNum xs r = (v, ⟨r.next + k, r.at_, 0⟩)) := by show _ = _; unfold rdNum; rw [if_pos hw, hg]
    have HKL : Hid (r.next + k ≤ xs.length) := by have := HR.out.le; show _ ≤ _; omega
    clear hg hk hw
    go_cut [3, 4, 5] (fun v3 v4 v5 wx => v3 = .int .i64 v ∧ v4 = .int .i64 ((k : Nat) : Int) ∧ v5 = .int .i64 0 ∧ Hid (Below w0.heap.size w0 wx))
    case first =>
      refine wp_region_steps (valRF [13, 14, 15, 16, 17, 18, 19, 20, 21, 22, 12, 23, 24, 25, 3, 4, 5] [.pointer (some ⟨g, 0, none⟩), .pointer (some ⟨g, 0, none⟩), .pointer (some ⟨g, 2, none⟩), .slice A xs.length c, .pointer (some ⟨g, 0, none⟩), .pointer (some ⟨g, 0, none⟩), .pointer (some ⟨g, 3, none⟩), .int .i64 (r.next : Int), .slice (bpart A r.next c) (xs.length - r.next) (c - r.next), .tuple #[.int .i64 v, .int .i64 ((k : Nat) : Int), .int .i64 0], .tuple #[.int .i64 v, .int .i64 ((k : Nat) : Int), .int .i64 0], .int .i64 v, .int .i64 ((k : Nat) : Int), .int .i64 0, .int .i64 v, .int .i64 ((k : Nat) : Int), .int .i64 0]) (by kernel_rfl) (by kernel_rfl) (by kernel_rfl) (fun _ _ => rfl) (by kernel_rfl) valRF.mon ?_ ?_
      · refine ⟨?_, ?_, ?_, ?_, ?_, ?_, ?_, ?_, ?_, ?_, ?_, ?_, ?_, ?_, ?_, ?_, ?_, trivial⟩
        · exact valRF.pureStep rfl 13 rfl rfl (by simp) _ rfl fun listed a u D hI hr hn => exec_move (.inl rfl) (hI.out 0 (by kernel_rfl))
        · exact valRF.pureStep rfl 14 rfl rfl (by simp) _ rfl fun listed a u D hI hr hn => op_nil rfl (valRF.val hI hr hn 0 (by kernel_rfl) rfl rfl)
        · exact valRF.pureStep rfl 15 rfl rfl (by simp) _ rfl fun listed a u D hI hr hn => op_field rfl (valRF.val hI hr hn 1 (by kernel_rfl) rfl rfl) (by simp [go_sem])
        · exact valRF.pureStep rfl 16 rfl rfl (by simp) _ rfl fun listed a u D hI hr hn => exec_load rfl (valRF.val hI hr hn 2 (by kernel_rfl) rfl rfl) (run_ld_sl (HBK.out.below (below_d hI.old) HBK.out.lt).cells4.2.2.1)
        · exact valRF.pureStep rfl 17 rfl rfl (by simp) _ rfl fun listed a u D hI hr hn => exec_move (.inl rfl) (hI.out 0 (by kernel_rfl))
        · exact valRF.pureStep rfl 18 rfl rfl (by simp) _ rfl fun listed a u D hI hr hn => op_nil rfl (valRF.val hI hr hn 4 (by kernel_rfl) rfl rfl)
        · exact valRF.pureStep rfl 19 rfl rfl (by simp) _ rfl fun listed a u D hI hr hn => op_field rfl (valRF.val hI hr hn 5 (by kernel_rfl) rfl rfl) (by simp [go_sem])
        · exact valRF.pureStep rfl 20 rfl rfl (by simp) _ rfl fun listed a u D hI hr hn => exec_load rfl (valRF.val hI hr hn 6 (by kernel_rfl) rfl rfl) (run_ld_i (HBK.out.below (below_d hI.old) HBK.out.lt).cells4.2.2.2)
        · exact valRF.pureStep rfl 21 rfl rfl (by simp) _ rfl fun listed a u D hI hr hn => op_slice_b rfl (valRF.val hI hr hn 3 (by kernel_rfl) rfl rfl) (valRF.val hI hr hn 7 (by kernel_rfl) rfl rfl) HR.out.le HCC.out
        · exact valRF.callStep rfl 22 rfl rfl (by simp) (.tuple #[.int .i64 v, .int .i64 ((k : Nat) : Int), .int .i64 0]) rfl fun listed a u D hI hr hn => ⟨_, _, op_call1 rfl (valRF.val hI hr hn 8 (by kernel_rfl) rfl rfl) (by simp [go_sem]), (pnumber_on A c r.next g xs u (Reads.keep HBY.out ((below_d hI.old).mono (Nat.le_of_lt HBK.out.lt))) HR.out.le HCC.out HR.out.max).mono fun _ _ h => ⟨by rw [h.1, HGN.out]; rfl, h.2⟩⟩
        · exact valRF.pureStep rfl 12 rfl rfl (by simp) _ rfl fun listed a u D hI hr hn => exec_move (.inl rfl) (valRF.val hI hr hn 9 (by kernel_rfl) rfl rfl)
        · exact valRF.pureStep rfl 23 rfl rfl (by simp) _ rfl fun listed a u D hI hr hn => op_extract rfl (valRF.val hI hr hn 10 (by kernel_rfl) rfl rfl) rfl
        · exact valRF.pureStep rfl 24 rfl rfl (by simp) _ rfl fun listed a u D hI hr hn => op_extract rfl (valRF.val hI hr hn 10 (by kernel_rfl) rfl rfl) rfl
        · exact valRF.pureStep rfl 25 rfl rfl (by simp) _ rfl fun listed a u D hI hr hn => op_extract rfl (valRF.val hI hr hn 10 (by kernel_rfl) rfl rfl) rfl
        · exact valRF.pureStep rfl 3 rfl rfl (by simp) _ rfl fun listed a u D hI hr hn => exec_move (.inr rfl) (valRF.val hI hr hn 11 (by kernel_rfl) rfl rfl)
        · exact valRF.pureStep rfl 4 rfl rfl (by simp) _ rfl fun listed a u D hI hr hn => exec_move (.inr rfl) (valRF.val hI hr hn 12 (by kernel_rfl) rfl rfl)
        · exact valRF.pureStep rfl 5 rfl rfl (by simp) _ rfl fun listed a u D hI hr hn => exec_move (.inr rfl) (valRF.val hI hr hn 13 (by kernel_rfl) rfl rfl)
      · intro listed a u D hI hall
        have eR0 : a.tmps.getD 3 undef = .int .i64 v := (hI.fact 14 ⟨hall 14 (by simp), fun k hk => by cases hk⟩).1
        have eR1 : a.tmps.getD 4 undef = .int .i64 ((k : Nat) : Int) := (hI.fact 15 ⟨hall 15 (by simp), fun k hk => by cases hk⟩).1
        have eR2 : a.tmps.getD 5 undef = .int .i64 0 := (hI.fact 16 ⟨hall 16 (by simp), fun k hk => by cases hk⟩).1
        have hold := below_d hI.old
        have hl := hI.fill [13, 14, 15, 16, 17, 18, 19, 20, 21, 22, 12, 23, 24, 25, 3, 4, 5] (by kernel_rfl)
        clear hI hall
        obtain ⟨σ, hσ⟩ : ∃ σ : Nat → Value, ∀ t, a.tmps.getD t undef = σ t := ⟨_, fun _ => rfl⟩
        simp only [hσ] at hl eR0 eR1 eR2
        clear hσ
        simp only [List.foldl_cons, List.foldl_nil, List.setIfInBounds_toArray, List.set_cons_zero, List.set_cons_succ, eR0, eR1, eR2] at hl
        subst hl
        go_wp2_with fail
        go_meet
        exact ⟨rfl, rfl, rfl, hold⟩
    case rest =>
    obtain ⟨rfl, rfl, rfl, HB⟩ := hcut
    obtain ⟨w1, rfl⟩ : ∃ u, u = wc := ⟨_, rfl⟩
    have HBK1 := Lib.hid (HBK.out.below HB.out HBK.out.lt)
    obtain ⟨d0, d1, d2, d3⟩ := HBK1.out.cells4
    have hfz := HBK1.out.free
    obtain ⟨nk, hnk⟩ : ∃ x : Nat, r.next + k = x := ⟨_, rfl⟩
    have hn1 : (r.next : Int) + (k : Int) = (nk : Int) := by omega
    have hn2 : IntKind.i64.wrap (nk : Int) = (nk : Int) := IntWalk.i64_in _ (by have := HKL.out; have := HR.out.max; omega)
    rw [hnk] at HZ HKL
    have HRES : Hid (RProg (w1.setCell ⟨g, 3, none⟩ (.int .i64 (nk : Int))) g xs ⟨nk, r.at_, 0⟩ ∧ Save g w (w1.setCell ⟨g, 3, none⟩ (.int .i64 (nk : Int)))) := by
      refine ⟨⟨⟨A, c, ?_, Reads.keep (Reads.keep HBY.out (HB.out.mono (Nat.le_of_lt HBK.out.lt))) keep_set, HCC.out⟩, HKL.out, HR.out.max⟩, (HS.out.next HB.out (Nat.le_of_lt HBK.out.lt)).set _ _⟩
      have := HBK1.out.put 3 (.int .i64 (nk : Int))
      rw [HW0.out] at this
      exact this
    clear hnk HB HBK1
    go_wp2_with fail
    go_ret
    rw [HZ.out]
    exact ⟨rfl, HRES.out⟩
  | error e =>
    have HGN := Lib.hid hg
    have he := getN_err hg
    have e2 : (e == 0) = false := by simp; omega
    have HZ : Hid (rdNum xs r = (0, ⟨r.next, r.next, e⟩)) := by show _ = _; unfold rdNum; rw [if_pos hw, hg]
    clear hg hw he
    go_cut [3, 4, 5] (fun v3 v4 v5 wx => v3 = .int .i64 0 ∧ v4 = .int .i64 0 ∧ v5 = .int .i64 e ∧ Hid (Below w0.heap.size w0 wx))
    case first =>
      refine wp_region_steps (valRF [13, 14, 15, 16, 17, 18, 19, 20, 21, 22, 12, 23, 24, 25, 3, 4, 5] [.pointer (some ⟨g, 0, none⟩), .pointer (some ⟨g, 0, none⟩), .pointer (some ⟨g, 2, none⟩), .slice A xs.length c, .pointer (some ⟨g, 0, none⟩), .pointer (some ⟨g, 0, none⟩), .pointer (some ⟨g, 3, none⟩), .int .i64 (r.next : Int), .slice (bpart A r.next c) (xs.length - r.next) (c - r.next), .tuple #[.int .i64 0, .int .i64 0, .int .i64 e], .tuple #[.int .i64 0, .int .i64 0, .int .i64 e], .int .i64 0, .int .i64 0, .int .i64 e, .int .i64 0, .int .i64 0, .int .i64 e]) (by kernel_rfl) (by kernel_rfl) (by kernel_rfl) (fun _ _ => rfl) (by kernel_rfl) valRF.mon ?_ ?_
      · refine ⟨?_, ?_, ?_, ?_, ?_, ?_, ?_, ?_, ?_, ?_, ?_, ?_, ?_, ?_, ?_, ?_, ?_, trivial⟩
        · exact valRF.pureStep rfl 13 rfl rfl (by simp) _ rfl fun listed a u D hI hr hn => exec_move (.inl rfl) (hI.out 0 (by kernel_rfl))
        · exact valRF.pureStep rfl 14 rfl rfl (by simp) _ rfl fun listed a u D hI hr hn => op_nil rfl (valRF.val hI hr hn 0 (by kernel_rfl) rfl rfl)
        · exact valRF.pureStep rfl 15 rfl rfl (by simp) _ rfl fun listed a u D hI hr hn => op_field rfl (valRF.val hI hr hn 1 (by kernel_rfl) rfl rfl) (by simp [go_sem])
        · exact valRF.pureStep rfl 16 rfl rfl (by simp) _ rfl fun listed a u D hI hr hn => exec_load rfl (valRF.val hI hr hn 2 (by kernel_rfl) rfl rfl) (run_ld_sl (HBK.out.below (below_d hI.old) HBK.out.lt).cells4.2.2.1)
        · exact valRF.pureStep rfl 17 rfl rfl (by simp) _ rfl fun listed a u D hI hr hn => exec_move (.inl rfl) (hI.out 0 (by kernel_rfl))
        · exact valRF.pureStep rfl 18 rfl rfl (by simp) _ rfl fun listed a u D hI hr hn => op_nil rfl (valRF.val hI hr hn 4 (by kernel_rfl) rfl rfl)
        · exact valRF.pureStep rfl 19 rfl rfl (by simp) _ rfl fun listed a u D hI hr hn => op_field rfl (valRF.val hI hr hn 5 (by kernel_rfl) rfl rfl) (by simp [go_sem])
        · exact valRF.pureStep rfl 20 rfl rfl (by simp) _ rfl fun listed a u D hI hr hn => exec_load rfl (valRF.val hI hr hn 6 (by kernel_rfl) rfl rfl) (run_ld_i (HBK.out.below (below_d hI.old) HBK.out.lt).cells4.2.2.2)
        · exact valRF.pureStep rfl 21 rfl rfl (by simp) _ rfl fun listed a u D hI hr hn => op_slice_b rfl (valRF.val hI hr hn 3 (by kernel_rfl) rfl rfl) (valRF.val hI hr hn 7 (by kernel_rfl) rfl rfl) HR.out.le HCC.out
        · exact valRF.callStep rfl 22 rfl rfl (by simp) (.tuple #[.int .i64 0, .int .i64 0, .int .i64 e]) rfl fun listed a u D hI hr hn => ⟨_, _, op_call1 rfl (valRF.val hI hr hn 8 (by kernel_rfl) rfl rfl) (by simp [go_sem]), (pnumber_on A c r.next g xs u (Reads.keep HBY.out ((below_d hI.old).mono (Nat.le_of_lt HBK.out.lt))) HR.out.le HCC.out HR.out.max).mono fun _ _ h => ⟨by rw [h.1, HGN.out]; rfl, h.2⟩⟩
        · exact valRF.pureStep rfl 12 rfl rfl (by simp) _ rfl fun listed a u D hI hr hn => exec_move (.inl rfl) (valRF.val hI hr hn 9 (by kernel_rfl) rfl rfl)
        · exact valRF.pureStep rfl 23 rfl rfl (by simp) _ rfl fun listed a u D hI hr hn => op_extract rfl (valRF.val hI hr hn 10 (by kernel_rfl) rfl rfl) rfl
        · exact valRF.pureStep rfl 24 rfl rfl (by simp) _ rfl fun listed a u D hI hr hn => op_extract rfl (valRF.val hI hr hn 10 (by kernel_rfl) rfl rfl) rfl
        · exact valRF.pureStep rfl 25 rfl rfl (by simp) _ rfl fun listed a u D hI hr hn => op_extract rfl (valRF.val hI hr hn 10 (by kernel_rfl) rfl rfl) rfl
        · exact valRF.pureStep rfl 3 rfl rfl (by simp) _ rfl fun listed a u D hI hr hn => exec_move (.inr rfl) (valRF.val hI hr hn 11 (by kernel_rfl) rfl rfl)
        · exact valRF.pureStep rfl 4 rfl rfl (by simp) _ rfl fun listed a u D hI hr hn => exec_move (.inr rfl) (valRF.val hI hr hn 12 (by kernel_rfl) rfl rfl)
        · exact valRF.pureStep rfl 5 rfl rfl (by simp) _ rfl fun listed a u D hI hr hn => exec_move (.inr rfl) (valRF.val hI hr hn 13 (by kernel_rfl) rfl rfl)
      · intro listed a u D hI hall
        have eR0 : a.tmps.getD 3 undef = .int .i64 0 := (hI.fact 14 ⟨hall 14 (by simp), fun k hk => by cases hk⟩).1
        have eR1 : a.tmps.getD 4 undef = .int .i64 0 := (hI.fact 15 ⟨hall 15 (by simp), fun k hk => by cases hk⟩).1
        have eR2 : a.tmps.getD 5 undef = .int .i64 e := (hI.fact 16 ⟨hall 16 (by simp), fun k hk => by cases hk⟩).1
        have hold := below_d hI.old
        have hl := hI.fill [13, 14, 15, 16, 17, 18, 19, 20, 21, 22, 12, 23, 24, 25, 3, 4, 5] (by kernel_rfl)
        clear hI hall
        obtain ⟨σ, hσ⟩ : ∃ σ : Nat → Value, ∀ t, a.tmps.getD t undef = σ t := ⟨_, fun _ => rfl⟩
        simp only [hσ] at hl eR0 eR1 eR2
        clear hσ
        simp only [List.foldl_cons, List.foldl_nil, List.setIfInBounds_toArray, List.set_cons_zero, List.set_cons_succ, eR0, eR1, eR2] at hl
        subst hl
        go_wp2_with fail
        go_meet
        exact ⟨rfl, rfl, rfl, hold⟩
    case rest =>
    obtain ⟨rfl, rfl, rfl, HB⟩ := hcut
    obtain ⟨w1, rfl⟩ : ∃ u, u = wc := ⟨_, rfl⟩
    have HR1 := Lib.hid (HR.out.below HB.out)
    obtain ⟨d0, d1, d2, d3⟩ := (HBK.out.below HB.out HBK.out.lt).cells4
    go_wp2_with fail
    refine (pfail_any g xs r r.next e w1 HR1.out HR.out.le).mono ?_
    rintro en w2 ⟨rfl, hr2, hs2⟩
    have HR2 := Lib.hid hr2
    have HS2 := Lib.hid ((HS.out.next HB.out (Nat.le_of_lt HBK.out.lt)).trans hs2)
    clear hr2 hs2 d0 d1 d2 d3
    go_wp2_with fail
    go_ret
    rw [HZ.out]
    exact ⟨rfl, HR2.out, HS2.out⟩

#print axioms pread_any
#print axioms pnumr_any
end Go.Proofs.Ytbnhbbjmocclmaa.Wire
