/-
  The document's own reader, walked: wrong, Read, Num, count, Count, Flag, End.
-/
import Derived.Test.YtbnhbbjmocclmaaWireAll
import Derived.Test.YtbnhbbjmocclmaaWireRGet
namespace Go.Proofs.Ytbnhbbjmocclmaa.Wire
open Go.ChangeShapes Go.WideShapes Go.ChangeAt Go.RowKit Go.Proofs.Ytbnhbbjmocclmaa.Mem Go.Proofs.Ytbnhbbjmocclmaa.WireMath
set_option linter.unusedVariables false

theorem below_d {w u : World} (h : Below w.drew.heap.size w.drew u) : Below w.heap.size w u := (Below.refl w.heap.size w).drew.trans h
theorem _root_.Go.Proofs.Ytbnhbbjmocclmaa.Mem.Blk.cells4 {u : World} {g : Nat} {t : TypeId} {a b c d : Value} (h : Blk u g t [a, b, c, d]) : u.cell? ⟨g, 0, none⟩ = some a ∧ u.cell? ⟨g, 1, none⟩ = some b ∧ u.cell? ⟨g, 2, none⟩ = some c ∧ u.cell? ⟨g, 3, none⟩ = some d := ⟨h.cell rfl, h.cell rfl, h.cell rfl, h.cell rfl⟩
theorem run_ld_sl {u : World} {p : Addr} {A : Option Addr} {n c : Nat} (h : u.cell? p = some (.slice A n c)) : (Instr.loadAt 44 (.pointer (some p))).run Try.prog u = .ok (.slice A n c) u := by
  simp [go_sem, h]
theorem run_ld_i {u : World} {p : Addr} {v : Int} (h : u.cell? p = some (.int .i64 v)) : (Instr.loadAt 3 (.pointer (some p))).run Try.prog u = .ok (.int .i64 v) u := by
  simp [go_sem, h]
theorem rnumber_on (A : Option Addr) (c at_ B : Nat) (xs : List UInt8) (u : World) (h : Bytes u B A xs.length xs) (hat : at_ ≤ xs.length) (hn : xs.length ≤ 140737488355328) :
    Calls Try.prog 91 #[.slice A xs.length c, .int .i64 at_] u (fun e w' => e = .returned (numV at_ (getN (xs.drop at_))) ∧ Below u.heap.size u w') :=
  (rnumber_any A xs.length c at_ B xs u h hat hn).mono fun _ _ h => ⟨h.1, by rw [← h.2]; exact Below.refl _ _⟩

set_option maxRecDepth 100000 in
set_option maxHeartbeats 1000000 in
theorem rwrong_any (g : Nat) (xs : List UInt8) (r : Rd) (e : Int) (w : World) (h : RRef w g xs r) :
    Calls Try.prog 76 #[.pointer (some ⟨g, 0, none⟩), .int .i64 e] w (fun en w' => en = .returned (.tuple #[]) ∧ RRef w' g xs ⟨r.next, r.next, e⟩ ∧ Save g w w') := by
  obtain ⟨⟨A, c, hb, hy, hc⟩, hle, hmx⟩ := h
  obtain ⟨c0, c1, c2, c3⟩ := hb.cells4
  have hfz := hb.free
  have HRES : Hid (RRef ((w.setCell ⟨g, 2, none⟩ (.int .i64 (r.next : Int))).setCell ⟨g, 3, none⟩ (.int .i64 e)) g xs ⟨r.next, r.next, e⟩ ∧ Save g w ((w.setCell ⟨g, 2, none⟩ (.int .i64 (r.next : Int))).setCell ⟨g, 3, none⟩ (.int .i64 e))) :=
    ⟨⟨⟨A, c, (hb.put 2 _).put 3 _, Reads.keep hy (keep_set.trans keep_set), hc⟩, hle, hmx⟩, ((Save.refl (Nat.le_of_lt hb.lt)).set _ _).set _ _⟩
  have hcs : ∀ (u : World) (i j : Nat) (v : Value), i ≠ j → (u.setCell ⟨g, i, none⟩ v).cell? ⟨g, j, none⟩ = u.cell? ⟨g, j, none⟩ := fun u i j v h => World.cell?_setCell_other u _ _ v fun e => h (by injection e)
  have hfs : ∀ (u : World) (a b : Addr) (v : Value), (u.setCell a v).frozen? b = u.frozen? b := fun u a b v => by simp
  clear hb hy
  go_enter Try.func76, Try.ntmps76
  go_wp2_with fail
  first
    | (go_end0; exact ⟨rfl, HRES.out⟩)
    | exact bodyPost_ret (v := .tuple #[]) (by kernel_rfl) rfl ⟨rfl, HRES.out⟩

set_option maxRecDepth 100000 in
set_option maxHeartbeats 1000000 in
theorem rnumr_any (g : Nat) (xs : List UInt8) (r : Rd) (w : World) (h : RRef w g xs r) :
    Calls Try.prog 74 #[.pointer (some ⟨g, 0, none⟩)] w (fun en w' => en = .returned (.int .i64 (rdNum xs r).1) ∧ RRef w' g xs (rdNum xs r).2 ∧ Save g w w') := by
  have HR := Lib.hid h
  obtain ⟨⟨A, c, hb, hy, hc⟩, hle, hmx⟩ := h
  obtain ⟨c0, c1, c2, c3⟩ := hb.cells4
  have HBK := Lib.hid hb
  have HBY := Lib.hid hy
  have HCC := Lib.hid hc
  by_cases hw : r.why = 0
  case neg =>
    have HZ : Hid (rdNum xs r = (0, r)) := by show _ = _; unfold rdNum; rw [if_neg hw]
    have e1 : (r.why == 0) = false := by simpa using hw
    clear hb hy hc hle hmx hw
    go_enter Try.func74, Try.ntmps74
    go_wp2_with fail
    go_ret
    rw [HZ.out]
    exact ⟨rfl, HR.out, Save.refl (Nat.le_of_lt HR.out.lt)⟩
  have e1 : (r.why == 0) = true := by simpa using hw
  have HW0 := Lib.hid hw
  clear hb hy hc hle hmx
  go_enter Try.func74, Try.ntmps74
  go_upto_region 3 with fail
  cases hg : getN (xs.drop r.next) with
  | ok p =>
    obtain ⟨v, k⟩ := p
    have HGN := Lib.hid hg
    obtain ⟨hk, _⟩ := getN_k hg
    rw [List.length_drop] at hk
    have HZ : Hid (rdNum xs r = (v, ⟨r.next + k, r.at_, 0⟩)) := by show _ = _; unfold rdNum; rw [if_pos hw, hg]
    have HKL : Hid (r.next + k ≤ xs.length) := by have := HR.out.le; show _ ≤ _; omega
    clear hg hk hw
    go_cut [3, 4, 5] (fun v3 v4 v5 wx => v3 = .int .i64 v ∧ v4 = .int .i64 ((r.next + k : Nat) : Int) ∧ v5 = .int .i64 0 ∧ Hid (Below w.heap.size w wx))
    case first =>
      refine wp_region_steps (valRF [12, 13, 14, 15, 16, 17, 18, 19, 20, 11, 21, 22, 23, 3, 4, 5] [.pointer (some ⟨g, 0, none⟩), .pointer (some ⟨g, 0, none⟩), .pointer (some ⟨g, 0, none⟩), .slice A xs.length c, .pointer (some ⟨g, 0, none⟩), .pointer (some ⟨g, 0, none⟩), .pointer (some ⟨g, 1, none⟩), .int .i64 (r.next : Int), .tuple #[.int .i64 v, .int .i64 ((r.next + k : Nat) : Int), .int .i64 0], .tuple #[.int .i64 v, .int .i64 ((r.next + k : Nat) : Int), .int .i64 0], .int .i64 v, .int .i64 ((r.next + k : Nat) : Int), .int .i64 0, .int .i64 v, .int .i64 ((r.next + k : Nat) : Int), .int .i64 0]) (by kernel_rfl) (by kernel_rfl) (by kernel_rfl) (fun _ _ => rfl) (by kernel_rfl) valRF.mon ?_ ?_
      · refine ⟨?_, ?_, ?_, ?_, ?_, ?_, ?_, ?_, ?_, ?_, ?_, ?_, ?_, ?_, ?_, ?_, trivial⟩
        · exact valRF.pureStep rfl 12 rfl rfl (by simp) _ rfl fun listed a u D hI hr hn => exec_move (.inl rfl) (hI.out 0 (by kernel_rfl))
        · exact valRF.pureStep rfl 13 rfl rfl (by simp) _ rfl fun listed a u D hI hr hn => op_nil rfl (valRF.val hI hr hn 0 (by kernel_rfl) rfl rfl)
        · exact valRF.pureStep rfl 14 rfl rfl (by simp) _ rfl fun listed a u D hI hr hn => op_field rfl (valRF.val hI hr hn 1 (by kernel_rfl) rfl rfl) (by simp [go_sem])
        · exact valRF.pureStep rfl 15 rfl rfl (by simp) _ rfl fun listed a u D hI hr hn => exec_load rfl (valRF.val hI hr hn 2 (by kernel_rfl) rfl rfl) (run_ld_sl (HBK.out.below (below_d hI.old) HBK.out.lt).cells4.1)
        · exact valRF.pureStep rfl 16 rfl rfl (by simp) _ rfl fun listed a u D hI hr hn => exec_move (.inl rfl) (hI.out 0 (by kernel_rfl))
        · exact valRF.pureStep rfl 17 rfl rfl (by simp) _ rfl fun listed a u D hI hr hn => op_nil rfl (valRF.val hI hr hn 4 (by kernel_rfl) rfl rfl)
        · exact valRF.pureStep rfl 18 rfl rfl (by simp) _ rfl fun listed a u D hI hr hn => op_field rfl (valRF.val hI hr hn 5 (by kernel_rfl) rfl rfl) (by simp [go_sem])
        · exact valRF.pureStep rfl 19 rfl rfl (by simp) _ rfl fun listed a u D hI hr hn => exec_load rfl (valRF.val hI hr hn 6 (by kernel_rfl) rfl rfl) (run_ld_i (HBK.out.below (below_d hI.old) HBK.out.lt).cells4.2.1)
        · exact valRF.callStep rfl 20 rfl rfl (by simp) (.tuple #[.int .i64 v, .int .i64 ((r.next + k : Nat) : Int), .int .i64 0]) rfl fun listed a u D hI hr hn => ⟨_, _, op_call2 rfl (valRF.val hI hr hn 3 (by kernel_rfl) rfl rfl) (valRF.val hI hr hn 7 (by kernel_rfl) rfl rfl) (by simp [go_sem]), (rnumber_on A c r.next g xs u (Reads.keep HBY.out ((below_d hI.old).mono (Nat.le_of_lt HBK.out.lt))) HR.out.le HR.out.max).mono fun _ _ h => ⟨by rw [h.1, HGN.out]; rfl, h.2⟩⟩
        · exact valRF.pureStep rfl 11 rfl rfl (by simp) _ rfl fun listed a u D hI hr hn => exec_move (.inl rfl) (valRF.val hI hr hn 8 (by kernel_rfl) rfl rfl)
        · exact valRF.pureStep rfl 21 rfl rfl (by simp) _ rfl fun listed a u D hI hr hn => op_extract rfl (valRF.val hI hr hn 9 (by kernel_rfl) rfl rfl) rfl
        · exact valRF.pureStep rfl 22 rfl rfl (by simp) _ rfl fun listed a u D hI hr hn => op_extract rfl (valRF.val hI hr hn 9 (by kernel_rfl) rfl rfl) rfl
        · exact valRF.pureStep rfl 23 rfl rfl (by simp) _ rfl fun listed a u D hI hr hn => op_extract rfl (valRF.val hI hr hn 9 (by kernel_rfl) rfl rfl) rfl
        · exact valRF.pureStep rfl 3 rfl rfl (by simp) _ rfl fun listed a u D hI hr hn => exec_move (.inr rfl) (valRF.val hI hr hn 10 (by kernel_rfl) rfl rfl)
        · exact valRF.pureStep rfl 4 rfl rfl (by simp) _ rfl fun listed a u D hI hr hn => exec_move (.inr rfl) (valRF.val hI hr hn 11 (by kernel_rfl) rfl rfl)
        · exact valRF.pureStep rfl 5 rfl rfl (by simp) _ rfl fun listed a u D hI hr hn => exec_move (.inr rfl) (valRF.val hI hr hn 12 (by kernel_rfl) rfl rfl)
      · intro listed a u D hI hall
        have eR0 : a.tmps.getD 3 undef = .int .i64 v := (hI.fact 13 ⟨hall 13 (by simp), fun k hk => by cases hk⟩).1
        have eR1 : a.tmps.getD 4 undef = .int .i64 ((r.next + k : Nat) : Int) := (hI.fact 14 ⟨hall 14 (by simp), fun k hk => by cases hk⟩).1
        have eR2 : a.tmps.getD 5 undef = .int .i64 0 := (hI.fact 15 ⟨hall 15 (by simp), fun k hk => by cases hk⟩).1
        have hold := below_d hI.old
        have hl := hI.fill [12, 13, 14, 15, 16, 17, 18, 19, 20, 11, 21, 22, 23, 3, 4, 5] (by kernel_rfl)
        clear hI hall
        obtain ⟨σ, hσ⟩ : ∃ σ : Nat → Value, ∀ t, a.tmps.getD t undef = σ t := ⟨_, fun _ => rfl⟩
        simp only [hσ] at hl eR0 eR1 eR2
        clear hσ
        simp only [List.foldl_cons, List.foldl_nil, List.setIfInBounds_toArray, List.set_cons_zero, List.set_cons_succ, eR0, eR1, eR2] at hl
        subst hl
        go_wp2_with fail
        go_meet
        exact ⟨rfl, rfl, rfl, hold⟩
    case rest =>
    obtain ⟨rfl, rfl, rfl, HB⟩ := hcut
    obtain ⟨w1, rfl⟩ : ∃ u, u = wc := ⟨_, rfl⟩
    have HBK1 := Lib.hid (HBK.out.below HB.out HBK.out.lt)
    obtain ⟨d0, d1, d2, d3⟩ := HBK1.out.cells4
    have hfz := HBK1.out.free
    have HRES : Hid (RRef (w1.setCell ⟨g, 1, none⟩ (.int .i64 ((r.next + k : Nat) : Int))) g xs ⟨r.next + k, r.at_, 0⟩ ∧ Save g w (w1.setCell ⟨g, 1, none⟩ (.int .i64 ((r.next + k : Nat) : Int)))) := by
      refine ⟨⟨⟨A, c, ?_, Reads.keep (Reads.keep HBY.out (HB.out.mono (Nat.le_of_lt HBK.out.lt))) keep_set, HCC.out⟩, HKL.out, HR.out.max⟩, ((Save.of HB.out (Nat.le_of_lt HBK.out.lt))).set _ _⟩
      have := HBK1.out.put 1 (.int .i64 ((r.next + k : Nat) : Int))
      rw [HW0.out] at this
      exact this
    obtain ⟨nk, hnk⟩ : ∃ x : Nat, r.next + k = x := ⟨_, rfl⟩
    rw [hnk] at HRES HZ ⊢
    clear hnk c0 c1 c2 c3 HB HBK1
    go_wp2_with fail
    go_ret
    rw [HZ.out]
    exact ⟨rfl, HRES.out⟩
  | error e =>
    have HGN := Lib.hid hg
    have he := getN_err hg
    have e2 : (e == 0) = false := by simp; omega
    have HZ : Hid (rdNum xs r = (0, ⟨r.next, r.next, e⟩)) := by show _ = _; unfold rdNum; rw [if_pos hw, hg]
    clear hg hw he
    go_cut [3, 4, 5] (fun v3 v4 v5 wx => v3 = .int .i64 0 ∧ v4 = .int .i64 0 ∧ v5 = .int .i64 e ∧ Hid (Below w.heap.size w wx))
    case first =>
      refine wp_region_steps (valRF [12, 13, 14, 15, 16, 17, 18, 19, 20, 11, 21, 22, 23, 3, 4, 5] [.pointer (some ⟨g, 0, none⟩), .pointer (some ⟨g, 0, none⟩), .pointer (some ⟨g, 0, none⟩), .slice A xs.length c, .pointer (some ⟨g, 0, none⟩), .pointer (some ⟨g, 0, none⟩), .pointer (some ⟨g, 1, none⟩), .int .i64 (r.next : Int), .tuple #[.int .i64 0, .int .i64 0, .int .i64 e], .tuple #[.int .i64 0, .int .i64 0, .int .i64 e], .int .i64 0, .int .i64 0, .int .i64 e, .int .i64 0, .int .i64 0, .int .i64 e]) (by kernel_rfl) (by kernel_rfl) (by kernel_rfl) (fun _ _ => rfl) (by kernel_rfl) valRF.mon ?_ ?_
      · refine ⟨?_, ?_, ?_, ?_, ?_, ?_, ?_, ?_, ?_, ?_, ?_, ?_, ?_, ?_, ?_, ?_, trivial⟩
        · exact valRF.pureStep rfl 12 rfl rfl (by simp) _ rfl fun listed a u D hI hr hn => exec_move (.inl rfl) (hI.out 0 (by kernel_rfl))
        · exact valRF.pureStep rfl 13 rfl rfl (by simp) _ rfl fun listed a u D hI hr hn => op_nil rfl (valRF.val hI hr hn 0 (by kernel_rfl) rfl rfl)
        · exact valRF.pureStep rfl 14 rfl rfl (by simp) _ rfl fun listed a u D hI hr hn => op_field rfl (valRF.val hI hr hn 1 (by kernel_rfl) rfl rfl) (by simp [go_sem])
        · exact valRF.pureStep rfl 15 rfl rfl (by simp) _ rfl fun listed a u D hI hr hn => exec_load rfl (valRF.val hI hr hn 2 (by kernel_rfl) rfl rfl) (run_ld_sl (HBK.out.below (below_d hI.old) HBK.out.lt).cells4.1)
        · exact valRF.pureStep rfl 16 rfl rfl (by simp) _ rfl fun listed a u D hI hr hn => exec_move (.inl rfl) (hI.out 0 (by kernel_rfl))
        · exact valRF.pureStep rfl 17 rfl rfl (by simp) _ rfl fun listed a u D hI hr hn => op_nil rfl (valRF.val hI hr hn 4 (by kernel_rfl) rfl rfl)
        · exact valRF.pureStep rfl 18 rfl rfl (by simp) _ rfl fun listed a u D hI hr hn => op_field rfl (valRF.val hI hr hn 5 (by kernel_rfl) rfl rfl) (by simp [go_sem])
        · exact valRF.pureStep rfl 19 rfl rfl (by simp) _ rfl fun listed a u D hI hr hn => exec_load rfl (valRF.val hI hr hn 6 (by kernel_rfl) rfl rfl) (run_ld_i (HBK.out.below (below_d hI.old) HBK.out.lt).cells4.2.1)
        · exact valRF.callStep rfl 20 rfl rfl (by simp) (.tuple #[.int .i64 0, .int .i64 0, .int .i64 e]) rfl fun listed a u D hI hr hn => ⟨_, _, op_call2 rfl (valRF.val hI hr hn 3 (by kernel_rfl) rfl rfl) (valRF.val hI hr hn 7 (by kernel_rfl) rfl rfl) (by simp [go_sem]), (rnumber_on A c r.next g xs u (Reads.keep HBY.out ((below_d hI.old).mono (Nat.le_of_lt HBK.out.lt))) HR.out.le HR.out.max).mono fun _ _ h => ⟨by rw [h.1, HGN.out]; rfl, h.2⟩⟩
        · exact valRF.pureStep rfl 11 rfl rfl (by simp) _ rfl fun listed a u D hI hr hn => exec_move (.inl rfl) (valRF.val hI hr hn 8 (by kernel_rfl) rfl rfl)
        · exact valRF.pureStep rfl 21 rfl rfl (by simp) _ rfl fun listed a u D hI hr hn => op_extract rfl (valRF.val hI hr hn 9 (by kernel_rfl) rfl rfl) rfl
        · exact valRF.pureStep rfl 22 rfl rfl (by simp) _ rfl fun listed a u D hI hr hn => op_extract rfl (valRF.val hI hr hn 9 (by kernel_rfl) rfl rfl) rfl
        · exact valRF.pureStep rfl 23 rfl rfl (by simp) _ rfl fun listed a u D hI hr hn => op_extract rfl (valRF.val hI hr hn 9 (by kernel_rfl) rfl rfl) rfl
        · exact valRF.pureStep rfl 3 rfl rfl (by simp) _ rfl fun listed a u D hI hr hn => exec_move (.inr rfl) (valRF.val hI hr hn 10 (by kernel_rfl) rfl rfl)
        · exact valRF.pureStep rfl 4 rfl rfl (by simp) _ rfl fun listed a u D hI hr hn => exec_move (.inr rfl) (valRF.val hI hr hn 11 (by kernel_rfl) rfl rfl)
        · exact valRF.pureStep rfl 5 rfl rfl (by simp) _ rfl fun listed a u D hI hr hn => exec_move (.inr rfl) (valRF.val hI hr hn 12 (by kernel_rfl) rfl rfl)
      · intro listed a u D hI hall
        have eR0 : a.tmps.getD 3 undef = .int .i64 0 := (hI.fact 13 ⟨hall 13 (by simp), fun k hk => by cases hk⟩).1
        have eR1 : a.tmps.getD 4 undef = .int .i64 0 := (hI.fact 14 ⟨hall 14 (by simp), fun k hk => by cases hk⟩).1
        have eR2 : a.tmps.getD 5 undef = .int .i64 e := (hI.fact 15 ⟨hall 15 (by simp), fun k hk => by cases hk⟩).1
        have hold := below_d hI.old
        have hl := hI.fill [12, 13, 14, 15, 16, 17, 18, 19, 20, 11, 21, 22, 23, 3, 4, 5] (by kernel_rfl)
        clear hI hall
        obtain ⟨σ, hσ⟩ : ∃ σ : Nat → Value, ∀ t, a.tmps.getD t undef = σ t := ⟨_, fun _ => rfl⟩
        simp only [hσ] at hl eR0 eR1 eR2
        clear hσ
        simp only [List.foldl_cons, List.foldl_nil, List.setIfInBounds_toArray, List.set_cons_zero, List.set_cons_succ, eR0, eR1, eR2] at hl
        subst hl
        go_wp2_with fail
        go_meet
        exact ⟨rfl, rfl, rfl, hold⟩
    case rest =>
    obtain ⟨rfl, rfl, rfl, HB⟩ := hcut
    obtain ⟨w1, rfl⟩ : ∃ u, u = wc := ⟨_, rfl⟩
    have HR1 := Lib.hid (HR.out.below HB.out)
    clear c0 c1 c2 c3
    go_wp2_with fail
    refine (rwrong_any g xs r e w1 HR1.out).mono ?_
    rintro en w2 ⟨rfl, hr2, hs2⟩
    have HR2 := Lib.hid hr2
    have HS2 := Lib.hid ((Save.of HB.out (Nat.le_of_lt HBK.out.lt)).trans hs2)
    clear hr2 hs2
    go_wp2_with fail
    go_ret
    rw [HZ.out]
    exact ⟨rfl, HR2.out, HS2.out⟩

set_option maxRecDepth 100000 in
set_option maxHeartbeats 1000000 in
theorem rcount_in (g : Nat) (xs : List UInt8) (r : Rd) (most : Int) (w : World) (h : RRef w g xs r) :
    Calls Try.prog 90 #[.pointer (some ⟨g, 0, none⟩), .int .i64 most] w (fun en w' => en = .returned (numV r.next (getC most (xs.drop r.next))) ∧ Below w.heap.size w w') := by
  have HR := Lib.hid h
  obtain ⟨⟨A, c, hb, hy, hc⟩, hle, hmx⟩ := h
  have HBK := Lib.hid hb
  have HBY := Lib.hid hy
  clear hb hy hc hle hmx
  go_enter Try.func90, Try.ntmps90
  go_upto_region 1 with fail
  cases hg : getN (xs.drop r.next) with
  | ok p =>
    obtain ⟨v, k⟩ := p
    have HGN := Lib.hid hg
    go_cut [7, 8, 9] (fun v3 v4 v5 wx => v3 = .int .i64 v ∧ v4 = .int .i64 ((r.next + k : Nat) : Int) ∧ v5 = .int .i64 0 ∧ Hid (Below w.heap.size w wx))
    case first =>
      clear hg
      refine wp_region_steps (valRF [11, 12, 13, 14, 15, 16, 17, 18, 19, 10, 20, 21, 22, 7, 8, 9] [.pointer (some ⟨g, 0, none⟩), .pointer (some ⟨g, 0, none⟩), .pointer (some ⟨g, 0, none⟩), .slice A xs.length c, .pointer (some ⟨g, 0, none⟩), .pointer (some ⟨g, 0, none⟩), .pointer (some ⟨g, 1, none⟩), .int .i64 (r.next : Int), .tuple #[.int .i64 v, .int .i64 ((r.next + k : Nat) : Int), .int .i64 0], .tuple #[.int .i64 v, .int .i64 ((r.next + k : Nat) : Int), .int .i64 0], .int .i64 v, .int .i64 ((r.next + k : Nat) : Int), .int .i64 0, .int .i64 v, .int .i64 ((r.next + k : Nat) : Int), .int .i64 0]) (by kernel_rfl) (by kernel_rfl) (by kernel_rfl) (fun _ _ => rfl) (by kernel_rfl) valRF.mon ?_ ?_
      · refine ⟨?_, ?_, ?_, ?_, ?_, ?_, ?_, ?_, ?_, ?_, ?_, ?_, ?_, ?_, ?_, ?_, trivial⟩
        · exact valRF.pureStep rfl 11 rfl rfl (by simp) _ rfl fun listed a u D hI hr hn => exec_move (.inl rfl) (hI.out 0 (by kernel_rfl))
        · exact valRF.pureStep rfl 12 rfl rfl (by simp) _ rfl fun listed a u D hI hr hn => op_nil rfl (valRF.val hI hr hn 0 (by kernel_rfl) rfl rfl)
        · exact valRF.pureStep rfl 13 rfl rfl (by simp) _ rfl fun listed a u D hI hr hn => op_field rfl (valRF.val hI hr hn 1 (by kernel_rfl) rfl rfl) (by simp [go_sem])
        · exact valRF.pureStep rfl 14 rfl rfl (by simp) _ rfl fun listed a u D hI hr hn => exec_load rfl (valRF.val hI hr hn 2 (by kernel_rfl) rfl rfl) (run_ld_sl (HBK.out.below (below_d hI.old) HBK.out.lt).cells4.1)
        · exact valRF.pureStep rfl 15 rfl rfl (by simp) _ rfl fun listed a u D hI hr hn => exec_move (.inl rfl) (hI.out 0 (by kernel_rfl))
        · exact valRF.pureStep rfl 16 rfl rfl (by simp) _ rfl fun listed a u D hI hr hn => op_nil rfl (valRF.val hI hr hn 4 (by kernel_rfl) rfl rfl)
        · exact valRF.pureStep rfl 17 rfl rfl (by simp) _ rfl fun listed a u D hI hr hn => op_field rfl (valRF.val hI hr hn 5 (by kernel_rfl) rfl rfl) (by simp [go_sem])
        · exact valRF.pureStep rfl 18 rfl rfl (by simp) _ rfl fun listed a u D hI hr hn => exec_load rfl (valRF.val hI hr hn 6 (by kernel_rfl) rfl rfl) (run_ld_i (HBK.out.below (below_d hI.old) HBK.out.lt).cells4.2.1)
        · exact valRF.callStep rfl 19 rfl rfl (by simp) (.tuple #[.int .i64 v, .int .i64 ((r.next + k : Nat) : Int), .int .i64 0]) rfl fun listed a u D hI hr hn => ⟨_, _, op_call2 rfl (valRF.val hI hr hn 3 (by kernel_rfl) rfl rfl) (valRF.val hI hr hn 7 (by kernel_rfl) rfl rfl) (by simp [go_sem]), (rnumber_on A c r.next g xs u (Reads.keep HBY.out ((below_d hI.old).mono (Nat.le_of_lt HBK.out.lt))) HR.out.le HR.out.max).mono fun _ _ h => ⟨by rw [h.1, HGN.out]; rfl, h.2⟩⟩
        · exact valRF.pureStep rfl 10 rfl rfl (by simp) _ rfl fun listed a u D hI hr hn => exec_move (.inl rfl) (valRF.val hI hr hn 8 (by kernel_rfl) rfl rfl)
        · exact valRF.pureStep rfl 20 rfl rfl (by simp) _ rfl fun listed a u D hI hr hn => op_extract rfl (valRF.val hI hr hn 9 (by kernel_rfl) rfl rfl) rfl
        · exact valRF.pureStep rfl 21 rfl rfl (by simp) _ rfl fun listed a u D hI hr hn => op_extract rfl (valRF.val hI hr hn 9 (by kernel_rfl) rfl rfl) rfl
        · exact valRF.pureStep rfl 22 rfl rfl (by simp) _ rfl fun listed a u D hI hr hn => op_extract rfl (valRF.val hI hr hn 9 (by kernel_rfl) rfl rfl) rfl
        · exact valRF.pureStep rfl 7 rfl rfl (by simp) _ rfl fun listed a u D hI hr hn => exec_move (.inr rfl) (valRF.val hI hr hn 10 (by kernel_rfl) rfl rfl)
        · exact valRF.pureStep rfl 8 rfl rfl (by simp) _ rfl fun listed a u D hI hr hn => exec_move (.inr rfl) (valRF.val hI hr hn 11 (by kernel_rfl) rfl rfl)
        · exact valRF.pureStep rfl 9 rfl rfl (by simp) _ rfl fun listed a u D hI hr hn => exec_move (.inr rfl) (valRF.val hI hr hn 12 (by kernel_rfl) rfl rfl)
      · intro listed a u D hI hall
        have eR0 : a.tmps.getD 7 undef = .int .i64 v := (hI.fact 13 ⟨hall 13 (by simp), fun k hk => by cases hk⟩).1
        have eR1 : a.tmps.getD 8 undef = .int .i64 ((r.next + k : Nat) : Int) := (hI.fact 14 ⟨hall 14 (by simp), fun k hk => by cases hk⟩).1
        have eR2 : a.tmps.getD 9 undef = .int .i64 0 := (hI.fact 15 ⟨hall 15 (by simp), fun k hk => by cases hk⟩).1
        have hold := below_d hI.old
        have hl := hI.fill [11, 12, 13, 14, 15, 16, 17, 18, 19, 10, 20, 21, 22, 7, 8, 9] (by kernel_rfl)
        clear hI hall
        obtain ⟨σ, hσ⟩ : ∃ σ : Nat → Value, ∀ t, a.tmps.getD t undef = σ t := ⟨_, fun _ => rfl⟩
        simp only [hσ] at hl eR0 eR1 eR2
        clear hσ
        simp only [List.foldl_cons, List.foldl_nil, List.setIfInBounds_toArray, List.set_cons_zero, List.set_cons_succ, eR0, eR1, eR2] at hl
        subst hl
        go_wp2_with fail
        go_meet
        exact ⟨rfl, rfl, rfl, hold⟩
    case rest =>
    obtain ⟨rfl, rfl, rfl, HB⟩ := hcut
    obtain ⟨w1, rfl⟩ : ∃ u, u = wc := ⟨_, rfl⟩
    obtain ⟨nk, hnk⟩ : ∃ x : Nat, r.next + k = x := ⟨_, rfl⟩
    by_cases h1 : v < 0
    · have HZ : Hid (numV r.next (getC most (xs.drop r.next)) = .tuple #[.int .i64 0, .int .i64 0, .int .i64 2]) := by
        show _ = _
        unfold getC
        rw [hg]
        simp only
        rw [if_pos (.inl h1)]
        rfl
      rw [hnk]
      clear hg hnk
      go_wp2_with fail
      go_ret3
      exact ⟨by rw [HZ.out]; rfl, HB.out⟩
    · by_cases h2 : most < v
      · have HZ : Hid (numV r.next (getC most (xs.drop r.next)) = .tuple #[.int .i64 0, .int .i64 0, .int .i64 2]) := by
          show _ = _
          unfold getC
          rw [hg]
          simp only
          rw [if_pos (.inr h2)]
          rfl
        rw [hnk]
        clear hg hnk
        go_wp2_with fail
        go_ret3
        exact ⟨by rw [HZ.out]; rfl, HB.out⟩
      · have HZ : Hid (numV r.next (getC most (xs.drop r.next)) = .tuple #[.int .i64 v, .int .i64 (nk : Int), .int .i64 0]) := by
          show _ = _
          unfold getC
          rw [hg]
          simp only
          rw [if_neg (by omega), ← hnk]
          rfl
        rw [hnk]
        clear hg hnk
        go_wp2_with fail
        go_ret3
        exact ⟨by rw [HZ.out]; rfl, HB.out⟩
  | error e =>
    have HGN := Lib.hid hg
    have he := getN_err hg
    have e2 : (e == 0) = false := by simp; omega
    have HZ : Hid (numV r.next (getC most (xs.drop r.next)) = .tuple #[.int .i64 0, .int .i64 0, .int .i64 e]) := by
      show _ = _
      unfold getC
      rw [hg]
      rfl
    clear hg he
    go_cut [7, 8, 9] (fun v3 v4 v5 wx => v3 = .int .i64 0 ∧ v4 = .int .i64 0 ∧ v5 = .int .i64 e ∧ Hid (Below w.heap.size w wx))
    case first =>
      refine wp_region_steps (valRF [11, 12, 13, 14, 15, 16, 17, 18, 19, 10, 20, 21, 22, 7, 8, 9] [.pointer (some ⟨g, 0, none⟩), .pointer (some ⟨g, 0, none⟩), .pointer (some ⟨g, 0, none⟩), .slice A xs.length c, .pointer (some ⟨g, 0, none⟩), .pointer (some ⟨g, 0, none⟩), .pointer (some ⟨g, 1, none⟩), .int .i64 (r.next : Int), .tuple #[.int .i64 0, .int .i64 0, .int .i64 e], .tuple #[.int .i64 0, .int .i64 0, .int .i64 e], .int .i64 0, .int .i64 0, .int .i64 e, .int .i64 0, .int .i64 0, .int .i64 e]) (by kernel_rfl) (by kernel_rfl) (by kernel_rfl) (fun _ _ => rfl) (by kernel_rfl) valRF.mon ?_ ?_
      · refine ⟨?_, ?_, ?_, ?_, ?_, ?_, ?_, ?_, ?_, ?_, ?_, ?_, ?_, ?_, ?_, ?_, trivial⟩
        · exact valRF.pureStep rfl 11 rfl rfl (by simp) _ rfl fun listed a u D hI hr hn => exec_move (.inl rfl) (hI.out 0 (by kernel_rfl))
        · exact valRF.pureStep rfl 12 rfl rfl (by simp) _ rfl fun listed a u D hI hr hn => op_nil rfl (valRF.val hI hr hn 0 (by kernel_rfl) rfl rfl)
        · exact valRF.pureStep rfl 13 rfl rfl (by simp) _ rfl fun listed a u D hI hr hn => op_field rfl (valRF.val hI hr hn 1 (by kernel_rfl) rfl rfl) (by simp [go_sem])
        · exact valRF.pureStep rfl 14 rfl rfl (by simp) _ rfl fun listed a u D hI hr hn => exec_load rfl (valRF.val hI hr hn 2 (by kernel_rfl) rfl rfl) (run_ld_sl (HBK.out.below (below_d hI.old) HBK.out.lt).cells4.1)
        · exact valRF.pureStep rfl 15 rfl rfl (by simp) _ rfl fun listed a u D hI hr hn => exec_move (.inl rfl) (hI.out 0 (by kernel_rfl))
        · exact valRF.pureStep rfl 16 rfl rfl (by simp) _ rfl fun listed a u D hI hr hn => op_nil rfl (valRF.val hI hr hn 4 (by kernel_rfl) rfl rfl)
        · exact valRF.pureStep rfl 17 rfl rfl (by simp) _ rfl fun listed a u D hI hr hn => op_field rfl (valRF.val hI hr hn 5 (by kernel_rfl) rfl rfl) (by simp [go_sem])
        · exact valRF.pureStep rfl 18 rfl rfl (by simp) _ rfl fun listed a u D hI hr hn => exec_load rfl (valRF.val hI hr hn 6 (by kernel_rfl) rfl rfl) (run_ld_i (HBK.out.below (below_d hI.old) HBK.out.lt).cells4.2.1)
        · exact valRF.callStep rfl 19 rfl rfl (by simp) (.tuple #[.int .i64 0, .int .i64 0, .int .i64 e]) rfl fun listed a u D hI hr hn => ⟨_, _, op_call2 rfl (valRF.val hI hr hn 3 (by kernel_rfl) rfl rfl) (valRF.val hI hr hn 7 (by kernel_rfl) rfl rfl) (by simp [go_sem]), (rnumber_on A c r.next g xs u (Reads.keep HBY.out ((below_d hI.old).mono (Nat.le_of_lt HBK.out.lt))) HR.out.le HR.out.max).mono fun _ _ h => ⟨by rw [h.1, HGN.out]; rfl, h.2⟩⟩
        · exact valRF.pureStep rfl 10 rfl rfl (by simp) _ rfl fun listed a u D hI hr hn => exec_move (.inl rfl) (valRF.val hI hr hn 8 (by kernel_rfl) rfl rfl)
        · exact valRF.pureStep rfl 20 rfl rfl (by simp) _ rfl fun listed a u D hI hr hn => op_extract rfl (valRF.val hI hr hn 9 (by kernel_rfl) rfl rfl) rfl
        · exact valRF.pureStep rfl 21 rfl rfl (by simp) _ rfl fun listed a u D hI hr hn => op_extract rfl (valRF.val hI hr hn 9 (by kernel_rfl) rfl rfl) rfl
        · exact valRF.pureStep rfl 22 rfl rfl (by simp) _ rfl fun listed a u D hI hr hn => op_extract rfl (valRF.val hI hr hn 9 (by kernel_rfl) rfl rfl) rfl
        · exact valRF.pureStep rfl 7 rfl rfl (by simp) _ rfl fun listed a u D hI hr hn => exec_move (.inr rfl) (valRF.val hI hr hn 10 (by kernel_rfl) rfl rfl)
        · exact valRF.pureStep rfl 8 rfl rfl (by simp) _ rfl fun listed a u D hI hr hn => exec_move (.inr rfl) (valRF.val hI hr hn 11 (by kernel_rfl) rfl rfl)
        · exact valRF.pureStep rfl 9 rfl rfl (by simp) _ rfl fun listed a u D hI hr hn => exec_move (.inr rfl) (valRF.val hI hr hn 12 (by kernel_rfl) rfl rfl)
      · intro listed a u D hI hall
        have eR0 : a.tmps.getD 7 undef = .int .i64 0 := (hI.fact 13 ⟨hall 13 (by simp), fun k hk => by cases hk⟩).1
        have eR1 : a.tmps.getD 8 undef = .int .i64 0 := (hI.fact 14 ⟨hall 14 (by simp), fun k hk => by cases hk⟩).1
        have eR2 : a.tmps.getD 9 undef = .int .i64 e := (hI.fact 15 ⟨hall 15 (by simp), fun k hk => by cases hk⟩).1
        have hold := below_d hI.old
        have hl := hI.fill [11, 12, 13, 14, 15, 16, 17, 18, 19, 10, 20, 21, 22, 7, 8, 9] (by kernel_rfl)
        clear hI hall
        obtain ⟨σ, hσ⟩ : ∃ σ : Nat → Value, ∀ t, a.tmps.getD t undef = σ t := ⟨_, fun _ => rfl⟩
        simp only [hσ] at hl eR0 eR1 eR2
        clear hσ
        simp only [List.foldl_cons, List.foldl_nil, List.setIfInBounds_toArray, List.set_cons_zero, List.set_cons_succ, eR0, eR1, eR2] at hl
        subst hl
        go_wp2_with fail
        go_meet
        exact ⟨rfl, rfl, rfl, hold⟩
    case rest =>
    obtain ⟨rfl, rfl, rfl, HB⟩ := hcut
    go_wp2_with fail
    go_ret3
    exact ⟨by rw [HZ.out]; rfl, HB.out⟩
theorem getC_err {most : Int} {l : List UInt8} {e : Int} (h : getC most l = .error e) : e ≠ 0 := by
  unfold getC at h
  cases hg : getN l with
  | ok p =>
    rw [hg] at h
    simp only at h
    split at h
    · injection h with h; omega
    · cases h
  | error e' =>
    rw [hg] at h
    injection h with h
    have := getN_err hg
    omega
theorem getC_k {most v : Int} {l : List UInt8} {k : Nat} (h : getC most l = .ok (v, k)) : k ≤ l.length ∧ 0 ≤ v ∧ v ≤ most := by
  obtain ⟨r, e, hk, _, h1, h2⟩ := getC_only h
  exact ⟨by rw [e, hk]; simp, h1, h2⟩

set_option maxRecDepth 100000 in
set_option maxHeartbeats 1000000 in
theorem rcount_any (g : Nat) (xs : List UInt8) (r : Rd) (most : Int) (w : World) (h : RRef w g xs r) :
    Calls Try.prog 73 #[.pointer (some ⟨g, 0, none⟩), .int .i64 most] w (fun en w' => en = .returned (.int .i64 (rdCount xs most r).1) ∧ RRef w' g xs (rdCount xs most r).2 ∧ Save g w w') := by
  have HR := Lib.hid h
  obtain ⟨⟨A, c, hb, hy, hc⟩, hle, hmx⟩ := h
  obtain ⟨c0, c1, c2, c3⟩ := hb.cells4
  have HBK := Lib.hid hb
  have HBY := Lib.hid hy
  have HCC := Lib.hid hc
  by_cases hw : r.why = 0
  case neg =>
    have HZ : Hid (rdCount xs most r = (0, r)) := by show _ = _; unfold rdCount; rw [if_neg hw]
    have e1 : (r.why == 0) = false := by simpa using hw
    clear hb hy hc hle hmx hw
    go_enter Try.func73, Try.ntmps73
    go_wp2_with fail
    go_ret
    rw [HZ.out]
    exact ⟨rfl, HR.out, Save.refl (Nat.le_of_lt HR.out.lt)⟩
  have e1 : (r.why == 0) = true := by simpa using hw
  have HW0 := Lib.hid hw
  clear hb hy hc hle hmx
  go_enter Try.func73, Try.ntmps73
  go_wp2_with fail
  refine (rcount_in g xs r most w HR.out).mono ?_
  rintro en w1 ⟨rfl, hb1⟩
  have HB := Lib.hid hb1
  clear hb1 c0 c1 c2 c3
  cases hg : getC most (xs.drop r.next) with
  | ok p =>
    obtain ⟨v, k⟩ := p
    obtain ⟨hk, _⟩ := getC_k hg
    rw [List.length_drop] at hk
    have HZ : Hid (rdCount xs most r = (v, ⟨r.next + k, r.at_, 0⟩)) := by show _ = _; unfold rdCount; rw [if_pos hw, hg]
    have HKL : Hid (r.next + k ≤ xs.length) := by have := HR.out.le; show _ ≤ _; omega
    clear hg hk hw
    have HBK1 := Lib.hid (HBK.out.below HB.out HBK.out.lt)
    obtain ⟨d0, d1, d2, d3⟩ := HBK1.out.cells4
    have hfz := HBK1.out.free
    have HRES : Hid (RRef (w1.setCell ⟨g, 1, none⟩ (.int .i64 ((r.next + k : Nat) : Int))) g xs ⟨r.next + k, r.at_, 0⟩ ∧ Save g w (w1.setCell ⟨g, 1, none⟩ (.int .i64 ((r.next + k : Nat) : Int)))) := by
      refine ⟨⟨⟨A, c, ?_, Reads.keep (Reads.keep HBY.out (HB.out.mono (Nat.le_of_lt HBK.out.lt))) keep_set, HCC.out⟩, HKL.out, HR.out.max⟩, ((Save.of HB.out (Nat.le_of_lt HBK.out.lt))).set _ _⟩
      have := HBK1.out.put 1 (.int .i64 ((r.next + k : Nat) : Int))
      rw [HW0.out] at this
      exact this
    simp only [numV]
    obtain ⟨nk, hnk⟩ : ∃ x : Nat, r.next + k = x := ⟨_, rfl⟩
    rw [hnk] at HRES HZ ⊢
    clear hnk HB HBK1
    go_wp2_with fail
    go_ret
    rw [HZ.out]
    exact ⟨rfl, HRES.out⟩
  | error e =>
    have he := getC_err hg
    have e2 : (e == 0) = false := by simpa using he
    have HZ : Hid (rdCount xs most r = (0, ⟨r.next, r.next, e⟩)) := by show _ = _; unfold rdCount; rw [if_pos hw, hg]
    clear hg hw he
    have HR1 := Lib.hid (HR.out.below HB.out)
    simp only [numV]
    go_wp2_with fail
    refine (rwrong_any g xs r e w1 HR1.out).mono ?_
    rintro en w2 ⟨rfl, hr2, hs2⟩
    have HR2 := Lib.hid hr2
    have HS2 := Lib.hid ((Save.of HB.out (Nat.le_of_lt HBK.out.lt)).trans hs2)
    clear hr2 hs2
    go_wp2_with fail
    go_ret
    rw [HZ.out]
    exact ⟨rfl, HR2.out, HS2.out⟩

#print axioms rnumr_any
#print axioms rcount_any
end Go.Proofs.Ytbnhbbjmocclmaa.Wire
