/-
  CertChecks, CertOnly: one text.
-/
import Derived.Test.YtfejnohcggoepaaCertUse
import Derived.Test.YtfejnohcggoepaaRegions
import Derived.Deep.DeepCutAuto
/-
  Any certificate for any plan; it stays: CertChecks, walked.
-/
namespace Go.Proofs.Ytfejnohcggoepaa.Cert
open Go.ChangeShapes Go.WideShapes Go.ChangeAt Go.RowKit Go.Proofs.Ytfejnohcggoepaa.Mem Go.Proofs.Ytfejnohcggoepaa.GeoMath Go.Proofs.Ytfejnohcggoepaa.FleetMath Go.Proofs.Ytfejnohcggoepaa.PlanMath Go.Proofs.Ytfejnohcggoepaa.CertMath Go.Proofs.Ytfejnohcggoepaa.Rec Go.Proofs.Ytfejnohcggoepaa.Geo Go.Proofs.Ytfejnohcggoepaa.Span Go.Proofs.Ytfejnohcggoepaa.Deal Go.Proofs.Ytfejnohcggoepaa.Keep Go.Proofs.Ytfejnohcggoepaa.Route Go.Proofs.Ytfejnohcggoepaa.Plan
set_option linter.unusedVariables false
set_option linter.unusedSimpArgs false

theorem op_call0 {P : Program} {o : Oper} {a : Act} {u : World} {f : Nat} {ts : Array TypeId} (h : o.op = .call { callee := .value (.func f), args := #[], argTypes := ts }) (hf : (callFunc f #[]).run P u = .ok (.enter f #[]) u) : (execOp a.eval o).run P u = .ok (.enter f #[]) u := by
  have hf' : a.eval (.func f) = .func (.func f) #[] #[] := rfl
  obtain ⟨ρ, hρ⟩ : ∃ ρ, a.eval = ρ := ⟨_, rfl⟩
  rw [hρ] at hf' ⊢
  unfold execOp
  rw [h]
  simp [go_sem, hf', hf]
theorem exec_eqf {o : Oper} {a : Act} {u : World} {x y : Operand} {k : Nat} {e : Int} {T : TypeId} (h : o.op = .binOp .eql 49 x y T) (hp : a.eval x = faultV k e) (hq : a.eval y = faultV k e) : (execOp a.eval o).run Try.prog u = .ok (.value (.bool true)) u := by
  obtain ⟨ρ, hρ⟩ : ∃ ρ, a.eval = ρ := ⟨_, rfl⟩
  rw [hρ] at hp hq ⊢
  unfold execOp
  rw [h]
  simp [go_sem, hp, hq]

set_option maxRecDepth 100000 in
set_option maxHeartbeats 8000000 in
theorem certChecks_walk (x : Wd) (ts : List Int) (ds : List Drv) (os : List FleetMath.Ord) (ps : List RM) (A5 : Option Addr) (n5 c5 : Nat) (cl : List CM) (W : World) (hts : Ints W W.heap.size x.ts.a x.ts.n ts) (hds : Drvs W W.heap.size x.ds.a x.ds.n ds) (hos : Ords W W.heap.size x.os.a x.os.n os) (hps : Plns W W.heap.size x.pl.a x.pl.n ps) (hcl : Crts W W.heap.size A5 n5 cl) (hn24 : n5 * 24 ≤ 140737488351232) :
    Calls Try.prog 5 #[wdV x, .slice A5 n5 c5] W fun e w' => e = .returned (.bool true) ∧ Below W.heap.size W w' := by
  have HTS := Lib.hid hts
  have HDS := Lib.hid hds
  have HOS := Lib.hid hos
  have HPS := Lib.hid hps
  have HCL := Lib.hid hcl
  clear hts hds hos hps hcl
  obtain ⟨m, hm⟩ : ∃ m, mapOf x.n ts = m := ⟨_, rfl⟩
  have HM := Lib.hid hm
  clear hm
  obtain ⟨cs, hcs⟩ : ∃ cs, cl.map (·.vs) = cs := ⟨_, rfl⟩
  have HCS := Lib.hid hcs
  clear hcs
  obtain ⟨⟨fk, fe⟩, hr⟩ : ∃ z, checkC m ds os (ps.map (·.rt)) cs = z := ⟨_, rfl⟩
  have HR := Lib.hid hr
  clear hr
  have HB0 : Hid (Below W.heap.size W (W.alloc (.cells #[.int .i64 x.n, x.ts.v, x.ds.v, x.os.v, x.pl.v] 58))) := (Below.refl _ _).alloc (Nat.le_refl _) _
  have HW0 := Lib.hid (WBox.new W x)
  go_enter Try.func5, Try.ntmps5
  go_wp2_with fail
  refine (kmaps_any x ts _ (by exact Reads.more (Reads.keep HTS.out HB0.out) HB0.out.size)).mono ?_
  intro e w1 hmo
  obtain ⟨q, r, rfl, hcr⟩ := CR.start (n0 := 0) HB0.out HW0.out HDS.out HOS.out HPS.out HM.out hmo
  have C1 := Lib.hid hcr
  clear hmo hcr HB0 HW0
  go_wp2_with fail
  refine (use_copied (by exact (HCL.out.keep C1.out.old).more C1.out.old.size) HCS.out hn24).mono ?_
  rintro e w2 ⟨Bw, cw, lw, rfl, hw⟩
  have W2 := Lib.hid hw
  have C2 := Lib.hid (C1.out.below hw.new.old)
  clear hw C1
  go_upto_region 3 with fail
  have HC : Hid (∀ u, Below w2.heap.size w2 u → CR W q r m x ds os ps u) := fun u hu => C2.out.below hu
  have HD : Hid (∀ u, Below w2.heap.size w2 u → Crts u u.heap.size A5 n5 cl) := fun u hu => (HCL.out.keep (C2.out.old.trans (hu.mono C2.out.old.size))).more (Nat.le_trans C2.out.old.size hu.size)
  have HE : Hid (∀ u, Below w2.heap.size w2 u → Whole w1 u (.slice Bw cs.length cw) lw cs) := fun u hu => W2.out.keep hu
  go_cut [4] (fun v wx => v = .bool true ∧ Hid (Below w2.heap.size w2 wx))
  case first =>
    refine wp_region_steps (valRF [17, 18, 19, 20, 21, 22, 23, 24, 25, 26, 27, 28, 29, 30, 31, 32, 33, 34, 35, 36, 37, 38, 39, 40, 41, 42, 43, 44, 45, 46, 4] [.bool true, .bool true, .pointer q, .pointer (some ⟨W.heap.size, 2, none⟩), x.ds.v, .pointer (some ⟨W.heap.size, 3, none⟩), x.os.v, .pointer (some ⟨W.heap.size, 4, none⟩), x.pl.v, .slice A5 n5 c5, faultV fk fe, .pointer r, .pointer (some ⟨W.heap.size, 2, none⟩), x.ds.v, .pointer (some ⟨W.heap.size, 3, none⟩), x.os.v, .pointer (some ⟨W.heap.size, 4, none⟩), x.pl.v, .slice Bw cs.length cw, faultV fk fe, .bool true, .bool true, .bool true, .slice A5 n5 c5, .slice Bw cs.length cw, .bool true, .bool true, .bool true, .bool true, .bool true, .bool true]) (by kernel_rfl) (by kernel_rfl) (by kernel_rfl) (fun _ _ => rfl) (by kernel_rfl) valRF.mon ?_ ?_
    · refine ⟨?_, ?_, ?_, ?_, ?_, ?_, ?_, ?_, ?_, ?_, ?_, ?_, ?_, ?_, ?_, ?_, ?_, ?_, ?_, ?_, ?_, ?_, ?_, ?_, ?_, ?_, ?_, ?_, ?_, ?_, ?_, trivial⟩
      · exact valRF.pureStep rfl 17 rfl rfl (by simp) _ rfl fun listed a u D hI hr hn => exec_move (.inl rfl) (hI.out 7 (by kernel_rfl))
      · exact valRF.pureStep rfl 18 rfl rfl (by simp) _ rfl fun listed a u D hI hr hn => exec_move (.inl rfl) (valRF.val hI hr hn 0 (by kernel_rfl) rfl rfl)
      · exact valRF.pureStepG 19 rfl rfl (by simp) _ rfl fun listed a u D hI hr hn => ⟨guard_yes (t := 18) rfl (by kernel_rfl) (valRF.val hI hr hn 1 (by kernel_rfl) rfl rfl), exec_move (.inl rfl) (hI.out 5 (by kernel_rfl))⟩
      · exact valRF.pureStepG 20 rfl rfl (by simp) _ rfl fun listed a u D hI hr hn => ⟨guard_yes (t := 18) rfl (by kernel_rfl) (valRF.val hI hr hn 1 (by kernel_rfl) rfl rfl), op_field rfl (hI.out 2 (by kernel_rfl)) (by simp [go_sem])⟩
      · exact valRF.pureStepG 21 rfl rfl (by simp) _ rfl fun listed a u D hI hr hn => ⟨guard_yes (t := 18) rfl (by kernel_rfl) (valRF.val hI hr hn 1 (by kernel_rfl) rfl rfl), exec_load rfl (valRF.val hI hr hn 3 (by kernel_rfl) rfl rfl) (by have z := (HC.out _ (below_drew hI.old)).wd.cells; simp [go_sem, z.2.2.1])⟩
      · exact valRF.pureStepG 22 rfl rfl (by simp) _ rfl fun listed a u D hI hr hn => ⟨guard_yes (t := 18) rfl (by kernel_rfl) (valRF.val hI hr hn 1 (by kernel_rfl) rfl rfl), op_field rfl (hI.out 2 (by kernel_rfl)) (by simp [go_sem])⟩
      · exact valRF.pureStepG 23 rfl rfl (by simp) _ rfl fun listed a u D hI hr hn => ⟨guard_yes (t := 18) rfl (by kernel_rfl) (valRF.val hI hr hn 1 (by kernel_rfl) rfl rfl), exec_load rfl (valRF.val hI hr hn 5 (by kernel_rfl) rfl rfl) (by have z := (HC.out _ (below_drew hI.old)).wd.cells; simp [go_sem, z.2.2.2.1])⟩
      · exact valRF.pureStepG 24 rfl rfl (by simp) _ rfl fun listed a u D hI hr hn => ⟨guard_yes (t := 18) rfl (by kernel_rfl) (valRF.val hI hr hn 1 (by kernel_rfl) rfl rfl), op_field rfl (hI.out 2 (by kernel_rfl)) (by simp [go_sem])⟩
      · exact valRF.pureStepG 25 rfl rfl (by simp) _ rfl fun listed a u D hI hr hn => ⟨guard_yes (t := 18) rfl (by kernel_rfl) (valRF.val hI hr hn 1 (by kernel_rfl) rfl rfl), exec_load rfl (valRF.val hI hr hn 7 (by kernel_rfl) rfl rfl) (by have z := (HC.out _ (below_drew hI.old)).wd.cells; simp [go_sem, z.2.2.2.2])⟩
      · exact valRF.pureStepG 26 rfl rfl (by simp) _ rfl fun listed a u D hI hr hn => ⟨guard_yes (t := 18) rfl (by kernel_rfl) (valRF.val hI hr hn 1 (by kernel_rfl) rfl rfl), exec_move (.inl rfl) (hI.out 1 (by kernel_rfl))⟩
      · exact valRF.callStepG 27 rfl rfl (by simp) _ rfl fun listed a u D hI hr hn => ⟨guard_yes (t := 18) rfl (by kernel_rfl) (valRF.val hI hr hn 1 (by kernel_rfl) rfl rfl), _, _, op_call5 rfl (valRF.val hI hr hn 2 (by kernel_rfl) rfl rfl) (valRF.val hI hr hn 4 (by kernel_rfl) rfl rfl) (valRF.val hI hr hn 6 (by kernel_rfl) rfl rfl) (valRF.val hI hr hn 8 (by kernel_rfl) rfl rfl) (valRF.val hI hr hn 9 (by kernel_rfl) rfl rfl) (by simp [go_sem]), use_check (HC.out _ (below_drew hI.old)) (HD.out _ (below_drew hI.old)) HCS.out HR.out⟩
      · exact valRF.pureStepG 28 rfl rfl (by simp) _ rfl fun listed a u D hI hr hn => ⟨guard_yes (t := 18) rfl (by kernel_rfl) (valRF.val hI hr hn 1 (by kernel_rfl) rfl rfl), exec_move (.inl rfl) (hI.out 6 (by kernel_rfl))⟩
      · exact valRF.pureStepG 29 rfl rfl (by simp) _ rfl fun listed a u D hI hr hn => ⟨guard_yes (t := 18) rfl (by kernel_rfl) (valRF.val hI hr hn 1 (by kernel_rfl) rfl rfl), op_field rfl (hI.out 2 (by kernel_rfl)) (by simp [go_sem])⟩
      · exact valRF.pureStepG 30 rfl rfl (by simp) _ rfl fun listed a u D hI hr hn => ⟨guard_yes (t := 18) rfl (by kernel_rfl) (valRF.val hI hr hn 1 (by kernel_rfl) rfl rfl), exec_load rfl (valRF.val hI hr hn 12 (by kernel_rfl) rfl rfl) (by have z := (HC.out _ (below_drew hI.old)).wd.cells; simp [go_sem, z.2.2.1])⟩
      · exact valRF.pureStepG 31 rfl rfl (by simp) _ rfl fun listed a u D hI hr hn => ⟨guard_yes (t := 18) rfl (by kernel_rfl) (valRF.val hI hr hn 1 (by kernel_rfl) rfl rfl), op_field rfl (hI.out 2 (by kernel_rfl)) (by simp [go_sem])⟩
      · exact valRF.pureStepG 32 rfl rfl (by simp) _ rfl fun listed a u D hI hr hn => ⟨guard_yes (t := 18) rfl (by kernel_rfl) (valRF.val hI hr hn 1 (by kernel_rfl) rfl rfl), exec_load rfl (valRF.val hI hr hn 14 (by kernel_rfl) rfl rfl) (by have z := (HC.out _ (below_drew hI.old)).wd.cells; simp [go_sem, z.2.2.2.1])⟩
      · exact valRF.pureStepG 33 rfl rfl (by simp) _ rfl fun listed a u D hI hr hn => ⟨guard_yes (t := 18) rfl (by kernel_rfl) (valRF.val hI hr hn 1 (by kernel_rfl) rfl rfl), op_field rfl (hI.out 2 (by kernel_rfl)) (by simp [go_sem])⟩
      · exact valRF.pureStepG 34 rfl rfl (by simp) _ rfl fun listed a u D hI hr hn => ⟨guard_yes (t := 18) rfl (by kernel_rfl) (valRF.val hI hr hn 1 (by kernel_rfl) rfl rfl), exec_load rfl (valRF.val hI hr hn 16 (by kernel_rfl) rfl rfl) (by have z := (HC.out _ (below_drew hI.old)).wd.cells; simp [go_sem, z.2.2.2.2])⟩
      · exact valRF.pureStepG 35 rfl rfl (by simp) _ rfl fun listed a u D hI hr hn => ⟨guard_yes (t := 18) rfl (by kernel_rfl) (valRF.val hI hr hn 1 (by kernel_rfl) rfl rfl), exec_move (.inl rfl) (hI.out 8 (by kernel_rfl))⟩
      · exact valRF.callStepG 36 rfl rfl (by simp) _ rfl fun listed a u D hI hr hn => ⟨guard_yes (t := 18) rfl (by kernel_rfl) (valRF.val hI hr hn 1 (by kernel_rfl) rfl rfl), _, _, op_call5 rfl (valRF.val hI hr hn 11 (by kernel_rfl) rfl rfl) (valRF.val hI hr hn 13 (by kernel_rfl) rfl rfl) (valRF.val hI hr hn 15 (by kernel_rfl) rfl rfl) (valRF.val hI hr hn 17 (by kernel_rfl) rfl rfl) (valRF.val hI hr hn 18 (by kernel_rfl) rfl rfl) (by simp [go_sem]), use_rcheck (HC.out _ (below_drew hI.old)) (HE.out _ (below_drew hI.old)).crts.1 (HE.out _ (below_drew hI.old)).vss HR.out⟩
      · exact valRF.pureStepG 37 rfl rfl (by simp) _ rfl fun listed a u D hI hr hn => ⟨guard_yes (t := 18) rfl (by kernel_rfl) (valRF.val hI hr hn 1 (by kernel_rfl) rfl rfl), exec_eqf rfl (valRF.val hI hr hn 10 (by kernel_rfl) rfl rfl) (valRF.val hI hr hn 19 (by kernel_rfl) rfl rfl)⟩
      · exact valRF.pureStep rfl 38 rfl rfl (by simp) _ rfl fun listed a u D hI hr hn => OneR.exec_and rfl (valRF.val hI hr hn 1 (by kernel_rfl) rfl rfl) (valRF.val hI hr hn 20 (by kernel_rfl) rfl rfl) rfl
      · exact valRF.pureStep rfl 39 rfl rfl (by simp) _ rfl fun listed a u D hI hr hn => exec_move (.inl rfl) (valRF.val hI hr hn 21 (by kernel_rfl) rfl rfl)
      · exact valRF.pureStepG 40 rfl rfl (by simp) _ rfl fun listed a u D hI hr hn => ⟨guard_yes (t := 39) rfl (by kernel_rfl) (valRF.val hI hr hn 22 (by kernel_rfl) rfl rfl), exec_move (.inl rfl) (hI.out 1 (by kernel_rfl))⟩
      · exact valRF.pureStepG 41 rfl rfl (by simp) _ rfl fun listed a u D hI hr hn => ⟨guard_yes (t := 39) rfl (by kernel_rfl) (valRF.val hI hr hn 22 (by kernel_rfl) rfl rfl), exec_move (.inl rfl) (hI.out 8 (by kernel_rfl))⟩
      · exact valRF.callStepG 42 rfl rfl (by simp) _ rfl fun listed a u D hI hr hn => ⟨guard_yes (t := 39) rfl (by kernel_rfl) (valRF.val hI hr hn 22 (by kernel_rfl) rfl rfl), _, _, op_call2 rfl (valRF.val hI hr hn 23 (by kernel_rfl) rfl rfl) (valRF.val hI hr hn 24 (by kernel_rfl) rfl rfl) (by simp [go_sem]), use_lists (HD.out _ (below_drew hI.old)) (HE.out _ (below_drew hI.old)).crts.1 (decide_eq_true (HCS.out.trans (HE.out _ (below_drew hI.old)).vss.symm))⟩
      · exact valRF.pureStep rfl 43 rfl rfl (by simp) _ rfl fun listed a u D hI hr hn => OneR.exec_and rfl (valRF.val hI hr hn 22 (by kernel_rfl) rfl rfl) (valRF.val hI hr hn 25 (by kernel_rfl) rfl rfl) rfl
      · exact valRF.pureStep rfl 44 rfl rfl (by simp) _ rfl fun listed a u D hI hr hn => exec_move (.inl rfl) (valRF.val hI hr hn 26 (by kernel_rfl) rfl rfl)
      · exact valRF.callStepG 45 rfl rfl (by simp) _ rfl fun listed a u D hI hr hn => ⟨guard_yes (t := 44) rfl (by kernel_rfl) (valRF.val hI hr hn 27 (by kernel_rfl) rfl rfl), _, _, op_call0 rfl (by simp [go_sem]), use_runs _⟩
      · exact valRF.pureStep rfl 46 rfl rfl (by simp) _ rfl fun listed a u D hI hr hn => OneR.exec_and rfl (valRF.val hI hr hn 27 (by kernel_rfl) rfl rfl) (valRF.val hI hr hn 28 (by kernel_rfl) rfl rfl) rfl
      · exact valRF.pureStep rfl 4 rfl rfl (by simp) _ rfl fun listed a u D hI hr hn => exec_move (.inr rfl) (valRF.val hI hr hn 29 (by kernel_rfl) rfl rfl)
    · intro listed a u D hI hall
      have eR0 : a.tmps.getD 4 undef = .bool true := (hI.fact 30 ⟨hall 30 (by simp), fun k hk => by cases hk⟩).1
      have hold := below_drew hI.old
      have hl := hI.fill [17, 18, 19, 20, 21, 22, 23, 24, 25, 26, 27, 28, 29, 30, 31, 32, 33, 34, 35, 36, 37, 38, 39, 40, 41, 42, 43, 44, 45, 46, 4] (by kernel_rfl)
      clear hI hall
      obtain ⟨σ, hσ⟩ : ∃ σ : Nat → Value, ∀ t, a.tmps.getD t undef = σ t := ⟨_, fun _ => rfl⟩
      simp only [hσ] at hl eR0
      clear hσ
      simp only [List.foldl_cons, List.foldl_nil, List.setIfInBounds_toArray, List.set_cons_zero, List.set_cons_succ, eR0] at hl
      subst hl
      go_wp2_with fail
      go_meet
      exact ⟨rfl, hold⟩
  case rest =>
  obtain ⟨rfl, HB⟩ := hcut
  obtain ⟨w3, rfl⟩ : ∃ u, u = wc := ⟨_, rfl⟩
  have C3 := Lib.hid (C2.out.below HB.out)
  clear HC HD HE HB
  go_wp2_with fail
  go_ret
  exact ⟨rfl, C3.out.old⟩
#print axioms certChecks_walk
end Go.Proofs.Ytfejnohcggoepaa.Cert

/-
  Check finds no fault just if Make finds none, and the certificate is what Make answers: CertOnly, walked.
-/
namespace Go.Proofs.Ytfejnohcggoepaa.Cert
open Go.ChangeShapes Go.WideShapes Go.ChangeAt Go.RowKit Go.Proofs.Ytfejnohcggoepaa.Mem Go.Proofs.Ytfejnohcggoepaa.GeoMath Go.Proofs.Ytfejnohcggoepaa.FleetMath Go.Proofs.Ytfejnohcggoepaa.PlanMath Go.Proofs.Ytfejnohcggoepaa.CertMath Go.Proofs.Ytfejnohcggoepaa.Rec Go.Proofs.Ytfejnohcggoepaa.Geo Go.Proofs.Ytfejnohcggoepaa.Span Go.Proofs.Ytfejnohcggoepaa.Deal Go.Proofs.Ytfejnohcggoepaa.Keep Go.Proofs.Ytfejnohcggoepaa.Route Go.Proofs.Ytfejnohcggoepaa.Plan
set_option linter.unusedVariables false
set_option linter.unusedSimpArgs false

section
variable {o : Oper} {a : Act} {u : World} {x y : Operand}
theorem exec_eqbb {b : Bool} {T : TypeId} (h : o.op = .binOp .eql 4 x y T) (hp : a.eval x = .bool b) (hq : a.eval y = .bool b) : (execOp a.eval o).run Try.prog u = .ok (.value (.bool true)) u := by
  obtain ⟨ρ, hρ⟩ : ∃ ρ, a.eval = ρ := ⟨_, rfl⟩
  rw [hρ] at hp hq ⊢
  unfold execOp
  rw [h]
  simp [go_sem, hp, hq]
theorem exec_ort (h : o.op = .pick x (.const (.bool true)) y) (hp : a.eval x = .bool true) : (execOp a.eval o).run Try.prog u = .ok (.value (.bool true)) u := by
  have hc : a.eval (.const (.bool true)) = .bool true := rfl
  obtain ⟨ρ, hρ⟩ : ∃ ρ, a.eval = ρ := ⟨_, rfl⟩
  rw [hρ] at hp hc ⊢
  unfold execOp
  rw [h]
  simp [go_sem, hp, hc]
theorem exec_orf {b : Bool} (h : o.op = .pick x (.const (.bool true)) y) (hp : a.eval x = .bool false) (hq : a.eval y = .bool b) : (execOp a.eval o).run Try.prog u = .ok (.value (.bool b)) u := by
  obtain ⟨ρ, hρ⟩ : ∃ ρ, a.eval = ρ := ⟨_, rfl⟩
  rw [hρ] at hp hq ⊢
  unfold execOp
  rw [h]
  simp [go_sem, hp, hq]
theorem exec_len_crt {A : Option Addr} {n c : Nat} (h : o.op = .call { callee := .builtin .len, args := #[x], argTypes := #[47] }) (hp : a.eval x = .slice A n c) : (execOp a.eval o).run Try.prog u = .ok (.value (.int .i64 (n : Int))) u := by
  obtain ⟨ρ, hρ⟩ : ∃ ρ, a.eval = ρ := ⟨_, rfl⟩
  rw [hρ] at hp ⊢
  unfold execOp
  rw [h]
  simp [go_sem, hp]
theorem exec_eq0 {T : TypeId} (h : o.op = .binOp .eql 3 x (.const (.int .i64 0)) T) (hp : a.eval x = .int .i64 0) : (execOp a.eval o).run Try.prog u = .ok (.value (.bool true)) u := by
  have hc : a.eval (.const (.int .i64 0)) = .int .i64 0 := rfl
  obtain ⟨ρ, hρ⟩ : ∃ ρ, a.eval = ρ := ⟨_, rfl⟩
  rw [hρ] at hp hc ⊢
  unfold execOp
  rw [h]
  simp [go_sem, hp, hc]
end
theorem run_load_flt {u : World} {g k : Nat} {e : Int} (h : FBox u g k e) : (Instr.loadAt 49 (.pointer (some ⟨g, 0, none⟩))).run Try.prog u = .ok (faultV k e) u := by
  obtain ⟨c0, c1⟩ := h.cells
  simp [go_sem, c0, c1]
theorem good_v {k : Nat} {e : Int} {b : Bool} (hb : (e == 0) = b) (u : World) : Calls Try.prog 20 #[faultV k e] u fun en u' => en = .returned (.bool b) ∧ Below u.heap.size u u' := by
  rw [← hb]; exact (fgood_any k e u).mono fun _ _ h => h
theorem makeC_none {m : Option Mp} {ds : List Drv} {os : List FleetMath.Ord} {p : List Rte} {cs : List (List Vis)} {k : Nat} {e : Int} (h : makeC m ds os p = (cs, k, e)) (he : e ≠ 0) : cs = [] := by
  unfold makeC at h
  split at h
  · split at h
    · injection h with h _; exact h.symm
    · injection h with _ h; injection h with _ h; exact absurd h.symm he
  · injection h with h _; exact h.symm
theorem makeFrom_len {m : Option Mp} {ds : List Drv} {os : List FleetMath.Ord} {p : List Rte} {i : Nat} {c : List (List Vis)} (h : makeFrom m ds os i p = .ok c) : c.length = p.length := by
  induction p generalizing i c with
  | nil => rw [makeFrom] at h; injection h with h; rw [← h]; rfl
  | cons r t ih =>
    rw [makeFrom] at h
    split at h
    · cases h
    · split at h
      · cases h
      · split at h
        · cases h
        · rename_i hr
          injection h with h
          rw [← h, List.length_cons, List.length_cons, ih hr]
theorem makeC_few {m : Option Mp} {ds : List Drv} {os : List FleetMath.Ord} {p : List Rte} {cs : List (List Vis)} {k : Nat} {e : Int} (h : makeC m ds os p = (cs, k, e)) : cs.length ≤ 8 := by
  unfold makeC at h
  split at h
  · rename_i hw
    obtain ⟨_, _, _, _, h4, _⟩ := wellC_parts hw
    split at h
    · injection h with h _; rw [← h]; exact Nat.zero_le _
    · rename_i c hc
      injection h with h _
      rw [← h, makeFrom_len hc]
      exact rightP_few h4
  · injection h with h _; rw [← h]; exact Nat.zero_le _
/-- what the last region reads -/
structure ON (u : World) (A : Option Addr) (n : Nat) (l : List CM) (Ba : Option Addr) (na : Nat) (la : List CM) (gf gg fk gk : Nat) (fe ge : Int) : Prop where
  c : Crts u u.heap.size A n l
  a : Crts u u.heap.size Ba na la
  f : FBox u gf fk fe
  g : FBox u gg gk ge
theorem ON.keep {u u' : World} {A : Option Addr} {n : Nat} {l : List CM} {Ba : Option Addr} {na : Nat} {la : List CM} {gf gg fk gk : Nat} {fe ge : Int} (h : ON u A n l Ba na la gf gg fk gk fe ge) (hb : Below u.heap.size u u') : ON u' A n l Ba na la gf gg fk gk fe ge :=
  ⟨(h.c.keep hb).more hb.size, (h.a.keep hb).more hb.size, h.f.below hb, h.g.below hb⟩

set_option maxRecDepth 100000 in
set_option maxHeartbeats 8000000 in
theorem certOnly_walk (x : Wd) (ts : List Int) (ds : List Drv) (os : List FleetMath.Ord) (ps : List RM) (A5 : Option Addr) (n5 c5 : Nat) (cl : List CM) (own : Bool) (W : World) (hts : Ints W W.heap.size x.ts.a x.ts.n ts) (hds : Drvs W W.heap.size x.ds.a x.ds.n ds) (hos : Ords W W.heap.size x.os.a x.os.n os) (hps : Plns W W.heap.size x.pl.a x.pl.n ps) (hcl : Crts W W.heap.size A5 n5 cl) :
    Calls Try.prog 7 #[wdV x, .slice A5 n5 c5, .bool own] W fun e w' => e = .returned (.bool true) ∧ Below W.heap.size W w' := by
  have HTS := Lib.hid hts
  have HDS := Lib.hid hds
  have HOS := Lib.hid hos
  have HPS := Lib.hid hps
  have HCL := Lib.hid hcl
  clear hts hds hos hps hcl
  obtain ⟨m, hm⟩ : ∃ m, mapOf x.n ts = m := ⟨_, rfl⟩
  have HM := Lib.hid hm
  clear hm
  obtain ⟨⟨cs, fk, fe⟩, hmk⟩ : ∃ z, makeC m ds os (ps.map (·.rt)) = z := ⟨_, rfl⟩
  have HMK := Lib.hid hmk
  clear hmk
  obtain ⟨cc, hcc⟩ : ∃ z, (if own = true then cs else cl.map (·.vs)) = z := ⟨_, rfl⟩
  have HCC := Lib.hid hcc
  clear hcc
  obtain ⟨⟨gk, ge⟩, hck⟩ : ∃ z, checkC m ds os (ps.map (·.rt)) cc = z := ⟨_, rfl⟩
  have HCK := Lib.hid hck
  have HIFF : Hid (ge = 0 ↔ fe = 0 ∧ cc = cs) := by
    have h := check_make m ds os (ps.map (·.rt)) cc
    rw [hck, HMK.out] at h
    exact h
  clear hck
  have HB0 : Hid (Below W.heap.size W (W.alloc (.cells #[.int .i64 x.n, x.ts.v, x.ds.v, x.os.v, x.pl.v] 58))) := (Below.refl _ _).alloc (Nat.le_refl _) _
  have HW0 := Lib.hid (WBox.new W x)
  go_enter Try.func7, Try.ntmps7
  go_wp2_with fail
  refine (kmaps_any x ts _ (by exact Reads.more (Reads.keep HTS.out HB0.out) HB0.out.size)).mono ?_
  intro e w1 hmo
  obtain ⟨q, r, rfl, hcr⟩ := CR.start (n0 := 0) HB0.out HW0.out HDS.out HOS.out HPS.out HM.out hmo
  have C1 := Lib.hid hcr
  clear hmo hcr HB0 HW0
  obtain ⟨x0, x1, x2, x3, x4⟩ := C1.out.wd.cells
  go_wp2_with fail
  refine (use_make C1.out HMK.out).mono ?_
  rintro e w2 ⟨Ba, ca, la, rfl, ha2⟩
  have A2 := Lib.hid ha2
  have C2 : Hid (CR W q r m x ds os ps (w2.alloc (.cells #[.int .i64 fk, .int .i64 fe] 49))) := (C1.out.below ha2.new.old).below ((Below.refl _ _).alloc (Nat.le_refl _) _)
  have F2 : Hid (FBox (w2.alloc (.cells #[.int .i64 fk, .int .i64 fe] 49)) w2.heap.size fk fe) := Blk.new w2 _ _
  have D2 : Hid (Below w2.heap.size w2 (w2.alloc (.cells #[.int .i64 fk, .int .i64 fe] 49))) := (Below.refl _ _).alloc (Nat.le_refl _) _
  clear ha2 x0 x1 x2 x3 x4
  go_upto_region 5 with fail
  obtain ⟨w3, hw3⟩ : ∃ u, w2.alloc (.cells #[.int .i64 fk, .int .i64 fe] 49) = u := ⟨_, rfl⟩
  rw [hw3] at C2 F2 D2 ⊢
  obtain ⟨gf, hgf⟩ : ∃ g, w2.heap.size = g := ⟨_, rfl⟩
  rw [hgf] at F2 ⊢
  clear hw3 hgf
  have A3 := Lib.hid (A2.out.keep D2.out)
  go_upto_if 32 with fail
  go_cut [1] (fun cv wx => ∃ A n c l', cv = .slice A n c ∧ Hid (Below w3.heap.size w3 wx) ∧ Hid (Crts wx wx.heap.size A n l') ∧ Hid (l'.map (·.vs) = cc))
  case first =>
    cases own with
    | true =>
      go_wp2_with fail
      refine (use_copied A3.out.crts.1 A3.out.vss (by have := makeC_few HMK.out; omega)).mono ?_
      rintro e w4 ⟨Bc, kc, lc, rfl, hw⟩
      have HW := Lib.hid hw
      clear hw
      go_wp2_with fail
      go_meet
      exact ⟨_, _, _, lc, rfl, HW.out.new.old, HW.out.crts.1, HW.out.vss.trans HCC.out⟩
    | false =>
      go_wp2_with fail
      go_meet
      exact ⟨_, _, _, cl, rfl, Below.refl _ _, (HCL.out.keep C2.out.old).more C2.out.old.size, HCC.out⟩
  case rest =>
  obtain ⟨A, n, c, l', rfl, HB4, HL4, HV4⟩ := hcut
  obtain ⟨w4, rfl⟩ : ∃ u, u = wc := ⟨_, rfl⟩
  have C4 := Lib.hid (C2.out.below HB4.out)
  have A4 := Lib.hid (A3.out.keep HB4.out)
  have F4 := Lib.hid (F2.out.below HB4.out)
  clear A2 A3 C2 F2 D2 HB4
  obtain ⟨x0, x1, x2, x3, x4⟩ := C4.out.wd.cells
  go_wp2_with fail
  refine (use_check C4.out HL4.out HV4.out HCK.out).mono ?_
  rintro e w5 ⟨rfl, hb5⟩
  have H5 := Lib.hid hb5
  have G6 : Hid (FBox (w5.alloc (.cells #[.int .i64 gk, .int .i64 ge] 49)) w5.heap.size gk ge) := Blk.new w5 _ _
  have H6 : Hid (Below w4.heap.size w4 (w5.alloc (.cells #[.int .i64 gk, .int .i64 ge] 49))) := hb5.alloc hb5.size _
  clear hb5 x0 x1 x2 x3 x4
  go_upto_region 8 with fail
  obtain ⟨w6, hw6⟩ : ∃ u, w5.alloc (.cells #[.int .i64 gk, .int .i64 ge] 49) = u := ⟨_, rfl⟩
  rw [hw6] at G6 H6 ⊢
  obtain ⟨gg, hgg⟩ : ∃ g, w5.heap.size = g := ⟨_, rfl⟩
  rw [hgg] at G6 ⊢
  clear hw6 hgg H5
  have C6 := Lib.hid (C4.out.below H6.out)
  have N6 : Hid (ON w6 A n l' Ba cs.length la gf gg fk gk fe ge) := ⟨(HL4.out.keep H6.out).more H6.out.size, ((A4.out.crts.1).keep H6.out).more H6.out.size, F4.out.below H6.out, G6.out⟩
  have HVA := Lib.hid A4.out.vss
  clear C4 A4 F4 G6 H6 HL4
  go_cut [6] (fun v wx => v = .bool true ∧ Hid (Below w6.heap.size w6 wx))
  case first =>
    by_cases he : fe = 0
    · subst he
      obtain ⟨b, hb⟩ : ∃ b, decide (cc = cs) = b := ⟨_, rfl⟩
      have HGB : Hid ((ge == 0) = b) := by
        show _ = _
        rw [← hb]
        by_cases h : cc = cs
        · rw [decide_eq_true h, HIFF.out.2 ⟨rfl, h⟩]; rfl
        · rw [decide_eq_false h]
          have : ¬ ge = 0 := fun e => h (HIFF.out.1 e).2
          simpa using this
      have HFB : Hid (((0 : Int) == 0) = true) := rfl
      have HLB : Hid (decide (l'.map (·.vs) = la.map (·.vs)) = b) := by show _ = _; rw [HV4.out, HVA.out]; exact hb
      have HC : Hid (∀ u, Below w6.heap.size w6 u → ON u A n l' Ba cs.length la gf gg fk gk 0 ge) := fun u hu => N6.out.keep hu
      clear hb
      refine wp_region_steps (valRF [44, 45, 46, 47, 48, 49, 50, 51, 52, 53, 54, 55, 56, 57, 58, 59, 60, 61, 62, 63, 64, 65, 6] [faultV gk ge, .bool b, faultV fk 0, .bool true, .bool true, .slice A n c, .slice Ba cs.length ca, .bool b, .bool b, .bool true, .bool true, faultV fk 0, .bool true, .bool true, undef, undef, undef, .bool true, .bool true, .bool true, .bool true, .bool true, .bool true]) (by kernel_rfl) (by kernel_rfl) (by kernel_rfl) (fun _ _ => rfl) (by kernel_rfl) valRF.mon ?_ ?_
      · refine ⟨?_, ?_, ?_, ?_, ?_, ?_, ?_, ?_, ?_, ?_, ?_, ?_, ?_, ?_, ?_, ?_, ?_, ?_, ?_, ?_, ?_, ?_, ?_, trivial⟩
        · exact valRF.pureStep rfl 44 rfl rfl (by simp) _ rfl fun listed a u D hI hr hn => exec_load rfl (hI.out 12 (by kernel_rfl)) (run_load_flt (HC.out _ (below_drew hI.old)).g)
        · exact valRF.callStep rfl 45 rfl rfl (by simp) _ rfl fun listed a u D hI hr hn => ⟨_, _, op_call1 rfl (valRF.val hI hr hn 0 (by kernel_rfl) rfl rfl) (by simp [go_sem]), good_v HGB.out _⟩
        · exact valRF.pureStep rfl 46 rfl rfl (by simp) _ rfl fun listed a u D hI hr hn => exec_load rfl (hI.out 11 (by kernel_rfl)) (run_load_flt (HC.out _ (below_drew hI.old)).f)
        · exact valRF.callStep rfl 47 rfl rfl (by simp) _ rfl fun listed a u D hI hr hn => ⟨_, _, op_call1 rfl (valRF.val hI hr hn 2 (by kernel_rfl) rfl rfl) (by simp [go_sem]), good_v HFB.out _⟩
        · exact valRF.pureStep rfl 48 rfl rfl (by simp) _ rfl fun listed a u D hI hr hn => exec_move (.inl rfl) (valRF.val hI hr hn 3 (by kernel_rfl) rfl rfl)
        · exact valRF.pureStepG 49 rfl rfl (by simp) _ rfl fun listed a u D hI hr hn => ⟨guard_yes (t := 48) rfl (by kernel_rfl) (valRF.val hI hr hn 4 (by kernel_rfl) rfl rfl), exec_move (.inl rfl) (hI.out 1 (by kernel_rfl))⟩
        · exact valRF.pureStepG 50 rfl rfl (by simp) _ rfl fun listed a u D hI hr hn => ⟨guard_yes (t := 48) rfl (by kernel_rfl) (valRF.val hI hr hn 4 (by kernel_rfl) rfl rfl), exec_move (.inl rfl) (hI.out 10 (by kernel_rfl))⟩
        · exact valRF.callStepG 51 rfl rfl (by simp) _ rfl fun listed a u D hI hr hn => ⟨guard_yes (t := 48) rfl (by kernel_rfl) (valRF.val hI hr hn 4 (by kernel_rfl) rfl rfl), _, _, op_call2 rfl (valRF.val hI hr hn 5 (by kernel_rfl) rfl rfl) (valRF.val hI hr hn 6 (by kernel_rfl) rfl rfl) (by simp [go_sem]), use_lists (HC.out _ (below_drew hI.old)).c (HC.out _ (below_drew hI.old)).a HLB.out⟩
        · exact valRF.pureStep rfl 52 rfl rfl (by simp) _ rfl fun listed a u D hI hr hn => OneR.exec_and rfl (valRF.val hI hr hn 4 (by kernel_rfl) rfl rfl) (valRF.val hI hr hn 7 (by kernel_rfl) rfl rfl) (Bool.true_and _)
        · exact valRF.pureStep rfl 53 rfl rfl (by simp) _ rfl fun listed a u D hI hr hn => exec_eqbb rfl (valRF.val hI hr hn 1 (by kernel_rfl) rfl rfl) (valRF.val hI hr hn 8 (by kernel_rfl) rfl rfl)
        · exact valRF.pureStep rfl 54 rfl rfl (by simp) _ rfl fun listed a u D hI hr hn => exec_move (.inl rfl) (valRF.val hI hr hn 9 (by kernel_rfl) rfl rfl)
        · exact valRF.pureStepG 55 rfl rfl (by simp) _ rfl fun listed a u D hI hr hn => ⟨guard_yes (t := 54) rfl (by kernel_rfl) (valRF.val hI hr hn 10 (by kernel_rfl) rfl rfl), exec_load rfl (hI.out 11 (by kernel_rfl)) (run_load_flt (HC.out _ (below_drew hI.old)).f)⟩
        · exact valRF.callStepG 56 rfl rfl (by simp) _ rfl fun listed a u D hI hr hn => ⟨guard_yes (t := 54) rfl (by kernel_rfl) (valRF.val hI hr hn 10 (by kernel_rfl) rfl rfl), _, _, op_call1 rfl (valRF.val hI hr hn 11 (by kernel_rfl) rfl rfl) (by simp [go_sem]), good_v HFB.out _⟩
        · exact valRF.pureStepG 57 rfl rfl (by simp) _ rfl fun listed a u D hI hr hn => ⟨guard_yes (t := 54) rfl (by kernel_rfl) (valRF.val hI hr hn 10 (by kernel_rfl) rfl rfl), exec_move (.inl rfl) (valRF.val hI hr hn 12 (by kernel_rfl) rfl rfl)⟩
        · exact valRF.skipStep 58 rfl rfl (by simp) rfl fun listed a u D hI hr hn => guard_no (t := 57) rfl (by kernel_rfl) (valRF.val hI hr hn 13 (by kernel_rfl) rfl rfl)
        · exact valRF.skipStep 59 rfl rfl (by simp) rfl fun listed a u D hI hr hn => guard_no (t := 57) rfl (by kernel_rfl) (valRF.val hI hr hn 13 (by kernel_rfl) rfl rfl)
        · exact valRF.skipStep 60 rfl rfl (by simp) rfl fun listed a u D hI hr hn => guard_no (t := 57) rfl (by kernel_rfl) (valRF.val hI hr hn 13 (by kernel_rfl) rfl rfl)
        · exact valRF.pureStepG 61 rfl rfl (by simp) _ rfl fun listed a u D hI hr hn => ⟨guard_yes (t := 54) rfl (by kernel_rfl) (valRF.val hI hr hn 10 (by kernel_rfl) rfl rfl), exec_ort rfl (valRF.val hI hr hn 13 (by kernel_rfl) rfl rfl)⟩
        · exact valRF.pureStep rfl 62 rfl rfl (by simp) _ rfl fun listed a u D hI hr hn => OneR.exec_and rfl (valRF.val hI hr hn 10 (by kernel_rfl) rfl rfl) (valRF.val hI hr hn 17 (by kernel_rfl) rfl rfl) rfl
        · exact valRF.pureStep rfl 63 rfl rfl (by simp) _ rfl fun listed a u D hI hr hn => exec_move (.inl rfl) (valRF.val hI hr hn 18 (by kernel_rfl) rfl rfl)
        · exact valRF.callStepG 64 rfl rfl (by simp) _ rfl fun listed a u D hI hr hn => ⟨guard_yes (t := 63) rfl (by kernel_rfl) (valRF.val hI hr hn 19 (by kernel_rfl) rfl rfl), _, _, op_call0 rfl (by simp [go_sem]), use_runs _⟩
        · exact valRF.pureStep rfl 65 rfl rfl (by simp) _ rfl fun listed a u D hI hr hn => OneR.exec_and rfl (valRF.val hI hr hn 19 (by kernel_rfl) rfl rfl) (valRF.val hI hr hn 20 (by kernel_rfl) rfl rfl) rfl
        · exact valRF.pureStep rfl 6 rfl rfl (by simp) _ rfl fun listed a u D hI hr hn => exec_move (.inr rfl) (valRF.val hI hr hn 21 (by kernel_rfl) rfl rfl)
      · intro listed a u D hI hall
        have eR0 : a.tmps.getD 6 undef = .bool true := (hI.fact 22 ⟨hall 22 (by simp), fun k hk => by cases hk⟩).1
        have hold := below_drew hI.old
        have hl := hI.fill [44, 45, 46, 47, 48, 49, 50, 51, 52, 53, 54, 55, 56, 57, 58, 59, 60, 61, 62, 63, 64, 65, 6] (by kernel_rfl)
        clear hI hall
        obtain ⟨σ, hσ⟩ : ∃ σ : Nat → Value, ∀ t, a.tmps.getD t undef = σ t := ⟨_, fun _ => rfl⟩
        simp only [hσ] at hl eR0
        clear hσ
        simp only [List.foldl_cons, List.foldl_nil, List.setIfInBounds_toArray, List.set_cons_zero, List.set_cons_succ, eR0] at hl
        subst hl
        go_wp2_with fail
        go_meet
        exact ⟨rfl, hold⟩
    · have hcs : cs = [] := makeC_none HMK.out he
      subst hcs
      have HGB : Hid ((ge == 0) = false) := by
        show _ = _
        have : ¬ ge = 0 := fun e => he (HIFF.out.1 e).1
        simpa using this
      have HFB : Hid ((fe == 0) = false) := by show _ = _; simpa using he
      have HC : Hid (∀ u, Below w6.heap.size w6 u → ON u A n l' Ba 0 la gf gg fk gk fe ge) := fun u hu => N6.out.keep hu
      refine wp_region_steps (valRF [44, 45, 46, 47, 48, 49, 50, 51, 52, 53, 54, 55, 56, 57, 58, 59, 60, 61, 62, 63, 64, 65, 6] [faultV gk ge, .bool false, faultV fk fe, .bool false, .bool false, undef, undef, undef, .bool false, .bool true, .bool true, faultV fk fe, .bool false, .bool false, .slice Ba 0 ca, .int .i64 0, .bool true, .bool true, .bool true, .bool true, .bool true, .bool true, .bool true]) (by kernel_rfl) (by kernel_rfl) (by kernel_rfl) (fun _ _ => rfl) (by kernel_rfl) valRF.mon ?_ ?_
      · refine ⟨?_, ?_, ?_, ?_, ?_, ?_, ?_, ?_, ?_, ?_, ?_, ?_, ?_, ?_, ?_, ?_, ?_, ?_, ?_, ?_, ?_, ?_, ?_, trivial⟩
        · exact valRF.pureStep rfl 44 rfl rfl (by simp) _ rfl fun listed a u D hI hr hn => exec_load rfl (hI.out 12 (by kernel_rfl)) (run_load_flt (HC.out _ (below_drew hI.old)).g)
        · exact valRF.callStep rfl 45 rfl rfl (by simp) _ rfl fun listed a u D hI hr hn => ⟨_, _, op_call1 rfl (valRF.val hI hr hn 0 (by kernel_rfl) rfl rfl) (by simp [go_sem]), good_v HGB.out _⟩
        · exact valRF.pureStep rfl 46 rfl rfl (by simp) _ rfl fun listed a u D hI hr hn => exec_load rfl (hI.out 11 (by kernel_rfl)) (run_load_flt (HC.out _ (below_drew hI.old)).f)
        · exact valRF.callStep rfl 47 rfl rfl (by simp) _ rfl fun listed a u D hI hr hn => ⟨_, _, op_call1 rfl (valRF.val hI hr hn 2 (by kernel_rfl) rfl rfl) (by simp [go_sem]), good_v HFB.out _⟩
        · exact valRF.pureStep rfl 48 rfl rfl (by simp) _ rfl fun listed a u D hI hr hn => exec_move (.inl rfl) (valRF.val hI hr hn 3 (by kernel_rfl) rfl rfl)
        · exact valRF.skipStep 49 rfl rfl (by simp) rfl fun listed a u D hI hr hn => guard_no (t := 48) rfl (by kernel_rfl) (valRF.val hI hr hn 4 (by kernel_rfl) rfl rfl)
        · exact valRF.skipStep 50 rfl rfl (by simp) rfl fun listed a u D hI hr hn => guard_no (t := 48) rfl (by kernel_rfl) (valRF.val hI hr hn 4 (by kernel_rfl) rfl rfl)
        · exact valRF.skipStep 51 rfl rfl (by simp) rfl fun listed a u D hI hr hn => guard_no (t := 48) rfl (by kernel_rfl) (valRF.val hI hr hn 4 (by kernel_rfl) rfl rfl)
        · exact valRF.pureStep rfl 52 rfl rfl (by simp) _ rfl fun listed a u D hI hr hn => OneR.exec_andf rfl (valRF.val hI hr hn 4 (by kernel_rfl) rfl rfl)
        · exact valRF.pureStep rfl 53 rfl rfl (by simp) _ rfl fun listed a u D hI hr hn => exec_eqbb rfl (valRF.val hI hr hn 1 (by kernel_rfl) rfl rfl) (valRF.val hI hr hn 8 (by kernel_rfl) rfl rfl)
        · exact valRF.pureStep rfl 54 rfl rfl (by simp) _ rfl fun listed a u D hI hr hn => exec_move (.inl rfl) (valRF.val hI hr hn 9 (by kernel_rfl) rfl rfl)
        · exact valRF.pureStepG 55 rfl rfl (by simp) _ rfl fun listed a u D hI hr hn => ⟨guard_yes (t := 54) rfl (by kernel_rfl) (valRF.val hI hr hn 10 (by kernel_rfl) rfl rfl), exec_load rfl (hI.out 11 (by kernel_rfl)) (run_load_flt (HC.out _ (below_drew hI.old)).f)⟩
        · exact valRF.callStepG 56 rfl rfl (by simp) _ rfl fun listed a u D hI hr hn => ⟨guard_yes (t := 54) rfl (by kernel_rfl) (valRF.val hI hr hn 10 (by kernel_rfl) rfl rfl), _, _, op_call1 rfl (valRF.val hI hr hn 11 (by kernel_rfl) rfl rfl) (by simp [go_sem]), good_v HFB.out _⟩
        · exact valRF.pureStepG 57 rfl rfl (by simp) _ rfl fun listed a u D hI hr hn => ⟨guard_yes (t := 54) rfl (by kernel_rfl) (valRF.val hI hr hn 10 (by kernel_rfl) rfl rfl), exec_move (.inl rfl) (valRF.val hI hr hn 12 (by kernel_rfl) rfl rfl)⟩
        · exact valRF.pureStepG 58 rfl rfl (by simp) _ rfl fun listed a u D hI hr hn => ⟨guard_yes (t := 57) rfl (by kernel_rfl) (valRF.val hI hr hn 13 (by kernel_rfl) rfl rfl), exec_move (.inl rfl) (hI.out 10 (by kernel_rfl))⟩
        · exact valRF.pureStepG 59 rfl rfl (by simp) _ rfl fun listed a u D hI hr hn => ⟨guard_yes (t := 57) rfl (by kernel_rfl) (valRF.val hI hr hn 13 (by kernel_rfl) rfl rfl), exec_len_crt rfl (valRF.val hI hr hn 14 (by kernel_rfl) rfl rfl)⟩
        · exact valRF.pureStepG 60 rfl rfl (by simp) _ rfl fun listed a u D hI hr hn => ⟨guard_yes (t := 57) rfl (by kernel_rfl) (valRF.val hI hr hn 13 (by kernel_rfl) rfl rfl), exec_eq0 rfl (valRF.val hI hr hn 15 (by kernel_rfl) rfl rfl)⟩
        · exact valRF.pureStepG 61 rfl rfl (by simp) _ rfl fun listed a u D hI hr hn => ⟨guard_yes (t := 54) rfl (by kernel_rfl) (valRF.val hI hr hn 10 (by kernel_rfl) rfl rfl), exec_orf rfl (valRF.val hI hr hn 13 (by kernel_rfl) rfl rfl) (valRF.val hI hr hn 16 (by kernel_rfl) rfl rfl)⟩
        · exact valRF.pureStep rfl 62 rfl rfl (by simp) _ rfl fun listed a u D hI hr hn => OneR.exec_and rfl (valRF.val hI hr hn 10 (by kernel_rfl) rfl rfl) (valRF.val hI hr hn 17 (by kernel_rfl) rfl rfl) rfl
        · exact valRF.pureStep rfl 63 rfl rfl (by simp) _ rfl fun listed a u D hI hr hn => exec_move (.inl rfl) (valRF.val hI hr hn 18 (by kernel_rfl) rfl rfl)
        · exact valRF.callStepG 64 rfl rfl (by simp) _ rfl fun listed a u D hI hr hn => ⟨guard_yes (t := 63) rfl (by kernel_rfl) (valRF.val hI hr hn 19 (by kernel_rfl) rfl rfl), _, _, op_call0 rfl (by simp [go_sem]), use_runs _⟩
        · exact valRF.pureStep rfl 65 rfl rfl (by simp) _ rfl fun listed a u D hI hr hn => OneR.exec_and rfl (valRF.val hI hr hn 19 (by kernel_rfl) rfl rfl) (valRF.val hI hr hn 20 (by kernel_rfl) rfl rfl) rfl
        · exact valRF.pureStep rfl 6 rfl rfl (by simp) _ rfl fun listed a u D hI hr hn => exec_move (.inr rfl) (valRF.val hI hr hn 21 (by kernel_rfl) rfl rfl)
      · intro listed a u D hI hall
        have eR0 : a.tmps.getD 6 undef = .bool true := (hI.fact 22 ⟨hall 22 (by simp), fun k hk => by cases hk⟩).1
        have hold := below_drew hI.old
        have hl := hI.fill [44, 45, 46, 47, 48, 49, 50, 51, 52, 53, 54, 55, 56, 57, 58, 59, 60, 61, 62, 63, 64, 65, 6] (by kernel_rfl)
        clear hI hall
        obtain ⟨σ, hσ⟩ : ∃ σ : Nat → Value, ∀ t, a.tmps.getD t undef = σ t := ⟨_, fun _ => rfl⟩
        simp only [hσ] at hl eR0
        clear hσ
        simp only [List.foldl_cons, List.foldl_nil, List.setIfInBounds_toArray, List.set_cons_zero, List.set_cons_succ, eR0] at hl
        subst hl
        go_wp2_with fail
        go_meet
        exact ⟨rfl, hold⟩
  case rest =>
  obtain ⟨rfl, HB⟩ := hcut
  obtain ⟨w7, rfl⟩ : ∃ u, u = wc := ⟨_, rfl⟩
  have C7 := Lib.hid (C6.out.below HB.out)
  clear HB
  go_wp2_with fail
  go_ret
  exact ⟨rfl, C7.out.old⟩
#print axioms certOnly_walk
end Go.Proofs.Ytfejnohcggoepaa.Cert
