/-
  The program's slack.Fits, walked.
-/
import Derived.Test.YtobcmlcmbnldlaaSlackPSite
import Derived.Test.YtobcmlcmbnldlaaSlackPPut
import Derived.Test.YtobcmlcmbnldlaaSlackRFits
import Derived.Test.YtobcmlcmbnldlaaRegionVal
namespace Go.Proofs.Ytobcmlcmbnldlaa.Slack
open Go.ChangeShapes Go.WideShapes Go.ChangeAt Go.RowKit Go.Proofs.Ytobcmlcmbnldlaa.Mem Go.Proofs.Ytobcmlcmbnldlaa.GeoMath Go.Proofs.Ytobcmlcmbnldlaa.FleetMath Go.Proofs.Ytobcmlcmbnldlaa.Rec Go.Proofs.Ytobcmlcmbnldlaa.Geo Go.Proofs.Ytobcmlcmbnldlaa.Span Go.Proofs.Ytobcmlcmbnldlaa.Deal Go.Proofs.Ytobcmlcmbnldlaa.Route
set_option linter.unusedVariables false

/-- as the program asks it -/
theorem fits_all {m : Option Mp} {d : Drv} {os : List FleetMath.Ord} {stops : List Stp} {o : FleetMath.Ord} {i j : Int} :
    fits m d os stops o i j = (decide ((drive m d os stops).2.2 = 0) && (decide (0 < (putR stops o.id i j).length) && decide ((drive m d (os ++ [o]) (putR stops o.id i j)).2.2 = 0))) := by
  by_cases h : 0 ≤ i ∧ i ≤ j ∧ j ≤ stops.length
  · obtain ⟨i, rfl⟩ : ∃ x : Nat, i = x := ⟨i.toNat, by omega⟩
    obtain ⟨j, rfl⟩ : ∃ x : Nat, j = x := ⟨j.toNat, by omega⟩
    have hij : i ≤ j := by omega
    have hj : j ≤ stops.length := by omega
    rw [putR_nat hij hj, putM_len hij hj, decide_eq_true (show 0 < stops.length + 2 by omega), Bool.true_and]
    cases hf : find os o.id with
    | none => rw [fits_yes ⟨hij, hj⟩ hf]
    | some p =>
      rw [fits_no (.inr (by rw [hf]; simp))]
      have : (drive m d (os ++ [o]) (putM stops o.id i j)).2.2 ≠ 0 := fun h0 => by
        obtain ⟨_, _, _, _, _, hk, _⟩ := drive_fine h0
        obtain ⟨_, _, hd⟩ := known_iff.1 hk
        obtain ⟨hp, he⟩ := find_some hf
        exact (List.pairwise_append.1 hd).2.2 p hp o (by simp) he
      rw [decide_eq_false this, Bool.and_false]
  · rw [fits_no (.inl h), putR_no h]
    simp

theorem exec_len {o : Oper} {a : Act} {u : World} {x : Operand} {t : TypeId} {A : Option Addr} {n c : Nat} (h : o.op = .call { callee := .builtin .len, args := #[x], argTypes := #[41] }) (hp : a.eval x = .slice A n c) : (execOp a.eval o).run Try.prog u = .ok (.value (.int .i64 (n : Int))) u := by
  obtain ⟨ρ, hρ⟩ : ∃ ρ, a.eval = ρ := ⟨_, rfl⟩
  rw [hρ] at hp ⊢
  unfold execOp
  rw [h]
  simp [go_sem, hp]
theorem exec_pos {o : Oper} {a : Act} {u : World} {x : Operand} {n : Nat} {b : Bool} {T : TypeId} (h : o.op = .binOp .gtr 3 x (.const (.int .i64 0)) T) (hp : a.eval x = .int .i64 (n : Int)) (hb : decide (0 < n) = b) : (execOp a.eval o).run Try.prog u = .ok (.value (.bool b)) u := by
  have hc : a.eval (.const (.int .i64 0)) = .int .i64 0 := rfl
  obtain ⟨ρ, hρ⟩ : ∃ ρ, a.eval = ρ := ⟨_, rfl⟩
  rw [hρ] at hp hc ⊢
  subst hb
  unfold execOp
  rw [h]
  simp [go_sem, hp, hc]
theorem exec_pick {o : Oper} {a : Act} {u : World} {x y z : Operand} {b : Bool} {v : Value} (h : o.op = .pick x y z) (hp : a.eval x = .bool b) (hv : (if b then a.eval y else a.eval z) = v) : (execOp a.eval o).run Try.prog u = .ok (.value v) u := by
  subst hv
  unfold execOp
  rw [h]
  simp only [hp]
  cases b <;> simp [go_sem]
theorem exec_two {p0 p1 : Operand} {v0 v1 : Option Addr × Nat × Nat} {o : Oper} {a : Act} {u : World} (h : o.op = .buildSlice 103 2 #[(0, p0), (1, p1)]) (h0 : a.eval p0 = sl3 v0) (h1 : a.eval p1 = sl3 v1) :
    (execOp a.eval o).run Try.prog u = .ok (.value (.slice (some ⟨u.heap.size, 0, none⟩) 2 2)) (u.alloc (.cells #[sl3 v0, sl3 v1] 36)) := by
  obtain ⟨ρ, hρ⟩ : ∃ ρ, a.eval = ρ := ⟨_, rfl⟩
  rw [hρ] at h0 h1 ⊢
  unfold execOp
  rw [h]
  simp [go_sem, h0, h1]
theorem exec_call4 {o : Oper} {a : Act} {u : World} {f : Nat} {ts : Array TypeId} {x y z t : Operand} {v1 v2 v3 v4 : Value} (h : o.op = .call { callee := .value (.func f), args := #[x, y, z, t], argTypes := ts }) (h1 : a.eval x = v1) (h2 : a.eval y = v2) (h3 : a.eval z = v3) (h4 : a.eval t = v4) (hf : (callFunc f #[v1, v2, v3, v4]).run Try.prog u = .ok (.enter f #[v1, v2, v3, v4]) u) :
    (execOp a.eval o).run Try.prog u = .ok (.enter f #[v1, v2, v3, v4]) u := by
  have hf' : a.eval (.func f) = .func (.func f) #[] #[] := rfl
  obtain ⟨ρ, hρ⟩ : ∃ ρ, a.eval = ρ := ⟨_, rfl⟩
  rw [hρ] at h1 h2 h3 h4 hf' ⊢
  unfold execOp
  rw [h]
  simp [go_sem, hf', h1, h2, h3, h4, hf]

/-- what the operations of the region leave in which the second drive stands -/
def pfitsFact (base : Nat) (q : Option Addr) (d : Drv) (A : Option Addr) (n c : Nat) (os : List FleetMath.Ord) (A' : Option Addr) (n' c' : Nat) (o : FleetMath.Ord) (r : Bool) (k : Nat) (v : Value) (D : Nat → Prop) (u : World) : Prop :=
  match k with
  | 0 => pureF (fun v => v = .slice A' n' c') v D
  | 1 => pureF (fun v => v = .int .i64 (n' : Int)) v D
  | 2 => pureF (fun v => v = .bool true) v D
  | 3 => pureF (fun v => v = .bool true) v D
  | 4 => pureF (fun v => v = .pointer q) v D
  | 5 => pureF (fun v => v = drvV d) v D
  | 6 => pureF (fun v => v = .slice A n c) v D
  | 7 => pureF (fun v => v = ordV o) v D
  | 8 => blkF (fun g => .slice (some ⟨g, 0, none⟩) 1 1) 31 (ordL o) v D u
  | 9 => ∃ g ga, v = .slice (some ⟨g, 0, none⟩) 2 2 ∧ Blk u g 36 [sl3 (A, n, c), sl3 (some ⟨ga, 0, none⟩, 1, 1)] ∧ Blk u ga 31 (ordL o) ∧ ∀ b, D b ↔ b = g ∨ b = ga
  | 10 => ownF base 10 31 (n + 1) (ordsV (os ++ [o])) v D u
  | 11 => pureF (fun v => v = .slice A' n' c') v D
  | 12 => pureF (fun v => v = .bool r) v D
  | 13 => pureF (fun v => v = .bool r) v D
  | 14 => pureF (fun v => v = .bool r) v D
  | _ => pureF (fun _ => True) v D
def pfitsRF (base : Nat) (q : Option Addr) (d : Drv) (A : Option Addr) (n c : Nat) (os : List FleetMath.Ord) (A' : Option Addr) (n' c' : Nat) (o : FleetMath.Ord) (r : Bool) : RF :=
  ⟨fun k => [28, 29, 30, 31, 32, 33, 34, 35, 36, 37, 38, 39, 40, 41, 14].getD k 0, fun k => if k = 8 then some 9 else none, pfitsFact base q d A n c os A' n' c' o r⟩
theorem pfits_mon {base : Nat} {q : Option Addr} {d : Drv} {A : Option Addr} {n c : Nat} {os : List FleetMath.Ord} {A' : Option Addr} {n' c' : Nat} {o : FleetMath.Ord} {r : Bool} (k : Nat) (v : Value) (D : Nat → Prop) (u u' : World) (h : pfitsFact base q d A n c os A' n' c' o r k v D u) (hk : ∀ b, D b → u'.heap[b]? = u.heap[b]?) :
    pfitsFact base q d A n c os A' n' c' o r k v D u' := by
  revert h
  unfold pfitsFact
  split <;> intro h <;> first | exact h | exact ownF.mon h hk | exact blkF.mon h hk | skip
  obtain ⟨g, ga, e, h1, h2, hd⟩ := h
  exact ⟨g, ga, e, (hk g ((hd g).2 (.inl rfl))).trans h1, (hk ga ((hd ga).2 (.inr rfl))).trans h2, hd⟩
/-- the two parts -/
def ordParts (A : Option Addr) (n c : Nat) (os : List FleetMath.Ord) (o : FleetMath.Ord) (ga : Nat) : List Part := [⟨A, n, c, ordsV os⟩, ⟨some ⟨ga, 0, none⟩, 1, 1, ordL o⟩]
section
variable {A : Option Addr} {n c ga : Nat} {os : List FleetMath.Ord} {o : FleetMath.Ord}
theorem ordParts_len : lens (ordParts A n c os o ga) = n + 1 := by
  simp only [ordParts, lens, List.map_cons, List.map_nil, List.sum_cons, List.sum_nil]
  omega
theorem ordParts_all : allOf (ordParts A n c os o ga) = ordsV (os ++ [o]) := by
  simp only [ordParts, allOf, List.flatMap_cons, List.flatMap_nil, List.append_nil, ordsV_append]
  rfl
theorem ordParts_read {u : World} (hs : Ords u u.heap.size A n os) (ha : Blk u ga 31 (ordL o)) : Parts u u.heap.size 10 (ordParts A n c os o ga) := by
  intro p hp
  simp only [ordParts, List.mem_cons, List.not_mem_nil, or_false] at hp
  rcases hp with rfl | rfl
  · exact ⟨hs, ordsV_one _⟩
  · exact ⟨⟨rfl, by show 1 ≤ maxLen; unfold maxLen; omega, fun _ => ⟨ga, 0, rfl, ha.lt, fun p y hy => by rw [Nat.zero_add]; exact ha.cell hy⟩⟩, ordL_one o⟩
end

set_option maxRecDepth 100000 in
set_option maxHeartbeats 4000000 in
theorem gfits_any (base : Nat) (pv : Value) (m : Option Mp) (d : Drv) (A : Option Addr) (n c : Nat) (os : List FleetMath.Ord) (A' : Option Addr) (n' c' : Nat) (stops : List Stp) (o : FleetMath.Ord) (i j : Int) (w : World) (h : MapP w 77 base pv m) (ho : Ords w w.heap.size A n os) (hs : Stps w w.heap.size A' n' stops) (hcc : n' ≤ c') (hnc : n ≤ c)
    (hr : n * 80 ≤ 140737488351232) (hr' : n' * 16 ≤ 140737488351232) :
    Calls Try.prog 14 #[pv, drvV d, .slice A n c, .slice A' n' c', ordV o, .int .i64 i, .int .i64 j] w (Gives w (.bool (fits m d os stops o i j))) := by
  have K0 : Hid (FK w d o ((w.alloc (.cells #[.int .i64 d.id, .int .i64 d.room, .int .i64 d.home, .int .i64 d.win.fr, .int .i64 d.win.to, .bool d.retired] 33)).alloc (.cells #[.int .i64 o.id, .int .i64 o.size, .int .i64 o.pick.place, .int .i64 o.pick.win.fr, .int .i64 o.pick.win.to, .int .i64 o.pick.serv, .int .i64 o.drop.place, .int .i64 o.drop.win.fr, .int .i64 o.drop.win.to, .int .i64 o.drop.serv] 31))) := by
    have h1 := Blk.new (w.alloc (.cells #[.int .i64 d.id, .int .i64 d.room, .int .i64 d.home, .int .i64 d.win.fr, .int .i64 d.win.to, .bool d.retired] 33)) 31 [.int .i64 o.id, .int .i64 o.size, .int .i64 o.pick.place, .int .i64 o.pick.win.fr, .int .i64 o.pick.win.to, .int .i64 o.pick.serv, .int .i64 o.drop.place, .int .i64 o.drop.win.fr, .int .i64 o.drop.win.to, .int .i64 o.drop.serv]
    rw [World.size_alloc] at h1
    exact ⟨((Below.refl _ _).alloc (Nat.le_refl _) _).alloc (by simp) _, DBox.below (d := d) (Blk.new w _ _) ((Below.refl _ _).alloc (Nat.le_refl _) _), h1⟩
  have HM := Lib.hid h
  have HOS := Lib.hid ho
  have HST := Lib.hid hs
  have HLS := Lib.hid hs.length
  have HLO := Lib.hid ho.length
  have hnm := Recs.le ho
  have hnm' := Recs.le hs
  obtain ⟨q, hq⟩ : ∃ q, pv = .pointer q := by
    rcases h with ⟨rfl, _⟩ | ⟨b, _, _, rfl, _⟩
    · exact ⟨_, rfl⟩
    · exact ⟨_, rfl⟩
  subst hq
  clear h ho hs
  obtain ⟨d0, d1, d2, d3, d4, d5⟩ := K0.out.drv.cells
  go_enter Try.func14, Try.ntmps14
  go_wp2_with fail
  by_cases hfine : (drive m d os stops).2.2 = 0
  case neg =>
    refine (gdrives_v base (.pointer q) m d A n c os A' n' c' stops false _ (decide_eq_false hfine) (by exact HM.out.keep K0.out.old) (by exact Recs.more (Recs.keep HOS.out K0.out.old) K0.out.old.size) (by exact Recs.more (Recs.keep HST.out K0.out.old) K0.out.old.size) hcc hnc).mono ?_
    rintro e w1 ⟨rfl, hb1⟩
    have K1 := Lib.hid (K0.out.below hb1)
    have HZ : Hid (fits m d os stops o i j = false) := by show _ = _; rw [fits_all, decide_eq_false hfine]; rfl
    clear hb1 hfine K0 d0 d1 d2 d3 d4 d5
    go_wp2_with fail
    go_ret
    exact ⟨ret_bool HZ.out.symm, K1.out.old⟩
  refine (gdrives_v base (.pointer q) m d A n c os A' n' c' stops true _ (decide_eq_true hfine) (by exact HM.out.keep K0.out.old) (by exact Recs.more (Recs.keep HOS.out K0.out.old) K0.out.old.size) (by exact Recs.more (Recs.keep HST.out K0.out.old) K0.out.old.size) hcc hnc).mono ?_
  rintro e w1 ⟨rfl, hb1⟩
  have K1 := Lib.hid (K0.out.below hb1)
  clear hb1 K0 d0 d1 d2 d3 d4 d5
  obtain ⟨g0, _⟩ := K1.out.ord.cells
  obtain ⟨l, hlp⟩ : ∃ l, putR stops o.id i j = l := ⟨_, rfl⟩
  obtain ⟨r, hr2⟩ : ∃ r, decide ((drive m d (os ++ [o]) l).2.2 = 0) = r := ⟨_, rfl⟩
  have HFT : Hid (fits m d os stops o i j = (decide (0 < l.length) && r)) := by show _ = _; rw [fits_all, decide_eq_true hfine, hlp, hr2]; rfl
  have HR2 := Lib.hid hr2
  have HLP := Lib.hid hlp
  clear hfine hlp hr2
  go_wp2_with fail
  refine (gput_any A' n' c' stops o.id i j w1 (by exact Recs.more (Recs.keep HST.out K1.out.old) K1.out.old.size) hcc hr').mono ?_
  rintro e w2 ⟨v2, rfl, hb2, ho2⟩
  rw [HLP.out] at ho2
  obtain ⟨A2, c2, rfl, hc2, hr2⟩ := ho2.read
  have K2 := Lib.hid (K1.out.below hb2)
  have HS2 := Lib.hid hr2
  clear hb2 ho2 hr2 g0 K1
  obtain ⟨nl, hnl⟩ : ∃ x, l.length = x := ⟨_, rfl⟩
  rw [hnl] at HFT hc2 HS2 ⊢
  have HNL := Lib.hid hnl
  clear hnl
  go_upto_region 4 with fail
  go_cut [14] (fun v wx => v = .bool (decide (0 < nl) && r) ∧ Hid (Below w.heap.size w wx))
  case first =>
    rcases Nat.eq_zero_or_pos nl with h0 | h0
    · subst h0
      refine wp_region_steps (valRF [28, 29, 30, 31, 32, 33, 34, 35, 36, 37, 38, 39, 40, 41, 14] [.slice A2 0 c2, .int .i64 ((0 : Nat) : Int), .bool false, .bool false, undef, undef, undef, undef, undef, undef, undef, undef, undef, .bool false, .bool false]) (by kernel_rfl) (by kernel_rfl) (by kernel_rfl) (fun _ _ => rfl) (by kernel_rfl) valRF.mon ?_ ?_
      · refine ⟨?_, ?_, ?_, ?_, ?_, ?_, ?_, ?_, ?_, ?_, ?_, ?_, ?_, ?_, ?_, trivial⟩
        · exact valRF.pureStep rfl 28 rfl rfl (by simp) _ rfl fun listed a u D hI hr hn => exec_move (.inl rfl) (hI.out 15 (by kernel_rfl))
        · exact valRF.pureStep rfl 29 rfl rfl (by simp) _ rfl fun listed a u D hI hr hn => exec_len (t := 0) rfl (valRF.val hI hr hn 0 (by kernel_rfl) rfl rfl)
        · exact valRF.pureStep rfl 30 rfl rfl (by simp) _ rfl fun listed a u D hI hr hn => exec_pos rfl (valRF.val hI hr hn 1 (by kernel_rfl) rfl rfl) rfl
        · exact valRF.pureStep rfl 31 rfl rfl (by simp) _ rfl fun listed a u D hI hr hn => exec_move (.inl rfl) (valRF.val hI hr hn 2 (by kernel_rfl) rfl rfl)
        · exact valRF.skipStep 32 rfl rfl (by simp) rfl fun listed a u D hI hr hn => guard_no (t := 31) rfl (by kernel_rfl) (valRF.val hI hr hn 3 (by kernel_rfl) rfl rfl)
        · exact valRF.skipStep 33 rfl rfl (by simp) rfl fun listed a u D hI hr hn => guard_no (t := 31) rfl (by kernel_rfl) (valRF.val hI hr hn 3 (by kernel_rfl) rfl rfl)
        · exact valRF.skipStep 34 rfl rfl (by simp) rfl fun listed a u D hI hr hn => guard_no (t := 31) rfl (by kernel_rfl) (valRF.val hI hr hn 3 (by kernel_rfl) rfl rfl)
        · exact valRF.skipStep 35 rfl rfl (by simp) rfl fun listed a u D hI hr hn => guard_no (t := 31) rfl (by kernel_rfl) (valRF.val hI hr hn 3 (by kernel_rfl) rfl rfl)
        · exact valRF.skipStep 36 rfl rfl (by simp) rfl fun listed a u D hI hr hn => guard_no (t := 31) rfl (by kernel_rfl) (valRF.val hI hr hn 3 (by kernel_rfl) rfl rfl)
        · exact valRF.skipStep 37 rfl rfl (by simp) rfl fun listed a u D hI hr hn => guard_no (t := 31) rfl (by kernel_rfl) (valRF.val hI hr hn 3 (by kernel_rfl) rfl rfl)
        · exact valRF.skipStep 38 rfl rfl (by simp) rfl fun listed a u D hI hr hn => guard_no (t := 31) rfl (by kernel_rfl) (valRF.val hI hr hn 3 (by kernel_rfl) rfl rfl)
        · exact valRF.skipStep 39 rfl rfl (by simp) rfl fun listed a u D hI hr hn => guard_no (t := 31) rfl (by kernel_rfl) (valRF.val hI hr hn 3 (by kernel_rfl) rfl rfl)
        · exact valRF.skipStep 40 rfl rfl (by simp) rfl fun listed a u D hI hr hn => guard_no (t := 31) rfl (by kernel_rfl) (valRF.val hI hr hn 3 (by kernel_rfl) rfl rfl)
        · exact valRF.pureStep rfl 41 rfl rfl (by simp) _ rfl fun listed a u D hI hr hn => exec_pick rfl (valRF.val hI hr hn 3 (by kernel_rfl) rfl rfl) rfl
        · exact valRF.pureStep rfl 14 rfl rfl (by simp) _ rfl fun listed a u D hI hr hn => exec_move (.inr rfl) (valRF.val hI hr hn 13 (by kernel_rfl) rfl rfl)
      · intro listed a u D hI hall
        have e14 : a.tmps.getD 14 undef = .bool false := (hI.fact 14 ⟨hall 14 (by simp), fun k hk => by cases hk⟩).1
        have hold := K2.out.old.trans ((below_drew hI.old).mono K2.out.old.size)
        have hl := hI.fill [28, 29, 30, 31, 32, 33, 34, 35, 36, 37, 38, 39, 40, 41, 14] (by kernel_rfl)
        clear hI hall
        obtain ⟨σ, hσ⟩ : ∃ σ : Nat → Value, ∀ t, a.tmps.getD t undef = σ t := ⟨_, fun _ => rfl⟩
        simp only [hσ] at hl e14
        clear hσ
        simp only [List.foldl_cons, List.foldl_nil, List.setIfInBounds_toArray, List.set_cons_zero, List.set_cons_succ, e14] at hl
        subst hl
        go_wp2_with fail
        go_meet
        exact ⟨rfl, hold⟩
    · refine wp_region_steps (pfitsRF w2.drew.heap.size q d A n c os A2 nl c2 o r) (by kernel_rfl) (by kernel_rfl) (by kernel_rfl) (fun k hk => ?_) (by kernel_rfl) pfits_mon ?_ ?_
      · simp only [List.length_cons, List.length_nil] at hk
        simp only [pfitsRF]
        rw [if_neg (by omega)]
      · refine ⟨?_, ?_, ?_, ?_, ?_, ?_, ?_, ?_, ?_, ?_, ?_, ?_, ?_, ?_, ?_, trivial⟩
        · exact RStep.pure rfl 28 rfl rfl (by simp) fun listed a u D hI hr hn => ⟨_, exec_move (.inl rfl) (hI.out 15 (by kernel_rfl)), pureF.new rfl⟩
        · refine RStep.pure rfl 29 rfl rfl (by simp) fun listed a u D hI hr hn => ?_
          obtain ⟨e0, _⟩ : pureF _ _ _ := (hI.get hr hn 0 (by kernel_rfl) (.inl rfl)).1
          exact ⟨_, exec_len (t := 0) rfl (own_eval e0), pureF.new rfl⟩
        · refine RStep.pure rfl 30 rfl rfl (by simp) fun listed a u D hI hr hn => ?_
          obtain ⟨e0, _⟩ : pureF _ _ _ := (hI.get hr hn 1 (by kernel_rfl) (.inl rfl)).1
          exact ⟨_, exec_pos rfl (own_eval e0) (decide_eq_true h0), pureF.new rfl⟩
        · refine RStep.pure rfl 31 rfl rfl (by simp) fun listed a u D hI hr hn => ?_
          obtain ⟨e0, _⟩ : pureF _ _ _ := (hI.get hr hn 2 (by kernel_rfl) (.inl rfl)).1
          exact ⟨_, exec_move (.inl rfl) (own_eval e0), pureF.new rfl⟩
        · refine RStep.pureW 32 rfl rfl (by simp) fun listed a u D hI hr hn => ?_
          obtain ⟨e3, _⟩ : pureF _ _ _ := (hI.get hr hn 3 (by kernel_rfl) (.inl rfl)).1
          exact ⟨guard_yes (t := 31) rfl (by kernel_rfl) e3, _, exec_move (.inl rfl) (hI.out 0 (by kernel_rfl)), pureF.new rfl⟩
        · refine RStep.pureW 33 rfl rfl (by simp) fun listed a u D hI hr hn => ?_
          obtain ⟨e3, _⟩ : pureF _ _ _ := (hI.get hr hn 3 (by kernel_rfl) (.inl rfl)).1
          exact ⟨guard_yes (t := 31) rfl (by kernel_rfl) e3, _, exec_load rfl (hI.out 8 (by kernel_rfl)) (run_load_drv (K2.out.drv.below (below_drew hI.old))), pureF.new rfl⟩
        · refine RStep.pureW 34 rfl rfl (by simp) fun listed a u D hI hr hn => ?_
          obtain ⟨e3, _⟩ : pureF _ _ _ := (hI.get hr hn 3 (by kernel_rfl) (.inl rfl)).1
          exact ⟨guard_yes (t := 31) rfl (by kernel_rfl) e3, _, exec_move (.inl rfl) (hI.out 2 (by kernel_rfl)), pureF.new rfl⟩
        · refine RStep.pureW 35 rfl rfl (by simp) fun listed a u D hI hr hn => ?_
          obtain ⟨e3, _⟩ : pureF _ _ _ := (hI.get hr hn 3 (by kernel_rfl) (.inl rfl)).1
          exact ⟨guard_yes (t := 31) rfl (by kernel_rfl) e3, _, exec_load rfl (hI.out 11 (by kernel_rfl)) (run_load_ord (K2.out.ord.below (below_drew hI.old))), pureF.new rfl⟩
        · refine RStep.valW 36 rfl rfl (by simp) fun listed a u D hI hr hn => ?_
          obtain ⟨e3, _⟩ : pureF _ _ _ := (hI.get hr hn 3 (by kernel_rfl) (.inl rfl)).1
          obtain ⟨e7, _⟩ : pureF _ _ _ := (hI.get hr hn 7 (by kernel_rfl) (.inl rfl)).1
          exact ⟨guard_yes (t := 31) rfl (by kernel_rfl) e3, _, _, _, exec_one rfl (own_eval e7), newp hI.old ⟨_, rfl, Blk.new u _ _, fun b => Iff.rfl⟩⟩
        · refine RStep.valW 37 rfl rfl (by simp) fun listed a u D hI hr hn => ?_
          obtain ⟨e3, _⟩ : pureF _ _ _ := (hI.get hr hn 3 (by kernel_rfl) (.inl rfl)).1
          obtain ⟨e6, _⟩ : pureF _ _ _ := (hI.get hr hn 6 (by kernel_rfl) (.inl rfl)).1
          obtain ⟨ga, e8, hba, hda⟩ : blkF _ _ _ _ _ _ := (hI.get hr hn 8 (by kernel_rfl) (.inr rfl)).1
          refine ⟨guard_yes (t := 31) rfl (by kernel_rfl) e3, _, _, fun b => b = u.heap.size ∨ b = ga, exec_two (v0 := (A, n, c)) (v1 := (some ⟨ga, 0, none⟩, 1, 1)) rfl e6 e8, hI.old.alloc hI.old.size _, by simp, fun b hlt _ => Below.heap_alloc u _ b hlt, fun b hd => ?_, ⟨_, ga, rfl, Blk.new u _ _, hba.below ((Below.refl _ _).alloc (Nat.le_refl _) _) hba.lt, fun b => Iff.rfl⟩⟩
          rcases hd with rfl | rfl
          · exact .inr ⟨Nat.le_refl _, by simp⟩
          · exact .inl ⟨8, rfl, (hda _).2 rfl⟩
        · refine RStep.callW 38 rfl rfl (by simp) fun listed a u D hI hr hn => ?_
          obtain ⟨e3, _⟩ : pureF _ _ _ := (hI.get hr hn 3 (by kernel_rfl) (.inl rfl)).1
          obtain ⟨g, ga, e9, hb, hba, _⟩ : ∃ g ga, _ ∧ _ ∧ _ ∧ _ := (hI.get hr hn 9 (by kernel_rfl) (.inl rfl)).1
          refine ⟨guard_yes (t := 31) rfl (by kernel_rfl) e3, _, _, exec_call1 rfl e9 (by simp [go_sem]), ?_⟩
          have hold := K2.out.old.trans ((below_drew hI.old).mono K2.out.old.size)
          have hsu : Ords u u.heap.size A n os := Recs.more (Recs.keep HOS.out hold) hold.size
          have e1 : lens (ordParts A n c os o ga) = n + 1 := ordParts_len
          have e2 : allOf (ordParts A n c os o ga) = ordsV (os ++ [o]) := ordParts_all
          have hc := pconcat_ord g 36 2 2 (ordParts A n c os o ga) u hb rfl (by omega) (ordParts_read hsu hba) (by rw [e1]; omega)
          rw [e1, e2] at hc
          refine hc.mono ?_
          rintro e u' ⟨v, rfl, hb', hv⟩
          exact ⟨v, _, rfl, ownp hI.old hb' hv ⟨hv.lower hI.old.size, fun b => Iff.rfl⟩⟩
        · refine RStep.pureW 39 rfl rfl (by simp) fun listed a u D hI hr hn => ?_
          obtain ⟨e3, _⟩ : pureF _ _ _ := (hI.get hr hn 3 (by kernel_rfl) (.inl rfl)).1
          exact ⟨guard_yes (t := 31) rfl (by kernel_rfl) e3, _, exec_move (.inl rfl) (hI.out 15 (by kernel_rfl)), pureF.new rfl⟩
        · refine RStep.callW 40 rfl rfl (by simp) fun listed a u D hI hr hn => ?_
          obtain ⟨e3, _⟩ : pureF _ _ _ := (hI.get hr hn 3 (by kernel_rfl) (.inl rfl)).1
          obtain ⟨e4, _⟩ : pureF _ _ _ := (hI.get hr hn 4 (by kernel_rfl) (.inl rfl)).1
          obtain ⟨e5, _⟩ : pureF _ _ _ := (hI.get hr hn 5 (by kernel_rfl) (.inl rfl)).1
          obtain ⟨e11, _⟩ : pureF _ _ _ := (hI.get hr hn 11 (by kernel_rfl) (.inl rfl)).1
          obtain ⟨ho10, _⟩ : ownF _ _ _ _ _ _ _ _ := (hI.get hr hn 10 (by kernel_rfl) (.inl rfl)).1
          obtain ⟨A10, c10, e10, hc10, hr10⟩ := ho10.read
          refine ⟨guard_yes (t := 31) rfl (by kernel_rfl) e3, _, _, exec_call4 rfl (own_eval e4) (own_eval e5) (own_eval e10) (own_eval e11) (by simp [go_sem]), ?_⟩
          have hold := K2.out.old.trans ((below_drew hI.old).mono K2.out.old.size)
          have hsu : Stps u u.heap.size A2 nl l := Recs.more (Recs.keep HS2.out (below_drew hI.old)) (below_drew hI.old).size
          refine (gdrives_v base (.pointer q) m d A10 (n + 1) c10 (os ++ [o]) A2 nl c2 l r u HR2.out (HM.out.keep hold) hr10 hsu hc2 hc10).mono ?_
          rintro e u' ⟨rfl, hb⟩
          exact ⟨_, fun _ => False, rfl, hI.old.trans (hb.mono hI.old.size), hb.size, fun b hlt _ => hb.block b hlt, fun b hd => hd.elim, pureF.new rfl⟩
        · refine RStep.pure rfl 41 rfl rfl (by simp) fun listed a u D hI hr hn => ?_
          obtain ⟨e3, _⟩ : pureF _ _ _ := (hI.get hr hn 3 (by kernel_rfl) (.inl rfl)).1
          obtain ⟨e12, _⟩ : pureF _ _ _ := (hI.get hr hn 12 (by kernel_rfl) (.inl rfl)).1
          exact ⟨_, exec_pick rfl (own_eval e3) (own_eval e12), pureF.new rfl⟩
        · refine RStep.pure rfl 14 rfl rfl (by simp) fun listed a u D hI hr hn => ?_
          obtain ⟨e13, _⟩ : pureF _ _ _ := (hI.get hr hn 13 (by kernel_rfl) (.inl rfl)).1
          exact ⟨_, exec_move (.inr rfl) (own_eval e13), pureF.new rfl⟩
      · intro listed a u D hI hall
        have e14 : a.tmps.getD 14 undef = .bool r := (hI.fact 14 ⟨hall 14 (by simp), fun k hk => by cases hk⟩).1
        have hold := K2.out.old.trans ((below_drew hI.old).mono K2.out.old.size)
        have hl := hI.fill [28, 29, 30, 31, 32, 33, 34, 35, 36, 37, 38, 39, 40, 41, 14] (by kernel_rfl)
        clear hI hall
        obtain ⟨σ, hσ⟩ : ∃ σ : Nat → Value, ∀ t, a.tmps.getD t undef = σ t := ⟨_, fun _ => rfl⟩
        simp only [hσ] at hl e14
        clear hσ
        simp only [List.foldl_cons, List.foldl_nil, List.setIfInBounds_toArray, List.set_cons_zero, List.set_cons_succ, e14] at hl
        subst hl
        go_wp2_with fail
        go_meet
        exact ⟨by rw [decide_eq_true h0]; rfl, hold⟩
  case rest =>
  obtain ⟨rfl, HB⟩ := hcut
  go_wp2_with fail
  go_ret
  exact ⟨ret_bool HFT.out.symm, HB.out⟩

#print axioms gfits_any
end Go.Proofs.Ytobcmlcmbnldlaa.Slack
