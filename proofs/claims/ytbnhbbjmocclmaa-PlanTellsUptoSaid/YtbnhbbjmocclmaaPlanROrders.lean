/-
  The document's own answer to chapter 9, walked: Orders.
-/
import Derived.Test.YtbnhbbjmocclmaaPlanMaths
import Derived.Test.YtbnhbbjmocclmaaPlanPOrders
import Derived.Test.YtbnhbbjmocclmaaPlanExec
import Derived.Test.YtbnhbbjmocclmaaPlanRWhere
import Derived.Deep.Cut
import Derived.Deep.CutRange
namespace Go.Proofs.Ytbnhbbjmocclmaa.Plan
open Go.ChangeShapes Go.WideShapes Go.ChangeAt Go.RowKit Go.Proofs.Ytbnhbbjmocclmaa.Mem Go.Proofs.Ytbnhbbjmocclmaa.MemI Go.Proofs.Ytbnhbbjmocclmaa.FleetMath Go.Proofs.Ytbnhbbjmocclmaa.PlanMath Go.Proofs.Ytbnhbbjmocclmaa.Rec
set_option linter.unusedVariables false
set_option linter.unusedSimpArgs false

theorem run_slice_int {A : Option Addr} {n c l h : Nat} {lo hi : Option Value} (u : World) (hlo : (lo = none ∧ l = 0) ∨ lo = some (.int .i64 (l : Int))) (hhi : (hi = none ∧ h = n) ∨ hi = some (.int .i64 (h : Int))) (h1 : l ≤ h) (h2 : h ≤ n) (h3 : n ≤ c) :
    (Instr.sliceAt 34 (.slice A n c) lo hi none).run Try.prog u = .ok (.slice (if c = l then A else A.map (·.add l)) (h - l) (c - l)) u := by
  have hsz : (sizeOf 3).run Try.prog u = .ok 1 u := by
    obtain ⟨i, hi, _, hz, _⟩ := info_parts infoInt'
    simp [sizeOf, typeInfo, hi, hz]
  have q : h ≤ c := Nat.le_trans h2 h3
  rcases hlo with ⟨rfl, rfl⟩ | rfl <;> rcases hhi with ⟨rfl, rfl⟩ | rfl <;>
    simp [Instr.sliceAt, Instr.slice, Instr.sliceBounds, Instr.sliceBound, run_underlying Try.underlying34, asIntOf, hsz, h1, q]
theorem exec_slice_int {o : Oper} {a : Act} {u : World} {x : Operand} {lo hi : Option Operand} {A : Option Addr} {n c l h : Nat} (ho : o.op = .slice 34 x lo hi none) (hx : a.eval x = .slice A n c)
    (hlo : (lo = none ∧ l = 0) ∨ ∃ y, lo = some y ∧ a.eval y = .int .i64 (l : Int)) (hhi : (hi = none ∧ h = n) ∨ ∃ y, hi = some y ∧ a.eval y = .int .i64 (h : Int)) (h1 : l ≤ h) (h2 : h ≤ n) (h3 : n ≤ c) :
    (execOp a.eval o).run Try.prog u = .ok (.value (.slice (if c = l then A else A.map (·.add l)) (h - l) (c - l))) u := by
  have hr := run_slice_int (A := A) (n := n) (c := c) (l := l) (h := h) (lo := lo.map a.eval) (hi := hi.map a.eval) u (by
    rcases hlo with ⟨rfl, e⟩ | ⟨y, rfl, e⟩
    · exact .inl ⟨rfl, e⟩
    · exact .inr (by rw [Option.map_some, e])) (by
    rcases hhi with ⟨rfl, e⟩ | ⟨y, rfl, e⟩
    · exact .inl ⟨rfl, e⟩
    · exact .inr (by rw [Option.map_some, e])) h1 h2 h3
  unfold execOp
  rw [ho]
  simp only [hx, Option.map_none, Sem.run_bind, hr, Result.andThen_ok, Sem.run_pure]
theorem exec_none_int {o : Oper} {a : Act} {u : World} (h : o.op = .buildSlice 34 0 #[]) : (execOp a.eval o).run Try.prog u = .ok (.value (.slice (some ⟨u.heap.size, 0, none⟩) 0 0)) (u.alloc (.cells #[] 3)) := by
  unfold execOp
  rw [h]
  simp [go_sem]
theorem exec_one_int {p : Operand} {o : Oper} {a : Act} {u : World} {x : Int} (h : o.op = .buildSlice 34 1 #[(0, p)]) (hp : a.eval p = .int .i64 x) : (execOp a.eval o).run Try.prog u = .ok (.value (.slice (some ⟨u.heap.size, 0, none⟩) 1 1)) (u.alloc (.cells #[.int .i64 x] 3)) := by
  obtain ⟨ρ, hρ⟩ : ∃ ρ, a.eval = ρ := ⟨_, rfl⟩
  rw [hρ] at hp ⊢
  unfold execOp
  rw [h]
  simp [go_sem, hp]
/-- what the operations of the region leave in which a number is put in -/
def ordFact (base nf k : Nat) (A : Option Addr) (c : Nat) (f : List Int) (n : Int) (i : Nat) (v : Value) (D : Nat → Prop) (u : World) : Prop :=
  match i with
  | 0 => ownF base 1 3 0 [] v D u
  | 1 => pureF (fun v => v = .slice A nf c) v D
  | 2 => pureF (fun v => v = .int .i64 (k : Int)) v D
  | 3 => pureF (fun v => v = .slice (if c = 0 then A else A.map (·.add 0)) (k - 0) (c - 0)) v D
  | 4 => ownF base 1 3 k (intsV (f.take k)) v D u
  | 5 => pureF (fun v => v = .int .i64 n) v D
  | 6 => blkF (fun g => .slice (some ⟨g, 0, none⟩) 1 1) 3 [.int .i64 n] v D u
  | 7 => ownF base 1 3 (k + 1) (intsV (f.take k ++ [n])) v D u
  | 8 => pureF (fun v => v = .slice A nf c) v D
  | 9 => pureF (fun v => v = .int .i64 (k : Int)) v D
  | 10 => pureF (fun v => v = .slice (if c = k then A else A.map (·.add k)) (nf - k) (c - k)) v D
  | 11 => ownF base 1 3 (nf + 1) (intsV (f.take k ++ n :: f.drop k)) v D u
  | 12 => ownF base 1 3 (nf + 1) (intsV (f.take k ++ n :: f.drop k)) v D u
  | _ => pureF (fun _ => True) v D
def ordRF (base nf k : Nat) (A : Option Addr) (c : Nat) (f : List Int) (n : Int) : RF :=
  ⟨fun i => [50, 51, 52, 53, 54, 55, 56, 57, 58, 59, 60, 61, 3].getD i 0, fun i => if i = 0 then some 4 else if i = 4 then some 7 else if i = 6 then some 7 else if i = 7 then some 11 else if i = 11 then some 12 else none, ordFact base nf k A c f n⟩
theorem ord_mon {base nf k c : Nat} {A : Option Addr} {f : List Int} {n : Int} (i : Nat) (v : Value) (D : Nat → Prop) (u u' : World) (h : ordFact base nf k A c f n i v D u) (hk : ∀ b, D b → u'.heap[b]? = u.heap[b]?) : ordFact base nf k A c f n i v D u' := by
  revert h
  unfold ordFact
  split <;> intro h <;> first | exact h | exact ownF.mon h hk | exact blkF.mon h hk
theorem tmp_eval {a : Act} {t : Nat} {v : Value} (h : a.tmps.getD t undef = v) : a.eval (.tmp t) = v := h
theorem new_p {R : RF} {w0 u : World} {D : Nat → Nat → Prop} {i : Nat} {v : Value} {ob : Obj} (ho : Below w0.heap.size w0 u) (hf : R.fact i v (fun b => b = u.heap.size) (u.alloc ob)) : RPostV R w0 i u D v (u.alloc ob) (fun b => b = u.heap.size) :=
  ⟨ho.alloc ho.size _, by simp, fun b hlt _ => Below.heap_alloc u ob b hlt, fun b hd => .inr (by subst hd; simp), hf⟩
theorem grow_p {R : RF} {w0 u u' : World} {D : Nat → Nat → Prop} {k m m' i j base : Nat} {e : TypeId} {v v' : Value} {vs vs' : List Value} (ho : Below w0.heap.size w0 u) (hbase : w0.heap.size ≤ base) (hD : ∀ b, D j b ↔ v.ownBlock = some b) (hj : R.eater j = some i) (hv : OwnK u base e k v m vs) (hv' : OwnK u' base e k v' m' vs')
    (hg : u.grownBy u' v.ownBlock) (hor : v'.ownBlock = v.ownBlock ∨ v'.ownBlock = some u.heap.size) (hf : R.fact i v' (fun b => v'.ownBlock = some b) u') : RPostV R w0 i u D v' u' (fun b => v'.ownBlock = some b) := by
  refine ⟨hv.below ho hg ho.size hbase, hg.size, fun b hlt hn => hg.block b hlt fun e => hn j hj ((hD b).2 e.symm), fun b hd => ?_, hf⟩
  rcases hor with h | h
  · exact .inl ⟨j, hj, (hD b).2 (by rw [← h]; exact hd)⟩
  · rw [h] at hd
    injection hd with hd
    subst hd
    have h6 := ownK_lt hv' h
    exact .inr ⟨Nat.le_refl _, h6.2⟩
theorem recs1 {u : World} {B n : Nat} {A : Option Addr} {vs : List Value} (h : Reads u B A n vs) : Recs u B A n 1 vs := ⟨by rw [h.1, Nat.mul_one], h.2.1, h.2.2⟩
theorem before_next {f : List Int} {k : Nat} {n y : Int} (h : ∀ x ∈ f.take k, x < n) (hy : f[k]? = some y) (hn : y < n) : ∀ x ∈ f.take (k + 1), x < n := by
  intro x hx
  rw [List.take_add_one, hy] at hx
  rcases List.mem_append.1 hx with hx | hx
  · exact h x hx
  · obtain rfl : x = y := by simpa using hx
    exact hn

set_option maxRecDepth 100000 in
set_option maxHeartbeats 8000000 in
theorem rorders_any (A : Option Addr) (n c : Nat) (l : List RM) (w : World) (hl : Plns w w.heap.size A n l) (hfit : (allS (l.map (·.rt))).length * 8 ≤ 140737488351232) :
    Calls Try.prog 24 #[.slice A n c] w (fun e w' => ∃ v, e = .returned v ∧ NS w w' v (ordersM (l.map (·.rt)))) := by
  have hm := Recs.le hl.rows
  have HL := Lib.hid hl.length
  have HI := Lib.hid hl
  clear hl
  go_enter Try.func24, Try.ntmps24
  go_wp2
  go_loopw [3, 4] (fun v i wr => ∃ (k : Nat) (f : List Int), k ≤ n ∧ i = .int .i64 k ∧ Hid (NS w wr v f) ∧ Hid (OS (ordsAt (l.map (·.rt)) k []) f)) (fun _ i _ => n - (intOf i).toNat)
  case atStart => exact ⟨0, [], Nat.zero_le _, rfl, Lib.hid (NS.nil w), Lib.hid OS.nil⟩
  case round =>
    obtain ⟨k, f, hk, rfl, HE, HO⟩ := hrel
    by_cases hlt : k < n
    · obtain ⟨b, off, x, rfl, hbb, hx, _, c0, c1, c2, hst, hxc⟩ := HI.out.at_ hlt
      obtain ⟨rt, xa, xn, xc⟩ := x
      simp only at c0 c1 c2 hst hxc
      have hxm := Recs.le hst
      have HXR : Hid ((l.map (·.rt))[k]? = some rt) := Lib.hid (by rw [List.getElem?_map, hx]; rfl)
      have HCW : Hid (∀ u, Below w.heap.size w u → u.cell? ⟨b, off + k * 3 + 2, none⟩ = some (.slice xa xn xc)) := Lib.hid (fun u hu => (hu.cell (p := ⟨b, off + k * 3 + 2, none⟩) hbb).trans c2)
      have HSTW := Lib.hid hst
      have HNL := Lib.hid (Stps.length hst)
      have HO0 : Hid (OS (ordsAt (l.map (·.rt)) k (rt.stops.take 0)) f) := by rw [List.take_zero]; exact HO.out
      clear hx hst c0 c1 c2 HO
      go_wp2
      go_loopw [3, 5] (fun v i wr => ∃ (j : Nat) (f : List Int), j ≤ xn ∧ i = .int .i64 j ∧ Hid (NS w wr v f) ∧ Hid (OS (ordsAt (l.map (·.rt)) k (rt.stops.take j)) f)) (fun _ i _ => xn - (intOf i).toNat)
      case atStart => exact ⟨0, f, Nat.zero_le _, rfl, HE, HO0⟩
      case round =>
        clear HE HO0
        obtain ⟨j, f, hj, rfl, HE, HO⟩ := hrel
        have q2 := HCW.out _ HE.out.old
        by_cases hlt2 : j < xn
        · obtain ⟨bb, oo, s, rfl, hbs, hs, _, s0, s1⟩ := Stps.at_ (Recs.keep HSTW.out HE.out.old) hlt2
          have HSN : Hid (ordsAt (l.map (·.rt)) k (rt.stops.take (j + 1)) = ordsAt (l.map (·.rt)) k (rt.stops.take j) ++ [s.ord]) := Lib.hid (by rw [List.take_add_one, hs]; exact ordsAt_stop _ _ _ _)
          obtain ⟨A3, c3, rfl⟩ := HE.out.own.slice
          obtain ⟨nf, hnf⟩ : ∃ m, f.length = m := ⟨_, rfl⟩
          have hnf8 : (nf + 1) * 8 ≤ 140737488351232 := by
            have h1 := HO.out.len
            rw [ordsAt_len] at h1
            have h2 := congrArg List.length (List.take_append_drop (k + 1) (l.map (·.rt)))
            have h3 := allS_take (l.map (·.rt)) (k + 1)
            rw [allS_next HXR.out, List.length_append] at h3
            have h4 : (rt.stops.take j).length = j := by rw [List.length_take, HNL.out]; omega
            have h5 := HNL.out
            omega
          have HNF := Lib.hid hnf
          obtain ⟨so, hso⟩ : ∃ z, s.ord = z := ⟨_, rfl⟩
          rw [hso] at HSN s0
          have HIN : Hid (Ints wr wr.heap.size A3 nf f) := Lib.hid (by
            obtain ⟨A', c', e, _, hr⟩ := HE.out.own.read
            injection e with e1 _ _
            rw [← e1, hnf] at hr
            exact ⟨by rw [hr.1, Nat.mul_one], hr.2.1, hr.2.2⟩)
          rw [hnf] at HE ⊢
          clear hs hso hnf
          go_wp2_with fail
          refine (rin_any A3 nf c3 f so _ (by exact HIN.out)).mono ?_
          rintro e w2 ⟨rfl, rfl⟩
          by_cases hin : so ∈ f
          · rw [decide_eq_true hin]
            have HN : Hid (OS (ordsAt (l.map (·.rt)) k (rt.stops.take (j + 1))) f) := by rw [HSN.out]; exact HO.out.skip hin
            clear HO HSN hin HIN
            go_wp2
            go_roundw
            case rel => exact ⟨j + 1, f, by omega, by go_num, HE, HN⟩
            case measure => simp [intOf]; omega
          rw [decide_eq_false hin]
          have HNI := Lib.hid hin
          clear hin q2 s0 s1
          go_wp2_with fail
          go_loop [7] (fun i => ∃ at' : Nat, at' ≤ nf ∧ i = .int .i64 at' ∧ Hid (∀ x ∈ f.take at', x < so)) (fun i => nf - (intOf i).toNat)
          case atStart => exact ⟨0, Nat.zero_le _, rfl, Lib.hid (by simp)⟩
          case round =>
            obtain ⟨at', hat, rfl, HB⟩ := hrel
            go_upto_region 11 with fail
            go_cut [47] from 36 to 47 (fun b wx => wx = wr ∧ ∃ tb : Bool, b = .bool tb ∧ Hid (tb = true → at' < nf ∧ ∃ y, f[at']? = some y ∧ y < so) ∧ Hid (tb = false → ∀ y, f[at']? = some y → ¬ y < so))
            case first =>
              by_cases hlt3 : at' < nf
              · obtain ⟨b3, o3, y, rfl, hy, d0, _, _⟩ := Ints.at_ HIN.out hlt3
                have HY := Lib.hid hy
                clear hy
                by_cases hys : y < so
                · have HT : Hid (at' < nf ∧ ∃ y, f[at']? = some y ∧ y < so) := ⟨hlt3, y, HY.out, hys⟩
                  go_wp2_with fail
                  go_meet
                  exact ⟨rfl, true, rfl, fun _ => HT.out, fun h => by cases h⟩
                · have HT : Hid (∀ y, f[at']? = some y → ¬ y < so) := fun z hz => by
                    rw [HY.out] at hz
                    injection hz with hz
                    rw [← hz]
                    exact hys
                  go_wp2_with fail
                  go_meet
                  exact ⟨rfl, false, rfl, fun h => (by cases h), fun _ => HT.out⟩
              · have HT : Hid (∀ y, f[at']? = some y → ¬ y < so) := fun z hz => by
                  rw [List.getElem?_eq_none (by rw [HNF.out]; omega)] at hz
                  cases hz
                go_wp2_with fail
                go_meet
                exact ⟨rfl, false, rfl, fun h => (by cases h), fun _ => HT.out⟩
            case rest =>
              obtain ⟨rfl, tb, rfl, HT1, HT2⟩ := hcut
              cases tb with
              | true =>
                obtain ⟨hlt3, y, hy, hys⟩ := HT1.out rfl
                have HN : Hid (∀ x ∈ f.take (at' + 1), x < so) := before_next HB.out hy hys
                clear hy hys HT1 HT2
                go_wp2
                go_round
                case rel => exact ⟨at' + 1, by omega, by go_num, HN⟩
                case measure => simp [intOf]; omega
              | false =>
                have HN := Lib.hid (HO.out.ins HNI.out HB.out (HT2.out rfl))
                have HRD : Hid (∀ u, Below wc.drew.heap.size wc.drew u → Ints u u.heap.size A3 nf f) := Lib.hid (fun u hu => (Reads.keep HIN.out ((Below.refl wc.heap.size wc).drew.trans hu)).more ((Below.refl wc.heap.size wc).drew.trans hu).size)
                have HOLD := Lib.hid HE.out.old
                have hc3 : nf ≤ c3 := by
                  obtain ⟨A', c', e, h, _⟩ := HE.out.own.read
                  injection e with _ e2 e3
                  omega
                clear HT1 HT2 HB HO HIN
                go_upto_region 13 with fail
                refine wp_region_steps (ordRF wc.drew.heap.size nf at' A3 c3 f so) (by kernel_rfl) (by kernel_rfl) (by kernel_rfl) (fun i hi => ?_) (by kernel_rfl) ord_mon ?_ ?_
                · simp only [List.length_cons, List.length_nil] at hi
                  simp only [ordRF]
                  rw [if_neg (by omega), if_neg (by omega), if_neg (by omega), if_neg (by omega), if_neg (by omega)]
                · refine ⟨?_, ?_, ?_, ?_, ?_, ?_, ?_, ?_, ?_, ?_, ?_, ?_, ?_, trivial⟩
                  · exact RStep.val rfl 50 rfl rfl (by simp) fun listed a u D hI hr hn => ⟨_, _, _, exec_none_int rfl, new_p hI.old ⟨OwnK.new0 u _ _ _ hI.old.size, fun b => by simp [Value.ownBlock]; exact eq_comm⟩⟩
                  · exact RStep.pure rfl 51 rfl rfl (by simp) fun listed a u D hI hr hn => ⟨_, exec_move (.inl rfl) (hI.yet hn 3 (by kernel_rfl)), pureF.new rfl⟩
                  · exact RStep.pure rfl 52 rfl rfl (by simp) fun listed a u D hI hr hn => ⟨_, exec_move (.inl rfl) (hI.out 7 (by kernel_rfl)), pureF.new rfl⟩
                  · refine RStep.pure rfl 53 rfl rfl (by simp) fun listed a u D hI hr hn => ?_
                    obtain ⟨e1, _⟩ : pureF _ _ _ := (hI.get hr hn 1 (by kernel_rfl) (.inl rfl)).1
                    obtain ⟨e2, _⟩ : pureF _ _ _ := (hI.get hr hn 2 (by kernel_rfl) (.inl rfl)).1
                    exact ⟨_, exec_slice_int (l := 0) (h := at') rfl (tmp_eval e1) (.inl ⟨rfl, rfl⟩) (.inr ⟨_, rfl, tmp_eval e2⟩) (Nat.zero_le _) hat hc3, pureF.new rfl⟩
                  · refine RStep.val rfl 54 rfl rfl (by simp) fun listed a u D hI hr hn => ?_
                    obtain ⟨ho0, hd0⟩ : ownF _ _ _ _ _ _ _ _ := (hI.get hr hn 0 (by kernel_rfl) (.inr rfl)).1
                    obtain ⟨e3, _⟩ : pureF _ _ _ := (hI.get hr hn 3 (by kernel_rfl) (.inl rfl)).1
                    have hp := recs1 (Reads.part (HRD.out u hI.old) (Nat.zero_le at') hat hc3)
                    obtain ⟨v', u', hrun, hv', hg, hor⟩ := run_append_ks 34 Try.underlying34 infoInt' rfl (by omega) ho0 (c3 - 0) hp (fun v hv => intsV_one f v (List.mem_of_mem_drop (List.mem_of_mem_take hv))) (by unfold maxLen; omega) (by omega) hI.old.size
                    have hv2 : OwnK u' wc.drew.heap.size 3 1 v' at' (intsV (f.take at')) := by
                      rw [Nat.zero_add, Nat.sub_zero, List.nil_append, List.drop_zero, ← intsV_take] at hv'
                      exact hv'
                    exact ⟨v', u', _, exec_append rfl (tmp_eval rfl) (tmp_eval e3) hrun, grow_p hI.old (Nat.le_refl _) hd0 rfl ho0 hv2 hg hor ⟨hv2, fun b => Iff.rfl⟩⟩
                  · exact RStep.pure rfl 55 rfl rfl (by simp) fun listed a u D hI hr hn => ⟨_, exec_move (.inl rfl) (hI.out 6 (by kernel_rfl)), pureF.new rfl⟩
                  · refine RStep.val rfl 56 rfl rfl (by simp) fun listed a u D hI hr hn => ?_
                    obtain ⟨e5, _⟩ : pureF _ _ _ := (hI.get hr hn 5 (by kernel_rfl) (.inl rfl)).1
                    exact ⟨_, _, _, exec_one_int rfl (tmp_eval e5), new_p hI.old ⟨_, rfl, Blk.new u _ _, fun b => Iff.rfl⟩⟩
                  · refine RStep.val rfl 57 rfl rfl (by simp) fun listed a u D hI hr hn => ?_
                    obtain ⟨ho4, hd4⟩ : ownF _ _ _ _ _ _ _ _ := (hI.get hr hn 4 (by kernel_rfl) (.inr rfl)).1
                    obtain ⟨g6, e6, hb6, hd6⟩ : blkF _ _ _ _ _ _ := (hI.get hr hn 6 (by kernel_rfl) (.inr rfl)).1
                    have hr6 : Recs u u.heap.size (some ⟨g6, 0, none⟩) 1 1 [.int .i64 so] := ⟨rfl, by unfold maxLen; omega, fun _ => ⟨g6, 0, rfl, hb6.lt, fun p y hy => by rw [Nat.zero_add]; exact hb6.cell hy⟩⟩
                    obtain ⟨v', u', hrun, hv', hg, hor⟩ := run_append_ks 34 Try.underlying34 infoInt' rfl (by omega) ho4 1 hr6 (int_one' so) (by unfold maxLen; omega) (by omega) hI.old.size
                    have hv2 : OwnK u' wc.drew.heap.size 3 1 v' (at' + 1) (intsV (f.take at' ++ [so])) := by
                      have e : intsV (f.take at' ++ [so]) = intsV (f.take at') ++ [.int .i64 so] := by simp [intsV]
                      rw [e]
                      exact hv'
                    exact ⟨v', u', _, exec_append rfl (tmp_eval rfl) (tmp_eval e6) hrun, grow_p hI.old (Nat.le_refl _) hd4 rfl ho4 hv2 hg hor ⟨hv2, fun b => Iff.rfl⟩⟩
                  · exact RStep.pure rfl 58 rfl rfl (by simp) fun listed a u D hI hr hn => ⟨_, exec_move (.inl rfl) (hI.yet hn 3 (by kernel_rfl)), pureF.new rfl⟩
                  · exact RStep.pure rfl 59 rfl rfl (by simp) fun listed a u D hI hr hn => ⟨_, exec_move (.inl rfl) (hI.out 7 (by kernel_rfl)), pureF.new rfl⟩
                  · refine RStep.pure rfl 60 rfl rfl (by simp) fun listed a u D hI hr hn => ?_
                    obtain ⟨e8, _⟩ : pureF _ _ _ := (hI.get hr hn 8 (by kernel_rfl) (.inl rfl)).1
                    obtain ⟨e9, _⟩ : pureF _ _ _ := (hI.get hr hn 9 (by kernel_rfl) (.inl rfl)).1
                    exact ⟨_, exec_slice_int (l := at') (h := nf) rfl (tmp_eval e8) (.inr ⟨_, rfl, tmp_eval e9⟩) (.inl ⟨rfl, rfl⟩) hat (Nat.le_refl _) hc3, pureF.new rfl⟩
                  · refine RStep.val rfl 61 rfl rfl (by simp) fun listed a u D hI hr hn => ?_
                    obtain ⟨ho7, hd7⟩ : ownF _ _ _ _ _ _ _ _ := (hI.get hr hn 7 (by kernel_rfl) (.inr rfl)).1
                    obtain ⟨e10, _⟩ : pureF _ _ _ := (hI.get hr hn 10 (by kernel_rfl) (.inl rfl)).1
                    have hp := recs1 (Reads.part (HRD.out u hI.old) hat (Nat.le_refl _) hc3)
                    obtain ⟨v', u', hrun, hv', hg, hor⟩ := run_append_ks 34 Try.underlying34 infoInt' rfl (by omega) ho7 (c3 - at') hp (fun v hv => intsV_one f v (List.mem_of_mem_drop (List.mem_of_mem_take hv))) (by unfold maxLen; omega) (by omega) hI.old.size
                    have hv2 : OwnK u' wc.drew.heap.size 3 1 v' (nf + 1) (intsV (f.take at' ++ so :: f.drop at')) := by
                      have e : intsV (f.take at' ++ [so]) ++ ((intsV f).drop at').take (nf - at') = intsV (f.take at' ++ so :: f.drop at') := by
                        rw [List.take_of_length_le (l := (intsV f).drop at') (by rw [List.length_drop, intsV_len, HNF.out]; exact Nat.le_refl _)]
                        simp [intsV]
                      rw [e, show at' + 1 + (nf - at') = nf + 1 by omega] at hv'
                      exact hv'
                    exact ⟨v', u', _, exec_append rfl (tmp_eval rfl) (tmp_eval e10) hrun, grow_p hI.old (Nat.le_refl _) hd7 rfl ho7 hv2 hg hor ⟨hv2, fun b => Iff.rfl⟩⟩
                  · refine RStep.val rfl 3 rfl rfl (by simp) fun listed a u D hI hr hn => ?_
                    obtain ⟨ho11, hd11⟩ : ownF _ _ _ _ _ _ _ _ := (hI.get hr hn 11 (by kernel_rfl) (.inr rfl)).1
                    exact ⟨_, u, D 11, exec_move (.inr rfl) (tmp_eval rfl), hI.old, Nat.le_refl _, fun _ _ _ => rfl, fun b hb => .inl ⟨11, rfl, hb⟩, ho11, hd11⟩
                · intro listed a u D hI hall
                  obtain ⟨hrow, _⟩ : ownF _ _ _ _ _ _ _ _ := hI.fact 12 ⟨hall 12 (by simp), fun k hk => by cases hk⟩
                  have hold := hI.old
                  have hl := hI.fill [50, 51, 52, 53, 54, 55, 56, 57, 58, 59, 60, 61, 3] (by kernel_rfl)
                  replace hrow : OwnK u wc.drew.heap.size 3 1 (a.tmps.getD 3 undef) (nf + 1) (intsV (f.take at' ++ so :: f.drop at')) := hrow
                  clear hI hall
                  obtain ⟨σ, hσ⟩ : ∃ σ : Nat → Value, ∀ t, a.tmps.getD t undef = σ t := ⟨_, fun _ => rfl⟩
                  simp only [hσ] at hl hrow
                  clear hσ
                  simp only [List.foldl_cons, List.foldl_nil, List.setIfInBounds_toArray, List.set_cons_zero, List.set_cons_succ] at hl
                  subst hl
                  have HE7 : Hid (NS w u (σ 3) (f.take at' ++ so :: f.drop at')) := by
                    refine ⟨HOLD.out.trans (((Below.refl wc.heap.size wc).drew.trans hold).mono HOLD.out.size), ?_⟩
                    have e : (f.take at' ++ so :: f.drop at').length = nf + 1 := by
                      rw [List.length_append, List.length_cons, List.length_take, List.length_drop, HNF.out]
                      omega
                    rw [e]
                    exact hrow.lower HOLD.out.size
                  have HN2 : Hid (OS (ordsAt (l.map (·.rt)) k (rt.stops.take (j + 1))) (f.take at' ++ so :: f.drop at')) := by rw [HSN.out]; exact HN.out
                  clear hrow hold HRD HOLD HE HN HNI
                  go_wp2_with fail
                  go_roundw
                  case rel => exact ⟨j + 1, _, by omega, by go_num, HE7, HN2⟩
                  case measure => simp [intOf]; omega
        · have HF : Hid (OS (ordsAt (l.map (·.rt)) (k + 1) []) f) := by
            have h := HO.out
            rw [List.take_of_length_le (by rw [HNL.out]; omega), ordsAt_route HXR.out] at h
            exact h
          clear HO
          go_wp2
          go_roundw
          case rel => exact ⟨k + 1, f, by omega, by go_num, HE, HF⟩
          case measure => simp [intOf]; omega
    · have hke : k = n := by omega
      subst hke
      have HF : Hid (NS w wr u3 (ordersM (l.map (·.rt)))) := by
        have h := HO.out
        unfold ordsAt at h
        rw [List.take_of_length_le (by rw [List.length_map, HL.out]; exact Nat.le_refl _), List.append_nil] at h
        rw [← ordersM_eq h.asc h.mem]
        exact HE.out
      clear HO HE
      go_wp2
      go_ret
      exact ⟨_, rfl, HF.out⟩
#print axioms rorders_any
end Go.Proofs.Ytbnhbbjmocclmaa.Plan
