/-
  Words for SlackLimit: what stays through its loop, its single operations.
-/
import Derived.Test.YtobcmlcmbnldlaaSlackExec
import Derived.Test.YtobcmlcmbnldlaaSlackMath2
import Derived.Test.YtobcmlcmbnldlaaWords
namespace Go.Proofs.Ytobcmlcmbnldlaa.Slack
open Go.ChangeShapes Go.WideShapes Go.ChangeAt Go.RowKit Go.Proofs.Ytobcmlcmbnldlaa.Mem Go.Proofs.Ytobcmlcmbnldlaa.GeoMath Go.Proofs.Ytobcmlcmbnldlaa.FleetMath Go.Proofs.Ytobcmlcmbnldlaa.Rec Go.Proofs.Ytobcmlcmbnldlaa.Geo Go.Proofs.Ytobcmlcmbnldlaa.Span Go.Proofs.Ytobcmlcmbnldlaa.Deal Go.Proofs.Ytobcmlcmbnldlaa.Keep Go.Proofs.Ytobcmlcmbnldlaa.Route
set_option linter.unusedVariables false

/-- one cell of a row of one's own written over -/
theorem OwnK.put {w : World} {base n g cap k j : Nat} {e : TypeId} {vs : List Value} (h : OwnK w base e k (.slice (some ⟨g, 0, none⟩) n cap) n vs) (hj : j < n * k) :
    (∃ u, vs[j]? = some u ∧ w.cell? ⟨g, j, none⟩ = some u) ∧ w.frozen? ⟨g, j, none⟩ = false ∧ base ≤ g ∧ ∀ x, OwnK (w.setCell ⟨g, j, none⟩ x) base e k (.slice (some ⟨g, 0, none⟩) n cap) n (vs.set j x) := by
  obtain ⟨⟨hl, h⟩, hm⟩ := h
  rcases h with ⟨h, _⟩ | ⟨g', cap', cur, h, hg, hh, hnc, hcm, hcs, htk⟩
  · cases h
  · injection h with h1 h2 h3
    injection h1 with h1
    injection h1 with h1
    subst h1
    subst h3
    obtain ⟨u, hx⟩ : ∃ u, vs[j]? = some u := ⟨_, List.getElem?_eq_getElem (by omega)⟩
    refine ⟨⟨u, hx, ?_⟩, by simp [World.frozen?, hh], hg, fun x => ⟨⟨?_, .inr ⟨g, cap, cur.setIfInBounds j x, rfl, hg, ?_, hnc, hcm, ?_, ?_⟩⟩, hm⟩⟩
    · rw [cell_of_row w g j cur e (0, 0) hh]
      have hx' := hx
      rw [← htk, List.getElem?_take, if_pos hj] at hx'
      simpa using hx'
    · rw [List.length_set]; exact hl
    · simp [World.setCell, Array.getElem?_modify, hh]
    · simpa using hcs
    · rw [← htk, Array.toList_setIfInBounds, List.take_set]
/-- where a stop's site lies in its order -/
abbrev sOff (s : Stp) : Nat := if s.drop then 6 else 2
theorem ordsV_turn {os : List FleetMath.Ord} {i : Nat} {o : FleetMath.Ord} (s : Stp) (t : Int) (ho : os[i]? = some o) : (ordsV os).set (i * 10 + sOff s + 1) (.int .i64 t) = ordsV (os.set i (turnO o s t)) := by
  induction os generalizing i with
  | nil => cases ho
  | cons y r ih =>
    cases i with
    | zero =>
      simp only [List.getElem?_cons_zero, Option.some.injEq] at ho
      subst ho
      unfold sOff turnO
      cases hd : s.drop <;> simp [ordsV]
    | succ i =>
      simp only [List.getElem?_cons_succ] at ho
      have e1 : ∀ l : List FleetMath.Ord, ordsV (y :: l) = ordL y ++ ordsV l := fun _ => rfl
      have e2 : (ordL y).length = 10 := rfl
      rw [List.set_cons_succ, e1, e1, ← ih ho, List.set_append_right _ _ (by omega), e2]
      congr 2
      omega
/-- what stays through the loop: all behind w, the list of one's own -/
structure LM (w : World) (g c n : Nat) (ps : List FleetMath.Ord) (u : World) : Prop where
  on : Below w.heap.size w u
  own : OwnK u w.heap.size 31 10 (.slice (some ⟨g, 0, none⟩) n c) n (ordsV ps)
section
variable {w u u' : World} {g c n i : Nat} {ps : List FleetMath.Ord} {o : FleetMath.Ord} {s : Stp}
theorem LM.below (h : LM w g c n ps u) (hb : Below u.heap.size u u') : LM w g c n ps u' := ⟨h.on.trans (hb.mono h.on.size), h.own.keep hb (Nat.le_refl _)⟩
theorem LM.len (h : LM w g c n ps u) : ps.length = n := by have := h.own.len; rw [ordsV_len] at this; omega
theorem LM.ords (h : LM w g c n ps u) : Ords u u.heap.size (some ⟨g, 0, none⟩) n ps := h.own.read' rfl
theorem LM.cap (h : LM w g c n ps u) : n ≤ c := by
  obtain ⟨A, c', e, hc, _⟩ := h.own.read
  injection e with _ _ e
  rw [e]; exact hc
theorem LM.id_ (h : LM w g c n ps u) (ho : ps[i]? = some o) : u.cell? ⟨g, i * 10, none⟩ = some (.int .i64 o.id) := by
  have := (ord_on h.ords ho).1
  rwa [Nat.zero_add] at this
/-- the cells of the site -/
theorem LM.site (h : LM w g c n ps u) (ho : ps[i]? = some o) : u.cell? ⟨g, i * 10 + sOff s, none⟩ = some (.int .i64 (siteOf o s).place) ∧ u.cell? ⟨g, i * 10 + sOff s + 1, none⟩ = some (.int .i64 (siteOf o s).win.fr) ∧ u.cell? ⟨g, i * 10 + sOff s + 1 + 1, none⟩ = some (.int .i64 (siteOf o s).win.to) := by
  obtain ⟨_, _, c2, c3, c4, _, c6, c7, c8, _⟩ := ord_on h.ords ho
  simp only [Nat.zero_add] at c2 c3 c4 c6 c7 c8
  unfold sOff siteOf
  cases s.drop <;> simp [c2, c3, c4, c6, c7, c8]
theorem LM.turn (h : LM w g c n ps u) (ho : ps[i]? = some o) : u.frozen? ⟨g, i * 10 + sOff s + 1, none⟩ = false ∧ ∀ t, LM w g c n (ps.set i (turnO o s t)) (u.setCell ⟨g, i * 10 + sOff s + 1, none⟩ (.int .i64 t)) := by
  have hi : i < n := by rw [← h.len]; exact (List.getElem?_eq_some_iff.1 ho).1
  have hj : i * 10 + sOff s + 1 < n * 10 := by unfold sOff; split <;> omega
  obtain ⟨_, hf, hg, hs⟩ := OwnK.put h.own hj
  refine ⟨hf, fun t => ⟨h.on.setCell hg _, ?_⟩⟩
  rw [← ordsV_turn s t ho]
  exact hs _
end
theorem vis_start {w : World} {B n k b off : Nat} {l : List Vis} {v : Vis} (h : Viss w B (some ⟨b, off, none⟩) n l) (hv : l[k]? = some v) : w.cell? ⟨b, off + k * 6 + 3, none⟩ = some (.int .i64 v.start) := by
  have hk : k < n := by have := (List.getElem?_eq_some_iff.1 hv).1; have := h.length; omega
  obtain ⟨b', off', v', e, _, hv', _, _, _, _, c3, _⟩ := Viss.at_ h hk
  injection e with e
  injection e with e1 e2
  subst e1; subst e2
  rw [hv] at hv'
  injection hv' with hv'
  subst hv'
  exact c3
theorem int_on {w : World} {B n k b off : Nat} {l : List Int} {v : Int} (h : Ints w B (some ⟨b, off, none⟩) n l) (hv : l[k]? = some v) : w.cell? ⟨b, off + k, none⟩ = some (.int .i64 v) := by
  have hk : k < n := by have := (List.getElem?_eq_some_iff.1 hv).1; have := h.length; omega
  obtain ⟨b', off', v', e, hv', c, _⟩ := Ints.at_ h hk
  injection e with e
  injection e with e1 e2
  subst e1; subst e2
  rw [hv] at hv'
  injection hv' with hv'
  subst hv'
  exact c
theorem exec_index_vis {o : Oper} {a : Act} {u : World} {x y : Operand} {b off n c k : Nat} (h : o.op = .indexAddr 62 x y) (hx : a.eval x = .slice (some ⟨b, off, none⟩) n c) (hy : a.eval y = .int .i64 k) (hk : k < n) :
    (execOp a.eval o).run Try.prog u = .ok (.value (.pointer (some ⟨b, off + k * 6, none⟩))) u := by
  obtain ⟨ρ, hρ⟩ : ∃ ρ, a.eval = ρ := ⟨_, rfl⟩
  rw [hρ] at hx hy ⊢
  have hk1 : (k : Int) < (n : Int) := by omega
  unfold execOp
  rw [h]
  simp [go_sem, hx, hy, hk1]
theorem exec_index_int {o : Oper} {a : Act} {u : World} {x y : Operand} {b off n c k : Nat} (h : o.op = .indexAddr 37 x y) (hx : a.eval x = .slice (some ⟨b, off, none⟩) n c) (hy : a.eval y = .int .i64 k) (hk : k < n) :
    (execOp a.eval o).run Try.prog u = .ok (.value (.pointer (some ⟨b, off + k, none⟩))) u := by
  obtain ⟨ρ, hρ⟩ : ∃ ρ, a.eval = ρ := ⟨_, rfl⟩
  rw [hρ] at hx hy ⊢
  have hk1 : (k : Int) < (n : Int) := by omega
  unfold execOp
  rw [h]
  simp [go_sem, hx, hy, hk1]
theorem exec_vbegin {o : Oper} {a : Act} {u : World} {x : Operand} {g i : Nat} (h : o.op = .fieldAddr 71 x 2) (hp : a.eval x = .pointer (some ⟨g, i, none⟩)) : (execOp a.eval o).run Try.prog u = .ok (.value (.pointer (some ⟨g, i + 3, none⟩))) u := by
  unfold execOp
  rw [h]
  simp only [hp]
  simp [go_sem]
theorem exec_oid {o : Oper} {a : Act} {u : World} {x : Operand} {g i : Nat} (h : o.op = .fieldAddr 31 x 0) (hp : a.eval x = .pointer (some ⟨g, i, none⟩)) : (execOp a.eval o).run Try.prog u = .ok (.value (.pointer (some ⟨g, i, none⟩))) u := by
  unfold execOp
  rw [h]
  simp only [hp]
  simp [go_sem]
theorem exec_swin {o : Oper} {a : Act} {u : World} {x : Operand} {g i : Nat} (h : o.op = .fieldAddr 29 x 1) (hp : a.eval x = .pointer (some ⟨g, i, none⟩)) : (execOp a.eval o).run Try.prog u = .ok (.value (.pointer (some ⟨g, i + 1, none⟩))) u := by
  unfold execOp
  rw [h]
  simp only [hp]
  simp [go_sem]
theorem exec_wto2 {o : Oper} {a : Act} {u : World} {x : Operand} {g i : Nat} (h : o.op = .fieldAddr 27 x 1) (hp : a.eval x = .pointer (some ⟨g, i, none⟩)) : (execOp a.eval o).run Try.prog u = .ok (.value (.pointer (some ⟨g, i + 1, none⟩))) u := by
  unfold execOp
  rw [h]
  simp only [hp]
  simp [go_sem]
theorem exec_nil {P : Program} {o : Oper} {a : Act} {u : World} {x : Operand} {p : Addr} (h : o.op = .nilCheck x) (hp : a.eval x = .pointer (some p)) : (execOp a.eval o).run P u = .ok (.value (.pointer (some p))) u := by
  unfold execOp
  rw [h]
  simp only [hp]
  simp [go_sem]
theorem run_load_win {u : World} {g i : Nat} {x : Win} (h0 : u.cell? ⟨g, i, none⟩ = some (.int .i64 x.fr)) (h1 : u.cell? ⟨g, i + 1, none⟩ = some (.int .i64 x.to)) : (Instr.loadAt 27 (.pointer (some ⟨g, i, none⟩))).run Try.prog u = .ok (winV x) u := by
  simp [go_sem, h0, h1]
theorem exec_lss {o : Oper} {a : Act} {u : World} {x y : Operand} {m n : Int} {b : Bool} {T : TypeId} (h : o.op = .binOp .lss 3 x y T) (hp : a.eval x = .int .i64 m) (hq : a.eval y = .int .i64 n) (hb : decide (m < n) = b) : (execOp a.eval o).run Try.prog u = .ok (.value (.bool b)) u := by
  subst hb
  obtain ⟨ρ, hρ⟩ : ∃ ρ, a.eval = ρ := ⟨_, rfl⟩
  rw [hρ] at hp hq ⊢
  unfold execOp
  rw [h]
  simp [go_sem, hp, hq]
theorem exec_leq {o : Oper} {a : Act} {u : World} {x y : Operand} {m n : Int} {b : Bool} {T : TypeId} (h : o.op = .binOp .leq 3 x y T) (hp : a.eval x = .int .i64 m) (hq : a.eval y = .int .i64 n) (hb : decide (m ≤ n) = b) : (execOp a.eval o).run Try.prog u = .ok (.value (.bool b)) u := by
  subst hb
  obtain ⟨ρ, hρ⟩ : ∃ ρ, a.eval = ρ := ⟨_, rfl⟩
  rw [hρ] at hp hq ⊢
  unfold execOp
  rw [h]
  simp [go_sem, hp, hq]
theorem exec_neqi {o : Oper} {a : Act} {u : World} {x y : Operand} {m n : Int} {b : Bool} {T : TypeId} (h : o.op = .binOp .neq 3 x y T) (hp : a.eval x = .int .i64 m) (hq : a.eval y = .int .i64 n) (hb : (m != n) = b) : (execOp a.eval o).run Try.prog u = .ok (.value (.bool b)) u := by
  subst hb
  obtain ⟨ρ, hρ⟩ : ∃ ρ, a.eval = ρ := ⟨_, rfl⟩
  rw [hρ] at hp hq ⊢
  unfold execOp
  rw [h]
  simp [go_sem, hp, hq]
def withinV (a lo hi : Int) : Int := if a.tmod (hi - lo + 1) < 0 then lo + (a.tmod (hi - lo + 1) + hi - lo + 1) else lo + a.tmod (hi - lo + 1)
theorem within_in {a lo hi : Int} (h : lo ≤ hi) : lo ≤ withinV a lo hi ∧ withinV a lo hi ≤ hi := by
  have ht := tmod_lo a (hi - lo + 1) (by omega)
  unfold withinV
  split <;> omega
theorem within_val (a lo hi : Int) (w : World) (h0 : 0 ≤ lo) (h : lo ≤ hi) (h' : hi ≤ 1125899906842624) : Calls Try.prog 23 #[.int .i64 a, .int .i64 lo, .int .i64 hi] w fun e w' => e = .returned (.int .i64 (withinV a lo hi)) ∧ Below w.heap.size w w' := by
  have ht := tmod_lo a (hi - lo + 1) (by omega)
  have HV : Hid (withinV a lo hi = if a.tmod (hi - lo + 1) < 0 then lo + (a.tmod (hi - lo + 1) + hi - lo + 1) else lo + a.tmod (hi - lo + 1)) := rfl
  go_enter Try.func23, Try.ntmps23
  go_wp2
  all_goals
    go_ret
    refine ⟨ret_i ?_, Below.refl _ _⟩
    rw [HV.out]
    split <;> omega

#print axioms LM.turn
end Go.Proofs.Ytobcmlcmbnldlaa.Slack
