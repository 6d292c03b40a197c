/-
  Sets that a call keeps to itself: of numbers, and of stops.
-/
import Derived.Test.YtbnhbbjmocclmaaWordsRte
import Derived.Maps.OwnSet
import Derived.DeepKeys4
namespace Go.Proofs.Ytbnhbbjmocclmaa.Plan
open Go.ChangeShapes Go.WideShapes Go.ChangeAt Go.RowKit Go.Proofs.Ytbnhbbjmocclmaa.Mem Go.Proofs.Ytbnhbbjmocclmaa.FleetMath Go.Proofs.Ytbnhbbjmocclmaa.PlanMath Go.Proofs.Ytbnhbbjmocclmaa.Rec
set_option linter.unusedVariables false

theorem lawI : Go.Maps.Keyed Try.prog 3 := Go.Maps.int_keyed Try.underlying3
theorem laidOut : laidOutB Try.prog = true := by kernel_rfl
theorem rowS : (23 : TypeId) < Try.prog.types.size := of_decide_eq_true (by kernel_rfl)
theorem wideS : (match Try.prog.underlying 23 with | some (.array _ _) | some (.struct _) => true | _ => false) = true := by rw [Try.underlying23]
set_option maxRecDepth 100000 in
theorem deepS : Try.prog.keyTypeAt 2 23 = true := by kernel_rfl
set_option maxRecDepth 100000 in
theorem lawS : Go.Maps.Keyed Try.prog 23 := Go.Maps.Keyed.of_law (deep_law_laid laidOut (m := 2) (by omega) rowS deepS wideS)
theorem zeroU (w : World) : (zeroValue 67).run Try.prog w = .ok (.agg #[]) w := by kernel_rfl
theorem keyS (s : Stp) (h : (Lit.int .i64 s.ord).wf = true) : ∃ k, keyOf Try.prog 23 (stpV s) = some k := by
  have hk : Try.prog.keyType 23 = true := by kernel_rfl
  have hc : Try.prog.cellsOf 23 = 2 := by kernel_rfl
  have hs : ∃ n, Try.prog.types.size + 1 = n + 2 := ⟨Try.prog.types.size - 1, by have := rowS; have h2 : 0 < Try.prog.types.size := Nat.lt_of_le_of_lt (Nat.zero_le _) this; omega⟩
  obtain ⟨n, hn⟩ := hs
  unfold keyOf
  rw [Try.underlying23]
  simp only [hk, hn]
  have hf : (stpV s).formed Try.prog 23 = true := by simp [Value.formed, Try.underlying23, hc]
  rw [hf]
  have hi : Try.prog.cellsOf 3 = 1 := by kernel_rfl
  have hb : Try.prog.cellsOf 4 = 1 := by kernel_rfl
  simp [Program.keyLits, Try.underlying23, hc, Value.cells, hi, hb, Try.underlying3, Try.underlying4, h]

theorem ownsMap_block {w w' : World} {k : TypeId} {R : Value → Option (DataW Unit × List MemPlace)} {b n : Nat} {D : DataW Unit} (h : w.ownsMap Try.prog k R b n D) (hb : w'.heap[b]? = w.heap[b]?) : w'.ownsMap Try.prog k R b n D := by
  obtain ⟨es, clock, h1, r⟩ := h
  exact ⟨es, clock, by rw [hb]; exact h1, r⟩
theorem turned_below {w w' : World} {b B : Nat} (h : w.mapTurned w' b) (hB : B ≤ b) (hs : B ≤ w.heap.size) : Below B w w' := (Below.refl B w).grown h.grown hs (fun j hj => by cases hj; exact hB)

/-- block b is a set of numbers, those for which p says yes -/
def SetI (w : World) (b n : Nat) (p : Int → Bool) : Prop := ∃ D : DataW Unit, w.ownsMap Try.prog 3 unitElem b n D ∧ ∀ x, (Lit.int .i64 x).wf = true → Maps.has D (.int .i64 x) = p x
/-- block b is the set of the stops of a list -/
def SetS (w : World) (b n : Nat) (L : List Stp) : Prop := ∃ D : DataW Unit, w.ownsMap Try.prog 23 unitElem b n D ∧ (∀ s k, keyOf Try.prog 23 (stpV s) = some k → Maps.has D k = decide (s ∈ L)) ∧ Maps.size D ≤ L.length ∧ (Maps.size D = L.length ↔ L.Nodup)
section
variable {w w' : World} {b n B : Nat} {p : Int → Bool} {L : List Stp}
theorem SetI.lt (h : SetI w b n p) : b < w.heap.size := by obtain ⟨D, h, _⟩ := h; exact h.lt
theorem SetS.lt (h : SetS w b n L) : b < w.heap.size := by obtain ⟨D, h, _⟩ := h; exact h.lt
theorem SetI.block (h : SetI w b n p) (hb : w'.heap[b]? = w.heap[b]?) : SetI w' b n p := by obtain ⟨D, h, r⟩ := h; exact ⟨D, ownsMap_block h hb, r⟩
theorem SetS.block (h : SetS w b n L) (hb : w'.heap[b]? = w.heap[b]?) : SetS w' b n L := by obtain ⟨D, h, r⟩ := h; exact ⟨D, ownsMap_block h hb, r⟩
theorem SetI.below (h : SetI w b n p) (hb : Below B w w') (hB : b < B) : SetI w' b n p := h.block (hb.block b hB)
theorem SetS.below (h : SetS w b n L) (hb : Below B w w') (hB : b < B) : SetS w' b n L := h.block (hb.block b hB)
theorem SetI.grown (h : SetI w b n p) {row : Option Nat} (hg : w.grownBy w' row) (hne : row ≠ some b) : SetI w' b n p := h.block (hg.block b h.lt (fun e => hne e.symm))
theorem SetI.mono (h : SetI w b n p) {n' : Nat} (hn : n ≤ n') : SetI w b n' p := by obtain ⟨D, h, r⟩ := h; exact ⟨D, h.mono hn, r⟩
theorem SetI.made (w : World) : SetI (w.alloc (.map #[] 0)) w.heap.size 0 (fun _ => false) := ⟨_, World.ownsMap_made _ _ _ _, fun x _ => rfl⟩
theorem SetS.made (w : World) : SetS (w.alloc (.map #[] 0)) w.heap.size 0 [] := ⟨_, World.ownsMap_made _ _ _ _, fun s k _ => by simp [Maps.has], Nat.zero_le _, by simp [Maps.size]⟩
end

section
variable {P : Program} {w : World} {ops : Array Oper} {rest : List Oper} {o : Oper} {a : Act} {Q : Exit → Act → World → Prop} {b n : Nat} {p : Int → Bool} {L : List Stp}
set_option maxRecDepth 100000 in
/-- a stop goes in -/
theorem put_stop (hg : o.guard = none) (m x v : Operand) (hop : o.op = Op.mapUpdate 79 m x v) (s : Stp) (h : SetS w b n L) (hn : n < maxLen) (hw : (Lit.int .i64 s.ord).wf = true)
    (hm : a.eval m = .map (some b)) (hx : a.eval x = stpV s) (hv : a.eval v = .agg #[])
    (hK : ∀ w', SetS w' b (n + 1) (L ++ [s]) → w.mapTurned w' b → wpList Try.prog ops Q rest (a.put o.dst undef) w') : wpList Try.prog ops Q (o :: rest) a w := by
  obtain ⟨D, hown, hh, hz, he⟩ := h
  obtain ⟨k, hk⟩ := keyS s hw
  refine wpList_mapUpdate_in w hg m x v 79 hop 23 67 lawS Try.underlying79 unitElem b n D hm hown hn _ _ k hx hv hk (.agg []) [] unitElem_mk ?_
  intro w' hown' ht
  refine hK w' ⟨_, hown', fun t k' hk' => ?_, ?_, ?_⟩ ht
  · by_cases e : k' = k
    · subst e
      have : t = s := by
        have := lawS.inj hk' hk
        cases t; cases s
        simp only [stpV, Value.agg.injEq, Array.mk.injEq, List.cons.injEq, Value.int.injEq, Value.bool.injEq] at this
        simp_all
      rw [Maps.has_put_same hown.isMap (lawS.key hk)]
      simp [this]
    · rw [Maps.has_put_other e, hh t k' hk']
      have : t ≠ s := fun h => e (by subst h; rw [hk] at hk'; injection hk' with h; exact h.symm)
      simp [this]
  · rw [Maps.size_put (hown.tidy lawS), hh s k hk]
    simp only [List.length_append, List.length_cons, List.length_nil]
    split <;> omega
  · rw [Maps.size_put (hown.tidy lawS), hh s k hk]
    simp only [List.length_append, List.length_cons, List.length_nil]
    by_cases hs : s ∈ L
    · simp only [hs, decide_true, if_true]
      constructor
      · intro h; omega
      · intro h
        rw [List.nodup_append] at h
        exact absurd rfl (h.2.2 s hs s (by simp))
    · simp only [hs, decide_false, Bool.false_eq_true, if_false]
      rw [List.nodup_append]
      constructor
      · intro h
        refine ⟨he.1 (by omega), by simp, fun z hzz y hy => ?_⟩
        obtain rfl : y = s := by simpa using hy
        intro e; subst e; exact hs hzz
      · intro h
        have := he.2 h.1
        omega
/-- how many different stops there are -/
theorem len_stops (hg : o.guard = none) (m : Operand) (hop : o.op = Op.call { callee := Callee.builtin Builtin.len, args := #[m], argTypes := #[79] }) (h : SetS w b n L) (hm : a.eval m = .map (some b))
    (hK : ∀ z : Nat, z ≤ L.length → (z = L.length ↔ L.Nodup) → wpList Try.prog ops Q rest (a.put o.dst (.int .i64 z)) w) : wpList Try.prog ops Q (o :: rest) a w := by
  obtain ⟨D, hown, hh, hz, he⟩ := h
  exact wpList_len_own w hg m 79 hop 23 67 Try.underlying79 unitElem b n D hm hown (hK _ hz he)
/-- a number goes in -/
theorem put_num (hg : o.guard = none) (m x v : Operand) (hop : o.op = Op.mapUpdate 66 m x v) (y : Int) (h : SetI w b n p) (hn : n < maxLen) (hw : (Lit.int .i64 y).wf = true)
    (hm : a.eval m = .map (some b)) (hx : a.eval x = .int .i64 y) (hv : a.eval v = .agg #[])
    (hK : ∀ w', SetI w' b (n + 1) (fun z => p z || decide (z = y)) → w.mapTurned w' b → wpList Try.prog ops Q rest (a.put o.dst undef) w') : wpList Try.prog ops Q (o :: rest) a w := by
  obtain ⟨D, hown, hh⟩ := h
  refine wpList_mapUpdate_in w hg m x v 66 hop 3 67 lawI Try.underlying66 unitElem b n D hm hown hn _ _ (.int .i64 y) hx hv (Go.Maps.keyOf_int_mk Try.underlying3 hw) (.agg []) [] unitElem_mk ?_
  intro w' hown' ht
  refine hK w' ⟨_, hown', fun z hz => ?_⟩ ht
  by_cases e : z = y
  · subst e
    rw [Maps.has_put_same hown.isMap (by trivial)]
    simp
  · rw [Maps.has_put_other (by intro h; injection h with _ h; exact e h), hh z hz]
    simp [e]
/-- a number goes out -/
theorem del_num (hg : o.guard = none) (m x : Operand) (hop : o.op = Op.call { callee := Callee.builtin Builtin.delete, args := #[m, x], argTypes := #[66, 3] }) (y : Int) (h : SetI w b n p) (hw : (Lit.int .i64 y).wf = true)
    (hm : a.eval m = .map (some b)) (hx : a.eval x = .int .i64 y)
    (hK : ∀ w', SetI w' b n (fun z => p z && !decide (z = y)) → w.mapTurned w' b → wpList Try.prog ops Q rest (a.put o.dst (.tuple #[])) w') : wpList Try.prog ops Q (o :: rest) a w := by
  obtain ⟨D, hown, hh⟩ := h
  refine wpList_delete_own w hg m x 66 3 hop 67 lawI Try.underlying66 unitElem b n D hm hown _ (.int .i64 y) hx (Go.Maps.keyOf_int_mk Try.underlying3 hw) ?_
  intro w' hown' ht
  refine hK w' ⟨_, hown', fun z hz => ?_⟩ ht
  by_cases e : z = y
  · subst e
    rw [Maps.has_del_same]
    simp
  · rw [Maps.has_del_other (by intro h; injection h with _ h; exact e h), hh z hz]
    simp [e]
/-- is a number in it? -/
theorem look_num (hg : o.guard = none) (m x : Operand) (hop : o.op = Op.lookup 66 m x true) (y : Int) (h : SetI w b n p) (hw : (Lit.int .i64 y).wf = true)
    (hm : a.eval m = .map (some b)) (hx : a.eval x = .int .i64 y)
    (hK : wpList Try.prog ops Q rest (a.put o.dst (.tuple #[.agg #[], .bool (p y)])) w) : wpList Try.prog ops Q (o :: rest) a w := by
  obtain ⟨D, hown, hh⟩ := h
  refine wpList_lookup_own_unit w hg m x 66 hop 3 67 lawI Try.underlying66 (zeroU w) b n D hm hown _ (.int .i64 y) hx (Go.Maps.keyOf_int_mk Try.underlying3 hw) ?_
  rw [hh y hw]
  exact hK
theorem look_val (hg : o.guard = none) (m x : Operand) (hop : o.op = Op.lookup 66 m x true) (y : Int) (r : Bool) (hr : p y = r) (h : SetI w b n p) (hw : (Lit.int .i64 y).wf = true)
    (hm : a.eval m = .map (some b)) (hx : a.eval x = .int .i64 y)
    (hK : wpList Try.prog ops Q rest (a.put o.dst (.tuple #[.agg #[], .bool r])) w) : wpList Try.prog ops Q (o :: rest) a w := by
  subst hr
  exact look_num hg m x hop y h hw hm hx hK
end
#print axioms put_stop
#print axioms look_num
end Go.Proofs.Ytbnhbbjmocclmaa.Plan
