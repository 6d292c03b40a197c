/-
  append onto a row of the call's own, for lists of ints: nil, empty or not.
-/
import Derived.Test.YtpecenjdnapfbaaNumMem
import Derived.Maps.AppendAt
import Derived.Deep.AppendLies
namespace Go.Proofs.Ytpecenjdnapfbaa.NumWalks
open Go.ChangeShapes Go.WideShapes Go.ChangeAt Go.RowKit Go.Proofs.Ytpecenjdnapfbaa.NumMath

/-- the slice v is the call's own (from block base on), and reads as the list xs -/
def OwnInts (w : World) (base : Nat) (v : Value) (n : Nat) (xs : List Int) : Prop :=
  w.ownsRow base 3 1 v n (intsV xs) ∧ (∀ x ∈ xs, (Lit.int .i64 x).wf = true) ∧ n ≤ maxLen

theorem intsV_append (xs ys : List Int) : intsV (xs ++ ys) = intsV xs ++ intsV ys := by simp [intsV]
theorem intsV_get {xs : List Int} {j : Nat} {v : Value} (h : (intsV xs)[j]? = some v) : ∃ u, xs[j]? = some u ∧ v = .int .i64 u := by
  simp only [intsV, List.getElem?_map, Option.map_eq_some_iff] at h
  obtain ⟨u, hu, rfl⟩ := h
  exact ⟨u, hu, rfl⟩
theorem add_at (b off j : Nat) : (Addr.mk b off none).add j = ⟨b, off + j, none⟩ := by
  by_cases h0 : j = 0
  · subst h0; simp [Addr.add]
  · simp [Addr.add, h0]

theorem OwnInts.read {w : World} {base : Nat} {v : Value} {n : Nat} {xs : List Int} (h : OwnInts w base v n xs) : ∃ A c, v = .slice A n c ∧ Ints w w.heap.size A n xs := by
  obtain ⟨⟨hl, h⟩, hw, hm⟩ := h
  have hl' : xs.length = n := by simpa [intsV] using hl
  rcases h with ⟨rfl, rfl⟩ | ⟨g, cap, cur, rfl, hg, hh, hnc, hcm, hcs, htk⟩
  · exact ⟨none, 0, rfl, hl', hm, hw, fun h => absurd h (by omega)⟩
  · refine ⟨_, _, rfl, hl', hm, hw, fun hp => ⟨g, 0, rfl, ?_, fun j u hu => ?_⟩⟩
    · rcases Nat.lt_or_ge g w.heap.size with hlt | hge
      · exact hlt
      · rw [Array.getElem?_eq_none hge] at hh; cases hh
    · have e := cell_of_row w g (0 + j) cur 3 (0, 0) hh
      rw [e, Nat.zero_add]
      have hj := intsV_at hu
      rw [← htk, List.getElem?_take] at hj
      split at hj
      · simpa using hj
      · cases hj

theorem OwnInts.empty (w : World) (base : Nat) (hb : base ≤ w.heap.size) : OwnInts (w.alloc (.cells #[] 3)) base (.slice (some ⟨w.heap.size, 0, none⟩) 0 0) 0 [] :=
  ⟨⟨rfl, .inr ⟨w.heap.size, 0, #[], rfl, hb, heap_alloc_new w _, Nat.le_refl _, Nat.zero_le _, rfl, rfl⟩⟩, by simp, Nat.zero_le _⟩
theorem OwnInts.single (w : World) (base : Nat) (x : Int) (hb : base ≤ w.heap.size) (hw : (Lit.int .i64 x).wf = true) : OwnInts (w.alloc (.cells #[.int .i64 x] 3)) base (.slice (some ⟨w.heap.size, 0, none⟩) 1 1) 1 [x] :=
  ⟨⟨rfl, .inr ⟨w.heap.size, 1, #[.int .i64 x], rfl, hb, heap_alloc_new w _, Nat.le_refl _, by unfold maxLen; omega, rfl, rfl⟩⟩, by simpa using hw, by unfold maxLen; omega⟩

theorem run_append_ints {w : World} {base : Nat} {v : Value} {n : Nat} {xs : List Int} (ty : TypeId) (h : OwnInts w base v n xs) {B : Nat} {A : Option Addr} {m : Nat} (c : Nat) {ys : List Int} (hy : Ints w B A m ys)
    (hb : (n + m) * 8 ≤ 140737488355328) (hbase : base ≤ w.heap.size) :
    ∃ v' w', (Builtin.append_ #[30, 30] ty #[v, .slice A m c]).run Try.prog w = .ok v' w' ∧ OwnInts w' base v' (n + m) (xs ++ ys) ∧ w.grownBy w' v.ownBlock := by
  obtain ⟨hown, hw, hm⟩ := h
  obtain ⟨i, hi, hz0, hz1, hz2⟩ := info_parts infoInt
  have h63 : n + m ≤ maxLen := by unfold maxLen; omega
  have hwf : ∀ x ∈ xs ++ ys, (Lit.int .i64 x).wf = true := fun x hx => (List.mem_append.1 hx).elim (hw x) (hy.2.2.1 x)
  rcases A with _ | ad
  · have hm0 : m = 0 := by
      rcases Nat.eq_zero_or_pos m with h0 | h0
      · exact h0
      · obtain ⟨_, _, h, _⟩ := hy.2.2.2 h0
        cases h
    subst hm0
    have hn : ys = [] := List.eq_nil_of_length_eq_zero hy.1
    subst hn
    refine ⟨v, w, ?_, ⟨by simpa using hown, by simpa using hw, hm⟩, World.grownBy.refl w _⟩
    rcases hown.2 with ⟨rfl, rfl⟩ | ⟨g, cap, cur, rfl, _, _, hnc, _⟩
    · simp [Builtin.append_, run_underlying Try.underlying30, sizeOf, typeInfo, hi, Builtin.lenOf, Builtin.firstCells]
    · simp [Builtin.append_, run_underlying Try.underlying30, sizeOf, typeInfo, hi, Builtin.lenOf, Builtin.firstCells, hnc, storeCells]
  · have hcells : ∀ j u, (intsV ys)[j]? = some u → w.cell? (ad.add j) = some u := by
      intro j u hu
      obtain ⟨y, hy', rfl⟩ := intsV_get hu
      rcases Nat.eq_zero_or_pos m with h0 | h0
      · subst h0
        have hn : ys = [] := List.eq_nil_of_length_eq_zero hy.1
        subst hn
        simp at hy'
      · obtain ⟨b, off, h, _, hc⟩ := hy.2.2.2 h0
        injection h with h
        subst h
        rw [add_at]
        exact hc j y hy'
    obtain ⟨v', w', hrun, h2, h3, _, _⟩ := run_append_own_at (P := Try.prog) w base 30 ty 3 i (.int .i64 0) 1 8 Try.underlying30 hi hz0 hz1 hz2 rfl (by decide) v n (intsV xs) hown ad m c (intsV ys)
      (by simp [intsV, hy.1]) hcells (intsV_one ys) h63 hb hbase
    exact ⟨v', w', hrun, ⟨by rw [intsV_append]; exact h2, hwf, h63⟩, h3⟩

/-- the law for the walk: one append of a list of ints onto a row of the call's own -/
theorem wp_append_ints {w : World} {o : Oper} {a : Act} {K : Act → World → Prop} {Q : Exit → Act → World → Prop} (s x : Operand)
    (ho : o.op = .call { callee := .builtin .append, args := #[s, x], argTypes := #[30, 30] })
    {base : Nat} {v : Value} {n : Nat} {xs : List Int} (hs : a.eval s = v) (hown : OwnInts w base v n xs) {B : Nat} {A : Option Addr} {m c : Nat} {ys : List Int} (hx : a.eval x = .slice A m c) (hy : Ints w B A m ys)
    (hb : (n + m) * 8 ≤ 140737488355328) (hbase : base ≤ w.heap.size)
    (h : ∀ v' w', Hid (OwnInts w' base v' (n + m) (xs ++ ys)) → Hid (w.grownBy w' v.ownBlock) → K (a.put o.dst v') w') : o.wp Try.prog a w K Q := by
  obtain ⟨v', w', hrun, h2, h3⟩ := run_append_ints o.type hown c hy hb hbase
  unfold Oper.wp execOp
  simp only [ho, resolve, invoke, builtin, Sem.run_bind, Sem.run_pure, Result.andThen_ok, List.map_toArray, List.map_cons, List.map_nil, hs, hx, hrun]
  exact h v' w' h2 h3

theorem wpList_append_ints {w : World} {ops : Array Oper} {rest : List Oper} {o : Oper} {a : Act} {Q : Exit → Act → World → Prop} (hgd : o.guard = none) (s x : Operand)
    (ho : o.op = .call { callee := .builtin .append, args := #[s, x], argTypes := #[30, 30] })
    {base : Nat} {v : Value} {n : Nat} {xs : List Int} (hs : a.eval s = v) (hown : OwnInts w base v n xs) {B : Nat} {A : Option Addr} {m c : Nat} {ys : List Int} (hx : a.eval x = .slice A m c) (hy : Ints w B A m ys)
    (hb : (n + m) * 8 ≤ 140737488355328) (hbase : base ≤ w.heap.size)
    (h : ∀ v' w', Hid (OwnInts w' base v' (n + m) (xs ++ ys)) → Hid (w.grownBy w' v.ownBlock) → wpList Try.prog ops Q rest (a.put o.dst v') w') : wpList Try.prog ops Q (o :: rest) a w :=
  wpList_plain hgd fun _ hK => wp_append_ints s x ho hs hown hx hy hb hbase fun v' w' h2 h3 => hK _ _ (h v' w' h2 h3)

/-- the same where the operation is guarded and the guard lets it -/
theorem wpList_append_ints_g {w : World} {ops : Array Oper} {rest : List Oper} {o : Oper} {a : Act} {Q : Exit → Act → World → Prop} (hgd : Region.wanted o (yielded ops a.tmps) = true) (s x : Operand)
    (ho : o.op = .call { callee := .builtin .append, args := #[s, x], argTypes := #[30, 30] })
    {base : Nat} {v : Value} {n : Nat} {xs : List Int} (hs : a.eval s = v) (hown : OwnInts w base v n xs) {B : Nat} {A : Option Addr} {m c : Nat} {ys : List Int} (hx : a.eval x = .slice A m c) (hy : Ints w B A m ys)
    (hb : (n + m) * 8 ≤ 140737488355328) (hbase : base ≤ w.heap.size)
    (h : ∀ v' w', Hid (OwnInts w' base v' (n + m) (xs ++ ys)) → Hid (w.grownBy w' v.ownBlock) → wpList Try.prog ops Q rest (a.put o.dst v') w') : wpList Try.prog ops Q (o :: rest) a w :=
  wpList_step fun _ hK => by rw [if_pos hgd]; exact wp_append_ints s x ho hs hown hx hy hb hbase fun v' w' h2 h3 => hK _ _ (h v' w' h2 h3)

/-- of what was there before the call nothing has turned behind an append onto the call's own row -/
theorem OwnInts.below {B : Nat} {a w w' : World} {base : Nat} {v : Value} {n : Nat} {xs : List Int} (hb : Below B a w) (h : OwnInts w base v n xs) (hg : w.grownBy w' v.ownBlock) (hB : B ≤ w.heap.size) (hB' : B ≤ base) : Below B a w' := by
  refine hb.grown hg hB fun k hk => ?_
  rcases h.1.2 with ⟨rfl, _⟩ | ⟨g, cap, cur, rfl, hg', _⟩
  · cases hk
  · have : g = k := by simpa [Value.ownBlock] using hk
    omega

#print axioms wpList_append_ints
end Go.Proofs.Ytpecenjdnapfbaa.NumWalks
