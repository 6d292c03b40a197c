/-
  draybook.Book for ints: what its memory looks like, and what each of its steps leaves.
-/
import Derived.Test.YtkgdaelaidlhlaaTail
import Derived.Test.YtkgdaelaidlhlaaIntsSame
namespace Go.Proofs.Ytkgdaelaidlhlaa.IBook
open Go.ChangeShapes Go.WideShapes Go.ChangeAt Go.RowKit Go.Proofs.Ytkgdaelaidlhlaa.Mem Go.Proofs.Ytkgdaelaidlhlaa.MemI

/-- the book's own cells: where its lists and their copies stand, how much it holds, whether something was wrong -/
def St (w : World) (B0 bk : Nat) (lv wv : Value) (held : Int) (bad : Bool) (ls cs : List Value) : Prop :=
  Blk w bk 49 [lv, wv, .int .i64 held, .bool bad] ∧ B0 ≤ bk ∧ Tail w B0 30 lv ls ∧ Tail w B0 30 wv cs ∧ (∀ g, lv.ownBlock = some g → wv.ownBlock ≠ some g)

/-- all blocks stay but the book's own (its cells, the lists of its lists); memory below B0 stays -/
def Moves (B0 : Nat) (w w' : World) : Prop := Below B0 w w' ∧ ∀ (k : Nat) (cs : Array Value) (t : TypeId) (fr : Nat × Nat), t ≠ 49 → t ≠ 30 → w.heap[k]? = some (Obj.cells cs t fr) → w'.heap[k]? = w.heap[k]?

theorem Blk_ne {w : World} {g g' : Nat} {t t' : TypeId} {vs vs' : List Value} (h : Blk w g t vs) (h' : Blk w g' t' vs') (hne : t ≠ t') : g ≠ g' := by
  rintro rfl
  unfold Blk at h h'
  rw [h] at h'
  injection h' with h'
  injection h' with _ ht
  exact hne ht

section
variable {B0 : Nat} {w w' w'' : World}
theorem Moves.refl (B0 : Nat) (w : World) : Moves B0 w w := ⟨Below.refl _ _, fun _ _ _ _ _ _ _ => rfl⟩
theorem Moves.trans (h : Moves B0 w w') (h' : Moves B0 w' w'') : Moves B0 w w'' :=
  ⟨h.1.trans h'.1, fun k cs t fr h1 h2 hk => (h'.2 k cs t fr h1 h2 ((h.2 k cs t fr h1 h2 hk).trans hk)).trans (h.2 k cs t fr h1 h2 hk)⟩
theorem Moves.of_below (h : Below w.heap.size w w') (hB : B0 ≤ w.heap.size) : Moves B0 w w' := by
  refine ⟨h.mono hB, fun k cs _ fr _ _ hk => h.block k ?_⟩
  rcases Nat.lt_or_ge k w.heap.size with h' | h'
  · exact h'
  · rw [Array.getElem?_eq_none h'] at hk; cases hk
theorem Moves.alloc (h : Moves B0 w w') (hB : B0 ≤ w'.heap.size) (o : Obj) : Moves B0 w (w'.alloc o) := h.trans (.of_below ((Below.refl _ _).alloc (Nat.le_refl _) o) hB)
theorem Moves.drew (h : Moves B0 w w') : Moves B0 w w'.drew := ⟨h.1.drew, h.2⟩
theorem Moves.drewN (h : Moves B0 w w') (d : Nat) : Moves B0 w (w'.drewN d) := ⟨below_drewN h.1 d, h.2⟩
theorem Moves.set {bk i : Nat} {t : TypeId} {vs : List Value} {u : Value} (hb : Blk w bk t vs) (ht : t = 49 ∨ t = 30) (hB : B0 ≤ bk) : Moves B0 w (w.setCell ⟨bk, i, none⟩ u) := by
  refine ⟨(Below.refl _ _).setCell hB u, fun k cs t' fr n1 n2 hk => Below.heap_setCell w _ u k ?_⟩
  rintro rfl
  unfold Blk at hb
  rw [hb] at hk
  injection hk with hk
  injection hk with _ h2
  subst h2
  exact ht.elim n1 n2
theorem Moves.grown {v : Value} {t : TypeId} {vs : List Value} (hg : w.grownBy w' v.ownBlock) (h : Tail w B0 t v vs) (ht : t = 49 ∨ t = 30) (hB : B0 ≤ w.heap.size) : Moves B0 w w' := by
  refine ⟨(Below.refl _ _).grown hg hB fun k hk => (h.lt k hk).1, fun k cs t' fr n1 n2 hk => ?_⟩
  have hlt : k < w.heap.size := by
    rcases Nat.lt_or_ge k w.heap.size with h' | h'
    · exact h'
    · rw [Array.getElem?_eq_none h'] at hk; cases hk
  refine hg.block k hlt fun e => ?_
  obtain ⟨_, _, ys, hy⟩ := h.lt k e.symm
  unfold Blk at hy
  rw [hy] at hk
  injection hk with hk
  injection hk with _ h2
  subst h2
  exact ht.elim n1 n2
theorem Own.moves {base n : Nat} {v : Value} {vs : List Value} (h : Own w base 3 v n vs) (hm : Moves B0 w w') : Own w' base 3 v n vs := by
  obtain ⟨⟨hl, h⟩, hmx⟩ := h
  refine ⟨⟨hl, ?_⟩, hmx⟩
  rcases h with h | ⟨g, cap, cur, rfl, hg, hh, hr⟩
  · exact .inl h
  · exact .inr ⟨g, cap, cur, rfl, hg, (hm.2 g cur _ (0, 0) (by decide) (by decide) hh).trans hh, hr⟩
end

/-- the lists that are kept, with what they held, and their copies -/
def Ents (w : World) (B0 : Nat) : List (Value × List Int) → List Value → Prop
  | [], [] => True
  | (v, xs) :: r, cv :: s => Own w B0 3 v xs.length (intsV xs) ∧ Own w B0 3 cv xs.length (intsV xs) ∧ (∀ p ∈ r, ∀ g, v.ownBlock = some g → p.1.ownBlock ≠ some g) ∧ Ents w B0 r s
  | _, _ => False
section
variable {B0 : Nat} {w w' : World} {es : List (Value × List Int)} {cs : List Value}
theorem Ents.moves (h : Ents w B0 es cs) (hm : Moves B0 w w') : Ents w' B0 es cs := by
  induction es generalizing cs with
  | nil => match cs, h with | [], _ => exact trivial
  | cons p r ih =>
    match p, cs, h with
    | (v, xs), cv :: s, h => exact ⟨Own.moves h.1 hm, Own.moves h.2.1 hm, h.2.2.1, ih h.2.2.2⟩
theorem Ents.len (h : Ents w B0 es cs) : cs.length = es.length := by
  induction es generalizing cs with
  | nil => match cs, h with | [], _ => rfl
  | cons p r ih =>
    match p, cs, h with
    | (v, xs), cv :: s, h => simp [ih h.2.2.2]
theorem Ents.snoc {v cv : Value} {xs : List Int} (h : Ents w B0 es cs) (hv : Own w B0 3 v xs.length (intsV xs)) (hc : Own w B0 3 cv xs.length (intsV xs)) (hd : ∀ p ∈ es, ∀ g, p.1.ownBlock = some g → v.ownBlock ≠ some g) :
    Ents w B0 (es ++ [(v, xs)]) (cs ++ [cv]) := by
  induction es generalizing cs with
  | nil => match cs, h with | [], _ => exact ⟨hv, hc, by simp, trivial⟩
  | cons p r ih =>
    match p, cs, h with
    | (v', xs'), cv' :: s, h =>
      refine ⟨h.1, h.2.1, fun q hq g hg => ?_, ih h.2.2.2 fun q hq => hd q (List.mem_cons_of_mem _ hq)⟩
      rcases List.mem_append.1 hq with hq | hq
      · exact h.2.2.1 q hq g hg
      · simp only [List.mem_singleton] at hq
        subst hq
        exact hd (v', xs') (List.mem_cons_self ..) g hg
end

section
variable {w w' w1 : World} {B0 bk : Nat} {lv wv : Value} {held : Int} {bad : Bool} {ls cs : List Value}
theorem St.c0 (h : St w B0 bk lv wv held bad ls cs) : w.cell? ⟨bk, 0, none⟩ = some lv := h.1.cell rfl
theorem St.c1 (h : St w B0 bk lv wv held bad ls cs) : w.cell? ⟨bk, 1, none⟩ = some wv := h.1.cell rfl
theorem St.c2 (h : St w B0 bk lv wv held bad ls cs) : w.cell? ⟨bk, 2, none⟩ = some (.int .i64 held) := h.1.cell rfl
theorem St.c3 (h : St w B0 bk lv wv held bad ls cs) : w.cell? ⟨bk, 3, none⟩ = some (.bool bad) := h.1.cell rfl
theorem St.free (h : St w B0 bk lv wv held bad ls cs) (i : Nat) : w.frozen? ⟨bk, i, none⟩ = false := h.1.free i
theorem St.keep (h : St w B0 bk lv wv held bad ls cs) (hb : Below w.heap.size w w') : St w' B0 bk lv wv held bad ls cs :=
  ⟨h.1.below hb h.1.lt, h.2.1, h.2.2.1.same fun g hg => hb.block g (h.2.2.1.lt g hg).2.1, h.2.2.2.1.same fun g hg => hb.block g (h.2.2.2.1.lt g hg).2.1, h.2.2.2.2⟩
theorem St.drew (h : St w B0 bk lv wv held bad ls cs) : St w.drew B0 bk lv wv held bad ls cs := h.keep (Below.refl _ _).drew
theorem St.alloc (h : St w B0 bk lv wv held bad ls cs) (o : Obj) : St (w.alloc o) B0 bk lv wv held bad ls cs := h.keep ((Below.refl _ _).alloc (Nat.le_refl _) o)
theorem St.l_ne (h : St w B0 bk lv wv held bad ls cs) : lv.ownBlock ≠ some bk := fun e => by
  obtain ⟨_, _, ys, hy⟩ := h.2.2.1.lt bk e
  exact Blk_ne h.1 hy (by decide) rfl
theorem St.w_ne (h : St w B0 bk lv wv held bad ls cs) : wv.ownBlock ≠ some bk := fun e => by
  obtain ⟨_, _, ys, hy⟩ := h.2.2.2.1.lt bk e
  exact Blk_ne h.1 hy (by decide) rfl
/-- the book's cell i is written -/
theorem St.put (h : St w B0 bk lv wv held bad ls cs) (i : Nat) (u : Value) : Blk (w.setCell ⟨bk, i, none⟩ u) bk 49 ([lv, wv, .int .i64 held, .bool bad].set i u) ∧
    Tail (w.setCell ⟨bk, i, none⟩ u) B0 30 lv ls ∧ Tail (w.setCell ⟨bk, i, none⟩ u) B0 30 wv cs ∧ Moves B0 w (w.setCell ⟨bk, i, none⟩ u) :=
  ⟨h.1.put i u, h.2.2.1.same fun g hg => Below.heap_setCell w _ u g (fun e => h.l_ne (by rw [hg, e])), h.2.2.2.1.same fun g hg => Below.heap_setCell w _ u g (fun e => h.w_ne (by rw [hg, e])), Moves.set h.1 (by decide) h.2.1⟩
theorem St.set2 (h : St w B0 bk lv wv held bad ls cs) (n : Int) : St (w.setCell ⟨bk, 2, none⟩ (.int .i64 n)) B0 bk lv wv n bad ls cs := by
  obtain ⟨h1, h2, h3, _⟩ := h.put 2 (.int .i64 n)
  exact ⟨h1, h.2.1, h2, h3, h.2.2.2.2⟩
theorem St.set3 (h : St w B0 bk lv wv held bad ls cs) (b : Bool) : St (w.setCell ⟨bk, 3, none⟩ (.bool b)) B0 bk lv wv held b ls cs := by
  obtain ⟨h1, h2, h3, _⟩ := h.put 3 (.bool b)
  exact ⟨h1, h.2.1, h2, h3, h.2.2.2.2⟩
/-- lists = append(lists, u) -/
theorem St.push_l {v1 u : Value} (h : St w B0 bk lv wv held bad ls cs) (hB : B0 ≤ w.heap.size) (ht : Tail w1 B0 30 v1 (ls ++ [u])) (hg : w.grownBy w1 lv.ownBlock) (ha : v1.ownBlock = lv.ownBlock ∨ v1.ownBlock = some w.heap.size) :
    w1.cell? ⟨bk, 0, none⟩ = some lv ∧ w1.frozen? ⟨bk, 0, none⟩ = false ∧ St (w1.setCell ⟨bk, 0, none⟩ v1) B0 bk v1 wv held bad (ls ++ [u]) cs ∧ Moves B0 w (w1.setCell ⟨bk, 0, none⟩ v1) := by
  have hbk : Blk w1 bk 49 [lv, wv, .int .i64 held, .bool bad] := (hg.block bk h.1.lt (fun e => h.l_ne e.symm)).trans h.1
  have hw1 : Tail w1 B0 30 wv cs := h.2.2.2.1.same fun g hgw => hg.block g (h.2.2.2.1.lt g hgw).2.1 (fun e => h.2.2.2.2 g e.symm hgw)
  have hne : ∀ g, v1.ownBlock = some g → wv.ownBlock ≠ some g := by
    intro g hg1 hg2
    rcases ha with ha | ha
    · exact h.2.2.2.2 g (ha.symm.trans hg1) hg2
    · rw [ha] at hg1
      injection hg1 with hg1
      have := (h.2.2.2.1.lt g hg2).2.1
      omega
  have hvb : v1.ownBlock ≠ some bk := fun e => by
    obtain ⟨_, _, ys, hy⟩ := ht.lt bk e
    exact Blk_ne hbk hy (by decide) rfl
  have hwb : wv.ownBlock ≠ some bk := h.w_ne
  refine ⟨hbk.cell rfl, hbk.free 0, ⟨hbk.put 0 v1, h.2.1, ht.same fun g hgv => Below.heap_setCell w1 _ v1 g (fun e => hvb (by rw [hgv, e])), hw1.same fun g hgv => Below.heap_setCell w1 _ v1 g (fun e => hwb (by rw [hgv, e])), hne⟩, ?_⟩
  exact (Moves.grown hg h.2.2.1 (by decide) hB).trans (Moves.set hbk (by decide) h.2.1)
/-- was = append(was, u) -/
theorem St.push_w {v1 u : Value} (h : St w B0 bk lv wv held bad ls cs) (hB : B0 ≤ w.heap.size) (ht : Tail w1 B0 30 v1 (cs ++ [u])) (hg : w.grownBy w1 wv.ownBlock) (ha : v1.ownBlock = wv.ownBlock ∨ v1.ownBlock = some w.heap.size) :
    w1.cell? ⟨bk, 1, none⟩ = some wv ∧ w1.frozen? ⟨bk, 1, none⟩ = false ∧ St (w1.setCell ⟨bk, 1, none⟩ v1) B0 bk lv v1 held bad ls (cs ++ [u]) ∧ Moves B0 w (w1.setCell ⟨bk, 1, none⟩ v1) := by
  have hbk : Blk w1 bk 49 [lv, wv, .int .i64 held, .bool bad] := (hg.block bk h.1.lt (fun e => h.w_ne e.symm)).trans h.1
  have hl1 : Tail w1 B0 30 lv ls := h.2.2.1.same fun g hgl => hg.block g (h.2.2.1.lt g hgl).2.1 (fun e => h.2.2.2.2 g hgl e.symm)
  have hne : ∀ g, lv.ownBlock = some g → v1.ownBlock ≠ some g := by
    intro g hg1 hg2
    rcases ha with ha | ha
    · exact h.2.2.2.2 g hg1 (ha.symm.trans hg2)
    · rw [ha] at hg2
      injection hg2 with hg2
      have := (h.2.2.1.lt g hg1).2.1
      omega
  have hvb : v1.ownBlock ≠ some bk := fun e => by
    obtain ⟨_, _, ys, hy⟩ := ht.lt bk e
    exact Blk_ne hbk hy (by decide) rfl
  have hlb : lv.ownBlock ≠ some bk := h.l_ne
  refine ⟨hbk.cell rfl, hbk.free 1, ⟨hbk.put 1 v1, h.2.1, hl1.same fun g hgv => Below.heap_setCell w1 _ v1 g (fun e => hlb (by rw [hgv, e])), ht.same fun g hgv => Below.heap_setCell w1 _ v1 g (fun e => hvb (by rw [hgv, e])), hne⟩, ?_⟩
  exact (Moves.grown hg h.2.2.2.1 (by decide) hB).trans (Moves.set hbk (by decide) h.2.1)
/-- lists = lists[1:] -/
theorem St.rest_l {x y : Value} {r : List Value} (h : St w B0 bk lv wv held bad (x :: y :: r) cs) : ∃ A c, lv = .slice A (r.length + 2) c ∧ r.length + 2 ≤ c ∧ c ≤ maxLen ∧
    St (w.setCell ⟨bk, 0, none⟩ (.slice (if c = 1 then A else A.map (·.add 1)) (r.length + 1) (c - 1))) B0 bk (.slice (if c = 1 then A else A.map (·.add 1)) (r.length + 1) (c - 1)) wv held bad (y :: r) cs := by
  obtain ⟨A, c, e, h1, h2, h3, h4⟩ := h.2.2.1.rest
  refine ⟨A, c, e, h1, h2, ?_⟩
  obtain ⟨p1, p2, p3, _⟩ := h.put 0 (.slice (if c = 1 then A else A.map (·.add 1)) (r.length + 1) (c - 1))
  refine ⟨p1, h.2.1, h3.same fun g hg => Below.heap_setCell w _ _ g (fun e' => h.l_ne (by rw [← h4, hg, e'])), p3, fun g hg => h.2.2.2.2 g (h4.symm.trans hg)⟩
/-- was = was[1:] -/
theorem St.rest_w {x y : Value} {r : List Value} (h : St w B0 bk lv wv held bad ls (x :: y :: r)) : ∃ A c, wv = .slice A (r.length + 2) c ∧ r.length + 2 ≤ c ∧ c ≤ maxLen ∧
    St (w.setCell ⟨bk, 1, none⟩ (.slice (if c = 1 then A else A.map (·.add 1)) (r.length + 1) (c - 1))) B0 bk lv (.slice (if c = 1 then A else A.map (·.add 1)) (r.length + 1) (c - 1)) held bad ls (y :: r) := by
  obtain ⟨A, c, e, h1, h2, h3, h4⟩ := h.2.2.2.1.rest
  refine ⟨A, c, e, h1, h2, ?_⟩
  obtain ⟨p1, p2, p3, _⟩ := h.put 1 (.slice (if c = 1 then A else A.map (·.add 1)) (r.length + 1) (c - 1))
  refine ⟨p1, h.2.1, p2, h3.same fun g hg => Below.heap_setCell w _ _ g (fun e' => h.w_ne (by rw [← h4, hg, e'])), fun g hg hg2 => h.2.2.2.2 g hg (h4.symm.trans hg2)⟩
end

/-- the book with its lists -/
def BookAt (w : World) (B0 bk : Nat) (es : List (Value × List Int)) : Prop := ∃ lv wv held cs, St w B0 bk lv wv held false (es.map (·.1)) cs ∧ Ents w B0 es cs

#print axioms St.push_l
#print axioms Ents.snoc
end Go.Proofs.Ytkgdaelaidlhlaa.IBook
