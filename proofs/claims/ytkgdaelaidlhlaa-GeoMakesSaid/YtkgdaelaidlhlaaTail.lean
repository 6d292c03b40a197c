/-
  A slice of the call's own that may begin anywhere in its row ('l = l[1:]' behind appends): what it reads as, its rest, one element appended.
-/
import Derived.Test.YtkgdaelaidlhlaaMemApp
import Derived.ArgAppend
namespace Go.Proofs.Ytkgdaelaidlhlaa.Mem
open Go.ChangeShapes Go.WideShapes Go.ChangeAt Go.RowKit

/-- the slice v lies in a row of the call's own (block base or a later one), of elements of type e, and reads as vs; nil let in -/
def Tail (w : World) (base : Nat) (e : TypeId) (v : Value) (vs : List Value) : Prop :=
  vs.length ≤ maxLen ∧ (v = .slice none 0 0 ∧ vs = [] ∨
    ∃ (g cap : Nat) (pre post : List Value), v = .slice (some ⟨g, pre.length, none⟩) vs.length cap ∧ base ≤ g ∧ Blk w g e (pre ++ (vs ++ post)) ∧ vs.length + post.length = cap ∧ cap ≤ maxLen)

section
variable {w w' : World} {base : Nat} {e : TypeId} {v : Value} {vs : List Value}
theorem Tail.nil (w : World) (base : Nat) (e : TypeId) : Tail w base e (.slice none 0 0) [] := ⟨Nat.zero_le _, .inl ⟨rfl, rfl⟩⟩
theorem mid_at {pre vs post : List Value} {j : Nat} {u : Value} (h : vs[j]? = some u) : (pre ++ (vs ++ post))[pre.length + j]? = some u := by
  have hj : j < vs.length := by
    rcases Nat.lt_or_ge j vs.length with h' | h'
    · exact h'
    · rw [List.getElem?_eq_none h'] at h; cases h
  rw [List.getElem?_append_right (by omega), Nat.add_sub_cancel_left, List.getElem?_append_left hj]
  exact h
theorem Tail.read (h : Tail w base e v vs) : ∃ A c, v = .slice A vs.length c ∧ vs.length ≤ c ∧ c ≤ maxLen ∧ Reads w w.heap.size A vs.length vs := by
  obtain ⟨hm, ⟨rfl, rfl⟩ | ⟨g, cap, pre, post, rfl, hg, hb, hc, hcm⟩⟩ := h
  · exact ⟨none, 0, rfl, Nat.le_refl _, Nat.zero_le _, Reads.none_⟩
  · exact ⟨_, cap, rfl, by omega, hcm, rfl, hm, fun _ => ⟨g, pre.length, rfl, hb.lt, fun j u hu => hb.cell (mid_at hu)⟩⟩
theorem Tail.lt (h : Tail w base e v vs) : ∀ k, v.ownBlock = some k → base ≤ k ∧ k < w.heap.size ∧ ∃ ys, Blk w k e ys := by
  intro k hk
  obtain ⟨hm, ⟨rfl, rfl⟩ | ⟨g, cap, pre, post, rfl, hg, hb, hc, hcm⟩⟩ := h
  · cases hk
  · have : g = k := by simpa [Value.ownBlock] using hk
    subst this
    exact ⟨hg, hb.lt, _, hb⟩
theorem Tail.same (h : Tail w base e v vs) (hk : ∀ g, v.ownBlock = some g → w'.heap[g]? = w.heap[g]?) : Tail w' base e v vs := by
  obtain ⟨hm, h | ⟨g, cap, pre, post, rfl, hg, hb, hc, hcm⟩⟩ := h
  · exact ⟨hm, .inl h⟩
  · exact ⟨hm, .inr ⟨g, cap, pre, post, rfl, hg, (hk g rfl).trans hb, hc, hcm⟩⟩
theorem Tail.of_own {n : Nat} (h : w.ownsRow base e 1 v n vs) (hm : n ≤ maxLen) : Tail w base e v vs := by
  obtain ⟨hl, h⟩ := h
  have hl' : vs.length = n := by omega
  refine ⟨by omega, ?_⟩
  rcases h with ⟨rfl, rfl⟩ | ⟨g, cap, cur, rfl, hg, hh, hnc, hcm, hcs, htk⟩
  · exact .inl ⟨rfl, List.eq_nil_of_length_eq_zero hl'⟩
  · rw [Nat.mul_one] at hcs htk
    refine .inr ⟨g, cap, [], cur.toList.drop n, by rw [hl']; rfl, hg, ?_, ?_, hcm⟩
    · unfold Blk
      rw [List.nil_append, ← htk, List.take_append_drop]
      exact hh
    · rw [List.length_drop, hl']
      have : cur.toList.length = cap := by rw [Array.length_toList]; exact hcs
      omega
/-- behind 'l = l[1:]' of a list of two or more -/
theorem Tail.rest {x y : Value} {r : List Value} (h : Tail w base e v (x :: y :: r)) : ∃ A c, v = .slice A (r.length + 2) c ∧ r.length + 2 ≤ c ∧ c ≤ maxLen ∧
    Tail w base e (.slice (if c = 1 then A else A.map (·.add 1)) (r.length + 1) (c - 1)) (y :: r) ∧ (Value.slice (if c = 1 then A else A.map (·.add 1)) (r.length + 1) (c - 1)).ownBlock = v.ownBlock := by
  obtain ⟨hm, ⟨_, h⟩ | ⟨g, cap, pre, post, rfl, hg, hb, hc, hcm⟩⟩ := h
  · cases h
  · simp only [List.length_cons] at hm hc
    refine ⟨some ⟨g, pre.length, none⟩, cap, rfl, by omega, hcm, ?_, ?_⟩
    · rw [if_neg (by omega)]
      refine ⟨by simp only [List.length_cons]; omega, .inr ⟨g, cap - 1, pre ++ [x], post, ?_, hg, ?_, ?_, by omega⟩⟩
      · rw [Option.map_some, add_at, List.length_append]; rfl
      · rw [List.append_assoc]; exact hb
      · simp only [List.length_cons]; omega
    · rw [if_neg (by omega), Option.map_some, add_at]
      rfl
end

theorem grownBy_some {w w' : World} {row : Option Nat} (h : w.grownBy w' none) : w.grownBy w' row := ⟨h.os, h.tape, h.output, h.size, fun k hk _ => h.block k hk (by simp)⟩

theorem run_append_tail {w : World} {base : Nat} {e t : TypeId} {z : Value} {bytes : Nat} {v : Value} {vs : List Value} (ty : TypeId) (ht : Try.prog.underlying t = some (.slice e))
    (hi0 : (Try.prog.info? e).map (fun i => (i.zero, i.size, i.bytes)) = some (some z, 1, bytes)) (hzc : z.cells.size = 1)
    (h : Tail w base e v vs) {a : Addr} {u : Value} (c : Nat) (hu : w.cell? a = some u) (hu1 : u.oneCell' = true)
    (hmx : vs.length + 1 ≤ maxLen) (hb : (vs.length + 1) * bytes ≤ 140737488355328) (hbase : base ≤ w.heap.size) :
    ∃ v' w', (Builtin.append_ #[t, t] ty #[v, .slice (some a) 1 c]).run Try.prog w = .ok v' w' ∧ Tail w' base e v' (vs ++ [u]) ∧ w.grownBy w' v.ownBlock ∧ (v'.ownBlock = v.ownBlock ∨ v'.ownBlock = some w.heap.size) := by
  obtain ⟨i, hi, hz0, hz1, hz2⟩ := info_parts hi0
  have hnews : ∀ j q, [u][j]? = some q → w.cell? (a.add j) = some q := by
    intro j q hq
    match j, hq with
    | 0, hq =>
      simp at hq
      subst hq
      simpa [Addr.add] using hu
  have hone : ∀ q ∈ [u], q.oneCell' = true := by intro q hq; simp at hq; subst hq; exact hu1
  obtain ⟨hm, ⟨rfl, rfl⟩ | ⟨g, cap, pre, post, rfl, hg, hbk, hc, hcm⟩⟩ := h
  · obtain ⟨v', w', hrun, h2, h3, _, h5⟩ := run_append_own_at (P := Try.prog) w base t ty e i z 1 bytes ht hi hz0 hz1 hz2 hzc (by decide) (.slice none 0 0) 0 [] (World.ownsRow_nil w base e 1) a 1 c [u] rfl hnews hone (by simpa using hmx) (by simpa using hb) hbase
    exact ⟨v', w', hrun, Tail.of_own h2 (by simpa using hmx), h3, h5⟩
  · by_cases hroom : vs.length + 1 ≤ cap
    · obtain ⟨p, post', rfl⟩ : ∃ p post', post = p :: post' := by
        cases post with
        | nil => simp at hc; omega
        | cons p q => exact ⟨p, q, rfl⟩
      have hat : (pre ++ (vs ++ p :: post'))[pre.length + vs.length]? = some p := by
        rw [List.getElem?_append_right (by omega), Nat.add_sub_cancel_left, List.getElem?_append_right (Nat.le_refl _), Nat.sub_self]
        rfl
      have hrun := run_append_room_cells (P := Try.prog) w t ty e i ht hi g pre.length vs.length cap a 1 c [u] (by rw [hz1]; rfl) hnews hone hroom
        (by intro j hj; simp at hj; subst hj; rw [hz1, Nat.mul_one, Nat.add_zero, hbk.cell hat]; rfl) (by intro j hj; exact hbk.free _)
      rw [hz1, Nat.mul_one] at hrun
      have hput := hbk.put (pre.length + vs.length) u
      have hset : (pre ++ (vs ++ p :: post')).set (pre.length + vs.length) u = pre ++ ((vs ++ [u]) ++ post') := by
        rw [List.set_append_right _ _ (by omega), Nat.add_sub_cancel_left, List.set_append_right _ _ (Nat.le_refl _), Nat.sub_self, List.set_cons_zero, List.append_assoc]
        rfl
      rw [hset] at hput
      refine ⟨_, _, hrun, ⟨by rw [List.length_append]; exact hmx, .inr ⟨g, cap, pre, post', by rw [List.length_append]; rfl, hg, hput, ?_, hcm⟩⟩, ?_, .inl rfl⟩
      · rw [List.length_append]; simp only [List.length_cons, List.length_nil] at hc ⊢; omega
      · refine ⟨rfl, rfl, rfl, by simp [World.setCells, World.setCell], fun k _ hne => ?_⟩
        exact Below.heap_setCell w _ u k (fun e => hne (by rw [e]; rfl))
    · have hge := grownCap_ge w (vs.length + 1) cap e
      have hcm' : grownCap w (vs.length + 1) cap e ≤ maxLen := grownCap_le_maxLen w (vs.length + 1) cap e hmx
      have hrun := run_append_grow (P := Try.prog) w t ty e i z ht hi hz0 ⟨g, pre.length, none⟩ vs.length cap vs (by rw [hz1]; omega) (fun j q hq => by rw [add_at]; exact hbk.cell (mid_at hq)) a 1 c [u] (by rw [hz1]; rfl) hnews (by omega) (by unfold maxLen at hmx; omega) (by rw [hz2]; exact growslice_fits (by omega) hb)
      refine ⟨_, _, hrun, ⟨by rw [List.length_append]; exact hmx, .inr ⟨w.heap.size, _, [], (Builtin.zeroCells z.cells (grownCap w (vs.length + 1) cap e - (vs.length + 1))).toList, by rw [List.length_append]; rfl, hbase, ?_, ?_, hcm'⟩⟩, ⟨rfl, rfl, rfl, by simp, fun k hk _ => Below.heap_alloc w.drew _ k hk⟩, .inr rfl⟩
      · unfold Blk
        have e1 : (vs.toArray ++ [u].toArray ++ Builtin.zeroCells z.cells (grownCap w (vs.length + 1) cap e - (vs.length + 1))) = ([] ++ ((vs ++ [u]) ++ (Builtin.zeroCells z.cells (grownCap w (vs.length + 1) cap e - (vs.length + 1))).toList)).toArray := by
          apply Array.ext'
          simp
        rw [← e1]
        exact heap_alloc_new w.drew _
      · have e2 : (Builtin.zeroCells z.cells (grownCap w (vs.length + 1) cap e - (vs.length + 1))).toList.length = grownCap w (vs.length + 1) cap e - (vs.length + 1) := by
          rw [Array.length_toList, size_zeroCells, hzc, Nat.mul_one]
        rw [List.length_append, e2]
        simp only [List.length_cons, List.length_nil]
        omega

/-- the law for the walk: one element appended -/
theorem wp_append_tail {w : World} {o : Oper} {a : Act} {K : Act → World → Prop} {Q : Exit → Act → World → Prop} (s x : Operand) {e t : TypeId} {z : Value} {bytes : Nat}
    (ht : Try.prog.underlying t = some (.slice e)) (hi0 : (Try.prog.info? e).map (fun i => (i.zero, i.size, i.bytes)) = some (some z, 1, bytes)) (hzc : z.cells.size = 1)
    (ho : o.op = .call { callee := .builtin .append, args := #[s, x], argTypes := #[t, t] })
    {base : Nat} {v : Value} {vs : List Value} (hown : Tail w base e v vs) (hs : a.eval s = v) {ad : Addr} {u : Value} {c : Nat} (hu : w.cell? ad = some u) (hx : a.eval x = .slice (some ad) 1 c) (hu1 : u.oneCell' = true)
    (hmx : vs.length + 1 ≤ maxLen) (hb : (vs.length + 1) * bytes ≤ 140737488355328) (hbase : base ≤ w.heap.size)
    (h : ∀ v' w', Hid (Tail w' base e v' (vs ++ [u])) → Hid (w.grownBy w' v.ownBlock) → Hid (v'.ownBlock = v.ownBlock ∨ v'.ownBlock = some w.heap.size) → v'.oneCell' = true → K (a.put o.dst v') w') : o.wp Try.prog a w K Q := by
  obtain ⟨v', w', hrun, h2, h3, h4⟩ := run_append_tail o.type ht hi0 hzc hown c hu hu1 hmx hb hbase
  have h5 : v'.oneCell' = true := by obtain ⟨A, c, rfl, _⟩ := h2.read; rfl
  unfold Oper.wp execOp
  simp only [ho, resolve, invoke, builtin, Sem.run_bind, Sem.run_pure, Result.andThen_ok, List.map_toArray, List.map_cons, List.map_nil, hs, hx, hrun]
  exact h v' w' h2 h3 h4 h5
theorem wpList_append_tail {w : World} {ops : Array Oper} {rest : List Oper} {o : Oper} {a : Act} {Q : Exit → Act → World → Prop} (hgd : o.guard = none) (s x : Operand) {e t : TypeId} {z : Value} {bytes : Nat}
    (ht : Try.prog.underlying t = some (.slice e)) (hi0 : (Try.prog.info? e).map (fun i => (i.zero, i.size, i.bytes)) = some (some z, 1, bytes)) (hzc : z.cells.size = 1)
    (ho : o.op = .call { callee := .builtin .append, args := #[s, x], argTypes := #[t, t] })
    {base : Nat} {v : Value} {vs : List Value} (hown : Tail w base e v vs) (hs : a.eval s = v) {ad : Addr} {u : Value} {c : Nat} (hu : w.cell? ad = some u) (hx : a.eval x = .slice (some ad) 1 c) (hu1 : u.oneCell' = true)
    (hmx : vs.length + 1 ≤ maxLen) (hb : (vs.length + 1) * bytes ≤ 140737488355328) (hbase : base ≤ w.heap.size)
    (h : ∀ v' w', Hid (Tail w' base e v' (vs ++ [u])) → Hid (w.grownBy w' v.ownBlock) → Hid (v'.ownBlock = v.ownBlock ∨ v'.ownBlock = some w.heap.size) → v'.oneCell' = true → wpList Try.prog ops Q rest (a.put o.dst v') w') : wpList Try.prog ops Q (o :: rest) a w :=
  wpList_plain hgd fun _ hK => wp_append_tail s x ht hi0 hzc ho hown hs hu hx hu1 hmx hb hbase fun v' w' h2 h3 h4 h5 => hK _ _ (h v' w' h2 h3 h4 h5)
theorem step_append_tail {w : World} {ops : Array Oper} {o : Oper} {a : Act} {K : Act → World → Prop} {Q : Exit → Act → World → Prop} {E : Prop} (hgd : o.guard = none) (s x : Operand) {e t : TypeId} {z : Value} {bytes : Nat}
    (ht : Try.prog.underlying t = some (.slice e)) (hi0 : (Try.prog.info? e).map (fun i => (i.zero, i.size, i.bytes)) = some (some z, 1, bytes)) (hzc : z.cells.size = 1)
    (ho : o.op = .call { callee := .builtin .append, args := #[s, x], argTypes := #[t, t] })
    {base : Nat} {v : Value} {vs : List Value} (hown : Tail w base e v vs) (hs : a.eval s = v) {ad : Addr} {u : Value} {c : Nat} (hu : w.cell? ad = some u) (hx : a.eval x = .slice (some ad) 1 c) (hu1 : u.oneCell' = true)
    (hmx : vs.length + 1 ≤ maxLen) (hb : (vs.length + 1) * bytes ≤ 140737488355328) (hbase : base ≤ w.heap.size)
    (h : ∀ v' w', Hid (Tail w' base e v' (vs ++ [u])) → Hid (w.grownBy w' v.ownBlock) → Hid (v'.ownBlock = v.ownBlock ∨ v'.ownBlock = some w.heap.size) → v'.oneCell' = true → K (a.put o.dst v') w') :
    if Region.wanted o (yielded ops a.tmps) = true then Oper.wp Try.prog o a w K Q else E := by
  have hw : Region.wanted o (yielded ops a.tmps) = true := by simp [Region.wanted, hgd]
  rw [if_pos hw]
  exact wp_append_tail s x ht hi0 hzc ho hown hs hu hx hu1 hmx hb hbase h
/-- a whole list appended onto nil, in a region that draws -/
theorem step_append_copy {w : World} {ops : Array Oper} {o : Oper} {a : Act} {K : Act → World → Prop} {Q : Exit → Act → World → Prop} {E : Prop} (hgd : o.guard = none) (s x : Operand) {e t : TypeId} {z : Value} {bytes : Nat}
    (ht : Try.prog.underlying t = some (.slice e)) (hi0 : (Try.prog.info? e).map (fun i => (i.zero, i.size, i.bytes)) = some (some z, 1, bytes)) (hzc : z.cells.size = 1)
    (ho : o.op = .call { callee := .builtin .append, args := #[s, x], argTypes := #[t, t] })
    (hs : a.eval s = .slice none 0 0) {B : Nat} {A : Option Addr} {m c : Nat} {ys : List Value} (hy : Reads w B A m ys) (hx : a.eval x = .slice A m c) (h1 : ∀ u ∈ ys, u.oneCell' = true)
    (hmx : m ≤ maxLen) (hb : m * bytes ≤ 140737488355328)
    (h : ∀ v' w', Hid (Own w' w.heap.size e v' m ys) → Hid (Below w.heap.size w w') → v'.oneCell' = true → K (a.put o.dst v') w') :
    if Region.wanted o (yielded ops a.tmps) = true then Oper.wp Try.prog o a w K Q else E := by
  have hw : Region.wanted o (yielded ops a.tmps) = true := by simp [Region.wanted, hgd]
  rw [if_pos hw]
  refine wp_append_v s x ht hi0 hzc ho hs (Own.nil w w.heap.size e) hx hy h1 (by omega) (by simpa using hb) (Nat.le_refl _) fun v' w' h2 h3 _ => ?_
  have h2' := h2.out
  rw [Nat.zero_add, List.nil_append] at h2'
  refine h v' w' h2' ?_ (by obtain ⟨A, c, rfl, _⟩ := h2'.read; rfl)
  exact (Below.refl _ _).grown h3.out (Nat.le_refl _) (fun k hk => by cases hk)

/-- a whole list appended onto a row of the call's own, in a region that draws -/
theorem step_append_own {w : World} {ops : Array Oper} {o : Oper} {a : Act} {K : Act → World → Prop} {Q : Exit → Act → World → Prop} {E : Prop} (hgd : o.guard = none) (s x : Operand) {e t : TypeId} {z : Value} {bytes : Nat}
    (ht : Try.prog.underlying t = some (.slice e)) (hi0 : (Try.prog.info? e).map (fun i => (i.zero, i.size, i.bytes)) = some (some z, 1, bytes)) (hzc : z.cells.size = 1)
    (ho : o.op = .call { callee := .builtin .append, args := #[s, x], argTypes := #[t, t] })
    {base : Nat} {v : Value} {n : Nat} {xs : List Value} (hown : Own w base e v n xs) (hs : a.eval s = v) {B : Nat} {A : Option Addr} {m c : Nat} {ys : List Value} (hy : Reads w B A m ys) (hx : a.eval x = .slice A m c) (h1 : ∀ u ∈ ys, u.oneCell' = true)
    (hmx : n + m ≤ maxLen) (hb : (n + m) * bytes ≤ 140737488355328) {w0 : World} {B0 : Nat} (hbel : Below B0 w0 w) (hB0 : B0 ≤ w.heap.size) (hbase : base ≤ w.heap.size) (hB1 : B0 ≤ base)
    (h : ∀ v' w', Hid (Own w' base e v' (n + m) (xs ++ ys)) → Hid (Below B0 w0 w') → w.heap.size ≤ w'.heap.size → K (a.put o.dst v') w') :
    if Region.wanted o (yielded ops a.tmps) = true then Oper.wp Try.prog o a w K Q else E := by
  have hw : Region.wanted o (yielded ops a.tmps) = true := by simp [Region.wanted, hgd]
  rw [if_pos hw]
  exact wp_append_v s x ht hi0 hzc ho hs hown hx hy h1 hmx hb hbase fun v' w' h2 h3 _ => h v' w' h2 (hown.below hbel h3.out hB0 hB1) h3.out.size

#print axioms run_append_tail
end Go.Proofs.Ytkgdaelaidlhlaa.Mem
