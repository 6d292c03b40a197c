/-
  Memory of the call's own: rows that it made, append onto them, make; for any one-cell elements.
-/
import Derived.Test.YtjkahookgoecpaaMem
namespace Go.Proofs.Ytjkahookgoecpaa.Mem
open Go.ChangeShapes Go.WideShapes Go.ChangeAt Go.RowKit

/-- the slice v is the call's own (its row is block base or a later one), and reads as the values vs -/
def Own (w : World) (base : Nat) (e : TypeId) (v : Value) (n : Nat) (vs : List Value) : Prop := w.ownsRow base e 1 v n vs ∧ n ≤ maxLen
/-- the call made a list of these values -/
def Makes (w : World) (e : TypeId) (n : Nat) (vs : List Value) (en : Ending) (w' : World) : Prop := ∃ v, en = .returned v ∧ Below w.heap.size w w' ∧ Own w' w.heap.size e v n vs

section
variable {w w' : World} {base n : Nat} {e : TypeId} {v : Value} {vs : List Value}
theorem Own.len (h : Own w base e v n vs) : vs.length = n := by have := h.1.1; omega
theorem Own.read (h : Own w base e v n vs) : ∃ A c, v = .slice A n c ∧ n ≤ c ∧ Reads w w.heap.size A n vs := by
  obtain ⟨⟨hl, h⟩, hm⟩ := h
  have hl' : vs.length = n := by omega
  rcases h with ⟨rfl, rfl⟩ | ⟨g, cap, cur, rfl, hg, hh, hnc, hcm, hcs, htk⟩
  · exact ⟨none, 0, rfl, Nat.le_refl _, hl', hm, fun h => absurd h (by omega)⟩
  · refine ⟨_, _, rfl, hnc, hl', hm, fun hp => ⟨g, 0, rfl, ?_, fun j u hu => ?_⟩⟩
    · rcases Nat.lt_or_ge g w.heap.size with hlt | hge
      · exact hlt
      · rw [Array.getElem?_eq_none hge] at hh; cases hh
    · have e' := cell_of_row w g (0 + j) cur e (0, 0) hh
      rw [e', Nat.zero_add]
      rw [← htk, List.getElem?_take] at hu
      split at hu
      · simpa using hu
      · cases hu
theorem Own.nil (w : World) (base : Nat) (e : TypeId) : Own w base e (.slice none 0 0) 0 [] := ⟨⟨rfl, .inl ⟨rfl, rfl⟩⟩, Nat.zero_le _⟩
theorem Own.new (w : World) (base : Nat) (e : TypeId) (vs : List Value) (hb : base ≤ w.heap.size) (hm : vs.length ≤ maxLen) : Own (w.alloc (.cells vs.toArray e)) base e (.slice (some ⟨w.heap.size, 0, none⟩) vs.length vs.length) vs.length vs :=
  ⟨⟨by omega, .inr ⟨w.heap.size, vs.length, vs.toArray, rfl, hb, heap_alloc_new w _, Nat.le_refl _, hm, by simp, by simp⟩⟩, hm⟩
theorem Own.lower {b' : Nat} (h : Own w base e v n vs) (hb : b' ≤ base) : Own w b' e v n vs := by
  obtain ⟨⟨hl, h⟩, hm⟩ := h
  refine ⟨⟨hl, ?_⟩, hm⟩
  rcases h with h | ⟨g, cap, cur, rfl, hg, hr⟩
  · exact .inl h
  · exact .inr ⟨g, cap, cur, rfl, by omega, hr⟩
theorem Own.same (h : Own w base e v n vs) (hk : ∀ g, base ≤ g → g < w.heap.size → w'.heap[g]? = w.heap[g]?) : Own w' base e v n vs := by
  obtain ⟨⟨hl, h⟩, hm⟩ := h
  refine ⟨⟨hl, ?_⟩, hm⟩
  rcases h with h | ⟨g, cap, cur, rfl, hg, hh, hr⟩
  · exact .inl h
  · have hlt : g < w.heap.size := by
      rcases Nat.lt_or_ge g w.heap.size with hlt | hge
      · exact hlt
      · rw [Array.getElem?_eq_none hge] at hh; cases hh
    exact .inr ⟨g, cap, cur, rfl, hg, (hk g hg hlt).trans hh, hr⟩
theorem Own.keep {B : Nat} (h : Own w base e v n vs) (hb : Below B w w') (hB : w.heap.size ≤ B) : Own w' base e v n vs := h.same fun g _ hg => hb.block g (by omega)
theorem Own.made (w : World) (base : Nat) (e : TypeId) (zs : Array Value) (c : Nat) (hb : base ≤ w.heap.size) (hm : c ≤ maxLen) : Own (w.alloc (.cells (madeCells zs c) e)) base e (.slice (some ⟨w.heap.size, 0, none⟩) 0 c) 0 [] :=
  ⟨⟨rfl, .inr ⟨w.heap.size, c, madeCells zs c, rfl, hb, heap_alloc_new w _, Nat.zero_le _, hm, by rw [size_madeCells, Nat.mul_one], by simp⟩⟩, Nat.zero_le _⟩
end

set_option maxRecDepth 100000 in
theorem run_append_v {w : World} {base : Nat} {e t : TypeId} {z : Value} {bytes : Nat} {v : Value} {n : Nat} {xs : List Value} (ty : TypeId) (ht : Try.prog.underlying t = some (.slice e))
    (hi0 : (Try.prog.info? e).map (fun i => (i.zero, i.size, i.bytes)) = some (some z, 1, bytes)) (hzc : z.cells.size = 1)
    (h : Own w base e v n xs) {B : Nat} {A : Option Addr} {m : Nat} (c : Nat) {ys : List Value} (hy : Reads w B A m ys) (h1 : ∀ u ∈ ys, u.oneCell' = true)
    (hmx : n + m ≤ maxLen) (hb : (n + m) * bytes ≤ 140737488355328) (hbase : base ≤ w.heap.size) :
    ∃ v' w', (Builtin.append_ #[t, t] ty #[v, .slice A m c]).run Try.prog w = .ok v' w' ∧ Own w' base e v' (n + m) (xs ++ ys) ∧ w.grownBy w' v.ownBlock ∧ (v'.ownBlock = v.ownBlock ∨ v'.ownBlock = some w.heap.size) := by
  obtain ⟨hown, hm⟩ := h
  obtain ⟨i, hi, hz0, hz1, hz2⟩ := info_parts hi0
  rcases A with _ | ad
  · have hm0 : m = 0 := by
      rcases Nat.eq_zero_or_pos m with h0 | h0
      · exact h0
      · obtain ⟨_, _, h, _⟩ := hy.2.2 h0
        cases h
    subst hm0
    have hn : ys = [] := List.eq_nil_of_length_eq_zero hy.1
    subst hn
    refine ⟨v, w, ?_, ⟨by simpa using hown, hm⟩, World.grownBy.refl w _, .inl rfl⟩
    rcases hown.2 with ⟨rfl, rfl⟩ | ⟨g, cap, cur, rfl, _, _, hnc, _⟩
    · simp [Builtin.append_, run_underlying ht, sizeOf, typeInfo, hi, Builtin.lenOf, Builtin.firstCells]
    · simp [Builtin.append_, run_underlying ht, sizeOf, typeInfo, hi, Builtin.lenOf, Builtin.firstCells, hnc, storeCells]
  · have hcells : ∀ j u, ys[j]? = some u → w.cell? (ad.add j) = some u := by
      intro j u hu
      rcases Nat.eq_zero_or_pos m with h0 | h0
      · subst h0
        have hn : ys = [] := List.eq_nil_of_length_eq_zero hy.1
        subst hn
        simp at hu
      · obtain ⟨b, off, h, _, hc⟩ := hy.2.2 h0
        injection h with h
        subst h
        rw [add_at]
        exact hc j u hu
    obtain ⟨v', w', hrun, h2, h3, _, h5⟩ := run_append_own_at (P := Try.prog) w base t ty e i z 1 bytes ht hi hz0 hz1 hz2 hzc (by decide) v n xs hown ad m c ys (by rw [hy.1, Nat.mul_one]) hcells h1 hmx hb hbase
    exact ⟨v', w', hrun, ⟨h2, hmx⟩, h3, h5⟩

/-- the law for the walk: one append of a list onto a row of the call's own -/
theorem wp_append_v {w : World} {o : Oper} {a : Act} {K : Act → World → Prop} {Q : Exit → Act → World → Prop} (s x : Operand) {e t : TypeId} {z : Value} {bytes : Nat}
    (ht : Try.prog.underlying t = some (.slice e)) (hi0 : (Try.prog.info? e).map (fun i => (i.zero, i.size, i.bytes)) = some (some z, 1, bytes)) (hzc : z.cells.size = 1)
    (ho : o.op = .call { callee := .builtin .append, args := #[s, x], argTypes := #[t, t] })
    {base : Nat} {v : Value} {n : Nat} {xs : List Value} (hs : a.eval s = v) (hown : Own w base e v n xs) {B : Nat} {A : Option Addr} {m c : Nat} {ys : List Value} (hx : a.eval x = .slice A m c) (hy : Reads w B A m ys) (h1 : ∀ u ∈ ys, u.oneCell' = true)
    (hmx : n + m ≤ maxLen) (hb : (n + m) * bytes ≤ 140737488355328) (hbase : base ≤ w.heap.size)
    (h : ∀ v' w', Hid (Own w' base e v' (n + m) (xs ++ ys)) → Hid (w.grownBy w' v.ownBlock) → Hid (v'.ownBlock = v.ownBlock ∨ v'.ownBlock = some w.heap.size) → K (a.put o.dst v') w') : o.wp Try.prog a w K Q := by
  obtain ⟨v', w', hrun, h2, h3, h4⟩ := run_append_v o.type ht hi0 hzc hown c hy h1 hmx hb hbase
  unfold Oper.wp execOp
  simp only [ho, resolve, invoke, builtin, Sem.run_bind, Sem.run_pure, Result.andThen_ok, List.map_toArray, List.map_cons, List.map_nil, hs, hx, hrun]
  exact h v' w' h2 h3 h4
theorem wpList_append_v {w : World} {ops : Array Oper} {rest : List Oper} {o : Oper} {a : Act} {Q : Exit → Act → World → Prop} (hgd : o.guard = none) (s x : Operand) {e t : TypeId} {z : Value} {bytes : Nat}
    (ht : Try.prog.underlying t = some (.slice e)) (hi0 : (Try.prog.info? e).map (fun i => (i.zero, i.size, i.bytes)) = some (some z, 1, bytes)) (hzc : z.cells.size = 1)
    (ho : o.op = .call { callee := .builtin .append, args := #[s, x], argTypes := #[t, t] })
    {base : Nat} {v : Value} {n : Nat} {xs : List Value} (hs : a.eval s = v) (hown : Own w base e v n xs) {B : Nat} {A : Option Addr} {m c : Nat} {ys : List Value} (hx : a.eval x = .slice A m c) (hy : Reads w B A m ys) (h1 : ∀ u ∈ ys, u.oneCell' = true)
    (hmx : n + m ≤ maxLen) (hb : (n + m) * bytes ≤ 140737488355328) (hbase : base ≤ w.heap.size)
    (h : ∀ v' w', Hid (Own w' base e v' (n + m) (xs ++ ys)) → Hid (w.grownBy w' v.ownBlock) → Hid (v'.ownBlock = v.ownBlock ∨ v'.ownBlock = some w.heap.size) → wpList Try.prog ops Q rest (a.put o.dst v') w') : wpList Try.prog ops Q (o :: rest) a w :=
  wpList_plain hgd fun _ hK => wp_append_v s x ht hi0 hzc ho hs hown hx hy h1 hmx hb hbase fun v' w' h2 h3 h4 => hK _ _ (h v' w' h2 h3 h4)

/-- of what was there before the call nothing has turned behind an append onto the call's own row -/
theorem Own.below {B : Nat} {a w w' : World} {base : Nat} {e : TypeId} {v : Value} {n : Nat} {xs : List Value} (hb : Below B a w) (h : Own w base e v n xs) (hg : w.grownBy w' v.ownBlock) (hB : B ≤ w.heap.size) (hB' : B ≤ base) : Below B a w' := by
  refine hb.grown hg hB fun k hk => ?_
  rcases h.1.2 with ⟨rfl, _⟩ | ⟨g, cap, cur, rfl, hg', _⟩
  · cases hk
  · have : g = k := by simpa [Value.ownBlock] using hk
    omega

/-- the same law, with what it leaves of the memory that was there before the call -/
theorem wpList_append_b {w : World} {ops : Array Oper} {rest : List Oper} {o : Oper} {a : Act} {Q : Exit → Act → World → Prop} (hgd : o.guard = none) (s x : Operand) {e t : TypeId} {z : Value} {bytes : Nat}
    (ht : Try.prog.underlying t = some (.slice e)) (hi0 : (Try.prog.info? e).map (fun i => (i.zero, i.size, i.bytes)) = some (some z, 1, bytes)) (hzc : z.cells.size = 1)
    (ho : o.op = .call { callee := .builtin .append, args := #[s, x], argTypes := #[t, t] })
    {base : Nat} {v : Value} {n : Nat} {xs : List Value} (hown : Own w base e v n xs) (hs : a.eval s = v) {B : Nat} {A : Option Addr} {m c : Nat} {ys : List Value} (hy : Reads w B A m ys) (hx : a.eval x = .slice A m c) (h1 : ∀ u ∈ ys, u.oneCell' = true)
    (hmx : n + m ≤ maxLen) (hb : (n + m) * bytes ≤ 140737488355328) {w0 : World} {B0 : Nat} (hbel : Below B0 w0 w) (hB0 : B0 ≤ w.heap.size) (hbase : base ≤ w.heap.size) (hB1 : B0 ≤ base)
    (h : ∀ v' w', Hid (Own w' base e v' (n + m) (xs ++ ys)) → Below B0 w0 w' → w.heap.size ≤ w'.heap.size → Hid (w.grownBy w' v.ownBlock) → wpList Try.prog ops Q rest (a.put o.dst v') w') : wpList Try.prog ops Q (o :: rest) a w :=
  wpList_append_v hgd s x ht hi0 hzc ho hs hown hx hy h1 hmx hb hbase fun v' w' h2 h3 _ => h v' w' h2 (hown.below hbel h3.out hB0 hB1) h3.out.size h3
/-- the same where the operation is guarded and the guard lets it -/
theorem wpList_append_bg {w : World} {ops : Array Oper} {rest : List Oper} {o : Oper} {a : Act} {Q : Exit → Act → World → Prop} (hgd : Region.wanted o (yielded ops a.tmps) = true) (s x : Operand) {e t : TypeId} {z : Value} {bytes : Nat}
    (ht : Try.prog.underlying t = some (.slice e)) (hi0 : (Try.prog.info? e).map (fun i => (i.zero, i.size, i.bytes)) = some (some z, 1, bytes)) (hzc : z.cells.size = 1)
    (ho : o.op = .call { callee := .builtin .append, args := #[s, x], argTypes := #[t, t] })
    {base : Nat} {v : Value} {n : Nat} {xs : List Value} (hown : Own w base e v n xs) (hs : a.eval s = v) {B : Nat} {A : Option Addr} {m c : Nat} {ys : List Value} (hy : Reads w B A m ys) (hx : a.eval x = .slice A m c) (h1 : ∀ u ∈ ys, u.oneCell' = true)
    (hmx : n + m ≤ maxLen) (hb : (n + m) * bytes ≤ 140737488355328) {w0 : World} {B0 : Nat} (hbel : Below B0 w0 w) (hB0 : B0 ≤ w.heap.size) (hbase : base ≤ w.heap.size) (hB1 : B0 ≤ base)
    (h : ∀ v' w', Hid (Own w' base e v' (n + m) (xs ++ ys)) → Below B0 w0 w' → w.heap.size ≤ w'.heap.size → Hid (w.grownBy w' v.ownBlock) → wpList Try.prog ops Q rest (a.put o.dst v') w') : wpList Try.prog ops Q (o :: rest) a w :=
  wpList_step fun _ hK => by rw [if_pos hgd]; exact wp_append_v s x ht hi0 hzc ho hs hown hx hy h1 hmx hb hbase fun v' w' h2 h3 _ => hK _ _ (h v' w' h2 (hown.below hbel h3.out hB0 hB1) h3.out.size h3)

theorem Own.alloc {w : World} {base n : Nat} {e : TypeId} {v : Value} {vs : List Value} (h : Own w base e v n vs) (o : Obj) : Own (w.alloc o) base e v n vs := h.same fun g _ hg => Below.heap_alloc w o g hg

theorem new4 (w : World) (t : TypeId) (a b c d : Value) : Reads (w.alloc (.cells #[a, b, c, d] t)) (w.heap.size + 1) (some ⟨w.heap.size, 0, none⟩) 4 [a, b, c, d] := by
  have h := (Blk.new w t [a, b, c, d]).reads (n := 4) (by simp) (by unfold maxLen; omega)
  simpa using h
theorem ints_one {k : IntKind} {a b c d : Int} : ∀ u ∈ [Value.int k a, .int k b, .int k c, .int k d], u.oneCell' = true := by
  intro u hu
  simp only [List.mem_cons, List.not_mem_nil, or_false] at hu
  rcases hu with rfl | rfl | rfl | rfl <;> rfl

theorem below_drewN {B : Nat} {a w : World} (h : Below B a w) (d : Nat) : Below B a (w.drewN d) := ⟨h.os, h.tape, h.output, h.size, h.block⟩
theorem Own.of_row {w : World} {base g : Nat} {e : TypeId} {vs : List Value} (h : w.heap[g]? = some (.cells vs.toArray e (0, 0))) (hb : base ≤ g) (hm : vs.length ≤ maxLen) : Own w base e (.slice (some ⟨g, 0, none⟩) vs.length vs.length) vs.length vs :=
  ⟨⟨by omega, .inr ⟨g, vs.length, vs.toArray, rfl, hb, h, Nat.le_refl _, hm, by simp, by simp⟩⟩, hm⟩
theorem Reads.src {w : World} {B n : Nat} {A : Option Addr} {vs : List Value} (h : Reads w B A n vs) (hp : 0 < vs.length) : ∃ ad, A = some ad ∧ ∀ j v, vs[j]? = some v → w.cell? (ad.add j) = some v := by
  obtain ⟨b, off, e, _, hc⟩ := h.2.2 (by have := h.1; omega)
  exact ⟨_, e, fun j v hv => by rw [add_at]; exact hc j v hv⟩
theorem splice_all (zs : Array Value) (vs : List Value) (n : Nat) (hn : vs.length = n) : splice (madeCells zs n).toList 0 vs = vs := by
  unfold splice
  rw [List.take_zero, List.nil_append, Nat.zero_add, List.drop_of_length_le (by rw [Array.length_toList, size_madeCells]; omega), List.append_nil]
theorem sizeByte : (Try.prog.info? 5).map (·.size) = some 1 := by kernel_rfl

/-- a literal of bytes -/
def Lits (W : World) (g : Nat) : Nat → List UInt8 → Prop
  | _, [] => True
  | k, x :: r => W.cell? ⟨g, k, none⟩ = some (.int .u8 (x.toNat : Int)) ∧ Lits W g (k + 1) r
theorem Lits.at_ {W : World} {g k : Nat} {xs : List UInt8} (h : Lits W g k xs) (j : Nat) (u : UInt8) (hu : xs[j]? = some u) : W.cell? ⟨g, k + j, none⟩ = some (.int .u8 (u.toNat : Int)) := by
  induction xs generalizing k j with
  | nil => cases hu
  | cons x r ih =>
    match j, hu with
    | 0, hu => simp at hu; subst hu; exact h.1
    | j + 1, hu =>
      have := ih h.2 j (by simpa using hu)
      rw [show k + (j + 1) = k + 1 + j by omega]
      exact this
theorem Lits.bytes {W : World} {g : Nat} {xs : List UInt8} {n : Nat} (h : Lits W g 0 xs) (hl : xs.length = n) (hn : n ≤ 64) {B : Nat} (hB : g < B) : Bytes W B (some ⟨g, 0, none⟩) n xs := by
  subst hl
  refine ⟨bytesV_len xs, by unfold maxLen; omega, fun _ => ⟨g, 0, rfl, hB, fun k u hu => ?_⟩⟩
  obtain ⟨x, hx, rfl⟩ := bytesV_get hu
  exact h.at_ k x hx

theorem cell_marked {X : World} {C : Array Value} {t : TypeId} {fr : Nat × Nat} {g k : Nat} {v : Value} (hg : X.heap.size = g) (hk : C[k]? = some v) : (X.alloc (.cells C t fr)).cell? ⟨g, k, none⟩ = some v := by
  subst hg
  rw [cell_of_row (X.alloc (.cells C t fr)) X.heap.size k C t fr (heap_alloc_new X _)]
  exact hk

theorem infoByte : (Try.prog.info? 5).map (fun i => (i.zero, i.size, i.bytes)) = some (some (.int .u8 0), 1, 1) := by kernel_rfl

#print axioms wpList_append_v
end Go.Proofs.Ytjkahookgoecpaa.Mem
