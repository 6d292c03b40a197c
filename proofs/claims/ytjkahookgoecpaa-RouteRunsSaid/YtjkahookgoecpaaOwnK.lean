/-
  Memory of the call's own: rows whose elements take several cells each, append onto them.
-/
import Derived.Test.YtjkahookgoecpaaRecs
namespace Go.Proofs.Ytjkahookgoecpaa.Mem
open Go.ChangeShapes Go.WideShapes Go.ChangeAt Go.RowKit

/-- the slice v is the call's own (its row is block base or a later one), its n elements of k cells each read as the cells vs -/
def OwnK (w : World) (base : Nat) (e : TypeId) (k : Nat) (v : Value) (n : Nat) (vs : List Value) : Prop := w.ownsRow base e k v n vs ∧ n ≤ maxLen
/-- the call made a list of these elements -/
def MakesK (w : World) (e : TypeId) (k n : Nat) (vs : List Value) (en : Ending) (w' : World) : Prop := ∃ v, en = .returned v ∧ Below w.heap.size w w' ∧ OwnK w' w.heap.size e k v n vs
section
variable {w w' : World} {base k n : Nat} {e : TypeId} {v : Value} {vs : List Value}
theorem OwnK.read (h : OwnK w base e k v n vs) : ∃ A c, v = .slice A n c ∧ n ≤ c ∧ Recs w w.heap.size A n k vs := by
  obtain ⟨⟨hl, h⟩, hm⟩ := h
  rcases h with ⟨rfl, rfl⟩ | ⟨g, cap, cur, rfl, hg, hh, hnc, hcm, hcs, htk⟩
  · exact ⟨none, 0, rfl, Nat.le_refl _, hl, hm, fun h => absurd h (by omega)⟩
  · refine ⟨_, _, rfl, hnc, hl, hm, fun hp => ⟨g, 0, rfl, ?_, fun j u hu => ?_⟩⟩
    · rcases Nat.lt_or_ge g w.heap.size with hlt | hge
      · exact hlt
      · rw [Array.getElem?_eq_none hge] at hh; cases hh
    · have e' := cell_of_row w g (0 + j) cur e (0, 0) hh
      rw [e', Nat.zero_add]
      rw [← htk, List.getElem?_take] at hu
      split at hu
      · simpa using hu
      · cases hu
theorem OwnK.nil (w : World) (base : Nat) (e : TypeId) (k : Nat) : OwnK w base e k (.slice none 0 0) 0 [] := ⟨⟨by simp, .inl ⟨rfl, rfl⟩⟩, Nat.zero_le _⟩
theorem OwnK.lower {b' : Nat} (h : OwnK w base e k v n vs) (hb : b' ≤ base) : OwnK w b' e k v n vs := by
  obtain ⟨⟨hl, h⟩, hm⟩ := h
  refine ⟨⟨hl, ?_⟩, hm⟩
  rcases h with h | ⟨g, cap, cur, rfl, hg, hr⟩
  · exact .inl h
  · exact .inr ⟨g, cap, cur, rfl, by omega, hr⟩
theorem OwnK.same (h : OwnK w base e k v n vs) (hk : ∀ g, base ≤ g → g < w.heap.size → w'.heap[g]? = w.heap[g]?) : OwnK w' base e k v n vs := by
  obtain ⟨⟨hl, h⟩, hm⟩ := h
  refine ⟨⟨hl, ?_⟩, hm⟩
  rcases h with h | ⟨g, cap, cur, rfl, hg, hh, hr⟩
  · exact .inl h
  · have hlt : g < w.heap.size := by
      rcases Nat.lt_or_ge g w.heap.size with hlt | hge
      · exact hlt
      · rw [Array.getElem?_eq_none hge] at hh; cases hh
    exact .inr ⟨g, cap, cur, rfl, hg, (hk g hg hlt).trans hh, hr⟩
theorem OwnK.keep {B : Nat} (h : OwnK w base e k v n vs) (hb : Below B w w') (hB : w.heap.size ≤ B) : OwnK w' base e k v n vs := h.same fun g _ hg => hb.block g (by omega)
theorem OwnK.alloc (h : OwnK w base e k v n vs) (o : Obj) : OwnK (w.alloc o) base e k v n vs := h.same fun g _ hg => Below.heap_alloc w o g hg
theorem OwnK.drewN (h : OwnK w base e k v n vs) (d : Nat) : OwnK (w.drewN d) base e k v n vs := h.same fun _ _ _ => rfl
theorem OwnK.below {B : Nat} {a : World} (hb : Below B a w) (h : OwnK w base e k v n vs) (hg : w.grownBy w' v.ownBlock) (hB : B ≤ w.heap.size) (hB' : B ≤ base) : Below B a w' := by
  refine hb.grown hg hB fun q hq => ?_
  rcases h.1.2 with ⟨rfl, _⟩ | ⟨g, cap, cur, rfl, hg', _⟩
  · cases hq
  · have : g = q := by simpa [Value.ownBlock] using hq
    omega
theorem OwnK.len (h : OwnK w base e k v n vs) : vs.length = n * k := h.1.1
theorem OwnK.slice (h : OwnK w base e k v n vs) : ∃ A c, v = .slice A n c := by
  rcases h.1.2 with ⟨rfl, rfl⟩ | ⟨g, cap, cur, rfl, _⟩
  · exact ⟨_, _, rfl⟩
  · exact ⟨_, _, rfl⟩
end

/-- one element, that lies in a block of its own, appended -/
theorem run_append_k {w : World} {base : Nat} {e t : TypeId} {z : Value} {bytes k : Nat} {v : Value} {n : Nat} {xs : List Value} (ty : TypeId) (ht : Try.prog.underlying t = some (.slice e))
    (hi0 : (Try.prog.info? e).map (fun i => (i.zero, i.size, i.bytes)) = some (some z, k, bytes)) (hzc : z.cells.size = k) (hk : 0 < k)
    (h : OwnK w base e k v n xs) {g : Nat} {u : TypeId} (c : Nat) {ys : List Value} (hy : Blk w g u ys) (hyl : ys.length = k) (h1 : ∀ u ∈ ys, u.oneCell' = true)
    (hmx : n + 1 ≤ maxLen) (hb : (n + 1) * bytes ≤ 140737488355328) (hbase : base ≤ w.heap.size) :
    ∃ v' w', (Builtin.append_ #[t, t] ty #[v, .slice (some ⟨g, 0, none⟩) 1 c]).run Try.prog w = .ok v' w' ∧ OwnK w' base e k v' (n + 1) (xs ++ ys) ∧ w.grownBy w' v.ownBlock := by
  obtain ⟨hown, hm⟩ := h
  obtain ⟨i, hi, hz0, hz1, hz2⟩ := info_parts hi0
  obtain ⟨v', w', hrun, h2, h3, _, _⟩ := run_append_own_at (P := Try.prog) w base t ty e i z k bytes ht hi hz0 hz1 hz2 hzc hk v n xs hown ⟨g, 0, none⟩ 1 c ys (by rw [hyl]; omega) (fun j q hq => by rw [add_at, Nat.zero_add]; exact hy.cell hq) h1 hmx hb hbase
  exact ⟨v', w', hrun, ⟨h2, hmx⟩, h3⟩
theorem wp_append_k {w : World} {o : Oper} {a : Act} {K : Act → World → Prop} {Q : Exit → Act → World → Prop} (s x : Operand) {e t : TypeId} {z : Value} {bytes k : Nat}
    (ht : Try.prog.underlying t = some (.slice e)) (hi0 : (Try.prog.info? e).map (fun i => (i.zero, i.size, i.bytes)) = some (some z, k, bytes)) (hzc : z.cells.size = k) (hk : 0 < k)
    (ho : o.op = .call { callee := .builtin .append, args := #[s, x], argTypes := #[t, t] })
    {base : Nat} {v : Value} {n : Nat} {xs : List Value} (hs : a.eval s = v) (hown : OwnK w base e k v n xs) {g c : Nat} {u : TypeId} {ys : List Value} (hx : a.eval x = .slice (some ⟨g, 0, none⟩) 1 c) (hy : Blk w g u ys) (hyl : ys.length = k) (h1 : ∀ u ∈ ys, u.oneCell' = true)
    (hmx : n + 1 ≤ maxLen) (hb : (n + 1) * bytes ≤ 140737488355328) (hbase : base ≤ w.heap.size)
    (h : ∀ v' w', Hid (OwnK w' base e k v' (n + 1) (xs ++ ys)) → Hid (w.grownBy w' v.ownBlock) → K (a.put o.dst v') w') : o.wp Try.prog a w K Q := by
  obtain ⟨v', w', hrun, h2, h3⟩ := run_append_k o.type ht hi0 hzc hk hown c hy hyl h1 hmx hb hbase
  unfold Oper.wp execOp
  simp only [ho, resolve, invoke, builtin, Sem.run_bind, Sem.run_pure, Result.andThen_ok, List.map_toArray, List.map_cons, List.map_nil, hs, hx, hrun]
  exact h v' w' h2 h3
/-- the law for the walk, with what it leaves of the memory that was there before the call -/
theorem wpList_append_k {w : World} {ops : Array Oper} {rest : List Oper} {o : Oper} {a : Act} {Q : Exit → Act → World → Prop} (hgd : o.guard = none) (s x : Operand) {e t : TypeId} {z : Value} {bytes k : Nat}
    (ht : Try.prog.underlying t = some (.slice e)) (hi0 : (Try.prog.info? e).map (fun i => (i.zero, i.size, i.bytes)) = some (some z, k, bytes)) (hzc : z.cells.size = k) (hk : 0 < k)
    (ho : o.op = .call { callee := .builtin .append, args := #[s, x], argTypes := #[t, t] })
    {base : Nat} {v : Value} {n : Nat} {xs : List Value} (hown : OwnK w base e k v n xs) (hs : a.eval s = v) {g c : Nat} {u : TypeId} {ys : List Value} (hy : Blk w g u ys) (hx : a.eval x = .slice (some ⟨g, 0, none⟩) 1 c) (hyl : ys.length = k) (h1 : ∀ u ∈ ys, u.oneCell' = true)
    (hmx : n + 1 ≤ maxLen) (hb : (n + 1) * bytes ≤ 140737488355328) {w0 : World} {B0 : Nat} (hbel : Below B0 w0 w) (hB0 : B0 ≤ w.heap.size) (hbase : base ≤ w.heap.size) (hB1 : B0 ≤ base)
    (h : ∀ v' w', Hid (OwnK w' base e k v' (n + 1) (xs ++ ys)) → Hid (Below B0 w0 w') → Hid (w.grownBy w' v.ownBlock) → wpList Try.prog ops Q rest (a.put o.dst v') w') : wpList Try.prog ops Q (o :: rest) a w :=
  wpList_plain hgd fun _ hK => wp_append_k s x ht hi0 hzc hk ho hs hown hx hy hyl h1 hmx hb hbase fun v' w' h2 h3 => hK _ _ (h v' w' h2 (hown.below hbel h3.out hB0 hB1) h3)
/-- the same inside a region that draws -/
theorem step_append_k {w : World} {ops : Array Oper} {o : Oper} {a : Act} {K : Act → World → Prop} {Q : Exit → Act → World → Prop} {E : Prop} (hgd : o.guard = none) (s x : Operand) {e t : TypeId} {z : Value} {bytes k : Nat}
    (ht : Try.prog.underlying t = some (.slice e)) (hi0 : (Try.prog.info? e).map (fun i => (i.zero, i.size, i.bytes)) = some (some z, k, bytes)) (hzc : z.cells.size = k) (hk : 0 < k)
    (ho : o.op = .call { callee := .builtin .append, args := #[s, x], argTypes := #[t, t] })
    {base : Nat} {v : Value} {n : Nat} {xs : List Value} (hown : OwnK w base e k v n xs) (hs : a.eval s = v) {g c : Nat} {u : TypeId} {ys : List Value} (hy : Blk w g u ys) (hx : a.eval x = .slice (some ⟨g, 0, none⟩) 1 c) (hyl : ys.length = k) (h1 : ∀ u ∈ ys, u.oneCell' = true)
    (hmx : n + 1 ≤ maxLen) (hb : (n + 1) * bytes ≤ 140737488355328) {w0 : World} {B0 : Nat} (hbel : Below B0 w0 w) (hB0 : B0 ≤ w.heap.size) (hbase : base ≤ w.heap.size) (hB1 : B0 ≤ base)
    (h : ∀ v' w', Hid (OwnK w' base e k v' (n + 1) (xs ++ ys)) → Hid (Below B0 w0 w') → Hid (w.grownBy w' v.ownBlock) → K (a.put o.dst v') w') :
    if Region.wanted o (yielded ops a.tmps) = true then Oper.wp Try.prog o a w K Q else E := by
  have hw : Region.wanted o (yielded ops a.tmps) = true := by simp [Region.wanted, hgd]
  rw [if_pos hw]
  exact wp_append_k s x ht hi0 hzc hk ho hs hown hx hy hyl h1 hmx hb hbase fun v' w' h2 h3 => h v' w' h2 (hown.below hbel h3.out hB0 hB1) h3

#print axioms wpList_append_k
end Go.Proofs.Ytjkahookgoecpaa.Mem
