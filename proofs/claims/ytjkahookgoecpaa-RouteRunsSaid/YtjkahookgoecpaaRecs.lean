/-
  Words for memory: a slice whose elements take several cells each.
-/
import Derived.Test.YtjkahookgoecpaaMemApp
namespace Go.Proofs.Ytjkahookgoecpaa.Mem
open Go.ChangeShapes Go.WideShapes Go.ChangeAt Go.RowKit

/-- the slice at A, of n elements of k cells each, reads as the cells vs, one element behind the other; it lies below block B -/
def Recs (w : World) (B : Nat) (A : Option Addr) (n k : Nat) (vs : List Value) : Prop :=
  vs.length = n * k ∧ n ≤ maxLen ∧ (0 < n → ∃ b off, A = some ⟨b, off, none⟩ ∧ b < B ∧ ∀ j u, vs[j]? = some u → w.cell? ⟨b, off + j, none⟩ = some u)
section
variable {w w' : World} {B B' n k : Nat} {A : Option Addr} {vs : List Value}
theorem Recs.le (h : Recs w B A n k vs) : n ≤ 9223372036854775807 := by have := h.2.1; unfold maxLen at this; omega
theorem Recs.none_ : Recs w B A 0 k [] := ⟨by simp, Nat.zero_le _, fun h => absurd h (by omega)⟩
theorem Recs.same (h : Recs w B A n k vs) (hk : ∀ p : Addr, p.block < B → w'.cell? p = w.cell? p) : Recs w' B A n k vs := by
  obtain ⟨h1, h2, h3⟩ := h
  refine ⟨h1, h2, fun hn => ?_⟩
  obtain ⟨b, off, e, hlt, hc⟩ := h3 hn
  exact ⟨b, off, e, hlt, fun j u hu => (hk ⟨b, off + j, none⟩ hlt).trans (hc j u hu)⟩
theorem Recs.keep (h : Recs w B A n k vs) (hb : Below B w w') : Recs w' B A n k vs := h.same fun _ hp => hb.cell hp
theorem Recs.more (h : Recs w B A n k vs) (hB : B ≤ B') : Recs w B' A n k vs := by
  obtain ⟨h1, h2, h3⟩ := h
  refine ⟨h1, h2, fun hn => ?_⟩
  obtain ⟨b, off, e, hlt, hc⟩ := h3 hn
  exact ⟨b, off, e, by omega, hc⟩
theorem Recs.drewN (h : Recs w B A n k vs) (d : Nat) : Recs (w.drewN d) B A n k vs := h
theorem Recs.alloc (h : Recs w B A n k vs) (hB : B ≤ w.heap.size) (o : Obj) : Recs (w.alloc o) B A n k vs := h.same fun p hp => World.cell?_alloc_lt w o p (by omega)
/-- the cells of one element -/
theorem Recs.at_ {i : Nat} (h : Recs w B A n k vs) (hi : i < n) : ∃ b off, A = some ⟨b, off, none⟩ ∧ b < B ∧ ∀ j u, vs[i * k + j]? = some u → w.cell? ⟨b, off + i * k + j, none⟩ = some u := by
  obtain ⟨b, off, e, hb, hc⟩ := h.2.2 (by omega)
  exact ⟨b, off, e, hb, fun j u hu => by rw [Nat.add_assoc]; exact hc _ u hu⟩
end
theorem Recs.src {w : World} {B n k : Nat} {A : Option Addr} {vs : List Value} (h : Recs w B A n k vs) (hn : 0 < n) : ∃ ad, A = some ad ∧ ∀ j v, vs[j]? = some v → w.cell? (ad.add j) = some v := by
  obtain ⟨b, off, e, _, hc⟩ := h.2.2 hn
  exact ⟨_, e, fun j v hv => by rw [add_at]; exact hc j v hv⟩
/-- copy of a whole slice of records into the beginning of a row that is known whole -/
theorem run_copy_k {w : World} {dT sT ty elem : TypeId} {g dLen dCap : Nat} {sp : Option Addr} {sLen sCap k B : Nat} {cur cs : List Value} {t : TypeId}
    (hu : Try.prog.underlying dT = some (.slice elem)) (hs : (Try.prog.info? elem).map (·.size) = some k) (hg : Blk w g t cur) (hle : sLen ≤ dLen) (hsrc : Recs w B sp sLen k cs) (hfit : cs.length ≤ cur.length) (h1 : ∀ v ∈ cs, v.oneCell' = true) :
    (Builtin.copy_ #[dT, sT] ty #[.slice (some ⟨g, 0, none⟩) dLen dCap, .slice sp sLen sCap]).run Try.prog w = .ok (goInt sLen) (w.setRow g (splice cur 0 cs).toArray) := by
  cases hq : Try.prog.info? elem with
  | none => rw [hq] at hs; simp at hs
  | some i =>
    have hi : i.size = k := by simpa [hq] using hs
    have hmin : Nat.min sLen dLen = sLen := Nat.min_eq_left hle
    rcases Nat.eq_zero_or_pos sLen with h0 | h0
    · subst h0
      have hcs : cs = [] := List.eq_nil_of_length_eq_zero (by rw [hsrc.1]; simp)
      subst hcs
      have hl : ∀ (x : Addr), (loadCells x 0).run Try.prog w = .ok #[] w := fun x => by simpa using run_loadCells_list (P := Try.prog) w x [] (by simp)
      have hst := run_storeCells_at Try.prog g 0 t [] 0 cur.toArray w hg (by simp) (by simp)
      cases sp <;> simp [Builtin.copy_, run_underlying hu, Builtin.lenOf, Builtin.firstCells, sizeOf, typeInfo, hq, hl, hst, splice]
    · obtain ⟨ad, rfl, hc⟩ := hsrc.src h0
      have hl := run_loadCells_list (P := Try.prog) w ad cs hc
      rw [hsrc.1] at hl
      have hst := run_storeCells_at Try.prog g 0 t cs 0 cur.toArray w hg (by simpa using hfit) h1
      simp [Builtin.copy_, run_underlying hu, Builtin.lenOf, Builtin.firstCells, sizeOf, typeInfo, hq, hi, hmin, hl, hst, splice]
theorem wpList_copy_k {w : World} {ops : Array Oper} {rest : List Oper} {o : Oper} {a : Act} {Q : Exit → Act → World → Prop} (hgd : o.guard = none) (d s : Operand) {dT sT elem : TypeId} {k : Nat}
    (ho : o.op = .call { callee := .builtin .copy, args := #[d, s], argTypes := #[dT, sT] }) (hu : Try.prog.underlying dT = some (.slice elem)) (hs : (Try.prog.info? elem).map (·.size) = some k)
    {g dLen dCap : Nat} {sp : Option Addr} {sLen sCap B : Nat} (hd : a.eval d = .slice (some ⟨g, 0, none⟩) dLen dCap) (hsv : a.eval s = .slice sp sLen sCap) {cur cs : List Value} {t : TypeId} (hg : Blk w g t cur) (hle : sLen ≤ dLen) (hsrc : Recs w B sp sLen k cs) (hfit : cs.length ≤ cur.length) (h1 : ∀ v ∈ cs, v.oneCell' = true)
    {B0 : Nat} {w0 : World} (hb : Below B0 w0 w) (hBg : B0 ≤ g)
    (h : ∀ w', Hid (Blk w' g t (splice cur 0 cs)) → Below B0 w0 w' → Hid (∀ j, j ≠ g → w'.heap[j]? = w.heap[j]?) → wpList Try.prog ops Q rest (a.put o.dst (goInt sLen)) w') : wpList Try.prog ops Q (o :: rest) a w := by
  refine wpList_plain hgd fun K hK => ?_
  have hrun := run_copy_k (sT := sT) (ty := o.type) (dCap := dCap) (sCap := sCap) hu hs hg hle hsrc hfit h1
  unfold Oper.wp
  simp [execOp, ho, resolve, invoke, builtin, hd, hsv, hrun, Result.andThen]
  exact hK _ _ (h _ (setRow_heap w g _ _ t _ hg) (below_setRow hb hBg _) fun j hj => setRow_other w g j _ hj)

/-- a list with room behind it, the marks standing up to k -/
def roomL {α : Type} (xs : List α) (m z : α) (k : Nat) : List α := xs ++ (List.replicate (k - xs.length) m ++ List.replicate (xs.length + 80 - k) z)
theorem roomL_len {α : Type} (xs : List α) (m z : α) (k : Nat) (h : xs.length ≤ k) (h' : k ≤ xs.length + 80) : (roomL xs m z k).length = xs.length + 80 := by
  simp [roomL]; omega
theorem roomL_set {α : Type} (xs : List α) (m z : α) (k : Nat) (h : xs.length ≤ k) (h' : k < xs.length + 80) : (roomL xs m z k).set k m = roomL xs m z (k + 1) := by
  obtain ⟨d, rfl⟩ : ∃ d, k = xs.length + d := ⟨k - xs.length, by omega⟩
  obtain ⟨c, hc⟩ : ∃ c, 80 - d = c + 1 := ⟨80 - d - 1, by omega⟩
  have e1 : xs.length + 80 - (xs.length + d) = c + 1 := by omega
  have e2 : xs.length + 80 - (xs.length + d + 1) = c := by omega
  have e3 : xs.length + d - xs.length = d := by omega
  have e4 : xs.length + d + 1 - xs.length = d + 1 := by omega
  simp only [roomL, e1, e2, e3, e4]
  rw [List.set_append_right _ _ (by omega)]
  congr 1
  rw [e3, List.set_append_right _ _ (by simp), List.length_replicate, Nat.sub_self, List.replicate_succ, List.set_cons_zero, List.replicate_succ' (n := d), List.append_assoc]
  rfl
theorem roomL_end {α : Type} (xs : List α) (m z : α) : roomL xs m z (xs.length + 80) = xs ++ List.replicate 80 m := by
  simp [roomL, Nat.add_sub_cancel_left]
theorem roomL_start {α : Type} (xs : List α) (m z : α) : roomL xs m z xs.length = xs ++ List.replicate 80 z := by
  simp [roomL, Nat.add_sub_cancel_left]

#print axioms Recs.at_
#print axioms wpList_copy_k
end Go.Proofs.Ytjkahookgoecpaa.Mem
