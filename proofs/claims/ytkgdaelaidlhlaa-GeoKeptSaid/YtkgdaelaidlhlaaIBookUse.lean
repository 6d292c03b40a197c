/-
  draybook.Book for ints, as the statements use it: a new book, lists kept one behind the other.
-/
import Derived.Test.YtkgdaelaidlhlaaIBookApart2
namespace Go.Proofs.Ytkgdaelaidlhlaa.IBook
open Go.ChangeShapes Go.WideShapes Go.ChangeAt Go.RowKit Go.Proofs.Ytkgdaelaidlhlaa.Mem Go.Proofs.Ytkgdaelaidlhlaa.MemI

theorem keep_val (w : World) (B0 bk : Nat) (es : List (Value × List Int)) (A : Option Addr) (n c : Nat) (xs : List Int) (hn : xs.length = n) (h : BookAt w B0 bk es) (hl : es.length ≤ 4000) (hB : B0 ≤ w.heap.size)
    (hv : Own w B0 3 (.slice A n c) n (intsV xs)) (hd : ∀ p ∈ es, ∀ g, p.1.ownBlock = some g → (Value.slice A n c).ownBlock ≠ some g) (hs : n * 8 ≤ 140737488355328) :
    Calls Try.prog 25 #[.pointer (some ⟨bk, 0, none⟩), .slice A n c] w (Kept w B0 bk (es ++ [(.slice A n c, xs)])) := by
  subst hn
  exact keep_any w B0 bk es A c xs h hl hB hv hd hs
theorem book_new (W : World) : BookAt (W.alloc (.cells #[.slice none 0 0, .slice none 0 0, .int .i64 0, .bool false] 49)) W.heap.size W.heap.size [] :=
  ⟨.slice none 0 0, .slice none 0 0, 0, [], ⟨Blk.new W _ _, Nat.le_refl _, Tail.nil _ _ _, Tail.nil _ _ _, fun g h => by cases h⟩, trivial⟩
theorem BookAt_moves {w w' : World} {B0 bk : Nat} {es : List (Value × List Int)} (h : BookAt w B0 bk es) (hb : Below w.heap.size w w') (hB : B0 ≤ w.heap.size) : BookAt w' B0 bk es := by
  obtain ⟨lv, wv, hd, cs, h1, h2⟩ := h
  exact ⟨lv, wv, hd, cs, h1.keep hb, h2.moves (Moves.of_below hb hB)⟩
theorem BookAt_drewN {w : World} {B0 bk : Nat} {es : List (Value × List Int)} (h : BookAt w B0 bk es) (d : Nat) : BookAt (w.drewN d) B0 bk es := by
  obtain ⟨lv, wv, hd, cs, h1, h2⟩ := h
  exact ⟨lv, wv, hd, cs, h1.keep (below_drewN (Below.refl _ _) d), h2.moves ((Moves.refl _ _).drewN d)⟩
/-- what Keep leaves, as the caller uses it -/
def KeptOf (w : World) (B0 bk : Nat) (es : List (Value × List Int)) (x : Value × List Int) (e : Ending) (w' : World) : Prop :=
  e = .returned (.tuple #[]) ∧ Moves B0 w w' ∧ ∃ es' m, BookAt w' B0 bk es' ∧ es'.length = m + 1 ∧ m + 1 ≤ 4000 ∧ ∀ p ∈ es', p ∈ es ∨ p = x
theorem keep_of (w : World) (B0 bk : Nat) (es : List (Value × List Int)) (A : Option Addr) (n c : Nat) (xs : List Int) (hn : xs.length = n) (h : BookAt w B0 bk es) (hl : es.length ≤ 4000) (hB : B0 ≤ w.heap.size)
    (hv : Own w B0 3 (.slice A n c) n (intsV xs)) (hd : ∀ p ∈ es, ∀ g, p.1.ownBlock = some g → (Value.slice A n c).ownBlock ≠ some g) (hs : n * 8 ≤ 140737488355328) :
    Calls Try.prog 25 #[.pointer (some ⟨bk, 0, none⟩), .slice A n c] w (KeptOf w B0 bk es (.slice A n c, xs)) := by
  refine (keep_val w B0 bk es A n c xs hn h hl hB hv hd hs).mono ?_
  rintro e w' ⟨he, hm, k, hk, hb, hl'⟩
  have hlen : ((es ++ [(Value.slice A n c, xs)]).drop k).length = (es ++ [(Value.slice A n c, xs)]).length - k - 1 + 1 := by rw [List.length_drop]; omega
  refine ⟨he, hm, _, _, hb, hlen, by omega, fun p hp => ?_⟩
  rcases List.mem_append.1 (List.mem_of_mem_drop hp) with h1 | h1
  · exact .inl h1
  · exact .inr (by simpa using h1)

/-- a slice of the call's own that lies from block a up to block b -/
def Between (v : Value) (a b : Nat) : Prop := ∀ g, v.ownBlock = some g → a ≤ g ∧ g < b
theorem Between.ne {v v' : Value} {a b a' b' : Nat} (h : Between v a b) (h' : Between v' a' b') (hb : b ≤ a') : ∀ g, v.ownBlock = some g → v'.ownBlock ≠ some g := fun g h1 h2 => by
  have := h g h1
  have := h' g h2
  omega


#print axioms keep_of
end Go.Proofs.Ytkgdaelaidlhlaa.IBook
