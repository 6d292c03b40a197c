/-
  draybook.Book for ints: its marks; Apart: its contract.
-/
import Derived.Test.YtkgdaelaidlhlaaIBookStays
namespace Go.Proofs.Ytkgdaelaidlhlaa.IBook
open Go.ChangeShapes Go.WideShapes Go.ChangeAt Go.RowKit Go.Proofs.Ytkgdaelaidlhlaa.Mem Go.Proofs.Ytkgdaelaidlhlaa.MemI

/-- the mark of place j of list i -/
def mk (i _j : Nat) : Int := -1000 - (i : Int)

theorem mark_any (i j : Nat) (w : World) (hi : i ≤ 4000) (_hj : j ≤ 9223372036854775807) :
    Calls Try.prog 27 #[.int .i64 i, .int .i64 j] w fun e w' => e = .returned (.int .i64 (mk i j)) ∧ w = w' := by
  go_enter Try.func27, Try.ntmps27
  go_wp2
  go_ret
  exact ⟨ret_i rfl, rfl⟩

/-- the lists' rows; those of the lists ahead of k, and of list k the first j places, hold their marks -/
def Marked (u : World) (B0 : Nat) (es : List (Value × List Int)) (k j : Nat) : Prop :=
  ∀ t p, es[t]? = some p → ∃ A n c, p.1 = .slice A n c ∧ n ≤ c ∧ c ≤ maxLen ∧ (0 < c → ∃ g cur, A = some ⟨g, 0, none⟩ ∧ B0 ≤ g ∧ Blk u g 3 cur ∧ cur.length = c ∧ ∀ s, s < c → (t < k ∨ t = k ∧ s < j) → cur[s]? = some (.int .i64 (mk t s)))
def Apart (es : List (Value × List Int)) : Prop := ∀ (s t : Nat) (p q : Value × List Int), s ≠ t → es[s]? = some p → es[t]? = some q → ∀ g, p.1.ownBlock = some g → q.1.ownBlock ≠ some g

theorem Ents.apart {w : World} {B0 : Nat} {es : List (Value × List Int)} {cs : List Value} (h : Ents w B0 es cs) : Apart es := by
  have key : ∀ (es : List (Value × List Int)) (cs : List Value), Ents w B0 es cs → ∀ (s t : Nat) (p q : Value × List Int), s < t → es[s]? = some p → es[t]? = some q → ∀ g, p.1.ownBlock = some g → q.1.ownBlock ≠ some g := by
    intro es
    induction es with
    | nil => intro cs _ s t p q _ hp; cases hp
    | cons r es ih =>
      intro cs h s t p q hst hp hq
      match r, cs, s, t, h, hp, hq, hst with
      | (v, xs), cv :: cs, 0, t + 1, h, hp, hq, _ =>
        have : (v, xs) = p := by simpa using hp
        subst this
        exact fun g hg => h.2.2.1 q (List.mem_of_getElem? (by simpa using hq)) g hg
      | (v, xs), cv :: cs, s + 1, t + 1, h, hp, hq, hst => exact ih cs h.2.2.2 s t p q (by omega) (by simpa using hp) (by simpa using hq)
  intro s t p q hne hp hq g hg hg2
  rcases Nat.lt_or_gt_of_ne hne with hlt | hgt
  · exact key es cs h s t p q hlt hp hq g hg hg2
  · exact key es cs h t s q p hgt hq hp g hg2 hg
theorem Ents.marked {w : World} {B0 : Nat} {es : List (Value × List Int)} {cs : List Value} (h : Ents w B0 es cs) : Marked w B0 es 0 0 := by
  intro t p hp
  obtain ⟨_, _, ⟨⟨_, ho⟩, hm⟩, _⟩ := h.at_ hp
  rcases ho with ⟨e, _⟩ | ⟨g, cap, cur, e, hg, hh, hnc, hcm, hcs, _⟩
  · exact ⟨none, 0, 0, e, Nat.le_refl _, Nat.zero_le _, fun h => absurd h (by omega)⟩
  · exact ⟨_, _, cap, e, hnc, hcm, fun _ => ⟨g, cur.toList, rfl, hg, hh, by rw [Array.length_toList, hcs, Nat.mul_one], fun s _ h => by omega⟩⟩
theorem Marked.same {u u' : World} {B0 k j : Nat} {es : List (Value × List Int)} (h : Marked u B0 es k j) (hs : ∀ g cs, Blk u g 3 cs → u'.heap[g]? = u.heap[g]?) : Marked u' B0 es k j := by
  intro t p hp
  obtain ⟨A, n, c, e, h1, h2, h3⟩ := h t p hp
  refine ⟨A, n, c, e, h1, h2, fun hc => ?_⟩
  obtain ⟨g, cur, e', h4, h5, h6⟩ := h3 hc
  exact ⟨g, cur, e', h4, (hs g cur h5).trans h5, h6⟩
theorem Marked.next {u : World} {B0 k c n : Nat} {A : Option Addr} {xs : List Int} {es : List (Value × List Int)} (h : Marked u B0 es k c) (hk : es[k]? = some (.slice A n c, xs)) : Marked u B0 es (k + 1) 0 := by
  intro t p hp
  obtain ⟨A', n', c', e, h1, h2, h3⟩ := h t p hp
  refine ⟨A', n', c', e, h1, h2, fun hc => ?_⟩
  obtain ⟨g, cur, e', h4, h5, h6, h7⟩ := h3 hc
  refine ⟨g, cur, e', h4, h5, h6, fun s hs hor => h7 s hs ?_⟩
  by_cases ht : t < k
  · exact .inl ht
  · have : t = k := by omega
    subst this
    rw [hk] at hp
    injection hp with hp
    subst hp
    injection e with _ _ e
    exact .inr ⟨rfl, by omega⟩
/-- one more place marked -/
theorem Marked.put {u : World} {B0 k j c n : Nat} {A : Option Addr} {xs : List Int} {es : List (Value × List Int)} (h : Marked u B0 es k j) (ha : Apart es) (hk : es[k]? = some (.slice A n c, xs)) (hj : j < c) :
    ∃ g x, A = some ⟨g, 0, none⟩ ∧ B0 ≤ g ∧ (∃ cur, Blk u g 3 cur) ∧ u.cell? ⟨g, j, none⟩ = some x ∧ u.frozen? ⟨g, j, none⟩ = false ∧ Marked (u.setCell ⟨g, j, none⟩ (.int .i64 (mk k j))) B0 es k (j + 1) := by
  obtain ⟨A', n', c', e, h1, h2, h3⟩ := h k _ hk
  injection e with e1 e2 e3
  subst e1
  subst e3
  obtain ⟨g, cur, rfl, h4, h5, h6, h7⟩ := h3 (by omega)
  refine ⟨g, cur[j], rfl, h4, ⟨cur, h5⟩, h5.cell (List.getElem?_eq_getElem (by omega)), h5.free j, ?_⟩
  intro t p hp
  obtain ⟨A2, n2, c2, e, q1, q2, q3⟩ := h t p hp
  refine ⟨A2, n2, c2, e, q1, q2, fun hc => ?_⟩
  obtain ⟨g2, cur2, rfl, q4, q5, q6, q7⟩ := q3 hc
  by_cases ht : t = k
  · subst ht
    rw [hk] at hp
    injection hp with hp
    subst hp
    injection e with e1 e2 e3
    injection e1 with e1
    injection e1 with e1
    subst e1
    subst e3
    have hcc : cur2 = cur := by
      unfold Blk at q5 h5
      rw [q5] at h5
      injection h5 with h5
      injection h5 with h5
      exact Array.toList_inj.2 h5 |> fun e => by simpa using e
    subst hcc
    refine ⟨g, _, rfl, q4, h5.put j _, by rw [List.length_set]; exact q6, fun s hs hor => ?_⟩
    by_cases hsj : s = j
    · subst hsj
      rw [List.getElem?_set_self (by omega)]
    · rw [List.getElem?_set_ne (fun e => hsj e.symm)]
      exact q7 s hs (by omega)
  · have hne : g2 ≠ g := fun e' => by
      subst e'
      exact ha t k p _ ht hp hk g2 (by rw [e]; rfl) rfl
    exact ⟨g2, cur2, rfl, q4, (Below.heap_setCell u _ _ g2 hne).trans q5, q6, fun s hs hor => q7 s hs (by omega)⟩
theorem Marked.read {u : World} {B0 m k j c n : Nat} {A : Option Addr} {xs : List Int} {es : List (Value × List Int)} (h : Marked u B0 es m 0) (hkm : k < m) (hk : es[k]? = some (.slice A n c, xs)) (hj : j < c) :
    ∃ g, A = some ⟨g, 0, none⟩ ∧ u.cell? ⟨g, j, none⟩ = some (.int .i64 (mk k j)) := by
  obtain ⟨A', n', c', e, h1, h2, h3⟩ := h k _ hk
  injection e with e1 e2 e3
  subst e1
  subst e3
  obtain ⟨g, cur, rfl, h4, h5, h6, h7⟩ := h3 (by omega)
  exact ⟨g, rfl, h5.cell (h7 j hj (.inl hkm))⟩
theorem St.mark {w : World} {B0 bk g j : Nat} {lv wv x : Value} {held : Int} {bad : Bool} {ls cs cur : List Value} (h : St w B0 bk lv wv held bad ls cs) (hg : Blk w g 3 cur) : St (w.setCell ⟨g, j, none⟩ x) B0 bk lv wv held bad ls cs := by
  refine ⟨(Below.heap_setCell w _ x bk (Blk_ne h.1 hg (by decide))).trans h.1, h.2.1, h.2.2.1.same fun k hk => ?_, h.2.2.2.1.same fun k hk => ?_, h.2.2.2.2⟩
  · obtain ⟨_, _, ys, hy⟩ := h.2.2.1.lt k hk
    exact Below.heap_setCell w _ x k (Blk_ne hy hg (by decide))
  · obtain ⟨_, _, ys, hy⟩ := h.2.2.2.1.lt k hk
    exact Below.heap_setCell w _ x k (Blk_ne hy hg (by decide))

#print axioms Marked.put
end Go.Proofs.Ytkgdaelaidlhlaa.IBook
