/-
  The plain mathematics of chapter 4: maps as lists of n * n times, the greatest even map that is nowhere above a given one, how steps through one place lead to it, in any order and in the order of Floyd and Warshall. No program is named here.
-/
import Derived.Below
namespace Go.Proofs.Ytjkahookgoecpaa.GeoMath

/-- the time from a to b -/
def T (n : Nat) (l : List Int) (a b : Nat) : Int := l.getD (a * n + b) 0
/-- n * n times, each from 0 to 1000000, none from a place to itself -/
structure IsMap (n : Nat) (l : List Int) : Prop where
  len : l.length = n * n
  lo : ∀ i, i < n * n → 0 ≤ l.getD i 0
  hi : ∀ i, i < n * n → l.getD i 0 ≤ 1000000
  diag : ∀ a, a < n → T n l a a = 0
/-- no way through one other place is shorter -/
def Tri (n : Nat) (l : List Int) : Prop := ∀ a, a < n → ∀ b, b < n → ∀ c, c < n → T n l a c ≤ T n l a b + T n l b c
instance (n : Nat) (l : List Int) : Decidable (Tri n l) := by unfold Tri; infer_instance
def evenB (n : Nat) (l : List Int) : Bool := decide (Tri n l)
/-- pointwise no greater -/
def Le (n : Nat) (d l : List Int) : Prop := ∀ i, i < n * n → d.getD i 0 ≤ l.getD i 0
/-- a map on the way from o to its closing -/
structure OnWay (n : Nat) (o l : List Int) : Prop where
  map : IsMap n l
  le : Le n l o
  above : ∀ d, d.length = n * n → Tri n d → Le n d o → Le n d l
/-- the closing of o -/
structure Least (n : Nat) (o l : List Int) : Prop where
  good : OnWay n o l
  tri : Tri n l

theorem idx_lt {n a b : Nat} (ha : a < n) (hb : b < n) : a * n + b < n * n := by
  have : (a + 1) * n ≤ n * n := Nat.mul_le_mul_right n ha
  rw [Nat.add_mul, Nat.one_mul] at this
  omega
theorem idx_inj {n a b a' b' : Nat} (hb : b < n) (hb' : b' < n) (h : a * n + b = a' * n + b') : a = a' ∧ b = b' := by
  have hn : 0 < n := by omega
  have h1 : (a * n + b) / n = a := by rw [Nat.mul_comm, Nat.mul_add_div hn, Nat.div_eq_of_lt hb, Nat.add_zero]
  have h2 : (a' * n + b') / n = a' := by rw [Nat.mul_comm, Nat.mul_add_div hn, Nat.div_eq_of_lt hb', Nat.add_zero]
  have h3 : a = a' := by rw [← h1, ← h2, h]
  subst h3
  exact ⟨rfl, by omega⟩
theorem idx_of {n i : Nat} (hi : i < n * n) : ∃ a b, a < n ∧ b < n ∧ i = a * n + b := by
  have hn : 0 < n := by
    rcases Nat.eq_zero_or_pos n with rfl | h
    · simp at hi
    · exact h
  refine ⟨i / n, i % n, Nat.div_lt_of_lt_mul hi, Nat.mod_lt _ hn, ?_⟩
  rw [Nat.mul_comm]; exact (Nat.div_add_mod i n).symm
theorem getD_set (l : List Int) (i j : Nat) (v : Int) (hi : i < l.length) : (l.set i v).getD j 0 = if i = j then v else l.getD j 0 := by
  by_cases h : i = j
  · subst h; simp [List.getD, hi]
  · simp [List.getD, h]
theorem getD_at {l : List Int} {i : Nat} {u : Int} (h : l[i]? = some u) : l.getD i 0 = u := by simp [List.getD, h]
theorem at_getD {l : List Int} {i : Nat} (h : i < l.length) : l[i]? = some (l.getD i 0) := by simp [List.getD, h]
theorem T_set {n a b x y : Nat} {l : List Int} {v : Int} (hl : l.length = n * n) (ha : a < n) (hb : b < n) (hy : y < n) :
    T n (l.set (a * n + b) v) x y = if a = x ∧ b = y then v else T n l x y := by
  unfold T
  rw [getD_set _ _ _ _ (by rw [hl]; exact idx_lt ha hb)]
  by_cases h : a = x ∧ b = y
  · obtain ⟨rfl, rfl⟩ := h; simp
  · rw [if_neg h, if_neg]
    intro e
    exact h (idx_inj hb hy e)
theorem ext_T {n : Nat} {l m : List Int} (hl : l.length = n * n) (hm : m.length = n * n) (h : ∀ a, a < n → ∀ b, b < n → T n l a b = T n m a b) : l = m := by
  apply List.ext_getElem? ; intro i
  by_cases hi : i < n * n
  · obtain ⟨a, b, ha, hb, rfl⟩ := idx_of hi
    rw [at_getD (by omega), at_getD (by omega)]
    exact congrArg some (h a ha b hb)
  · rw [List.getElem?_eq_none (by omega), List.getElem?_eq_none (by omega)]
theorem IsMap.T_lo {n a b : Nat} {l : List Int} (h : IsMap n l) (ha : a < n) (hb : b < n) : 0 ≤ T n l a b := h.lo _ (idx_lt ha hb)
theorem IsMap.T_hi {n a b : Nat} {l : List Int} (h : IsMap n l) (ha : a < n) (hb : b < n) : T n l a b ≤ 1000000 := h.hi _ (idx_lt ha hb)
theorem Le.T {n a b : Nat} {d l : List Int} (h : Le n d l) (ha : a < n) (hb : b < n) : T n d a b ≤ T n l a b := h _ (idx_lt ha hb)
theorem Le.trans {n : Nat} {a b c : List Int} (h : Le n a b) (h' : Le n b c) : Le n a c := fun i hi => Int.le_trans (h i hi) (h' i hi)
theorem Le.refl (n : Nat) (a : List Int) : Le n a a := fun _ _ => Int.le_refl _

theorem OnWay.refl {n : Nat} {o : List Int} (h : IsMap n o) : OnWay n o o := ⟨h, Le.refl _ _, fun _ _ _ h => h⟩
/-- a step through one place, where it is no longer -/
theorem OnWay.step {n a k b : Nat} {o l : List Int} {v : Int} (h : OnWay n o l) (ha : a < n) (hk : k < n) (hb : b < n) (hv : v = T n l a k + T n l k b) (hlt : v < T n l a b) :
    OnWay n o (l.set (a * n + b) v) := by
  have hi := idx_lt ha hb
  have hle : ∀ i, i < n * n → (l.set (a * n + b) v).getD i 0 ≤ l.getD i 0 := by
    intro i _
    rw [getD_set _ _ _ _ (by rw [h.map.len]; exact hi)]
    split
    · rename_i e; subst e; exact Int.le_of_lt hlt
    · exact Int.le_refl _
  refine ⟨⟨by simp [h.map.len], ?_, fun i hi' => Int.le_trans (hle i hi') (h.map.hi i hi'), ?_⟩, fun i hi' => Int.le_trans (hle i hi') (h.le i hi'), ?_⟩
  · intro i hi'
    rw [getD_set _ _ _ _ (by rw [h.map.len]; exact hi)]
    split
    · have := h.map.T_lo ha hk
      have := h.map.T_lo hk hb
      omega
    · exact h.map.lo i hi'
  · intro x hx
    rw [T_set h.map.len ha hb hx]
    split
    · rename_i e
      have h1 := h.map.T_lo ha hk
      have h2 := h.map.T_lo hk hb
      have h3 := h.map.diag x hx
      rw [e.1, e.2] at hlt
      omega
    · exact h.map.diag x hx
  · intro d hd ht hdo i hi'
    have hdl := h.above d hd ht hdo
    rw [getD_set _ _ _ _ (by rw [h.map.len]; exact hi)]
    split
    · rename_i e
      subst e
      have h1 := ht a ha k hk b hb
      have h2 := hdl.T ha hk
      have h3 := hdl.T hk hb
      have h4 : T n d a b = d.getD (a * n + b) 0 := rfl
      omega
    · exact hdl i hi'
theorem set_same {l : List Int} {i : Nat} : l.set i (l.getD i 0) = l := by
  apply List.ext_getElem?; intro j
  rw [List.getElem?_set]
  split
  · rename_i e; subst e
    split
    · rename_i h; rw [at_getD h]
    · rename_i h; rw [List.getElem?_eq_none (by omega)]
  · rfl
/-- the same with a least of both -/
theorem OnWay.min {n a k b : Nat} {o l : List Int} (h : OnWay n o l) (ha : a < n) (hk : k < n) (hb : b < n) :
    OnWay n o (l.set (a * n + b) (Min.min (T n l a b) (T n l a k + T n l k b))) := by
  by_cases hlt : T n l a k + T n l k b < T n l a b
  · rw [Int.min_eq_right (Int.le_of_lt hlt)]
    exact h.step ha hk hb rfl hlt
  · rw [Int.min_eq_left (by omega), show T n l a b = l.getD (a * n + b) 0 from rfl, set_same]
    exact h

theorem Least.unique {n : Nat} {o l m : List Int} (h : Least n o l) (h' : Least n o m) : l = m := by
  refine ext_T h.good.map.len h'.good.map.len fun a ha b hb => Int.le_antisymm ?_ ?_
  · exact (h'.good.above l h.good.map.len h.tri h.good.le).T ha hb
  · exact (h.good.above m h'.good.map.len h'.tri h'.good.le).T ha hb
theorem Least.self {n : Nat} {o : List Int} (h : IsMap n o) (ht : Tri n o) : Least n o o := ⟨OnWay.refl h, ht⟩
theorem Least.again {n : Nat} {o l m : List Int} (h : Least n o l) (h' : Least n l m) : m = l := h'.unique (Least.self h.good.map h.tri)
theorem Least.even {n : Nat} {o l : List Int} (h : Least n o l) : evenB n l = true := by simp [evenB, h.tri]
theorem Least.turns {n : Nat} {o l : List Int} (ho : IsMap n o) (h : Least n o l) : decide (o = l) = evenB n o := by
  unfold evenB
  by_cases ht : Tri n o
  · rw [decide_eq_true ht]
    exact decide_eq_true ((Least.self ho ht).unique h)
  · rw [decide_eq_false ht]
    refine decide_eq_false fun e => ht ?_
    rw [e]; exact h.tri

/-- Floyd and Warshall: ways through places below K are no shorter -/
def Thru (n K : Nat) (l : List Int) : Prop := ∀ j, j < K → ∀ a, a < n → ∀ c, c < n → T n l a c ≤ T n l a j + T n l j c
theorem Thru.zero (n : Nat) (l : List Int) : Thru n 0 l := fun _ h => absurd h (by omega)
theorem Thru.tri {n : Nat} {l : List Int} (h : Thru n n l) : Tri n l := fun a ha b hb c hc => h b hb a ha c hc
/-- in the phase of place k, begun with c: rows below a, and of row a the places below b, are done -/
def Phase (n k : Nat) (c l : List Int) (a b : Nat) : Prop :=
  ∀ x, x < n → ∀ y, y < n → T n l x y = if x < a ∨ (x = a ∧ y < b) then Min.min (T n c x y) (T n c x k + T n c k y) else T n c x y
theorem Phase.start (n k : Nat) (c : List Int) : Phase n k c c 0 0 := fun x _ y _ => by rw [if_neg (by omega)]
theorem Phase.row {n k a : Nat} {c l : List Int} (h : Phase n k c l a n) : Phase n k c l (a + 1) 0 := fun x hx y hy => by
  rw [h x hx y hy]
  by_cases h1 : x < a ∨ (x = a ∧ y < n)
  · rw [if_pos h1, if_pos (by omega)]
  · rw [if_neg h1, if_neg (by omega)]
/-- what row k and column k hold does not turn in their own phase -/
theorem Phase.col {n k a b x : Nat} {c l : List Int} (hc : IsMap n c) (hk : k < n) (h : Phase n k c l a b) (hx : x < n) : T n l x k = T n c x k := by
  rw [h x hx k hk, hc.diag k hk]
  split
  · rw [Int.add_zero, Int.min_self]
  · rfl
theorem Phase.rowk {n k a b y : Nat} {c l : List Int} (hc : IsMap n c) (hk : k < n) (h : Phase n k c l a b) (hy : y < n) : T n l k y = T n c k y := by
  rw [h k hk y hy, hc.diag k hk]
  split
  · rw [Int.zero_add, Int.min_self]
  · rfl
theorem Phase.min {n k a b : Nat} {c l : List Int} (hc : IsMap n c) (hl : l.length = n * n) (hk : k < n) (ha : a < n) (hb : b < n) (h : Phase n k c l a b) :
    Phase n k c (l.set (a * n + b) (Min.min (T n l a b) (T n l a k + T n l k b))) a (b + 1) := fun x hx y hy => by
  rw [T_set hl ha hb hy]
  by_cases e : a = x ∧ b = y
  · obtain ⟨rfl, rfl⟩ := e
    rw [if_pos ⟨rfl, rfl⟩, if_pos (by omega), h.col hc hk ha, h.rowk hc hk hb, h a ha b hb, if_neg (by omega)]
  · rw [if_neg e, h x hx y hy]
    by_cases h1 : x < a ∨ (x = a ∧ y < b)
    · rw [if_pos h1, if_pos (by omega)]
    · rw [if_neg h1, if_neg (by omega)]
theorem Phase.step {n k a b : Nat} {c l : List Int} {v : Int} (hc : IsMap n c) (hl : l.length = n * n) (hk : k < n) (ha : a < n) (hb : b < n) (h : Phase n k c l a b)
    (hv : v = T n l a k + T n l k b) (hlt : v < T n l a b) : Phase n k c (l.set (a * n + b) v) a (b + 1) := by
  have := h.min hc hl hk ha hb
  rw [Int.min_eq_right (by omega), ← hv] at this
  exact this
theorem Phase.skip {n k a b : Nat} {c l : List Int} (hc : IsMap n c) (hl : l.length = n * n) (hk : k < n) (ha : a < n) (hb : b < n) (h : Phase n k c l a b)
    (hle : T n l a b ≤ T n l a k + T n l k b) : Phase n k c l a (b + 1) := by
  have := h.min hc hl hk ha hb
  rw [Int.min_eq_left hle, show T n l a b = l.getD (a * n + b) 0 from rfl, set_same] at this
  exact this
theorem Phase.thru {n k : Nat} {c l : List Int} (hc : IsMap n c) (hk : k < n) (ht : Thru n k c) (h : Phase n k c l n 0) : Thru n (k + 1) l := by
  intro j hj a ha b hb
  have e : ∀ x, x < n → ∀ y, y < n → T n l x y = Min.min (T n c x y) (T n c x k + T n c k y) := fun x hx y hy => by rw [h x hx y hy, if_pos (by omega)]
  rcases Nat.lt_or_ge j k with hjk | hjk
  · have hjn : j < n := by omega
    rw [e a ha b hb, e a ha j hjn, e j hjn b hb]
    have h1 := ht j hjk a ha b hb
    have h2 := ht j hjk k hk b hb
    have h3 := ht j hjk a ha k hk
    have h4 := hc.T_lo hk hjn
    have h5 := hc.T_lo hjn hk
    omega
  · obtain rfl : j = k := by omega
    rw [h.col hc hk ha, h.rowk hc hk hb, e a ha b hb]
    exact Int.min_le_right _ _

/-- sums of lists, for loops that end because a sum falls -/
theorem sum_nonneg {l : List Int} (h : ∀ i, i < l.length → 0 ≤ l.getD i 0) : 0 ≤ l.sum := by
  induction l with
  | nil => simp
  | cons x xs ih =>
    have h0 := h 0 (by simp)
    have h1 := ih fun i hi => by simpa using h (i + 1) (by simpa using hi)
    simp at h0
    rw [List.sum_cons]; omega
theorem sum_set {l : List Int} {i : Nat} {v : Int} (h : i < l.length) : (l.set i v).sum = l.sum + (v - l.getD i 0) := by
  induction l generalizing i with
  | nil => simp at h
  | cons x xs ih =>
    cases i with
    | zero => simp; omega
    | succ i =>
      have := ih (i := i) (by simpa using h)
      simp only [List.set_cons_succ, List.sum_cons, List.getD_cons_succ, this]
      omega
theorem IsMap.sum {n : Nat} {l : List Int} (h : IsMap n l) : 0 ≤ l.sum := sum_nonneg fun i hi => h.lo i (by rw [← h.len]; exact hi)
theorem sum_falls {n a b : Nat} {l : List Int} {v : Int} (h : IsMap n l) (ha : a < n) (hb : b < n) (hlt : v < T n l a b) : (l.set (a * n + b) v).sum < l.sum := by
  rw [sum_set (by rw [h.len]; exact idx_lt ha hb)]
  have : T n l a b = l.getD (a * n + b) 0 := rfl
  omega

/-- the document's closing, in a pass that began with p: what is known where nothing was turned so far (places below a done; of a those below b; of these those below k) -/
def Seen (n : Nat) (l : List Int) (a b k : Nat) : Prop :=
  ∀ x, x < n → ∀ y, y < n → ∀ z, z < n → (x < a ∨ (x = a ∧ (y < b ∨ (y = b ∧ z < k)))) → T n l x y ≤ T n l x z + T n l z y
theorem Seen.start (n : Nat) (l : List Int) : Seen n l 0 0 0 := fun _ _ _ _ _ _ h => by omega
theorem Seen.more {n a b k : Nat} {l : List Int} (h : Seen n l a b k) (hle : T n l a b ≤ T n l a k + T n l k b) : Seen n l a b (k + 1) := fun x hx y hy z hz hh => by
  by_cases e : x = a ∧ y = b ∧ z = k
  · obtain ⟨rfl, rfl, rfl⟩ := e; exact hle
  · exact h x hx y hy z hz (by omega)
theorem Seen.next {n a b : Nat} {l : List Int} (h : Seen n l a b n) : Seen n l a (b + 1) 0 := fun x hx y hy z hz hh => h x hx y hy z hz (by omega)
theorem Seen.row {n a : Nat} {l : List Int} (h : Seen n l a n 0) : Seen n l (a + 1) 0 0 := fun x hx y hy z hz hh => h x hx y hy z hz (by omega)
theorem Seen.tri {n : Nat} {l : List Int} (h : Seen n l n 0 0) : Tri n l := fun a ha b hb c hc => h a ha c hc b hb (by omega)
/-- a pass of the document's closing that began with p -/
def Pass (n : Nat) (p l : List Int) (t : Bool) (a b k : Nat) : Prop := (t = false ∧ l = p ∧ Seen n p a b k) ∨ (t = true ∧ l.sum < p.sum)
theorem Pass.start (n : Nat) (p : List Int) : Pass n p p false 0 0 0 := .inl ⟨rfl, rfl, Seen.start n p⟩
theorem Pass.more {n a b k : Nat} {p l : List Int} {t : Bool} (h : Pass n p l t a b k) (hle : T n l a b ≤ T n l a k + T n l k b) : Pass n p l t a b (k + 1) := by
  rcases h with ⟨h1, rfl, h3⟩ | h
  · exact .inl ⟨h1, rfl, h3.more hle⟩
  · exact .inr h
theorem Pass.step {n a b k : Nat} {p l : List Int} {t : Bool} {v : Int} (h : Pass n p l t a b k) (hm : IsMap n l) (ha : a < n) (hb : b < n) (hlt : v < T n l a b) : Pass n p (l.set (a * n + b) v) true a b (k + 1) := by
  have := sum_falls hm ha hb hlt
  rcases h with ⟨_, rfl, _⟩ | ⟨_, h⟩
  · exact .inr ⟨rfl, this⟩
  · exact .inr ⟨rfl, by omega⟩
theorem Pass.next {n a b : Nat} {p l : List Int} {t : Bool} (h : Pass n p l t a b n) : Pass n p l t a (b + 1) 0 := by
  rcases h with ⟨h1, h2, h3⟩ | h
  · exact .inl ⟨h1, h2, h3.next⟩
  · exact .inr h
theorem Pass.row {n a : Nat} {p l : List Int} {t : Bool} (h : Pass n p l t a n 0) : Pass n p l t (a + 1) 0 0 := by
  rcases h with ⟨h1, h2, h3⟩ | h
  · exact .inl ⟨h1, h2, h3.row⟩
  · exact .inr h
/-- what a whole pass leaves: nothing was turned, and all is even; or the sum has fallen -/
theorem Pass.end_ {n : Nat} {p l : List Int} {t : Bool} (h : Pass n p l t n 0 0) : (t = false → Tri n l) ∧ 2 * l.sum + (if t then 1 else 0) < 2 * p.sum + 1 := by
  rcases h with ⟨rfl, rfl, h3⟩ | ⟨rfl, h⟩
  · exact ⟨fun _ => h3.tri, by simp; omega⟩
  · refine ⟨fun h => ?_, by simp; omega⟩
    cases h
/-- Even's loops: a from, b by, c to; where none is found so far -/
def Held (n : Nat) (l : List Int) (a b c : Nat) : Prop :=
  ∀ x, x < n → ∀ y, y < n → ∀ z, z < n → (x < a ∨ (x = a ∧ (y < b ∨ (y = b ∧ z < c)))) → T n l x z ≤ T n l x y + T n l y z
theorem Held.start (n : Nat) (l : List Int) : Held n l 0 0 0 := fun _ _ _ _ _ _ h => by omega
theorem Held.more {n a b c : Nat} {l : List Int} (h : Held n l a b c) (hle : T n l a c ≤ T n l a b + T n l b c) : Held n l a b (c + 1) := fun x hx y hy z hz hh => by
  by_cases e : x = a ∧ y = b ∧ z = c
  · obtain ⟨rfl, rfl, rfl⟩ := e; exact hle
  · exact h x hx y hy z hz (by omega)
theorem Held.next {n a b : Nat} {l : List Int} (h : Held n l a b n) : Held n l a (b + 1) 0 := fun x hx y hy z hz hh => h x hx y hy z hz (by omega)
theorem Held.row {n a : Nat} {l : List Int} (h : Held n l a n 0) : Held n l (a + 1) 0 0 := fun x hx y hy z hz hh => h x hx y hy z hz (by omega)
theorem Held.even {n : Nat} {l : List Int} (h : Held n l n 0 0) : evenB n l = true := by
  simp only [evenB, decide_eq_true_eq]
  exact fun a ha b hb c hc => h a ha b hb c hc (by omega)
theorem not_even {n a b c : Nat} {l : List Int} (ha : a < n) (hb : b < n) (hc : c < n) (h : T n l a b + T n l b c < T n l a c) : evenB n l = false := by
  simp only [evenB, decide_eq_false_iff_not]
  intro ht
  have := ht a ha b hb c hc
  omega

/-- a way's length, beginning at a -/
def wayLen (n : Nat) (l : List Int) : Nat → List Nat → Int
  | _, [] => 0
  | a, b :: r => T n l a b + wayLen n l b r
/-- one step more: the closed map's time is still no greater -/
theorem Least.way {n a b c : Nat} {o l : List Int} {s : Int} (h : Least n o l) (ha : a < n) (hb : b < n) (hc : c < n) (hs : T n l a b ≤ s) : T n l a c ≤ s + T n o b c := by
  have h1 := h.tri a ha b hb c hc
  have h2 := h.good.le.T hb hc
  omega

/-- what New asks, in its order; the error's number, or 0 -/
def newE (n : Int) (l : List Int) : Int :=
  if n < 1 ∨ 12 < n then 1
  else if (l.length : Int) ≠ n * n then 2
  else if ∃ x ∈ l, x < 0 ∨ 1000000 < x then 7
  else if ∃ a, a < n.toNat ∧ T n.toNat l a a ≠ 0 then 4 else 0
theorem newE_ok {n : Nat} {l : List Int} (h : newE n l = 0) : 1 ≤ n ∧ n ≤ 12 ∧ IsMap n l := by
  unfold newE at h
  split at h
  · omega
  split at h
  · omega
  split at h
  · omega
  split at h
  · omega
  rename_i h1 h2 h3 h4
  have hlen : l.length = n * n := by
    have : (l.length : Int) = ((n * n : Nat) : Int) := by rw [Int.natCast_mul]; exact Decidable.not_not.1 h2
    omega
  have hmem : ∀ i, i < n * n → ¬ (l.getD i 0 < 0 ∨ 1000000 < l.getD i 0) := by
    intro i hi hx
    exact h3 ⟨_, List.mem_of_getElem? (at_getD (by omega : i < l.length)), hx⟩
  refine ⟨by omega, by omega, hlen, ?_, ?_, ?_⟩
  · intro i hi; have := hmem i hi; omega
  · intro i hi; have := hmem i hi; omega
  · intro a ha
    exact Decidable.not_not.1 fun hne => h4 ⟨a, by simpa using ha, by simpa using hne⟩
theorem newE_arg {n : Int} {l : List Int} (h : n < 1 ∨ 12 < n) : newE n l = 1 := by unfold newE; rw [if_pos h]
theorem newE_long {n : Int} {l : List Int} (h : ¬ (n < 1 ∨ 12 < n)) (h2 : (l.length : Int) ≠ n * n) : newE n l = 2 := by unfold newE; rw [if_neg h, if_pos h2]
theorem newE_over {n : Nat} {l : List Int} (h : ¬ ((n : Int) < 1 ∨ 12 < (n : Int))) (h2 : l.length = n * n) {x : Int} (hx : x ∈ l) (hb : x < 0 ∨ 1000000 < x) : newE n l = 7 := by
  unfold newE; rw [if_neg h, if_neg (by rw [h2, Int.natCast_mul]; simp), if_pos ⟨x, hx, hb⟩]
theorem newE_form {n : Nat} {l : List Int} (h : ¬ ((n : Int) < 1 ∨ 12 < (n : Int))) (h2 : l.length = n * n) (h3 : ∀ x ∈ l, 0 ≤ x ∧ x ≤ 1000000) {a : Nat} (ha : a < n) (hd : T n l a a ≠ 0) : newE n l = 4 := by
  unfold newE
  rw [if_neg h, if_neg (by rw [h2, Int.natCast_mul]; simp), if_neg (by rintro ⟨x, hx, hb⟩; have := h3 x hx; omega), if_pos ⟨a, by simpa using ha, by simpa using hd⟩]
theorem newE_none {n : Nat} {l : List Int} (h : ¬ ((n : Int) < 1 ∨ 12 < (n : Int))) (h2 : l.length = n * n) (h3 : ∀ x ∈ l, 0 ≤ x ∧ x ≤ 1000000) (h4 : ∀ a, a < n → T n l a a = 0) : newE n l = 0 := by
  unfold newE
  rw [if_neg h, if_neg (by rw [h2, Int.natCast_mul]; simp), if_neg (by rintro ⟨x, hx, hb⟩; have := h3 x hx; omega), if_neg (by rintro ⟨a, ha, hd⟩; exact hd (by simpa using h4 a (by simpa using ha)))]

#print axioms Least.turns
end Go.Proofs.Ytjkahookgoecpaa.GeoMath
