/-
  GeoMath, FleetMath, FleetMath2, FleetMath3, FleetMath4, FleetMath5, RouteMath: one text.
-/
import Derived.Below
/-
  The plain mathematics of chapter 4: maps as lists of n * n times, the greatest even map that is nowhere above a given one, how steps through one place lead to it, in any order and in the order of Floyd and Warshall. No program is named here.
-/
namespace Go.Proofs.Ytpigklkidagolaa.GeoMath

/-- the time from a to b -/
def T (n : Nat) (l : List Int) (a b : Nat) : Int := l.getD (a * n + b) 0
/-- n * n times, each from 0 to 1000000, none from a place to itself -/
structure IsMap (n : Nat) (l : List Int) : Prop where
  len : l.length = n * n
  lo : ∀ i, i < n * n → 0 ≤ l.getD i 0
  hi : ∀ i, i < n * n → l.getD i 0 ≤ 1000000
  diag : ∀ a, a < n → T n l a a = 0
/-- no way through one other place is shorter -/
def Tri (n : Nat) (l : List Int) : Prop := ∀ a, a < n → ∀ b, b < n → ∀ c, c < n → T n l a c ≤ T n l a b + T n l b c
instance (n : Nat) (l : List Int) : Decidable (Tri n l) := by unfold Tri; infer_instance
def evenB (n : Nat) (l : List Int) : Bool := decide (Tri n l)
/-- pointwise no greater -/
def Le (n : Nat) (d l : List Int) : Prop := ∀ i, i < n * n → d.getD i 0 ≤ l.getD i 0
/-- a map on the way from o to its closing -/
structure OnWay (n : Nat) (o l : List Int) : Prop where
  map : IsMap n l
  le : Le n l o
  above : ∀ d, d.length = n * n → Tri n d → Le n d o → Le n d l
/-- the closing of o -/
structure Least (n : Nat) (o l : List Int) : Prop where
  good : OnWay n o l
  tri : Tri n l

theorem idx_lt {n a b : Nat} (ha : a < n) (hb : b < n) : a * n + b < n * n := by
  have : (a + 1) * n ≤ n * n := Nat.mul_le_mul_right n ha
  rw [Nat.add_mul, Nat.one_mul] at this
  omega
theorem idx_inj {n a b a' b' : Nat} (hb : b < n) (hb' : b' < n) (h : a * n + b = a' * n + b') : a = a' ∧ b = b' := by
  have hn : 0 < n := by omega
  have h1 : (a * n + b) / n = a := by rw [Nat.mul_comm, Nat.mul_add_div hn, Nat.div_eq_of_lt hb, Nat.add_zero]
  have h2 : (a' * n + b') / n = a' := by rw [Nat.mul_comm, Nat.mul_add_div hn, Nat.div_eq_of_lt hb', Nat.add_zero]
  have h3 : a = a' := by rw [← h1, ← h2, h]
  subst h3
  exact ⟨rfl, by omega⟩
theorem idx_of {n i : Nat} (hi : i < n * n) : ∃ a b, a < n ∧ b < n ∧ i = a * n + b := by
  have hn : 0 < n := by
    rcases Nat.eq_zero_or_pos n with rfl | h
    · simp at hi
    · exact h
  refine ⟨i / n, i % n, Nat.div_lt_of_lt_mul hi, Nat.mod_lt _ hn, ?_⟩
  rw [Nat.mul_comm]; exact (Nat.div_add_mod i n).symm
theorem getD_set (l : List Int) (i j : Nat) (v : Int) (hi : i < l.length) : (l.set i v).getD j 0 = if i = j then v else l.getD j 0 := by
  by_cases h : i = j
  · subst h; simp [List.getD, hi]
  · simp [List.getD, h]
theorem getD_at {l : List Int} {i : Nat} {u : Int} (h : l[i]? = some u) : l.getD i 0 = u := by simp [List.getD, h]
theorem at_getD {l : List Int} {i : Nat} (h : i < l.length) : l[i]? = some (l.getD i 0) := by simp [List.getD, h]
theorem T_set {n a b x y : Nat} {l : List Int} {v : Int} (hl : l.length = n * n) (ha : a < n) (hb : b < n) (hy : y < n) :
    T n (l.set (a * n + b) v) x y = if a = x ∧ b = y then v else T n l x y := by
  unfold T
  rw [getD_set _ _ _ _ (by rw [hl]; exact idx_lt ha hb)]
  by_cases h : a = x ∧ b = y
  · obtain ⟨rfl, rfl⟩ := h; simp
  · rw [if_neg h, if_neg]
    intro e
    exact h (idx_inj hb hy e)
theorem ext_T {n : Nat} {l m : List Int} (hl : l.length = n * n) (hm : m.length = n * n) (h : ∀ a, a < n → ∀ b, b < n → T n l a b = T n m a b) : l = m := by
  apply List.ext_getElem? ; intro i
  by_cases hi : i < n * n
  · obtain ⟨a, b, ha, hb, rfl⟩ := idx_of hi
    rw [at_getD (by omega), at_getD (by omega)]
    exact congrArg some (h a ha b hb)
  · rw [List.getElem?_eq_none (by omega), List.getElem?_eq_none (by omega)]
theorem IsMap.T_lo {n a b : Nat} {l : List Int} (h : IsMap n l) (ha : a < n) (hb : b < n) : 0 ≤ T n l a b := h.lo _ (idx_lt ha hb)
theorem IsMap.T_hi {n a b : Nat} {l : List Int} (h : IsMap n l) (ha : a < n) (hb : b < n) : T n l a b ≤ 1000000 := h.hi _ (idx_lt ha hb)
theorem Le.T {n a b : Nat} {d l : List Int} (h : Le n d l) (ha : a < n) (hb : b < n) : T n d a b ≤ T n l a b := h _ (idx_lt ha hb)
theorem Le.trans {n : Nat} {a b c : List Int} (h : Le n a b) (h' : Le n b c) : Le n a c := fun i hi => Int.le_trans (h i hi) (h' i hi)
theorem Le.refl (n : Nat) (a : List Int) : Le n a a := fun _ _ => Int.le_refl _

theorem OnWay.refl {n : Nat} {o : List Int} (h : IsMap n o) : OnWay n o o := ⟨h, Le.refl _ _, fun _ _ _ h => h⟩
/-- a step through one place, where it is no longer -/
theorem OnWay.step {n a k b : Nat} {o l : List Int} {v : Int} (h : OnWay n o l) (ha : a < n) (hk : k < n) (hb : b < n) (hv : v = T n l a k + T n l k b) (hlt : v < T n l a b) :
    OnWay n o (l.set (a * n + b) v) := by
  have hi := idx_lt ha hb
  have hle : ∀ i, i < n * n → (l.set (a * n + b) v).getD i 0 ≤ l.getD i 0 := by
    intro i _
    rw [getD_set _ _ _ _ (by rw [h.map.len]; exact hi)]
    split
    · rename_i e; subst e; exact Int.le_of_lt hlt
    · exact Int.le_refl _
  refine ⟨⟨by simp [h.map.len], ?_, fun i hi' => Int.le_trans (hle i hi') (h.map.hi i hi'), ?_⟩, fun i hi' => Int.le_trans (hle i hi') (h.le i hi'), ?_⟩
  · intro i hi'
    rw [getD_set _ _ _ _ (by rw [h.map.len]; exact hi)]
    split
    · have := h.map.T_lo ha hk
      have := h.map.T_lo hk hb
      omega
    · exact h.map.lo i hi'
  · intro x hx
    rw [T_set h.map.len ha hb hx]
    split
    · rename_i e
      have h1 := h.map.T_lo ha hk
      have h2 := h.map.T_lo hk hb
      have h3 := h.map.diag x hx
      rw [e.1, e.2] at hlt
      omega
    · exact h.map.diag x hx
  · intro d hd ht hdo i hi'
    have hdl := h.above d hd ht hdo
    rw [getD_set _ _ _ _ (by rw [h.map.len]; exact hi)]
    split
    · rename_i e
      subst e
      have h1 := ht a ha k hk b hb
      have h2 := hdl.T ha hk
      have h3 := hdl.T hk hb
      have h4 : T n d a b = d.getD (a * n + b) 0 := rfl
      omega
    · exact hdl i hi'
theorem set_same {l : List Int} {i : Nat} : l.set i (l.getD i 0) = l := by
  apply List.ext_getElem?; intro j
  rw [List.getElem?_set]
  split
  · rename_i e; subst e
    split
    · rename_i h; rw [at_getD h]
    · rename_i h; rw [List.getElem?_eq_none (by omega)]
  · rfl
/-- the same with a least of both -/
theorem OnWay.min {n a k b : Nat} {o l : List Int} (h : OnWay n o l) (ha : a < n) (hk : k < n) (hb : b < n) :
    OnWay n o (l.set (a * n + b) (Min.min (T n l a b) (T n l a k + T n l k b))) := by
  by_cases hlt : T n l a k + T n l k b < T n l a b
  · rw [Int.min_eq_right (Int.le_of_lt hlt)]
    exact h.step ha hk hb rfl hlt
  · rw [Int.min_eq_left (by omega), show T n l a b = l.getD (a * n + b) 0 from rfl, set_same]
    exact h

theorem Least.unique {n : Nat} {o l m : List Int} (h : Least n o l) (h' : Least n o m) : l = m := by
  refine ext_T h.good.map.len h'.good.map.len fun a ha b hb => Int.le_antisymm ?_ ?_
  · exact (h'.good.above l h.good.map.len h.tri h.good.le).T ha hb
  · exact (h.good.above m h'.good.map.len h'.tri h'.good.le).T ha hb
theorem Least.self {n : Nat} {o : List Int} (h : IsMap n o) (ht : Tri n o) : Least n o o := ⟨OnWay.refl h, ht⟩
theorem Least.again {n : Nat} {o l m : List Int} (h : Least n o l) (h' : Least n l m) : m = l := h'.unique (Least.self h.good.map h.tri)
theorem Least.even {n : Nat} {o l : List Int} (h : Least n o l) : evenB n l = true := by simp [evenB, h.tri]
theorem Least.turns {n : Nat} {o l : List Int} (ho : IsMap n o) (h : Least n o l) : decide (o = l) = evenB n o := by
  unfold evenB
  by_cases ht : Tri n o
  · rw [decide_eq_true ht]
    exact decide_eq_true ((Least.self ho ht).unique h)
  · rw [decide_eq_false ht]
    refine decide_eq_false fun e => ht ?_
    rw [e]; exact h.tri

/-- Floyd and Warshall: ways through places below K are no shorter -/
def Thru (n K : Nat) (l : List Int) : Prop := ∀ j, j < K → ∀ a, a < n → ∀ c, c < n → T n l a c ≤ T n l a j + T n l j c
theorem Thru.zero (n : Nat) (l : List Int) : Thru n 0 l := fun _ h => absurd h (by omega)
theorem Thru.tri {n : Nat} {l : List Int} (h : Thru n n l) : Tri n l := fun a ha b hb c hc => h b hb a ha c hc
/-- in the phase of place k, begun with c: rows below a, and of row a the places below b, are done -/
def Phase (n k : Nat) (c l : List Int) (a b : Nat) : Prop :=
  ∀ x, x < n → ∀ y, y < n → T n l x y = if x < a ∨ (x = a ∧ y < b) then Min.min (T n c x y) (T n c x k + T n c k y) else T n c x y
theorem Phase.start (n k : Nat) (c : List Int) : Phase n k c c 0 0 := fun x _ y _ => by rw [if_neg (by omega)]
theorem Phase.row {n k a : Nat} {c l : List Int} (h : Phase n k c l a n) : Phase n k c l (a + 1) 0 := fun x hx y hy => by
  rw [h x hx y hy]
  by_cases h1 : x < a ∨ (x = a ∧ y < n)
  · rw [if_pos h1, if_pos (by omega)]
  · rw [if_neg h1, if_neg (by omega)]
/-- what row k and column k hold does not turn in their own phase -/
theorem Phase.col {n k a b x : Nat} {c l : List Int} (hc : IsMap n c) (hk : k < n) (h : Phase n k c l a b) (hx : x < n) : T n l x k = T n c x k := by
  rw [h x hx k hk, hc.diag k hk]
  split
  · rw [Int.add_zero, Int.min_self]
  · rfl
theorem Phase.rowk {n k a b y : Nat} {c l : List Int} (hc : IsMap n c) (hk : k < n) (h : Phase n k c l a b) (hy : y < n) : T n l k y = T n c k y := by
  rw [h k hk y hy, hc.diag k hk]
  split
  · rw [Int.zero_add, Int.min_self]
  · rfl
theorem Phase.min {n k a b : Nat} {c l : List Int} (hc : IsMap n c) (hl : l.length = n * n) (hk : k < n) (ha : a < n) (hb : b < n) (h : Phase n k c l a b) :
    Phase n k c (l.set (a * n + b) (Min.min (T n l a b) (T n l a k + T n l k b))) a (b + 1) := fun x hx y hy => by
  rw [T_set hl ha hb hy]
  by_cases e : a = x ∧ b = y
  · obtain ⟨rfl, rfl⟩ := e
    rw [if_pos ⟨rfl, rfl⟩, if_pos (by omega), h.col hc hk ha, h.rowk hc hk hb, h a ha b hb, if_neg (by omega)]
  · rw [if_neg e, h x hx y hy]
    by_cases h1 : x < a ∨ (x = a ∧ y < b)
    · rw [if_pos h1, if_pos (by omega)]
    · rw [if_neg h1, if_neg (by omega)]
theorem Phase.step {n k a b : Nat} {c l : List Int} {v : Int} (hc : IsMap n c) (hl : l.length = n * n) (hk : k < n) (ha : a < n) (hb : b < n) (h : Phase n k c l a b)
    (hv : v = T n l a k + T n l k b) (hlt : v < T n l a b) : Phase n k c (l.set (a * n + b) v) a (b + 1) := by
  have := h.min hc hl hk ha hb
  rw [Int.min_eq_right (by omega), ← hv] at this
  exact this
theorem Phase.skip {n k a b : Nat} {c l : List Int} (hc : IsMap n c) (hl : l.length = n * n) (hk : k < n) (ha : a < n) (hb : b < n) (h : Phase n k c l a b)
    (hle : T n l a b ≤ T n l a k + T n l k b) : Phase n k c l a (b + 1) := by
  have := h.min hc hl hk ha hb
  rw [Int.min_eq_left hle, show T n l a b = l.getD (a * n + b) 0 from rfl, set_same] at this
  exact this
theorem Phase.thru {n k : Nat} {c l : List Int} (hc : IsMap n c) (hk : k < n) (ht : Thru n k c) (h : Phase n k c l n 0) : Thru n (k + 1) l := by
  intro j hj a ha b hb
  have e : ∀ x, x < n → ∀ y, y < n → T n l x y = Min.min (T n c x y) (T n c x k + T n c k y) := fun x hx y hy => by rw [h x hx y hy, if_pos (by omega)]
  rcases Nat.lt_or_ge j k with hjk | hjk
  · have hjn : j < n := by omega
    rw [e a ha b hb, e a ha j hjn, e j hjn b hb]
    have h1 := ht j hjk a ha b hb
    have h2 := ht j hjk k hk b hb
    have h3 := ht j hjk a ha k hk
    have h4 := hc.T_lo hk hjn
    have h5 := hc.T_lo hjn hk
    omega
  · obtain rfl : j = k := by omega
    rw [h.col hc hk ha, h.rowk hc hk hb, e a ha b hb]
    exact Int.min_le_right _ _

/-- sums of lists, for loops that end because a sum falls -/
theorem sum_nonneg {l : List Int} (h : ∀ i, i < l.length → 0 ≤ l.getD i 0) : 0 ≤ l.sum := by
  induction l with
  | nil => simp
  | cons x xs ih =>
    have h0 := h 0 (by simp)
    have h1 := ih fun i hi => by simpa using h (i + 1) (by simpa using hi)
    simp at h0
    rw [List.sum_cons]; omega
theorem sum_set {l : List Int} {i : Nat} {v : Int} (h : i < l.length) : (l.set i v).sum = l.sum + (v - l.getD i 0) := by
  induction l generalizing i with
  | nil => simp at h
  | cons x xs ih =>
    cases i with
    | zero => simp; omega
    | succ i =>
      have := ih (i := i) (by simpa using h)
      simp only [List.set_cons_succ, List.sum_cons, List.getD_cons_succ, this]
      omega
theorem IsMap.sum {n : Nat} {l : List Int} (h : IsMap n l) : 0 ≤ l.sum := sum_nonneg fun i hi => h.lo i (by rw [← h.len]; exact hi)
theorem sum_falls {n a b : Nat} {l : List Int} {v : Int} (h : IsMap n l) (ha : a < n) (hb : b < n) (hlt : v < T n l a b) : (l.set (a * n + b) v).sum < l.sum := by
  rw [sum_set (by rw [h.len]; exact idx_lt ha hb)]
  have : T n l a b = l.getD (a * n + b) 0 := rfl
  omega

/-- the document's closing, in a pass that began with p: what is known where nothing was turned so far (places below a done; of a those below b; of these those below k) -/
def Seen (n : Nat) (l : List Int) (a b k : Nat) : Prop :=
  ∀ x, x < n → ∀ y, y < n → ∀ z, z < n → (x < a ∨ (x = a ∧ (y < b ∨ (y = b ∧ z < k)))) → T n l x y ≤ T n l x z + T n l z y
theorem Seen.start (n : Nat) (l : List Int) : Seen n l 0 0 0 := fun _ _ _ _ _ _ h => by omega
theorem Seen.more {n a b k : Nat} {l : List Int} (h : Seen n l a b k) (hle : T n l a b ≤ T n l a k + T n l k b) : Seen n l a b (k + 1) := fun x hx y hy z hz hh => by
  by_cases e : x = a ∧ y = b ∧ z = k
  · obtain ⟨rfl, rfl, rfl⟩ := e; exact hle
  · exact h x hx y hy z hz (by omega)
theorem Seen.next {n a b : Nat} {l : List Int} (h : Seen n l a b n) : Seen n l a (b + 1) 0 := fun x hx y hy z hz hh => h x hx y hy z hz (by omega)
theorem Seen.row {n a : Nat} {l : List Int} (h : Seen n l a n 0) : Seen n l (a + 1) 0 0 := fun x hx y hy z hz hh => h x hx y hy z hz (by omega)
theorem Seen.tri {n : Nat} {l : List Int} (h : Seen n l n 0 0) : Tri n l := fun a ha b hb c hc => h a ha c hc b hb (by omega)
/-- a pass of the document's closing that began with p -/
def Pass (n : Nat) (p l : List Int) (t : Bool) (a b k : Nat) : Prop := (t = false ∧ l = p ∧ Seen n p a b k) ∨ (t = true ∧ l.sum < p.sum)
theorem Pass.start (n : Nat) (p : List Int) : Pass n p p false 0 0 0 := .inl ⟨rfl, rfl, Seen.start n p⟩
theorem Pass.more {n a b k : Nat} {p l : List Int} {t : Bool} (h : Pass n p l t a b k) (hle : T n l a b ≤ T n l a k + T n l k b) : Pass n p l t a b (k + 1) := by
  rcases h with ⟨h1, rfl, h3⟩ | h
  · exact .inl ⟨h1, rfl, h3.more hle⟩
  · exact .inr h
theorem Pass.step {n a b k : Nat} {p l : List Int} {t : Bool} {v : Int} (h : Pass n p l t a b k) (hm : IsMap n l) (ha : a < n) (hb : b < n) (hlt : v < T n l a b) : Pass n p (l.set (a * n + b) v) true a b (k + 1) := by
  have := sum_falls hm ha hb hlt
  rcases h with ⟨_, rfl, _⟩ | ⟨_, h⟩
  · exact .inr ⟨rfl, this⟩
  · exact .inr ⟨rfl, by omega⟩
theorem Pass.next {n a b : Nat} {p l : List Int} {t : Bool} (h : Pass n p l t a b n) : Pass n p l t a (b + 1) 0 := by
  rcases h with ⟨h1, h2, h3⟩ | h
  · exact .inl ⟨h1, h2, h3.next⟩
  · exact .inr h
theorem Pass.row {n a : Nat} {p l : List Int} {t : Bool} (h : Pass n p l t a n 0) : Pass n p l t (a + 1) 0 0 := by
  rcases h with ⟨h1, h2, h3⟩ | h
  · exact .inl ⟨h1, h2, h3.row⟩
  · exact .inr h
/-- what a whole pass leaves: nothing was turned, and all is even; or the sum has fallen -/
theorem Pass.end_ {n : Nat} {p l : List Int} {t : Bool} (h : Pass n p l t n 0 0) : (t = false → Tri n l) ∧ 2 * l.sum + (if t then 1 else 0) < 2 * p.sum + 1 := by
  rcases h with ⟨rfl, rfl, h3⟩ | ⟨rfl, h⟩
  · exact ⟨fun _ => h3.tri, by simp; omega⟩
  · refine ⟨fun h => ?_, by simp; omega⟩
    cases h
/-- Even's loops: a from, b by, c to; where none is found so far -/
def Held (n : Nat) (l : List Int) (a b c : Nat) : Prop :=
  ∀ x, x < n → ∀ y, y < n → ∀ z, z < n → (x < a ∨ (x = a ∧ (y < b ∨ (y = b ∧ z < c)))) → T n l x z ≤ T n l x y + T n l y z
theorem Held.start (n : Nat) (l : List Int) : Held n l 0 0 0 := fun _ _ _ _ _ _ h => by omega
theorem Held.more {n a b c : Nat} {l : List Int} (h : Held n l a b c) (hle : T n l a c ≤ T n l a b + T n l b c) : Held n l a b (c + 1) := fun x hx y hy z hz hh => by
  by_cases e : x = a ∧ y = b ∧ z = c
  · obtain ⟨rfl, rfl, rfl⟩ := e; exact hle
  · exact h x hx y hy z hz (by omega)
theorem Held.next {n a b : Nat} {l : List Int} (h : Held n l a b n) : Held n l a (b + 1) 0 := fun x hx y hy z hz hh => h x hx y hy z hz (by omega)
theorem Held.row {n a : Nat} {l : List Int} (h : Held n l a n 0) : Held n l (a + 1) 0 0 := fun x hx y hy z hz hh => h x hx y hy z hz (by omega)
theorem Held.even {n : Nat} {l : List Int} (h : Held n l n 0 0) : evenB n l = true := by
  simp only [evenB, decide_eq_true_eq]
  exact fun a ha b hb c hc => h a ha b hb c hc (by omega)
theorem not_even {n a b c : Nat} {l : List Int} (ha : a < n) (hb : b < n) (hc : c < n) (h : T n l a b + T n l b c < T n l a c) : evenB n l = false := by
  simp only [evenB, decide_eq_false_iff_not]
  intro ht
  have := ht a ha b hb c hc
  omega

/-- a way's length, beginning at a -/
def wayLen (n : Nat) (l : List Int) : Nat → List Nat → Int
  | _, [] => 0
  | a, b :: r => T n l a b + wayLen n l b r
/-- one step more: the closed map's time is still no greater -/
theorem Least.way {n a b c : Nat} {o l : List Int} {s : Int} (h : Least n o l) (ha : a < n) (hb : b < n) (hc : c < n) (hs : T n l a b ≤ s) : T n l a c ≤ s + T n o b c := by
  have h1 := h.tri a ha b hb c hc
  have h2 := h.good.le.T hb hc
  omega

/-- what New asks, in its order; the error's number, or 0 -/
def newE (n : Int) (l : List Int) : Int :=
  if n < 1 ∨ 12 < n then 1
  else if (l.length : Int) ≠ n * n then 2
  else if ∃ x ∈ l, x < 0 ∨ 1000000 < x then 7
  else if ∃ a, a < n.toNat ∧ T n.toNat l a a ≠ 0 then 4 else 0
theorem newE_ok {n : Nat} {l : List Int} (h : newE n l = 0) : 1 ≤ n ∧ n ≤ 12 ∧ IsMap n l := by
  unfold newE at h
  split at h
  · omega
  split at h
  · omega
  split at h
  · omega
  split at h
  · omega
  rename_i h1 h2 h3 h4
  have hlen : l.length = n * n := by
    have : (l.length : Int) = ((n * n : Nat) : Int) := by rw [Int.natCast_mul]; exact Decidable.not_not.1 h2
    omega
  have hmem : ∀ i, i < n * n → ¬ (l.getD i 0 < 0 ∨ 1000000 < l.getD i 0) := by
    intro i hi hx
    exact h3 ⟨_, List.mem_of_getElem? (at_getD (by omega : i < l.length)), hx⟩
  refine ⟨by omega, by omega, hlen, ?_, ?_, ?_⟩
  · intro i hi; have := hmem i hi; omega
  · intro i hi; have := hmem i hi; omega
  · intro a ha
    exact Decidable.not_not.1 fun hne => h4 ⟨a, by simpa using ha, by simpa using hne⟩
theorem newE_arg {n : Int} {l : List Int} (h : n < 1 ∨ 12 < n) : newE n l = 1 := by unfold newE; rw [if_pos h]
theorem newE_long {n : Int} {l : List Int} (h : ¬ (n < 1 ∨ 12 < n)) (h2 : (l.length : Int) ≠ n * n) : newE n l = 2 := by unfold newE; rw [if_neg h, if_pos h2]
theorem newE_over {n : Nat} {l : List Int} (h : ¬ ((n : Int) < 1 ∨ 12 < (n : Int))) (h2 : l.length = n * n) {x : Int} (hx : x ∈ l) (hb : x < 0 ∨ 1000000 < x) : newE n l = 7 := by
  unfold newE; rw [if_neg h, if_neg (by rw [h2, Int.natCast_mul]; simp), if_pos ⟨x, hx, hb⟩]
theorem newE_form {n : Nat} {l : List Int} (h : ¬ ((n : Int) < 1 ∨ 12 < (n : Int))) (h2 : l.length = n * n) (h3 : ∀ x ∈ l, 0 ≤ x ∧ x ≤ 1000000) {a : Nat} (ha : a < n) (hd : T n l a a ≠ 0) : newE n l = 4 := by
  unfold newE
  rw [if_neg h, if_neg (by rw [h2, Int.natCast_mul]; simp), if_neg (by rintro ⟨x, hx, hb⟩; have := h3 x hx; omega), if_pos ⟨a, by simpa using ha, by simpa using hd⟩]
theorem newE_none {n : Nat} {l : List Int} (h : ¬ ((n : Int) < 1 ∨ 12 < (n : Int))) (h2 : l.length = n * n) (h3 : ∀ x ∈ l, 0 ≤ x ∧ x ≤ 1000000) (h4 : ∀ a, a < n → T n l a a = 0) : newE n l = 0 := by
  unfold newE
  rw [if_neg h, if_neg (by rw [h2, Int.natCast_mul]; simp), if_neg (by rintro ⟨x, hx, hb⟩; have := h3 x hx; omega), if_neg (by rintro ⟨a, ha, hd⟩; exact hd (by simpa using h4 a (by simpa using ha)))]

#print axioms Least.turns
end Go.Proofs.Ytpigklkidagolaa.GeoMath

/-
  The plain mathematics of chapters 5 to 7: windows, orders, drivers, the drive through a list of stops, on Lean's own integers and lists. No program is named here.
-/
namespace Go.Proofs.Ytpigklkidagolaa.FleetMath
open Go.Proofs.Ytpigklkidagolaa.GeoMath

structure Win where
  fr : Int
  to : Int
structure Site where
  place : Int
  win : Win
  serv : Int
structure Ord where
  id : Int
  size : Int
  pick : Site
  drop : Site
structure Drv where
  id : Int
  room : Int
  home : Int
  win : Win
  retired : Bool
structure Stp where
  ord : Int
  drop : Bool
structure Vis where
  stop : Stp
  arrive : Int
  start : Int
  leave : Int
  load : Int
/-- a map: places, times row by row -/
structure Mp where
  n : Nat
  ts : List Int
theorem Stp.ext_iff' {a b : Stp} : a = b ↔ a.ord = b.ord ∧ a.drop = b.drop := by cases a; cases b; simp
instance : DecidableEq Stp := fun a b => decidable_of_iff (a.ord = b.ord ∧ a.drop = b.drop) Stp.ext_iff'.symm

/-- chapter 5 -/
def right (w : Win) : Bool := decide (0 ≤ w.fr ∧ w.fr ≤ w.to ∧ w.to ≤ 1000000)
def has (w : Win) (t : Int) : Bool := right w && decide (w.fr ≤ t ∧ t ≤ w.to)
def beginT (w : Win) (a : Int) : Option Int := if right w = false ∨ w.to < a then none else some (if a < w.fr then w.fr else a)
def lastT (w : Win) (s u : Int) : Option Int :=
  if right w = false ∨ s < 0 ∨ u < s then none
  else if (if w.to < u - s then w.to else u - s) < w.fr then none else some (if w.to < u - s then w.to else u - s)
theorem right_iff {w : Win} : right w = true ↔ 0 ≤ w.fr ∧ w.fr ≤ w.to ∧ w.to ≤ 1000000 := by simp [right]
theorem has_iff {w : Win} {t : Int} : has w t = true ↔ right w = true ∧ w.fr ≤ t ∧ t ≤ w.to := by simp [has]
theorem beginT_some {w : Win} {a b : Int} : beginT w a = some b ↔ right w = true ∧ a ≤ w.to ∧ b = (if a < w.fr then w.fr else a) := by
  unfold beginT
  split
  · rename_i h
    constructor
    · intro h'; cases h'
    · rintro ⟨h1, h2, _⟩
      rcases h with h | h
      · rw [h1] at h; cases h
      · omega
  · rename_i h
    have h1 : right w = true := by
      cases hr : right w
      · exact absurd (Or.inl hr) h
      · rfl
    have h2 : a ≤ w.to := by
      have : ¬ w.to < a := fun h' => h (Or.inr h')
      omega
    constructor
    · intro h'; injection h' with h'; exact ⟨h1, h2, h'.symm⟩
    · rintro ⟨_, _, rfl⟩; rfl
theorem beginT_in {w : Win} {a b : Int} (h : beginT w a = some b) : has w b = true ∧ a ≤ b ∧ w.fr ≤ b ∧ b ≤ w.to ∧ (b = a ∨ b = w.fr) := by
  obtain ⟨h1, h2, rfl⟩ := beginT_some.1 h
  have h3 := right_iff.1 h1
  rw [has_iff]
  split <;> refine ⟨⟨h1, ?_, ?_⟩, ?_, ?_, ?_, ?_⟩ <;> omega
/-- an earlier arrival begins no later -/
theorem beginT_mono {w : Win} {a a' b' : Int} (h : beginT w a' = some b') (hle : a ≤ a') : ∃ b, beginT w a = some b ∧ b ≤ b' := by
  obtain ⟨h1, h2, rfl⟩ := beginT_some.1 h
  refine ⟨_, beginT_some.2 ⟨h1, by omega, rfl⟩, ?_⟩
  split <;> split <;> omega

/-- what is common to windows -/
def meetGo : Win → List Win → Option Win
  | m, [] => if m.to < m.fr then none else some m
  | m, w :: r => if right w = false then none else meetGo ⟨if m.fr < w.fr then w.fr else m.fr, if w.to < m.to then w.to else m.to⟩ r
def meet (l : List Win) : Option Win := meetGo ⟨0, 1000000⟩ l
theorem meetGo_nil (m : Win) : meetGo m [] = if m.to < m.fr then none else some m := rfl
theorem meetGo_cons (m w : Win) (r : List Win) : meetGo m (w :: r) = if right w = false then none else meetGo ⟨if m.fr < w.fr then w.fr else m.fr, if w.to < m.to then w.to else m.to⟩ r := rfl
/-- a time is in what is met just if it is in all of them -/
theorem meetGo_some {m : Win} {l : List Win} {v : Win} (h : meetGo m l = some v) : (∀ w ∈ l, right w = true) ∧ v.fr ≤ v.to ∧ m.fr ≤ v.fr ∧ v.to ≤ m.to ∧ ∀ t, (v.fr ≤ t ∧ t ≤ v.to) ↔ ((m.fr ≤ t ∧ t ≤ m.to) ∧ ∀ w ∈ l, w.fr ≤ t ∧ t ≤ w.to) := by
  induction l generalizing m with
  | nil =>
    rw [meetGo_nil] at h
    split at h
    · cases h
    · injection h with h
      subst h
      exact ⟨by simp, by omega, by omega, by omega, by simp⟩
  | cons w r ih =>
    rw [meetGo_cons] at h
    split at h
    · cases h
    · rename_i hr
      obtain ⟨h1, h2, h3, h4, h5⟩ := ih h
      simp only at h3 h4 h5
      refine ⟨?_, h2, ?_, ?_, fun t => ?_⟩
      · intro x hx
        rcases List.mem_cons.1 hx with rfl | hx
        · cases hrx : right x
          · exact absurd hrx hr
          · rfl
        · exact h1 x hx
      · split at h3 <;> omega
      · split at h4 <;> omega
      · rw [h5 t]
        simp only [List.mem_cons, forall_eq_or_imp]
        constructor
        · rintro ⟨⟨a, b⟩, c⟩
          refine ⟨⟨?_, ?_⟩, ⟨?_, ?_⟩, c⟩
          · split at a <;> omega
          · split at b <;> omega
          · split at a <;> omega
          · split at b <;> omega
        · rintro ⟨⟨a, b⟩, ⟨a', b'⟩, c⟩
          refine ⟨⟨?_, ?_⟩, c⟩
          · split <;> omega
          · split <;> omega
theorem meetGo_none {m : Win} {l : List Win} (h : meetGo m l = none) (hr : ∀ w ∈ l, right w = true) (t : Int) : ¬ ((m.fr ≤ t ∧ t ≤ m.to) ∧ ∀ w ∈ l, w.fr ≤ t ∧ t ≤ w.to) := by
  induction l generalizing m with
  | nil =>
    rw [meetGo_nil] at h
    split at h
    · rintro ⟨_, _⟩; omega
    · cases h
  | cons w r ih =>
    rw [meetGo_cons, if_neg (by rw [hr w (by simp)]; simp)] at h
    have := ih h fun x hx => hr x (by simp [hx])
    simp only at this
    rintro ⟨⟨a, b⟩, c⟩
    refine this ⟨⟨?_, ?_⟩, fun x hx => c x (by simp [hx])⟩
    · have := c w (by simp); split <;> omega
    · have := c w (by simp); split <;> omega

/-- chapter 6 -/
def isPlace (m : Mp) (p : Int) : Bool := decide (0 ≤ p ∧ p < m.n)
def time (m : Mp) (a b : Int) : Int := if isPlace m a = true ∧ isPlace m b = true then T m.n m.ts a.toNat b.toNat else 0
def ordE : Option Mp → Ord → Int
  | none, _ => 1
  | some m, o =>
    if o.id < 1 ∨ 1000000 < o.id then 1
    else if o.size < 1 ∨ 1000 < o.size then 14
    else if isPlace m o.pick.place = false ∨ isPlace m o.drop.place = false then 12
    else if right o.pick.win = false ∨ right o.drop.win = false then 13
    else if o.pick.serv < 0 ∨ 1000000 < o.pick.serv ∨ o.drop.serv < 0 ∨ 1000000 < o.drop.serv then 7 else 0
def drvE : Option Mp → Drv → Int
  | none, _ => 1
  | some m, d =>
    if d.id < 1 ∨ 1000000 < d.id then 1
    else if d.room < 1 ∨ 1000 < d.room then 14
    else if isPlace m d.home = false then 12
    else if right d.win = false then 13 else 0
/-- right orders with different numbers -/
def Dist (os : List Ord) : Prop := os.Pairwise fun a b => a.id ≠ b.id
instance (os : List Ord) : Decidable (Dist os) := by unfold Dist; infer_instance
def known (m : Option Mp) (os : List Ord) : Bool := decide (os.length ≤ 40 ∧ (∀ o ∈ os, ordE m o = 0) ∧ Dist os)
structure OrdOk (m : Mp) (o : Ord) : Prop where
  id : 1 ≤ o.id ∧ o.id ≤ 1000000
  size : 1 ≤ o.size ∧ o.size ≤ 1000
  pickP : isPlace m o.pick.place = true
  dropP : isPlace m o.drop.place = true
  pickW : right o.pick.win = true
  dropW : right o.drop.win = true
  pickS : 0 ≤ o.pick.serv ∧ o.pick.serv ≤ 1000000
  dropS : 0 ≤ o.drop.serv ∧ o.drop.serv ≤ 1000000
structure DrvOk (m : Mp) (d : Drv) : Prop where
  id : 1 ≤ d.id ∧ d.id ≤ 1000000
  room : 1 ≤ d.room ∧ d.room ≤ 1000
  home : isPlace m d.home = true
  win : right d.win = true
theorem ordE_some (m : Mp) (o : Ord) : ordE (some m) o =
    if o.id < 1 ∨ 1000000 < o.id then 1
    else if o.size < 1 ∨ 1000 < o.size then 14
    else if isPlace m o.pick.place = false ∨ isPlace m o.drop.place = false then 12
    else if right o.pick.win = false ∨ right o.drop.win = false then 13
    else if o.pick.serv < 0 ∨ 1000000 < o.pick.serv ∨ o.drop.serv < 0 ∨ 1000000 < o.drop.serv then 7 else 0 := rfl
theorem drvE_some (m : Mp) (d : Drv) : drvE (some m) d =
    if d.id < 1 ∨ 1000000 < d.id then 1
    else if d.room < 1 ∨ 1000 < d.room then 14
    else if isPlace m d.home = false then 12
    else if right d.win = false then 13 else 0 := rfl
theorem not_false {b : Bool} : ¬ b = false ↔ b = true := by cases b <;> simp
theorem ordE_ok {m : Option Mp} {o : Ord} : ordE m o = 0 ↔ ∃ m', m = some m' ∧ OrdOk m' o := by
  cases m with
  | none => simp [ordE]
  | some m =>
    rw [ordE_some]
    constructor
    · intro h
      refine ⟨m, rfl, ?_⟩
      split at h
      · omega
      split at h
      · omega
      split at h
      · omega
      split at h
      · omega
      split at h
      · omega
      rename_i h1 h2 h3 h4 h5
      simp only [not_or, not_false] at h3 h4
      exact ⟨by omega, by omega, h3.1, h3.2, h4.1, h4.2, by omega, by omega⟩
    · rintro ⟨m', e, h⟩
      injection e with e
      subst e
      rw [if_neg (by have := h.id; omega), if_neg (by have := h.size; omega), if_neg (by simp [h.pickP, h.dropP]), if_neg (by simp [h.pickW, h.dropW]), if_neg (by have := h.pickS; have := h.dropS; omega)]
theorem drvE_ok {m : Option Mp} {d : Drv} : drvE m d = 0 ↔ ∃ m', m = some m' ∧ DrvOk m' d := by
  cases m with
  | none => simp [drvE]
  | some m =>
    rw [drvE_some]
    constructor
    · intro h
      refine ⟨m, rfl, ?_⟩
      split at h
      · omega
      split at h
      · omega
      split at h
      · omega
      split at h
      · omega
      rename_i h1 h2 h3 h4
      simp only [not_false] at h3 h4
      exact ⟨by omega, by omega, h3, h4⟩
    · rintro ⟨m', e, h⟩
      injection e with e
      subst e
      rw [if_neg (by have := h.id; omega), if_neg (by have := h.room; omega), if_neg (by simp [h.home]), if_neg (by simp [h.win])]

/-- a site that is driven to: when it is begun and left -/
def served (m : Mp) (frm left : Int) (s : Site) (til : Int) : Option (Int × Int) :=
  match beginT s.win (left + time m frm s.place) with
  | none => none
  | some b => if til < b + s.serv then none else some (b, b + s.serv)
theorem served_some {m : Mp} {f l til b v : Int} {s : Site} : served m f l s til = some (b, v) ↔ beginT s.win (l + time m f s.place) = some b ∧ v = b + s.serv ∧ v ≤ til := by
  unfold served
  split
  · rename_i h; simp [h]
  · rename_i x h
    rw [h]
    split
    · rename_i h2
      constructor
      · intro h'; cases h'
      · rintro ⟨e, rfl, h3⟩; injection e with e; omega
    · rename_i h2
      constructor
      · intro h'; injection h' with h'; injection h' with h3 h4; subst h3; subst h4; exact ⟨rfl, rfl, by omega⟩
      · rintro ⟨e, rfl, _⟩; injection e with e; subst e; rfl
/-- leaving earlier is leaving no later -/
theorem served_mono {m : Mp} {f l l' til b' v' : Int} {s : Site} (h : served m f l' s til = some (b', v')) (hle : l ≤ l') :
    ∃ b v, served m f l s til = some (b, v) ∧ b ≤ b' ∧ v ≤ v' := by
  obtain ⟨h1, rfl, h3⟩ := served_some.1 h
  obtain ⟨b, hb, hle'⟩ := beginT_mono (a := l + time m f s.place) h1 (by omega)
  exact ⟨b, b + s.serv, served_some.2 ⟨hb, rfl, by omega⟩, hle', by omega⟩
theorem served_til {m : Mp} {f l til til' b v : Int} {s : Site} (h : served m f l s til = some (b, v)) (hle : til ≤ til') : served m f l s til' = some (b, v) := by
  obtain ⟨h1, h2, h3⟩ := served_some.1 h
  exact served_some.2 ⟨h1, h2, by omega⟩
def alone (m : Option Mp) (d : Drv) (o : Ord) : Option Int :=
  match m with
  | none => none
  | some m' =>
    if ordE m o ≠ 0 ∨ drvE m d ≠ 0 ∨ d.room < o.size then none
    else match served m' d.home d.win.fr o.pick d.win.to with
      | none => none
      | some (_, l) => match served m' o.pick.place l o.drop d.win.to with
        | none => none
        | some (_, v) => some v

/-- chapter 7: the order of a number -/
def find (os : List Ord) (id : Int) : Option Ord := os.find? fun o => decide (o.id = id)
def siteOf (o : Ord) (s : Stp) : Site := if s.drop then o.drop else o.pick
def loadOf (o : Ord) (s : Stp) (l : Int) : Int := if s.drop then l - o.size else l + o.size
theorem find_some {os : List Ord} {id : Int} {o : Ord} (h : find os id = some o) : o ∈ os ∧ o.id = id := by
  refine ⟨List.mem_of_find?_eq_some h, ?_⟩
  have := List.find?_some h
  simpa using this
theorem find_mem {os : List Ord} {o : Ord} (hd : Dist os) (h : o ∈ os) : find os o.id = some o := by
  induction os with
  | nil => cases h
  | cons x xs ih =>
    obtain ⟨h1, h2⟩ := List.pairwise_cons.1 hd
    rcases List.mem_cons.1 h with rfl | h
    · simp [find]
    · have hne : x.id ≠ o.id := h1 o h
      have := ih h2 h
      simpa [find, hne] using this
theorem find_none {os : List Ord} {id : Int} : find os id = none ↔ ∀ o ∈ os, o.id ≠ id := by simp [find]
/-- orders with the same members answer alike -/
theorem find_congr {os ps : List Ord} {id : Int} (hp : Dist ps) (h : ∀ o, o.id = id → (o ∈ os ↔ o ∈ ps)) : find os id = find ps id := by
  cases hf : find os id with
  | none =>
    have h1 := find_none.1 hf
    refine (find_none.2 fun o ho e => ?_).symm
    exact h1 o ((h o e).2 ho) e
  | some o =>
    obtain ⟨h1, h2⟩ := find_some hf
    rw [← h2]
    exact (find_mem hp ((h o h2).1 h1)).symm

structure St where
  at_ : Int
  left : Int
  load : Int
/-- one stop more, behind these -/
def step (m : Mp) (d : Drv) (os : List Ord) (seen : List Stp) (st : St) (s : Stp) : Except Int (St × Vis) :=
  match find os s.ord with
  | none => .error 8
  | some o =>
    if s ∈ seen then .error 16
    else if s.drop = true ∧ Stp.mk s.ord false ∉ seen then .error 17
    else if d.room < loadOf o s st.load then .error 14
    else match served m st.at_ st.left (siteOf o s) d.win.to with
      | none => .error 15
      | some (b, v) => .ok (⟨(siteOf o s).place, v, loadOf o s st.load⟩, ⟨s, st.left + time m st.at_ (siteOf o s).place, b, v, loadOf o s st.load⟩)
def run (m : Mp) (d : Drv) (os : List Ord) : List Stp → St → List Stp → Except (Nat × Int) (St × List Vis)
  | _, st, [] => .ok (st, [])
  | seen, st, s :: r =>
    match step m d os seen st s with
    | .error e => .error (seen.length, e)
    | .ok (st', v) =>
      match run m d os (seen ++ [s]) st' r with
      | .error x => .error x
      | .ok (st'', vs) => .ok (st'', v :: vs)
def st0 (d : Drv) : St := ⟨d.home, d.win.fr, 0⟩
/-- the visits, the fault's place, the fault's number -/
def driveM (m : Mp) (d : Drv) (os : List Ord) (stops : List Stp) : List Vis × Nat × Int :=
  match run m d os [] (st0 d) stops with
  | .error (k, e) => ([], k, e)
  | .ok (st, vs) => if 0 < st.load then ([], stops.length, 18) else (vs, 0, 0)
def drive (m : Option Mp) (d : Drv) (os : List Ord) (stops : List Stp) : List Vis × Nat × Int :=
  match m with
  | none => ([], 0, 1)
  | some m' => if drvE m d ≠ 0 ∨ known m os = false ∨ 80 < stops.length then ([], 0, 1) else driveM m' d os stops

section
variable {m : Mp} {d : Drv} {os : List Ord}
theorem run_nil (seen : List Stp) (st : St) : run m d os seen st [] = .ok (st, []) := rfl
theorem run_cons (seen : List Stp) (st : St) (s : Stp) (r : List Stp) : run m d os seen st (s :: r) =
    match step m d os seen st s with
    | .error e => .error (seen.length, e)
    | .ok (st', v) =>
      match run m d os (seen ++ [s]) st' r with
      | .error x => .error x
      | .ok (st'', vs) => .ok (st'', v :: vs) := rfl
theorem run_append (seen : List Stp) (st : St) (xs ys : List Stp) :
    run m d os seen st (xs ++ ys) = match run m d os seen st xs with
      | .error x => .error x
      | .ok (st', vs) => match run m d os (seen ++ xs) st' ys with
        | .error x => .error x
        | .ok (st'', us) => .ok (st'', vs ++ us) := by
  induction xs generalizing seen st with
  | nil =>
    simp only [List.nil_append, List.append_nil, run]
    split <;> simp_all
  | cons s r ih =>
    rw [List.cons_append, run_cons, run_cons]
    cases hs : step m d os seen st s with
    | error e => rfl
    | ok p =>
      obtain ⟨st', v⟩ := p
      simp only [ih, List.append_assoc, List.singleton_append]
      cases hr : run m d os (seen ++ [s]) st' r with
      | error x => rfl
      | ok q =>
        obtain ⟨st2, vs⟩ := q
        simp only
        cases run m d os (seen ++ s :: r) st2 ys with
        | error x => rfl
        | ok q => rfl
theorem run_len {seen : List Stp} {st st' : St} {xs : List Stp} {vs : List Vis} (h : run m d os seen st xs = .ok (st', vs)) : vs.length = xs.length := by
  induction xs generalizing seen st st' vs with
  | nil => rw [run_nil] at h; injection h with h; injection h with _ h; rw [← h]; rfl
  | cons s r ih =>
    rw [run_cons] at h
    split at h
    · cases h
    · split at h
      · cases h
      · rename_i hr
        injection h with h; injection h with _ h
        rw [← h]
        simp [ih hr]
/-- what stands behind is not asked ahead -/
theorem run_prefix {seen : List Stp} {st st' : St} {xs ys : List Stp} {vs : List Vis} (h : run m d os seen st (xs ++ ys) = .ok (st', vs)) :
    ∃ st1, run m d os seen st xs = .ok (st1, vs.take xs.length) ∧ run m d os (seen ++ xs) st1 ys = .ok (st', vs.drop xs.length) := by
  rw [run_append] at h
  cases h1 : run m d os seen st xs with
  | error x => rw [h1] at h; cases h
  | ok p =>
    obtain ⟨st1, us⟩ := p
    rw [h1] at h
    simp only at h
    cases h2 : run m d os (seen ++ xs) st1 ys with
    | error x => rw [h2] at h; cases h
    | ok q =>
      obtain ⟨st2, ws⟩ := q
      rw [h2] at h
      simp only at h
      injection h with h; injection h with e1 e2
      subst e1; subst e2
      have := run_len h1
      exact ⟨st1, by rw [← this, List.take_left], by rw [← this, List.drop_left]; exact h2⟩
/-- the k-th visit is the step behind the first k stops -/
theorem run_at {seen : List Stp} {st st' : St} {xs : List Stp} {vs : List Vis} (h : run m d os seen st xs = .ok (st', vs)) {k : Nat} {s : Stp} (hk : xs[k]? = some s) :
    ∃ st1 st2 v, run m d os seen st (xs.take k) = .ok (st1, vs.take k) ∧ vs[k]? = some v ∧ step m d os (seen ++ xs.take k) st1 s = .ok (st2, v) ∧
      run m d os seen st (xs.take (k + 1)) = .ok (st2, vs.take (k + 1)) := by
  have hlt : k < xs.length := (List.getElem?_eq_some_iff.1 hk).1
  have hs : xs[k] = s := (List.getElem?_eq_some_iff.1 hk).2
  have hx : xs.take k ++ (s :: xs.drop (k + 1)) = xs := by
    rw [← hs, List.getElem_cons_drop, List.take_append_drop]
  have hlen : (xs.take k).length = k := by rw [List.length_take]; omega
  rw [← hx] at h
  obtain ⟨st1, h1, h2⟩ := run_prefix h
  rw [hlen] at h1 h2
  rw [run_cons] at h2
  split at h2
  · cases h2
  · rename_i st2 v hst
    split at h2
    · cases h2
    · rename_i st3 us hr
      injection h2 with h2; injection h2 with e1 e2
      have hvk : vs[k]? = some v := by
        have : (vs.drop k)[0]? = some v := by rw [← e2]; rfl
        simpa using this
      refine ⟨st1, st2, v, h1, hvk, hst, ?_⟩
      rw [List.take_add_one, hk, run_append, h1]
      simp only [Option.toList, run, hst]
      rw [List.take_add_one, hvk]
      rfl
/-- a fault: ahead of it nothing is wrong; it is there whatever stands behind -/
theorem run_fault {seen : List Stp} {st : St} {xs : List Stp} {k : Nat} {e : Int} (h : run m d os seen st xs = .error (k, e)) :
    ∃ s, seen.length ≤ k ∧ xs[k - seen.length]? = some s ∧ ∃ st1 vs, run m d os seen st (xs.take (k - seen.length)) = .ok (st1, vs) ∧
      step m d os (seen ++ xs.take (k - seen.length)) st1 s = .error e := by
  induction xs generalizing seen st with
  | nil => rw [run_nil] at h; cases h
  | cons s r ih =>
    rw [run_cons] at h
    split at h
    · rename_i e' hs
      injection h with h; injection h with h1 h2
      subst h1; subst h2
      refine ⟨s, Nat.le_refl _, by simp, st, [], by simp [run], by simpa using hs⟩
    · rename_i st1 v hs
      split at h
      · rename_i x hr
        injection h with h
        subst h
        obtain ⟨s', h1, h2, st2, us, h3, h4⟩ := ih hr
        rw [List.length_append, List.length_singleton] at h1 h2 h3 h4
        obtain ⟨c, hc⟩ : ∃ c, k - seen.length = c + 1 := ⟨k - seen.length - 1, by omega⟩
        have hc' : k - (seen.length + 1) = c := by omega
        rw [hc'] at h2 h3 h4
        rw [hc]
        refine ⟨s', by omega, by simpa using h2, st2, v :: us, ?_, ?_⟩
        · rw [List.take_succ_cons, run_cons, hs]; simp only [h3]
        · rw [List.take_succ_cons]; simpa using h4
      · cases h
theorem run_fault_at {seen : List Stp} {st st1 : St} {xs : List Stp} {vs : List Vis} {s : Stp} {e : Int} (h1 : run m d os seen st xs = .ok (st1, vs)) (h2 : step m d os (seen ++ xs) st1 s = .error e) (ys : List Stp) :
    run m d os seen st (xs ++ s :: ys) = .error (seen.length + xs.length, e) := by
  rw [run_append, h1]
  simp only
  rw [run_cons, h2]
  simp

/-- what a step that is made says -/
structure Made (m : Mp) (d : Drv) (os : List Ord) (seen : List Stp) (st : St) (s : Stp) (o : Ord) (st' : St) (v : Vis) : Prop where
  find : find os s.ord = some o
  new : s ∉ seen
  first : s.drop = true → Stp.mk s.ord false ∈ seen
  load : loadOf o s st.load ≤ d.room
  serve : served m st.at_ st.left (siteOf o s) d.win.to = some (v.start, v.leave)
  st' : st' = ⟨(siteOf o s).place, v.leave, loadOf o s st.load⟩
  stop : v.stop = s
  arrive : v.arrive = st.left + time m st.at_ (siteOf o s).place
  vload : v.load = loadOf o s st.load
theorem step_ok {seen : List Stp} {st st' : St} {s : Stp} {v : Vis} : step m d os seen st s = .ok (st', v) ↔ ∃ o, Made m d os seen st s o st' v := by
  unfold step
  constructor
  · intro h
    split at h
    · cases h
    rename_i o ho
    split at h
    · cases h
    split at h
    · cases h
    split at h
    · cases h
    split at h
    · cases h
    rename_i h1 h2 h3 _ b t hs
    injection h with h; injection h with e1 e2
    subst e1; subst e2
    exact ⟨o, ho, h1, fun hd => Decidable.not_not.1 fun hn => h2 ⟨hd, hn⟩, by omega, hs, rfl, rfl, rfl, rfl⟩
  · rintro ⟨o, h⟩
    rw [h.find]
    simp only
    rw [if_neg h.new, if_neg (fun hd => hd.2 (h.first hd.1)), if_neg (by have := h.load; omega), h.serve]
    simp only
    obtain ⟨a, b, c, e, f⟩ := v
    have h1 := h.st'; have h2 := h.stop; have h3 := h.arrive; have h4 := h.vload
    simp only at h1 h2 h3 h4
    rw [h1, h2, h3, h4]

/-- loads are what is picked up and not delivered: never negative -/
def sizeOf (os : List Ord) (id : Int) : Int := match find os id with | none => 0 | some o => o.size
structure Open (os : List Ord) (seen : List Stp) (l : Int) (opn : List Int) : Prop where
  mem : ∀ id, id ∈ opn ↔ Stp.mk id false ∈ seen ∧ Stp.mk id true ∉ seen
  drops : ∀ id, Stp.mk id true ∈ seen → Stp.mk id false ∈ seen
  nodup : opn.Nodup
  sum : l = (opn.map (sizeOf os)).sum
theorem sum_erase (f : Int → Int) {l : List Int} {x : Int} (h : x ∈ l) : (l.map f).sum = f x + ((l.erase x).map f).sum := by
  induction l with
  | nil => cases h
  | cons y ys ih =>
    by_cases hxy : y = x
    · subst hxy; simp
    · have hb : (y == x) = false := by simpa using hxy
      rw [List.erase_cons, hb]
      have := ih (by rcases List.mem_cons.1 h with h | h; exact absurd h.symm hxy; exact h)
      simp only [List.map_cons, List.sum_cons, this, Bool.false_eq_true, if_false]
      omega
theorem sum_pos (os : List Ord) (hs : ∀ o ∈ os, 1 ≤ o.size) (l : List Int) : 0 ≤ (l.map (sizeOf os)).sum := by
  induction l with
  | nil => simp
  | cons x xs ih =>
    have : 0 ≤ sizeOf os x := by
      unfold sizeOf
      split
      · omega
      · rename_i o ho; have := hs o (find_some ho).1; omega
    simp only [List.map_cons, List.sum_cons]
    omega
theorem Open.start (os : List Ord) : Open os [] 0 [] := ⟨by simp, by simp, List.nodup_nil, rfl⟩
theorem Open.step {seen : List Stp} {st st' : St} {s : Stp} {v : Vis} {o : Ord} {opn : List Int} (h : Open os seen st.load opn) (hm : Made m d os seen st s o st' v) :
    ∃ opn', Open os (seen ++ [s]) st'.load opn' := by
  have hsz : sizeOf os s.ord = o.size := by unfold sizeOf; rw [hm.find]
  obtain ⟨id, dr⟩ := s
  rw [hm.st']
  cases dr with
  | false =>
    refine ⟨id :: opn, fun x => ?_, fun x hx => ?_, ?_, ?_⟩
    · rw [List.mem_cons, List.mem_append, List.mem_append, h.mem]
      by_cases hx : x = id
      · subst hx
        have hn : Stp.mk x true ∉ seen := fun ht => hm.new (h.drops x ht)
        simp [hn]
      · simp [hx]
    · rcases List.mem_append.1 hx with hx | hx
      · exact List.mem_append.2 (Or.inl (h.drops x hx))
      · simp at hx
    · refine List.nodup_cons.2 ⟨fun hin => ?_, h.nodup⟩
      exact hm.new ((h.mem id).1 hin).1
    · simp only [loadOf, List.map_cons, List.sum_cons, ← h.sum, hsz, Bool.false_eq_true, if_false]
      omega
  | true =>
    have hin : id ∈ opn := (h.mem id).2 ⟨hm.first rfl, hm.new⟩
    refine ⟨opn.erase id, fun x => ?_, fun x hx => ?_, h.nodup.erase _, ?_⟩
    · rw [h.nodup.mem_erase_iff, List.mem_append, List.mem_append, h.mem]
      by_cases hx : x = id
      · subst hx; simp
      · simp [hx]
    · rcases List.mem_append.1 hx with hx | hx
      · exact List.mem_append.2 (Or.inl (h.drops x hx))
      · simp only [List.mem_singleton, Stp.mk.injEq, and_true] at hx
        rw [hx]
        exact List.mem_append.2 (Or.inl (hm.first rfl))
    · have := sum_erase (sizeOf os) hin
      simp only [loadOf, if_true]
      rw [h.sum, this, hsz]
      omega
end
#print axioms run_fault
end Go.Proofs.Ytpigklkidagolaa.FleetMath

/-
  What follows of the drive of chapter 7 (loads are never negative; who leaves later begins nothing earlier; no schedule begins earlier; how orders are listed does not matter), and the latest times of chapter 8. No program is named here.
-/
namespace Go.Proofs.Ytpigklkidagolaa.FleetMath
open Go.Proofs.Ytpigklkidagolaa.GeoMath

theorem known_iff {m : Option Mp} {os : List Ord} : known m os = true ↔ os.length ≤ 40 ∧ (∀ o ∈ os, ordE m o = 0) ∧ Dist os := by simp [known]
theorem known_ok {m : Mp} {os : List Ord} (h : known (some m) os = true) : ∀ o ∈ os, OrdOk m o := fun o ho => by
  obtain ⟨m', e, h'⟩ := ordE_ok.1 ((known_iff.1 h).2.1 o ho)
  injection e with e
  rw [e]; exact h'
theorem drive_arg {m : Mp} {d : Drv} {os : List Ord} {stops : List Stp} (h1 : drvE (some m) d = 0) (h2 : known (some m) os = true) (h3 : stops.length ≤ 80) :
    drive (some m) d os stops = driveM m d os stops := by
  unfold drive
  simp only
  rw [if_neg]
  rintro (h | h | h)
  · exact h h1
  · rw [h2] at h; cases h
  · omega
theorem drive_bad {m : Option Mp} {d : Drv} {os : List Ord} {stops : List Stp} (h : drvE m d ≠ 0 ∨ known m os = false ∨ 80 < stops.length) : drive m d os stops = ([], 0, 1) := by
  unfold drive
  split
  · rfl
  · rw [if_pos h]

section
variable {m : Mp} {d d' : Drv} {os ps : List Ord}
theorem run_open {seen : List Stp} {st st' : St} {xs : List Stp} {vs : List Vis} {opn : List Int} (h : run m d os seen st xs = .ok (st', vs)) (ho : Open os seen st.load opn) : ∃ opn', Open os (seen ++ xs) st'.load opn' := by
  induction xs generalizing seen st vs opn with
  | nil => rw [run_nil] at h; injection h with h; injection h with h _; subst h; exact ⟨opn, by simpa using ho⟩
  | cons s r ih =>
    rw [run_cons] at h
    split at h
    · cases h
    rename_i st1 v hs
    split at h
    · cases h
    rename_i st2 us hr
    injection h with h; injection h with e1 e2
    subst e1
    obtain ⟨o, hm⟩ := step_ok.1 hs
    obtain ⟨opn1, ho1⟩ := ho.step hm
    obtain ⟨opn2, ho2⟩ := ih hr ho1
    exact ⟨opn2, by simpa using ho2⟩
theorem run_load {st' : St} {xs : List Stp} {vs : List Vis} (hs : ∀ o ∈ os, 1 ≤ o.size) (h : run m d os [] (st0 d) xs = .ok (st', vs)) : 0 ≤ st'.load := by
  obtain ⟨opn, ho⟩ := run_open h (Open.start os)
  rw [ho.sum]
  exact sum_pos os hs opn

/-- visits that begin no earlier, with the same loads -/
def Later (vs us : List Vis) : Prop := vs.length = us.length ∧ ∀ (k : Nat) (v u : Vis), vs[k]? = some v → us[k]? = some u → v.start ≤ u.start ∧ v.load = u.load
theorem Later.cons {vs us : List Vis} {v u : Vis} (h : Later vs us) (h1 : v.start ≤ u.start) (h2 : v.load = u.load) : Later (v :: vs) (u :: us) := by
  refine ⟨by simp [h.1], fun k => ?_⟩
  cases k with
  | zero => intro a b ha hb; simp at ha hb; subst ha; subst hb; exact ⟨h1, h2⟩
  | succ k => intro a b ha hb; exact h.2 k a b (by simpa using ha) (by simpa using hb)
theorem step_later {seen : List Stp} {st st' f' : St} {s : Stp} {u : Vis} (hr : d.room = d'.room) (ht : d.win.to = d'.win.to) (ha : st.at_ = st'.at_) (hl : st.load = st'.load) (hle : st.left ≤ st'.left)
    (h : step m d' os seen st' s = .ok (f', u)) : ∃ f v, step m d os seen st s = .ok (f, v) ∧ f.at_ = f'.at_ ∧ f.load = f'.load ∧ f.left ≤ f'.left ∧ v.start ≤ u.start ∧ v.load = u.load := by
  obtain ⟨o, hm⟩ := step_ok.1 h
  obtain ⟨b, t, h1, h2, h3⟩ := served_mono (l := st.left) hm.serve hle
  refine ⟨⟨(siteOf o s).place, t, loadOf o s st.load⟩, ⟨s, st.left + time m st.at_ (siteOf o s).place, b, t, loadOf o s st.load⟩, step_ok.2 ⟨o, hm.find, hm.new, hm.first, ?_, ?_, rfl, rfl, rfl, rfl⟩, ?_, ?_, ?_, h2, ?_⟩
  · rw [hr, hl]; exact hm.load
  · rw [ht, ha]; exact h1
  · rw [hm.st']
  · rw [hm.st', hl]
  · rw [hm.st']; exact h3
  · rw [hm.vload, hl]
/-- who leaves later begins nothing earlier -/
theorem run_later {seen : List Stp} {st st' f' : St} {xs : List Stp} {us : List Vis} (hr : d.room = d'.room) (ht : d.win.to = d'.win.to) (ha : st.at_ = st'.at_) (hl : st.load = st'.load) (hle : st.left ≤ st'.left)
    (h : run m d' os seen st' xs = .ok (f', us)) : ∃ f vs, run m d os seen st xs = .ok (f, vs) ∧ f.load = f'.load ∧ Later vs us := by
  induction xs generalizing seen st st' us with
  | nil =>
    rw [run_nil] at h; injection h with h; injection h with h1 h2; subst h1; subst h2
    exact ⟨st, [], rfl, hl, rfl, fun k v u hv => by simp at hv⟩
  | cons s r ih =>
    rw [run_cons] at h
    split at h
    · cases h
    rename_i st1 u hs
    split at h
    · cases h
    rename_i st2 ws hw
    injection h with h; injection h with e1 e2
    subst e1; subst e2
    obtain ⟨f1, v, h1, h2, h3, h4, h5, h6⟩ := step_later hr ht ha hl hle hs
    obtain ⟨f2, vs, h7, h8, h9⟩ := ih h2 h3 h4 hw
    refine ⟨f2, v :: vs, ?_, h8, h9.cons h5 h6⟩
    rw [run_cons, h1]
    simp only [h7]

/-- a site that can be begun at b, not ahead of its arrival, is begun no later by who leaves no later -/
theorem served_le {f l b til : Int} {s : Site} (hr : right s.win = true) (h1 : l + time m f s.place ≤ b) (h2 : s.win.fr ≤ b) (h3 : b ≤ s.win.to) (h4 : b + s.serv ≤ til) :
    ∃ c v, served m f l s til = some (c, v) ∧ c ≤ b ∧ v ≤ b + s.serv := by
  refine ⟨_, _, served_some.2 ⟨beginT_some.2 ⟨hr, by omega, rfl⟩, rfl, ?_⟩, ?_, ?_⟩ <;> split <;> omega
theorem step_late {seen : List Stp} {st : St} {s : Stp} (h : step m d os seen st s = .error 15) : ∃ o, find os s.ord = some o ∧ served m st.at_ st.left (siteOf o s) d.win.to = none := by
  unfold step at h
  split at h
  · injection h with h; omega
  rename_i o ho
  split at h
  · injection h with h; omega
  split at h
  · injection h with h; omega
  split at h
  · injection h with h; omega
  split at h
  · rename_i hn; exact ⟨o, ho, hn⟩
  · cases h

theorem step_congr {seen : List Stp} {st : St} {s : Stp} (h : find os s.ord = find ps s.ord) : step m d os seen st s = step m d ps seen st s := by
  unfold step; rw [h]
theorem run_congr {seen : List Stp} {st : St} {xs : List Stp} (h : ∀ s ∈ xs, find os s.ord = find ps s.ord) : run m d os seen st xs = run m d ps seen st xs := by
  induction xs generalizing seen st with
  | nil => rfl
  | cons s r ih =>
    rw [run_cons, run_cons, step_congr (h s (by simp))]
    simp only [ih fun x hx => h x (by simp [hx])]
theorem driveM_congr {xs : List Stp} (h : ∀ s ∈ xs, find os s.ord = find ps s.ord) : driveM m d os xs = driveM m d ps xs := by
  unfold driveM; rw [run_congr h]
theorem Dist.reverse (h : Dist os) : Dist os.reverse := by
  unfold Dist; rw [List.pairwise_reverse]; exact h.imp fun h => h.symm
theorem Dist.filter (h : Dist os) (p : Ord → Bool) : Dist (os.filter p) := List.Pairwise.filter p h
theorem known_reverse {m : Option Mp} (h : known m os = true) : known m os.reverse = true := by
  obtain ⟨h1, h2, h3⟩ := known_iff.1 h
  exact known_iff.2 ⟨by simpa using h1, by simpa using h2, h3.reverse⟩
theorem known_filter {m : Option Mp} (h : known m os = true) (p : Ord → Bool) : known m (os.filter p) = true := by
  obtain ⟨h1, h2, h3⟩ := known_iff.1 h
  exact known_iff.2 ⟨Nat.le_trans (List.length_filter_le _ _) h1, fun o ho => h2 o (List.mem_filter.1 ho).1, h3.filter p⟩
/-- the same orders, listed the other way round; those that have no stop left out -/
theorem find_reverse (h : Dist os) (id : Int) : find os id = find os.reverse id := find_congr h.reverse fun o _ => by simp
theorem find_filter (h : Dist os) (p : Ord → Bool) (id : Int) (hp : ∀ o ∈ os, o.id = id → p o = true) : find os id = find (os.filter p) id :=
  find_congr (h.filter p) fun o e => by
    rw [List.mem_filter]
    exact ⟨fun ho => ⟨ho, hp o ho e⟩, fun ho => ho.1⟩

/-- chapter 8: lastT -/
theorem lastT_some {w : Win} {s u t : Int} : lastT w s u = some t ↔ right w = true ∧ 0 ≤ s ∧ w.fr ≤ t ∧ s ≤ u ∧ t = (if w.to < u - s then w.to else u - s) := by
  unfold lastT
  split
  · rename_i h
    constructor
    · intro h'; cases h'
    · rintro ⟨h1, h2, _, h4, _⟩
      rcases h with h | h | h
      · rw [h1] at h; cases h
      · omega
      · omega
  · rename_i h
    simp only [not_or, not_false] at h
    obtain ⟨h1, h2, h3⟩ := h
    generalize (if w.to < u - s then w.to else u - s) = x
    split
    · rename_i h4
      constructor
      · intro h'; cases h'
      · rintro ⟨_, _, h5, _, rfl⟩; omega
    · rename_i h4
      constructor
      · intro h'; injection h' with h'; subst h'; exact ⟨h1, by omega, by omega, by omega, rfl⟩
      · rintro ⟨_, _, _, _, rfl⟩; rfl
/-- a time does, for this site and this end -/
theorem lastT_iff {w : Win} {s u b : Int} (hr : right w = true) (hs : 0 ≤ s) (hb : w.fr ≤ b) : (b ≤ w.to ∧ b + s ≤ u) ↔ ∃ t, lastT w s u = some t ∧ b ≤ t := by
  have hr' := right_iff.1 hr
  constructor
  · rintro ⟨h1, h2⟩
    refine ⟨_, lastT_some.2 ⟨hr, hs, ?_, by omega, rfl⟩, ?_⟩ <;> split <;> omega
  · rintro ⟨t, h, hle⟩
    obtain ⟨_, _, h3, h4, rfl⟩ := lastT_some.1 h
    split at hle <;> omega
/-- the sites from a begun one on: can all be made? -/
def good (m : Mp) (til : Int) : Int → List Site → Prop
  | _, [] => True
  | b, s :: r => s.win.fr ≤ b ∧ b ≤ s.win.to ∧ b + s.serv ≤ til ∧
    match r with
    | [] => True
    | s' :: _ => ∃ c, beginT s'.win (b + s.serv + time m s.place s'.place) = some c ∧ good m til c r
/-- the latest times, from behind -/
def untilOf (m : Mp) (til : Int) (s : Site) : List Site → List Int → Int
  | s' :: _, t :: _ => if t - time m s.place s'.place < til then t - time m s.place s'.place else til
  | _, _ => til
def latest (m : Mp) (til : Int) : List Site → List Int
  | [] => []
  | s :: r => (lastT s.win s.serv (untilOf m til s r (latest m til r))).getD 0 :: latest m til r
theorem latest_len (til : Int) (l : List Site) : (latest m til l).length = l.length := by
  induction l with
  | nil => rfl
  | cons s r ih => simp [latest, ih]
structure SiteOk (s : Site) : Prop where
  win : right s.win = true
  serv : 0 ≤ s.serv
/-- some beginning does: then the latest one is told, and all ahead of it do -/
theorem good_iff {til b0 : Int} {s : Site} {r : List Site} (hok : ∀ x ∈ s :: r, SiteOk x) (h0 : good m til b0 (s :: r)) :
    ∃ t ts, latest m til (s :: r) = t :: ts ∧ lastT s.win s.serv (untilOf m til s r (latest m til r)) = some t ∧ ∀ b, s.win.fr ≤ b → (good m til b (s :: r) ↔ b ≤ t) := by
  induction r generalizing s b0 with
  | nil =>
    have hs := hok s (by simp)
    have key : ∀ b, s.win.fr ≤ b → (good m til b [s] ↔ ∃ t, lastT s.win s.serv til = some t ∧ b ≤ t) := fun b hb => by
      rw [← lastT_iff hs.win hs.serv hb]
      simp only [good, and_true]
      exact ⟨fun h => h.2, fun h => ⟨hb, h⟩⟩
    obtain ⟨t, ht, _⟩ := (key b0 h0.1).1 h0
    refine ⟨t, [], by simp [latest, untilOf, ht], by simp [untilOf, ht], fun b hb => ?_⟩
    rw [key b hb, ht]
    simp
  | cons s' r ih =>
    have hs := hok s (by simp)
    have hs' := hok s' (by simp)
    obtain ⟨g1, g2, g3, c0, hc0, g4⟩ := h0
    obtain ⟨t', ts, e1, e2, hi⟩ := ih (fun x hx => hok x (by simp [hx])) g4
    obtain ⟨_, _, hf', _, ht'⟩ := lastT_some.1 e2
    have hto : t' ≤ s'.win.to := by rw [ht']; split <;> omega
    have key : ∀ b, s.win.fr ≤ b → (good m til b (s :: s' :: r) ↔ (b ≤ s.win.to ∧ b + s.serv ≤ (if t' - time m s.place s'.place < til then t' - time m s.place s'.place else til))) := fun b hb => by
      constructor
      · rintro ⟨_, h2, h3, c, hc, h4⟩
        have hcin := beginT_in hc
        have := (hi c hcin.2.2.1).1 h4
        refine ⟨h2, ?_⟩
        split <;> omega
      · rintro ⟨h2, h3⟩
        have h4 : b + s.serv ≤ til ∧ b + s.serv + time m s.place s'.place ≤ t' := by split at h3 <;> omega
        have hb' : beginT s'.win (b + s.serv + time m s.place s'.place) = some (if b + s.serv + time m s.place s'.place < s'.win.fr then s'.win.fr else b + s.serv + time m s.place s'.place) := beginT_some.2 ⟨hs'.win, by omega, rfl⟩
        refine ⟨hb, h2, h4.1, _, hb', ?_⟩
        have hcin := beginT_in hb'
        refine (hi _ hcin.2.2.1).2 ?_
        split <;> omega
    have key2 : ∀ b, s.win.fr ≤ b → (good m til b (s :: s' :: r) ↔ ∃ t, lastT s.win s.serv (if t' - time m s.place s'.place < til then t' - time m s.place s'.place else til) = some t ∧ b ≤ t) := fun b hb => by
      rw [key b hb, lastT_iff hs.win hs.serv hb]
    have hu : untilOf m til s (s' :: r) (latest m til (s' :: r)) = (if t' - time m s.place s'.place < til then t' - time m s.place s'.place else til) := by rw [e1]; rfl
    obtain ⟨t, ht, _⟩ := (key2 b0 g1).1 ⟨g1, g2, g3, c0, hc0, g4⟩
    refine ⟨t, latest m til (s' :: r), ?_, by rw [hu, ht], fun b hb => ?_⟩
    · rw [show latest m til (s :: s' :: r) = (lastT s.win s.serv (untilOf m til s (s' :: r) (latest m til (s' :: r)))).getD 0 :: latest m til (s' :: r) from rfl, hu, ht]
      rfl
    · rw [key2 b hb, ht]
      simp
end
#print axioms good_iff
end Go.Proofs.Ytpigklkidagolaa.FleetMath

/-
  Chapter 8's consequence: with a stop's Window begun later, at a time from its beginning on, all can be made just up to its latest time; an order put between stops. No program is named here.
-/
namespace Go.Proofs.Ytpigklkidagolaa.FleetMath
open Go.Proofs.Ytpigklkidagolaa.GeoMath

def siteAt (os : List Ord) (s : Stp) : Site := match find os s.ord with | none => ⟨0, ⟨0, 0⟩, 0⟩ | some o => siteOf o s
theorem siteAt_of {os : List Ord} {s : Stp} {o : Ord} (h : find os s.ord = some o) : siteAt os s = siteOf o s := by unfold siteAt; rw [h]
def latestOf (m : Mp) (d : Drv) (os : List Ord) (stops : List Stp) : List Int := latest m d.win.to (stops.map (siteAt os))

section
variable {m : Mp} {d : Drv} {os ps : List Ord}
theorem latest_drop (til : Int) (l : List Site) (k : Nat) : (latest m til l).drop k = latest m til (l.drop k) := by
  induction l generalizing k with
  | nil => simp [latest]
  | cons s r ih =>
    cases k with
    | zero => rfl
    | succ k => simpa [latest] using ih k
theorem siteOk {o : Ord} (h : OrdOk m o) (s : Stp) : SiteOk (siteOf o s) := by
  unfold siteOf
  split
  · exact ⟨h.dropW, h.dropS.1⟩
  · exact ⟨h.pickW, h.pickS.1⟩
theorem siteAt_ok (h : ∀ o ∈ os, OrdOk m o) {s : Stp} {o : Ord} (hf : find os s.ord = some o) : SiteOk (siteAt os s) := by
  rw [siteAt_of hf]
  exact siteOk (h o (find_some hf).1) s

/-- all sites can be made, leaving a place at a time -/
def feas (m : Mp) (til a l : Int) : List Site → Prop
  | [] => True
  | s :: r => ∃ c, beginT s.win (l + time m a s.place) = some c ∧ good m til c (s :: r)
theorem feas_cons {til a l : Int} {s : Site} {r : List Site} : feas m til a l (s :: r) ↔ ∃ c v, served m a l s til = some (c, v) ∧ feas m til s.place v r := by
  constructor
  · rintro ⟨c, hc, h1, h2, h3, h4⟩
    refine ⟨c, c + s.serv, served_some.2 ⟨hc, rfl, h3⟩, ?_⟩
    cases r with
    | nil => trivial
    | cons s' r' => exact h4
  · rintro ⟨c, v, hs, hf⟩
    obtain ⟨hc, rfl, hle⟩ := served_some.1 hs
    have := beginT_in hc
    refine ⟨c, hc, by omega, by omega, by omega, ?_⟩
    cases r with
    | nil => trivial
    | cons s' r' => exact hf
theorem run_feas {seen : List Stp} {st f : St} {xs : List Stp} {vs : List Vis} (h : run m d os seen st xs = .ok (f, vs)) : feas m d.win.to st.at_ st.left (xs.map (siteAt os)) := by
  induction xs generalizing seen st vs with
  | nil => trivial
  | cons s r ih =>
    rw [run_cons] at h
    split at h
    · cases h
    rename_i st1 v hs
    split at h
    · cases h
    rename_i st2 us hr
    injection h with h; injection h with e1 e2
    subst e1
    obtain ⟨o, hm⟩ := step_ok.1 hs
    rw [List.map_cons, feas_cons]
    refine ⟨v.start, v.leave, by rw [siteAt_of hm.find]; exact hm.serve, ?_⟩
    have := ih hr
    rw [hm.st'] at this
    rw [siteAt_of hm.find]
    exact this
/-- orders that differ in sites alone -/
def Alike (os ps : List Ord) (s : Stp) : Prop := ∃ o p, find os s.ord = some o ∧ find ps s.ord = some p ∧ p.size = o.size
/-- what was made can be made with other sites, and from another time, just if the times let -/
theorem run_retime {seen : List Stp} {st st' f : St} {xs : List Stp} {vs : List Vis} (h : run m d os seen st xs = .ok (f, vs)) (hl : st'.load = st.load) (ha : ∀ s ∈ xs, Alike os ps s)
    (hf : feas m d.win.to st'.at_ st'.left (xs.map (siteAt ps))) : ∃ f' us, run m d ps seen st' xs = .ok (f', us) ∧ f'.load = f.load := by
  induction xs generalizing seen st st' vs with
  | nil => rw [run_nil] at h; injection h with h; injection h with h _; subst h; exact ⟨st', [], rfl, hl⟩
  | cons s r ih =>
    rw [run_cons] at h
    split at h
    · cases h
    rename_i st1 v hs
    split at h
    · cases h
    rename_i st2 us hr
    injection h with h; injection h with e1 e2
    subst e1
    obtain ⟨o, hm⟩ := step_ok.1 hs
    obtain ⟨o', p, ho, hp, hsz⟩ := ha s (by simp)
    rw [hm.find] at ho
    injection ho with ho
    subst ho
    rw [List.map_cons, feas_cons, siteAt_of hp] at hf
    obtain ⟨c, t, hserve, hf⟩ := hf
    have hld : loadOf p s st'.load = loadOf o s st.load := by unfold loadOf; rw [hl, hsz]
    have hmade : Made m d ps seen st' s p ⟨(siteOf p s).place, t, loadOf p s st'.load⟩ ⟨s, st'.left + time m st'.at_ (siteOf p s).place, c, t, loadOf p s st'.load⟩ :=
      ⟨hp, hm.new, hm.first, by rw [hld]; exact hm.load, hserve, rfl, rfl, rfl, rfl⟩
    obtain ⟨f', us', h1, h2⟩ := ih (st' := ⟨(siteOf p s).place, t, loadOf p s st'.load⟩) hr (by rw [hm.st']; exact hld) (fun x hx => ha x (by simp [hx])) hf
    refine ⟨f', (⟨s, st'.left + time m st'.at_ (siteOf p s).place, c, t, loadOf p s st'.load⟩ : Vis) :: us', ?_, h2⟩
    rw [run_cons, step_ok.2 ⟨p, hmade⟩]
    simp only [h1]
theorem step_same {seen : List Stp} {st : St} {s : Stp} (ha : Alike os ps s) (hs : siteAt ps s = siteAt os s) : step m d ps seen st s = step m d os seen st s := by
  obtain ⟨o, p, ho, hp, hz⟩ := ha
  rw [siteAt_of ho, siteAt_of hp] at hs
  have hl : ∀ l, loadOf p s l = loadOf o s l := fun l => by unfold loadOf; rw [hz]
  unfold step
  rw [ho, hp]
  simp only [hs, hl]
theorem run_same {seen : List Stp} {st : St} {xs : List Stp} (h : ∀ s ∈ xs, Alike os ps s ∧ siteAt ps s = siteAt os s) : run m d ps seen st xs = run m d os seen st xs := by
  induction xs generalizing seen st with
  | nil => rfl
  | cons s r ih =>
    rw [run_cons, run_cons, step_same (h s (by simp)).1 (h s (by simp)).2]
    simp only [ih fun x hx => h x (by simp [hx])]
theorem run_head {seen : List Stp} {st f : St} {s : Stp} {xs : List Stp} {v : Vis} {vs : List Vis} (h : run m d os seen st (s :: xs) = .ok (f, v :: vs)) : ∃ o st1, Made m d os seen st s o st1 v := by
  rw [run_cons] at h
  split at h
  · cases h
  rename_i st1 v' hs
  split at h
  · cases h
  injection h with h; injection h with e1 e2; injection e2 with e2 e3
  subst e2
  obtain ⟨o, hm⟩ := step_ok.1 hs
  exact ⟨o, st1, hm⟩

theorem run_good {seen : List Stp} {st f : St} {s : Stp} {xs : List Stp} {v : Vis} {vs : List Vis} (h : run m d os seen st (s :: xs) = .ok (f, v :: vs)) : good m d.win.to v.start ((s :: xs).map (siteAt os)) := by
  obtain ⟨c, hc, hg⟩ := run_feas h
  obtain ⟨o, st1, hm⟩ := run_head h
  rw [siteAt_of hm.find] at hc
  have := (served_some.1 hm.serve).1
  rw [this] at hc
  injection hc with hc
  rw [hc]
  exact hg

theorem run_new {seen : List Stp} {st f : St} {xs : List Stp} {vs : List Vis} (h : run m d os seen st xs = .ok (f, vs)) : (∀ s ∈ xs, s ∉ seen) ∧ xs.Pairwise (· ≠ ·) ∧ ∀ s ∈ xs, ∃ o, find os s.ord = some o := by
  induction xs generalizing seen st f vs with
  | nil => simp
  | cons s r ih =>
    rw [run_cons] at h
    split at h
    · cases h
    rename_i st1 v hs
    split at h
    · cases h
    rename_i st2 us hr
    obtain ⟨o, hm⟩ := step_ok.1 hs
    obtain ⟨h1, h2, h3⟩ := ih hr
    refine ⟨?_, List.pairwise_cons.2 ⟨?_, h2⟩, ?_⟩
    · intro x hx
      rcases List.mem_cons.1 hx with rfl | hx
      · exact hm.new
      · exact fun hin => h1 x hx (List.mem_append.2 (Or.inl hin))
    · intro x hx e
      subst e
      exact h1 s hx (List.mem_append.2 (Or.inr (by simp)))
    · intro x hx
      rcases List.mem_cons.1 hx with rfl | hx
      · exact ⟨o, hm.find⟩
      · exact h3 x hx

/-- the sites of a list of orders in which one site begins later -/
structure Turned (os ps : List Ord) (s : Stp) (t : Int) : Prop where
  alike : ∀ x o, find os x = some o → ∃ p, find ps x = some p ∧ p.size = o.size
  others : ∀ x o, find os x.ord = some o → x ≠ s → siteAt ps x = siteAt os x
  this : siteAt ps s = ⟨(siteAt os s).place, ⟨t, (siteAt os s).win.to⟩, (siteAt os s).serv⟩

theorem good_turned {til b : Int} {s : Site} {r : List Site} (h : s.win.fr ≤ b) : good m til b (⟨s.place, ⟨b, s.win.to⟩, s.serv⟩ :: r) ↔ good m til b (s :: r) := by
  cases r with
  | nil => simp only [good]; constructor <;> rintro ⟨_, h2⟩ <;> exact ⟨by omega, h2⟩
  | cons s' r' => simp only [good]; constructor <;> rintro ⟨_, h2⟩ <;> exact ⟨by omega, h2⟩
theorem limit {f : St} {xs : List Stp} {vs : List Vis} {k : Nat} {s : Stp} {v : Vis} {t : Int} (hok : ∀ o ∈ os, OrdOk m o)
    (h : run m d os [] (st0 d) xs = .ok (f, vs)) (hk : xs[k]? = some s) (hv : vs[k]? = some v) (hT : Turned os ps s t) (h1 : v.start ≤ t) (h2 : t ≤ (siteAt os s).win.to) :
    ∃ l, (latestOf m d os xs)[k]? = some l ∧ v.start ≤ l ∧ (siteAt os s).win.fr ≤ l ∧ l ≤ (siteAt os s).win.to ∧ right (siteAt os s).win = true ∧
      (t ≤ l → ∃ f' us, run m d ps [] (st0 d) xs = .ok (f', us) ∧ f'.load = f.load) ∧ (¬ t ≤ l → ∀ r, run m d ps [] (st0 d) xs ≠ .ok r) := by
  have hlt : k < xs.length := (List.getElem?_eq_some_iff.1 hk).1
  have hs : xs[k] = s := (List.getElem?_eq_some_iff.1 hk).2
  have hx : xs.take k ++ (s :: xs.drop (k + 1)) = xs := by rw [← hs, List.getElem_cons_drop, List.take_append_drop]
  have hlen : (xs.take k).length = k := by rw [List.length_take]; omega
  obtain ⟨hn1, hn2, hn3⟩ := run_new h
  rw [← hx] at hn2
  obtain ⟨hp1, hp2, hp3⟩ := List.pairwise_append.1 hn2
  have hpre : ∀ x ∈ xs.take k, x ≠ s := fun x hx' e => hp3 x hx' s (by simp) e
  have hpost : ∀ x ∈ xs.drop (k + 1), x ≠ s := fun x hx' e => (List.pairwise_cons.1 hp2).1 x hx' e.symm
  have hal : ∀ x ∈ xs, Alike os ps x := fun x hx' => by
    obtain ⟨o, ho⟩ := hn3 x hx'
    obtain ⟨p, hp, hz⟩ := hT.alike _ _ ho
    exact ⟨o, p, ho, hp, hz⟩
  have hmem : s ∈ xs := List.mem_of_getElem? hk
  have hx' := h
  rw [← hx] at hx'
  obtain ⟨st1, hr1, hr2⟩ := run_prefix hx'
  rw [hlen] at hr1 hr2
  have hvs : vs.drop k = v :: vs.drop (k + 1) := by
    have hlt' := (List.getElem?_eq_some_iff.1 hv).1
    rw [List.drop_eq_getElem_cons hlt', (List.getElem?_eq_some_iff.1 hv).2]
  rw [hvs] at hr2
  have hg := run_good hr2
  rw [List.map_cons] at hg
  have hoks : ∀ x ∈ siteAt os s :: (xs.drop (k + 1)).map (siteAt os), SiteOk x := by
    intro x hx2
    rcases List.mem_cons.1 hx2 with rfl | hx2
    · obtain ⟨o, ho⟩ := hn3 s hmem; exact siteAt_ok hok ho
    · obtain ⟨y, hy, rfl⟩ := List.mem_map.1 hx2
      obtain ⟨o, ho⟩ := hn3 y (List.mem_of_mem_drop hy); exact siteAt_ok hok ho
  obtain ⟨l, ls, e1, e2, hi⟩ := good_iff hoks hg
  have hfr : (siteAt os s).win.fr ≤ v.start := hg.1
  have hvl := (hi v.start hfr).1 hg
  obtain ⟨hr, _, hlf, _, hle⟩ := lastT_some.1 e2
  have hlto : l ≤ (siteAt os s).win.to := by rw [hle]; split <;> omega
  have hlk : (latestOf m d os xs)[k]? = some l := by
    have : ((latestOf m d os xs).drop k)[0]? = some l := by
      unfold latestOf
      rw [latest_drop, ← List.map_drop, List.drop_eq_getElem_cons hlt, hs, List.map_cons, e1]
      rfl
    simpa using this
  refine ⟨l, hlk, hvl, hlf, hlto, hr, ?_, ?_⟩
  all_goals
    have hpreR : run m d ps [] (st0 d) (xs.take k) = .ok (st1, vs.take k) := by
      rw [run_same (os := os) fun x hx2 => ?_]
      · exact hr1
      · obtain ⟨o, ho⟩ := hn3 x (List.mem_of_mem_take hx2)
        exact ⟨hal x (List.mem_of_mem_take hx2), hT.others x o ho (hpre x hx2)⟩
    have hm2 : (xs.drop (k + 1)).map (siteAt ps) = (xs.drop (k + 1)).map (siteAt os) := List.map_congr_left fun x hx2 => by
      obtain ⟨o, ho⟩ := hn3 x (List.mem_of_mem_drop hx2)
      exact hT.others x o ho (hpost x hx2)
    have hfe : feas m d.win.to st1.at_ st1.left ((s :: xs.drop (k + 1)).map (siteAt ps)) ↔ t ≤ l := by
      obtain ⟨o, st2, hm⟩ := run_head hr2
      have hb := beginT_in (served_some.1 hm.serve).1
      rw [← siteAt_of hm.find] at hb
      have hr3 := right_iff.1 hr
      have hbt : beginT (siteAt ps s).win (st1.left + time m st1.at_ (siteAt ps s).place) = some t := by
        rw [hT.this]
        refine beginT_some.2 ⟨right_iff.2 ⟨by simp only; omega, h2, hr3.2.2⟩, by simp only; omega, ?_⟩
        simp only
        split <;> omega
      rw [List.map_cons, hm2, ← hi t (by omega), ← good_turned (by omega), ← hT.this]
      constructor
      · rintro ⟨c, hc, hgd⟩
        rw [hbt] at hc
        injection hc with hc
        rw [hc]; exact hgd
      · exact fun hgd => ⟨t, hbt, hgd⟩
  · intro htl
    obtain ⟨f', us, h3, h4⟩ := run_retime (st' := st1) (ps := ps) hr2 rfl (fun x hx2 => hal x (by
      rcases List.mem_cons.1 hx2 with rfl | hx2
      · exact hmem
      · exact List.mem_of_mem_drop hx2)) (hfe.2 htl)
    refine ⟨f', vs.take k ++ us, ?_, h4⟩
    rw [← hx, run_append, hpreR]
    simp only [h3]
  · intro htl r hr'
    obtain ⟨f', us⟩ := r
    rw [← hx] at hr'
    obtain ⟨st3, h3, h4⟩ := run_prefix hr'
    rw [hpreR] at h3
    injection h3 with h3; injection h3 with h3 _
    subst h3
    exact htl (hfe.1 (run_feas h4))
end
#print axioms limit
end Go.Proofs.Ytpigklkidagolaa.FleetMath

/-
  Chapter 8: stops with an order's two put in; what fits. No program is named here.
-/
namespace Go.Proofs.Ytpigklkidagolaa.FleetMath
open Go.Proofs.Ytpigklkidagolaa.GeoMath

/-- the stops with the pickup ahead of number i and the delivery ahead of number j -/
def putM (l : List Stp) (o : Int) (i j : Nat) : List Stp := l.take i ++ ⟨o, false⟩ :: ((l.drop i).take (j - i) ++ ⟨o, true⟩ :: l.drop j)
/-- what is there behind the first k rounds of the document's Put -/
def putTo (l : List Stp) (o : Int) (i j k : Nat) : List Stp :=
  if k ≤ i then l.take k else if k ≤ j then l.take i ++ ⟨o, false⟩ :: (l.drop i).take (k - i) else l.take i ++ ⟨o, false⟩ :: ((l.drop i).take (j - i) ++ ⟨o, true⟩ :: (l.drop j).take (k - j))
theorem putTo_zero (l : List Stp) (o : Int) (i j : Nat) : putTo l o i j 0 = [] := by simp [putTo]
theorem putTo_end {l : List Stp} {o : Int} {i j : Nat} (hij : i ≤ j) (hj : j ≤ l.length) : putTo l o i j (l.length + 1) = putM l o i j := by
  unfold putTo putM
  rw [if_neg (by omega), if_neg (by omega), List.take_of_length_le (l := l.drop j) (by rw [List.length_drop]; omega)]
def one (c : Bool) (s : Stp) : List Stp := if c then [s] else []
theorem take_one {l : List Stp} {k : Nat} : l.take (k + 1) = l.take k ++ l[k]?.toList := List.take_add_one
theorem drop_take {l : List Stp} {i k : Nat} (h : i ≤ k) : (l.drop i).take (k + 1 - i) = (l.drop i).take (k - i) ++ l[k]?.toList := by
  rw [show k + 1 - i = (k - i) + 1 by omega, List.take_add_one, List.getElem?_drop, show i + (k - i) = k by omega]
theorem putTo_next {l : List Stp} {o : Int} {i j k : Nat} (hij : i ≤ j) :
    putTo l o i j (k + 1) = putTo l o i j k ++ (one (decide (k = i)) ⟨o, false⟩ ++ (one (decide (k = j)) ⟨o, true⟩ ++ l[k]?.toList)) := by
  unfold putTo one
  rcases Nat.lt_trichotomy k i with h | h | h
  · rw [if_pos (by omega), if_pos (by omega), decide_eq_false (by omega), decide_eq_false (by omega), take_one]
    rfl
  · subst h
    rw [if_neg (by omega), if_pos (Nat.le_refl k), decide_eq_true rfl]
    rcases Nat.lt_or_ge k j with hj | hj
    · rw [if_pos (by omega), decide_eq_false (by omega), drop_take (Nat.le_refl k), Nat.sub_self, List.take_zero]
      simp
    · have e : k = j := by omega
      subst e
      rw [if_neg (by omega), decide_eq_true rfl, drop_take (Nat.le_refl k), Nat.sub_self, List.take_zero]
      simp
  · rw [if_neg (by omega), if_neg (show ¬ k ≤ i by omega), decide_eq_false (by omega)]
    rcases Nat.lt_trichotomy k j with hj | hj | hj
    · rw [if_pos (by omega), if_pos (by omega), decide_eq_false (by omega), drop_take (by omega)]
      simp
    · subst hj
      rw [if_neg (by omega), if_pos (Nat.le_refl k), decide_eq_true rfl, drop_take (Nat.le_refl k), Nat.sub_self, List.take_zero]
      simp
    · rw [if_neg (by omega), if_neg (by omega), decide_eq_false (by omega), drop_take (show j ≤ k by omega)]
      simp
theorem putM_len {l : List Stp} {o : Int} {i j : Nat} (hij : i ≤ j) (hj : j ≤ l.length) : (putM l o i j).length = l.length + 2 := by
  unfold putM
  simp only [List.length_append, List.length_cons, List.length_take, List.length_drop]
  omega
/-- what Put answers -/
def putR (l : List Stp) (o i j : Int) : List Stp := if 0 ≤ i ∧ i ≤ j ∧ j ≤ l.length then putM l o i.toNat j.toNat else []
theorem putR_no {l : List Stp} {o i j : Int} (h : ¬ (0 ≤ i ∧ i ≤ j ∧ j ≤ l.length)) : putR l o i j = [] := if_neg h
theorem putR_nat {l : List Stp} {o : Int} {i j : Nat} (hij : i ≤ j) (hj : j ≤ l.length) : putR l o i j = putM l o i j := by
  unfold putR
  rw [if_pos (by omega)]
  rfl
/-- what Fits answers -/
def fits (m : Option Mp) (d : Drv) (os : List Ord) (stops : List Stp) (o : Ord) (i j : Int) : Bool :=
  decide (0 ≤ i ∧ i ≤ j ∧ j ≤ stops.length) && decide (find os o.id = none) && decide ((drive m d os stops).2.2 = 0) && decide ((drive m d (os ++ [o]) (putM stops o.id i.toNat j.toNat)).2.2 = 0)

#print axioms putTo_next
end Go.Proofs.Ytpigklkidagolaa.FleetMath

/-
  What follows of drives, as the statements of chapters 7 and 8 ask it: what a drive costs, what a fault says, a driver that begins later. No program is named here.
-/
namespace Go.Proofs.Ytpigklkidagolaa.FleetMath
open Go.Proofs.Ytpigklkidagolaa.GeoMath
/-- the time that a drive takes, from a place on -/
def costM (m : Mp) (os : List Ord) : Int → List Stp → Int
  | _, [] => 0
  | a, s :: r => time m a (siteAt os s).place + costM m os (siteAt os s).place r
/-- what a drive costs, where nothing is wrong with it -/
def cost (m : Option Mp) (d : Drv) (os : List Ord) (stops : List Stp) : Option Int :=
  match m with
  | none => none
  | some m' => if (drive m d os stops).2.2 = 0 then some (costM m' os d.home stops) else none
theorem costM_bound {m : Mp} {os : List Ord} (hm : ∀ a b, 0 ≤ time m a b ∧ time m a b ≤ 1000000) (a : Int) (l : List Stp) : 0 ≤ costM m os a l ∧ costM m os a l ≤ 1000000 * (l.length : Int) := by
  induction l generalizing a with
  | nil => simp [costM]
  | cons s r ih =>
    have h1 := hm a (siteAt os s).place
    have h2 := ih (siteAt os s).place
    simp only [costM, List.length_cons]
    omega
theorem drive_fine {m : Option Mp} {d : Drv} {os : List Ord} {stops : List Stp} (h : (drive m d os stops).2.2 = 0) : ∃ m' st, m = some m' ∧ run m' d os [] (st0 d) stops = .ok (st, (drive m d os stops).1) ∧ stops.length ≤ 80 ∧ known m os = true ∧ drvE m d = 0 := by
  cases m with
  | none => simp [drive] at h
  | some m' =>
    by_cases hb : drvE (some m') d ≠ 0 ∨ known (some m') os = false ∨ 80 < stops.length
    · rw [drive_bad hb] at h
      simp at h
    · have h1 : drvE (some m') d = 0 := Decidable.not_not.1 fun hx => hb (.inl hx)
      have h2 : known (some m') os = true := by
        cases hk : known (some m') os
        · exact absurd (.inr (.inl hk)) hb
        · rfl
      have h3 : stops.length ≤ 80 := by
        have : ¬ 80 < stops.length := fun hx => hb (.inr (.inr hx))
        omega
      rw [drive_arg h1 h2 h3] at h ⊢
      unfold driveM at h ⊢
      cases hr : run m' d os [] (st0 d) stops with
      | error x =>
        obtain ⟨k, e⟩ := x
        obtain ⟨s, _, hs, st1, vs, _, hst⟩ := run_fault hr
        rw [hr] at h
        simp only at h
        subst h
        exfalso
        unfold step at hst
        split at hst
        · injection hst with hst; omega
        · split at hst
          · injection hst with hst; omega
          · split at hst
            · injection hst with hst; omega
            · split at hst
              · injection hst with hst; omega
              · split at hst
                · injection hst with hst; omega
                · cases hst
      | ok p =>
        obtain ⟨st, vs⟩ := p
        rw [hr] at h
        simp only at h ⊢
        split at h
        · simp at h
        · rename_i hl
          rw [if_neg hl]
          exact ⟨m', st, rfl, by rw [hr], h3, h2, h1⟩
theorem drive_finds {m : Option Mp} {d : Drv} {os : List Ord} {stops : List Stp} (h : (drive m d os stops).2.2 = 0) {k : Nat} {s : Stp} (hk : stops[k]? = some s) : ∃ o, find os s.ord = some o := by
  obtain ⟨m', st, _, hr, _⟩ := drive_fine h
  obtain ⟨st1, st2, v, _, _, h3, _⟩ := run_at hr hk
  obtain ⟨o, hm⟩ := step_ok.1 h3
  exact ⟨o, hm.find⟩
/-- the number of a fault in a drive whose arguments are right -/
theorem driveM_why (m : Mp) (d : Drv) (os : List Ord) (stops : List Stp) : (driveM m d os stops).2.2 ≠ 1 ∧ ((driveM m d os stops).2.2 ≠ 0 → (driveM m d os stops).1 = []) := by
  unfold driveM
  cases hr : run m d os [] (st0 d) stops with
  | error x =>
    obtain ⟨k, e⟩ := x
    obtain ⟨s, _, hs, st1, vs, _, hst⟩ := run_fault hr
    refine ⟨fun he => ?_, fun _ => rfl⟩
    simp only at he
    subst he
    unfold step at hst
    split at hst
    · injection hst with hst; omega
    · split at hst
      · injection hst with hst; omega
      · split at hst
        · injection hst with hst; omega
        · split at hst
          · injection hst with hst; omega
          · split at hst
            · injection hst with hst; omega
            · cases hst
  | ok p =>
    obtain ⟨st, vs⟩ := p
    simp only
    split
    · exact ⟨by simp, fun _ => rfl⟩
    · exact ⟨by simp, fun h => absurd rfl h⟩
theorem drive_args {m : Option Mp} {d : Drv} {os : List Ord} {stops : List Stp} (h : (drive m d os stops).2.2 ≠ 1) : ∃ m', m = some m' ∧ drvE m d = 0 ∧ known m os = true ∧ stops.length ≤ 80 := by
  by_cases hb : drvE m d ≠ 0 ∨ known m os = false ∨ 80 < stops.length
  · rw [drive_bad hb] at h; exact absurd rfl h
  · have h1 : drvE m d = 0 := Decidable.not_not.1 fun hx => hb (.inl hx)
    obtain ⟨m', hm, _⟩ := drvE_ok.1 h1
    refine ⟨m', hm, h1, ?_, ?_⟩
    · cases hk : known m os
      · exact absurd (.inr (.inl hk)) hb
      · rfl
    · have : ¬ 80 < stops.length := fun hx => hb (.inr (.inr hx))
      omega
theorem drive_empty {m : Option Mp} {d : Drv} {os : List Ord} {stops : List Stp} (h : (drive m d os stops).2.2 ≠ 0) : (drive m d os stops).1 = [] := by
  by_cases h1 : (drive m d os stops).2.2 = 1
  · by_cases hb : drvE m d ≠ 0 ∨ known m os = false ∨ 80 < stops.length
    · rw [drive_bad hb]
    · have e1 : drvE m d = 0 := Decidable.not_not.1 fun hx => hb (.inl hx)
      obtain ⟨m', rfl, _⟩ := drvE_ok.1 e1
      have e2 : known (some m') os = true := by
        cases hk : known (some m') os
        · exact absurd (.inr (.inl hk)) hb
        · rfl
      have e3 : stops.length ≤ 80 := by
        have : ¬ 80 < stops.length := fun hx => hb (.inr (.inr hx))
        omega
      rw [drive_arg e1 e2 e3] at h1
      exact absurd h1 (driveM_why m' d os stops).1
  · obtain ⟨m', rfl, e1, e2, e3⟩ := drive_args h1
    rw [drive_arg e1 e2 e3] at h ⊢
    exact (driveM_why m' d os stops).2 h
/-- who begins later begins no stop earlier -/
theorem drive_later {m : Option Mp} {d : Drv} {os : List Ord} {stops : List Stp} {fr : Int} (h : (drive m d os stops).2.2 ≠ 1) (hf : fr = d.win.fr ∨ (d.win.fr < fr ∧ fr ≤ d.win.to))
    (hg : (drive m ⟨d.id, d.room, d.home, ⟨fr, d.win.to⟩, d.retired⟩ os stops).2.2 = 0) :
    (drive m d os stops).2.2 = 0 ∧ Later (drive m d os stops).1 (drive m ⟨d.id, d.room, d.home, ⟨fr, d.win.to⟩, d.retired⟩ os stops).1 := by
  obtain ⟨m', rfl, e1, e2, e3⟩ := drive_args h
  obtain ⟨m2, st2, hm2, hr, _, _, e4⟩ := drive_fine hg
  injection hm2 with hm2
  subst hm2
  have hload : ¬ 0 < st2.load := by
    intro hl
    rw [drive_arg e4 e2 e3] at hg
    unfold driveM at hg
    rw [hr] at hg
    simp only at hg
    rw [if_pos hl] at hg
    simp at hg
  obtain ⟨st1, vs, h1, h2, h3⟩ := run_later (d := d) (d' := ⟨d.id, d.room, d.home, ⟨fr, d.win.to⟩, d.retired⟩) (st := st0 d) (st' := st0 ⟨d.id, d.room, d.home, ⟨fr, d.win.to⟩, d.retired⟩) rfl rfl rfl rfl (by simp only [st0]; omega) hr
  have hd : drive (some m') d os stops = (vs, 0, 0) := by
    rw [drive_arg e1 e2 e3]
    unfold driveM
    rw [h1]
    simp only
    rw [if_neg (by omega)]
  rw [hd]
  exact ⟨rfl, h3⟩

#print axioms drive_later
end Go.Proofs.Ytpigklkidagolaa.FleetMath

/-
  The plain mathematics of a drive, stop by stop, as a loop meets it. No program is named here.
-/
namespace Go.Proofs.Ytpigklkidagolaa.FleetMath
open Go.Proofs.Ytpigklkidagolaa.GeoMath
section
variable {m : Mp} {d : Drv} {os : List Ord} {seen : List Stp} {st : St} {s : Stp} {o : Ord}
theorem step_none (h : find os s.ord = none) : step m d os seen st s = .error 8 := by unfold step; rw [h]
theorem step_twice (h : find os s.ord = some o) (h1 : s ∈ seen) : step m d os seen st s = .error 16 := by unfold step; rw [h]; simp only; rw [if_pos h1]
theorem step_first (h : find os s.ord = some o) (h1 : s ∉ seen) (h2 : s.drop = true) (h3 : Stp.mk s.ord false ∉ seen) : step m d os seen st s = .error 17 := by unfold step; rw [h]; simp only; rw [if_neg h1, if_pos ⟨h2, h3⟩]
theorem step_load (h : find os s.ord = some o) (h1 : s ∉ seen) (h2 : s.drop = true → Stp.mk s.ord false ∈ seen) (h3 : d.room < loadOf o s st.load) : step m d os seen st s = .error 14 := by
  unfold step; rw [h]; simp only; rw [if_neg h1, if_neg (fun hd => hd.2 (h2 hd.1)), if_pos h3]
theorem step_tardy (h : find os s.ord = some o) (h1 : s ∉ seen) (h2 : s.drop = true → Stp.mk s.ord false ∈ seen) (h3 : loadOf o s st.load ≤ d.room) (h4 : served m st.at_ st.left (siteOf o s) d.win.to = none) : step m d os seen st s = .error 15 := by
  unfold step; rw [h]; simp only; rw [if_neg h1, if_neg (fun hd => hd.2 (h2 hd.1)), if_neg (by omega), h4]
theorem step_made {b v : Int} (h : find os s.ord = some o) (h1 : s ∉ seen) (h2 : s.drop = true → Stp.mk s.ord false ∈ seen) (h3 : loadOf o s st.load ≤ d.room) (h4 : served m st.at_ st.left (siteOf o s) d.win.to = some (b, v)) :
    step m d os seen st s = .ok (⟨(siteOf o s).place, v, loadOf o s st.load⟩, ⟨s, st.left + time m st.at_ (siteOf o s).place, b, v, loadOf o s st.load⟩) := by
  unfold step; rw [h]; simp only; rw [if_neg h1, if_neg (fun hd => hd.2 (h2 hd.1)), if_neg (by omega), h4]
end
theorem split_at {l : List Stp} {k : Nat} {s : Stp} (h : l[k]? = some s) : l = l.take k ++ s :: l.drop (k + 1) := by
  obtain ⟨hlt, e⟩ := List.getElem?_eq_some_iff.1 h
  rw [← e, ← List.drop_eq_getElem_cons hlt, List.take_append_drop]
/-- behind k stops nothing is wrong: where the driver is, and what it has visited -/
structure Upto (m : Mp) (d : Drv) (os : List Ord) (stops : List Stp) (k : Nat) (st : St) (vs : List Vis) : Prop where
  run : run m d os [] (st0 d) (stops.take k) = .ok (st, vs)
  left : 0 ≤ st.left ∧ st.left ≤ 2000000
  load : -(1000 * (k : Int)) ≤ st.load ∧ st.load ≤ 1000 * (k : Int)
  len : vs.length = k
section
variable {m : Mp} {d : Drv} {os : List Ord} {stops : List Stp} {k : Nat} {st : St} {vs : List Vis} {s : Stp}
theorem Upto.start (hd : DrvOk m d) : Upto m d os stops 0 (st0 d) [] := by
  have hw := right_iff.1 hd.win
  exact ⟨by simp [FleetMath.run], ⟨hw.1, by show d.win.fr ≤ 2000000; omega⟩, ⟨by simp [st0], by simp [st0]⟩, rfl⟩
theorem Upto.fault {e : Int} (h : Upto m d os stops k st vs) (hs : stops[k]? = some s) (he : step m d os (stops.take k) st s = .error e) (hd : drvE (some m) d = 0) (hk : known (some m) os = true) (hn : stops.length ≤ 80) :
    drive (some m) d os stops = ([], k, e) := by
  have hlt := (List.getElem?_eq_some_iff.1 hs).1
  rw [drive_arg hd hk hn]
  unfold driveM
  rw [split_at hs, run_fault_at h.run (by simpa using he)]
  simp only [List.length_nil, Nat.zero_add, List.length_take]
  rw [Nat.min_eq_left (by omega)]
theorem Upto.next {o : Ord} {b v : Int} (h : Upto m d os stops k st vs) (hs : stops[k]? = some s) (ho : OrdOk m o) (h0 : find os s.ord = some o) (h1 : s ∉ stops.take k) (h2 : s.drop = true → Stp.mk s.ord false ∈ stops.take k) (h3 : loadOf o s st.load ≤ d.room) (h4 : served m st.at_ st.left (siteOf o s) d.win.to = some (b, v)) :
    Upto m d os stops (k + 1) ⟨(siteOf o s).place, v, loadOf o s st.load⟩ (vs ++ [⟨s, st.left + time m st.at_ (siteOf o s).place, b, v, loadOf o s st.load⟩]) := by
  have hst := step_made h0 h1 h2 h3 h4
  obtain ⟨q1, q2, _⟩ := served_some.1 h4
  have hw := right_iff.1 (has_iff.1 (beginT_in q1).1).1
  have hb := beginT_in q1
  have hsz := ho.size
  have hsv : 0 ≤ (siteOf o s).serv ∧ (siteOf o s).serv ≤ 1000000 := by
    unfold siteOf
    split
    · exact ho.dropS
    · exact ho.pickS
  refine ⟨?_, ⟨by simp only; omega, by simp only; omega⟩, ?_, by simp [h.len]⟩
  · rw [List.take_add_one, hs, run_append, h.run]
    simp only [Option.toList, List.nil_append]
    rw [run_cons, hst]
    simp [FleetMath.run]
  · have := h.load
    simp only [loadOf]
    split <;> constructor <;> omega
theorem Upto.done (h : Upto m d os stops stops.length st vs) (hd : drvE (some m) d = 0) (hk : known (some m) os = true) (hn : stops.length ≤ 80) :
    drive (some m) d os stops = if 0 < st.load then ([], stops.length, 18) else (vs, 0, 0) := by
  rw [drive_arg hd hk hn]
  unfold driveM
  have := h.run
  rw [List.take_length] at this
  rw [this]
end

#print axioms Upto.next
end Go.Proofs.Ytpigklkidagolaa.FleetMath
