/-
  GeoMath, FleetMath, FleetMath2, FleetMath3, FleetMath4, FleetMath5, RouteMath: one text.
-/
import Derived.Below
namespace Go.Proofs.YtilggpkmdmelmaaGreat.GeoMath
def T (n : Nat) (l : List Int) (a b : Nat) : Int := l.getD (a * n + b) 0
structure IsMap (n : Nat) (l : List Int) : Prop where
  len : l.length = n * n
  lo : ∀ i, i < n * n → 0 ≤ l.getD i 0
  hi : ∀ i, i < n * n → l.getD i 0 ≤ 1000000
  diag : ∀ a, a < n → T n l a a = 0
def Tri (n : Nat) (l : List Int) : Prop := ∀ a, a < n → ∀ b, b < n → ∀ c, c < n → T n l a c ≤ T n l a b + T n l b c
instance (n : Nat) (l : List Int) : Decidable (Tri n l) := by unfold Tri; infer_instance
def Le (n : Nat) (d l : List Int) : Prop := ∀ i, i < n * n → d.getD i 0 ≤ l.getD i 0
structure OnWay (n : Nat) (o l : List Int) : Prop where
  map : IsMap n l
  le : Le n l o
  above : ∀ d, d.length = n * n → Tri n d → Le n d o → Le n d l
theorem idx_lt {n a b : Nat} (ha : a < n) (hb : b < n) : a * n + b < n * n := by
  have : (a + 1) * n ≤ n * n := Nat.mul_le_mul_right n ha
  rw [Nat.add_mul, Nat.one_mul] at this
  omega
theorem idx_inj {n a b a' b' : Nat} (hb : b < n) (hb' : b' < n) (h : a * n + b = a' * n + b') : a = a' ∧ b = b' := by
  have hn : 0 < n := by omega
  have h1 : (a * n + b) / n = a := by rw [Nat.mul_comm, Nat.mul_add_div hn, Nat.div_eq_of_lt hb, Nat.add_zero]
  have h2 : (a' * n + b') / n = a' := by rw [Nat.mul_comm, Nat.mul_add_div hn, Nat.div_eq_of_lt hb', Nat.add_zero]
  have h3 : a = a' := by rw [← h1, ← h2, h]
  subst h3
  exact ⟨rfl, by omega⟩
theorem getD_set (l : List Int) (i j : Nat) (v : Int) (hi : i < l.length) : (l.set i v).getD j 0 = if i = j then v else l.getD j 0 := by
  by_cases h : i = j
  · subst h; simp [List.getD, hi]
  · simp [List.getD, h]
theorem at_getD {l : List Int} {i : Nat} (h : i < l.length) : l[i]? = some (l.getD i 0) := by simp [List.getD, h]
theorem T_set {n a b x y : Nat} {l : List Int} {v : Int} (hl : l.length = n * n) (ha : a < n) (hb : b < n) (hy : y < n) :
    T n (l.set (a * n + b) v) x y = if a = x ∧ b = y then v else T n l x y := by
  unfold T
  rw [getD_set _ _ _ _ (by rw [hl]; exact idx_lt ha hb)]
  by_cases h : a = x ∧ b = y
  · obtain ⟨rfl, rfl⟩ := h; simp
  · rw [if_neg h, if_neg]
    intro e
    exact h (idx_inj hb hy e)
theorem IsMap.T_lo {n a b : Nat} {l : List Int} (h : IsMap n l) (ha : a < n) (hb : b < n) : 0 ≤ T n l a b := h.lo _ (idx_lt ha hb)
theorem IsMap.T_hi {n a b : Nat} {l : List Int} (h : IsMap n l) (ha : a < n) (hb : b < n) : T n l a b ≤ 1000000 := h.hi _ (idx_lt ha hb)
theorem Le.T {n a b : Nat} {d l : List Int} (h : Le n d l) (ha : a < n) (hb : b < n) : T n d a b ≤ T n l a b := h _ (idx_lt ha hb)
theorem Le.trans {n : Nat} {a b c : List Int} (h : Le n a b) (h' : Le n b c) : Le n a c := fun i hi => Int.le_trans (h i hi) (h' i hi)
theorem Le.refl (n : Nat) (a : List Int) : Le n a a := fun _ _ => Int.le_refl _
theorem OnWay.refl {n : Nat} {o : List Int} (h : IsMap n o) : OnWay n o o := ⟨h, Le.refl _ _, fun _ _ _ h => h⟩
theorem OnWay.step {n a k b : Nat} {o l : List Int} {v : Int} (h : OnWay n o l) (ha : a < n) (hk : k < n) (hb : b < n) (hv : v = T n l a k + T n l k b) (hlt : v < T n l a b) :
    OnWay n o (l.set (a * n + b) v) := by
  have hi := idx_lt ha hb
  have hle : ∀ i, i < n * n → (l.set (a * n + b) v).getD i 0 ≤ l.getD i 0 := by
    intro i _
    rw [getD_set _ _ _ _ (by rw [h.map.len]; exact hi)]
    split
    · rename_i e; subst e; exact Int.le_of_lt hlt
    · exact Int.le_refl _
  refine ⟨⟨by simp [h.map.len], ?_, fun i hi' => Int.le_trans (hle i hi') (h.map.hi i hi'), ?_⟩, fun i hi' => Int.le_trans (hle i hi') (h.le i hi'), ?_⟩
  · intro i hi'
    rw [getD_set _ _ _ _ (by rw [h.map.len]; exact hi)]
    split
    · have := h.map.T_lo ha hk
      have := h.map.T_lo hk hb
      omega
    · exact h.map.lo i hi'
  · intro x hx
    rw [T_set h.map.len ha hb hx]
    split
    · rename_i e
      have h1 := h.map.T_lo ha hk
      have h2 := h.map.T_lo hk hb
      have h3 := h.map.diag x hx
      rw [e.1, e.2] at hlt
      omega
    · exact h.map.diag x hx
  · intro d hd ht hdo i hi'
    have hdl := h.above d hd ht hdo
    rw [getD_set _ _ _ _ (by rw [h.map.len]; exact hi)]
    split
    · rename_i e
      subst e
      have h1 := ht a ha k hk b hb
      have h2 := hdl.T ha hk
      have h3 := hdl.T hk hb
      have h4 : T n d a b = d.getD (a * n + b) 0 := rfl
      omega
    · exact hdl i hi'
theorem set_same {l : List Int} {i : Nat} : l.set i (l.getD i 0) = l := by
  apply List.ext_getElem?; intro j
  rw [List.getElem?_set]
  split
  · rename_i e; subst e
    split
    · rename_i h; rw [at_getD h]
    · rename_i h; rw [List.getElem?_eq_none (by omega)]
  · rfl
theorem OnWay.min {n a k b : Nat} {o l : List Int} (h : OnWay n o l) (ha : a < n) (hk : k < n) (hb : b < n) :
    OnWay n o (l.set (a * n + b) (Min.min (T n l a b) (T n l a k + T n l k b))) := by
  by_cases hlt : T n l a k + T n l k b < T n l a b
  · rw [Int.min_eq_right (Int.le_of_lt hlt)]
    exact h.step ha hk hb rfl hlt
  · rw [Int.min_eq_left (by omega), show T n l a b = l.getD (a * n + b) 0 from rfl, set_same]
    exact h
def Thru (n K : Nat) (l : List Int) : Prop := ∀ j, j < K → ∀ a, a < n → ∀ c, c < n → T n l a c ≤ T n l a j + T n l j c
theorem Thru.zero (n : Nat) (l : List Int) : Thru n 0 l := fun _ h => absurd h (by omega)
def Phase (n k : Nat) (c l : List Int) (a b : Nat) : Prop :=
  ∀ x, x < n → ∀ y, y < n → T n l x y = if x < a ∨ (x = a ∧ y < b) then Min.min (T n c x y) (T n c x k + T n c k y) else T n c x y
theorem Phase.start (n k : Nat) (c : List Int) : Phase n k c c 0 0 := fun x _ y _ => by rw [if_neg (by omega)]
theorem Phase.row {n k a : Nat} {c l : List Int} (h : Phase n k c l a n) : Phase n k c l (a + 1) 0 := fun x hx y hy => by
  rw [h x hx y hy]
  by_cases h1 : x < a ∨ (x = a ∧ y < n)
  · rw [if_pos h1, if_pos (by omega)]
  · rw [if_neg h1, if_neg (by omega)]
theorem Phase.col {n k a b x : Nat} {c l : List Int} (hc : IsMap n c) (hk : k < n) (h : Phase n k c l a b) (hx : x < n) : T n l x k = T n c x k := by
  rw [h x hx k hk, hc.diag k hk]
  split
  · rw [Int.add_zero, Int.min_self]
  · rfl
theorem Phase.rowk {n k a b y : Nat} {c l : List Int} (hc : IsMap n c) (hk : k < n) (h : Phase n k c l a b) (hy : y < n) : T n l k y = T n c k y := by
  rw [h k hk y hy, hc.diag k hk]
  split
  · rw [Int.zero_add, Int.min_self]
  · rfl
theorem Phase.min {n k a b : Nat} {c l : List Int} (hc : IsMap n c) (hl : l.length = n * n) (hk : k < n) (ha : a < n) (hb : b < n) (h : Phase n k c l a b) :
    Phase n k c (l.set (a * n + b) (Min.min (T n l a b) (T n l a k + T n l k b))) a (b + 1) := fun x hx y hy => by
  rw [T_set hl ha hb hy]
  by_cases e : a = x ∧ b = y
  · obtain ⟨rfl, rfl⟩ := e
    rw [if_pos ⟨rfl, rfl⟩, if_pos (by omega), h.col hc hk ha, h.rowk hc hk hb, h a ha b hb, if_neg (by omega)]
  · rw [if_neg e, h x hx y hy]
    by_cases h1 : x < a ∨ (x = a ∧ y < b)
    · rw [if_pos h1, if_pos (by omega)]
    · rw [if_neg h1, if_neg (by omega)]
theorem Phase.step {n k a b : Nat} {c l : List Int} {v : Int} (hc : IsMap n c) (hl : l.length = n * n) (hk : k < n) (ha : a < n) (hb : b < n) (h : Phase n k c l a b)
    (hv : v = T n l a k + T n l k b) (hlt : v < T n l a b) : Phase n k c (l.set (a * n + b) v) a (b + 1) := by
  have := h.min hc hl hk ha hb
  rw [Int.min_eq_right (by omega), ← hv] at this
  exact this
theorem Phase.skip {n k a b : Nat} {c l : List Int} (hc : IsMap n c) (hl : l.length = n * n) (hk : k < n) (ha : a < n) (hb : b < n) (h : Phase n k c l a b)
    (hle : T n l a b ≤ T n l a k + T n l k b) : Phase n k c l a (b + 1) := by
  have := h.min hc hl hk ha hb
  rw [Int.min_eq_left hle, show T n l a b = l.getD (a * n + b) 0 from rfl, set_same] at this
  exact this
theorem sum_nonneg {l : List Int} (h : ∀ i, i < l.length → 0 ≤ l.getD i 0) : 0 ≤ l.sum := by
  induction l with
  | nil => simp
  | cons x xs ih =>
    have h0 := h 0 (by simp)
    have h1 := ih fun i hi => by simpa using h (i + 1) (by simpa using hi)
    simp at h0
    rw [List.sum_cons]; omega
theorem sum_set {l : List Int} {i : Nat} {v : Int} (h : i < l.length) : (l.set i v).sum = l.sum + (v - l.getD i 0) := by
  induction l generalizing i with
  | nil => simp at h
  | cons x xs ih =>
    cases i with
    | zero => simp; omega
    | succ i =>
      have := ih (i := i) (by simpa using h)
      simp only [List.set_cons_succ, List.sum_cons, List.getD_cons_succ, this]
      omega
theorem IsMap.sum {n : Nat} {l : List Int} (h : IsMap n l) : 0 ≤ l.sum := sum_nonneg fun i hi => h.lo i (by rw [← h.len]; exact hi)
theorem sum_falls {n a b : Nat} {l : List Int} {v : Int} (h : IsMap n l) (ha : a < n) (hb : b < n) (hlt : v < T n l a b) : (l.set (a * n + b) v).sum < l.sum := by
  rw [sum_set (by rw [h.len]; exact idx_lt ha hb)]
  have : T n l a b = l.getD (a * n + b) 0 := rfl
  omega
def Seen (n : Nat) (l : List Int) (a b k : Nat) : Prop :=
  ∀ x, x < n → ∀ y, y < n → ∀ z, z < n → (x < a ∨ (x = a ∧ (y < b ∨ (y = b ∧ z < k)))) → T n l x y ≤ T n l x z + T n l z y
theorem Seen.start (n : Nat) (l : List Int) : Seen n l 0 0 0 := fun _ _ _ _ _ _ h => by omega
theorem Seen.more {n a b k : Nat} {l : List Int} (h : Seen n l a b k) (hle : T n l a b ≤ T n l a k + T n l k b) : Seen n l a b (k + 1) := fun x hx y hy z hz hh => by
  by_cases e : x = a ∧ y = b ∧ z = k
  · obtain ⟨rfl, rfl, rfl⟩ := e; exact hle
  · exact h x hx y hy z hz (by omega)
theorem Seen.next {n a b : Nat} {l : List Int} (h : Seen n l a b n) : Seen n l a (b + 1) 0 := fun x hx y hy z hz hh => h x hx y hy z hz (by omega)
theorem Seen.row {n a : Nat} {l : List Int} (h : Seen n l a n 0) : Seen n l (a + 1) 0 0 := fun x hx y hy z hz hh => h x hx y hy z hz (by omega)
def Pass (n : Nat) (p l : List Int) (t : Bool) (a b k : Nat) : Prop := (t = false ∧ l = p ∧ Seen n p a b k) ∨ (t = true ∧ l.sum < p.sum)
theorem Pass.start (n : Nat) (p : List Int) : Pass n p p false 0 0 0 := .inl ⟨rfl, rfl, Seen.start n p⟩
theorem Pass.more {n a b k : Nat} {p l : List Int} {t : Bool} (h : Pass n p l t a b k) (hle : T n l a b ≤ T n l a k + T n l k b) : Pass n p l t a b (k + 1) := by
  rcases h with ⟨h1, rfl, h3⟩ | h
  · exact .inl ⟨h1, rfl, h3.more hle⟩
  · exact .inr h
theorem Pass.step {n a b k : Nat} {p l : List Int} {t : Bool} {v : Int} (h : Pass n p l t a b k) (hm : IsMap n l) (ha : a < n) (hb : b < n) (hlt : v < T n l a b) : Pass n p (l.set (a * n + b) v) true a b (k + 1) := by
  have := sum_falls hm ha hb hlt
  rcases h with ⟨_, rfl, _⟩ | ⟨_, h⟩
  · exact .inr ⟨rfl, this⟩
  · exact .inr ⟨rfl, by omega⟩
theorem Pass.next {n a b : Nat} {p l : List Int} {t : Bool} (h : Pass n p l t a b n) : Pass n p l t a (b + 1) 0 := by
  rcases h with ⟨h1, h2, h3⟩ | h
  · exact .inl ⟨h1, h2, h3.next⟩
  · exact .inr h
theorem Pass.row {n a : Nat} {p l : List Int} {t : Bool} (h : Pass n p l t a n 0) : Pass n p l t (a + 1) 0 0 := by
  rcases h with ⟨h1, h2, h3⟩ | h
  · exact .inl ⟨h1, h2, h3.row⟩
  · exact .inr h
def Held (n : Nat) (l : List Int) (a b c : Nat) : Prop :=
  ∀ x, x < n → ∀ y, y < n → ∀ z, z < n → (x < a ∨ (x = a ∧ (y < b ∨ (y = b ∧ z < c)))) → T n l x z ≤ T n l x y + T n l y z
theorem Held.start (n : Nat) (l : List Int) : Held n l 0 0 0 := fun _ _ _ _ _ _ h => by omega
theorem Held.more {n a b c : Nat} {l : List Int} (h : Held n l a b c) (hle : T n l a c ≤ T n l a b + T n l b c) : Held n l a b (c + 1) := fun x hx y hy z hz hh => by
  by_cases e : x = a ∧ y = b ∧ z = c
  · obtain ⟨rfl, rfl, rfl⟩ := e; exact hle
  · exact h x hx y hy z hz (by omega)
theorem Held.next {n a b : Nat} {l : List Int} (h : Held n l a b n) : Held n l a (b + 1) 0 := fun x hx y hy z hz hh => h x hx y hy z hz (by omega)
theorem Held.row {n a : Nat} {l : List Int} (h : Held n l a n 0) : Held n l (a + 1) 0 0 := fun x hx y hy z hz hh => h x hx y hy z hz (by omega)
def newE (n : Int) (l : List Int) : Int :=
  if n < 1 ∨ 12 < n then 1
  else if (l.length : Int) ≠ n * n then 2
  else if ∃ x ∈ l, x < 0 ∨ 1000000 < x then 7
  else if ∃ a, a < n.toNat ∧ T n.toNat l a a ≠ 0 then 4 else 0
theorem newE_ok {n : Nat} {l : List Int} (h : newE n l = 0) : 1 ≤ n ∧ n ≤ 12 ∧ IsMap n l := by
  unfold newE at h
  split at h
  · omega
  split at h
  · omega
  split at h
  · omega
  split at h
  · omega
  rename_i h1 h2 h3 h4
  have hlen : l.length = n * n := by
    have : (l.length : Int) = ((n * n : Nat) : Int) := by rw [Int.natCast_mul]; exact Decidable.not_not.1 h2
    omega
  have hmem : ∀ i, i < n * n → ¬ (l.getD i 0 < 0 ∨ 1000000 < l.getD i 0) := by
    intro i hi hx
    exact h3 ⟨_, List.mem_of_getElem? (at_getD (by omega : i < l.length)), hx⟩
  refine ⟨by omega, by omega, hlen, ?_, ?_, ?_⟩
  · intro i hi; have := hmem i hi; omega
  · intro i hi; have := hmem i hi; omega
  · intro a ha
    exact Decidable.not_not.1 fun hne => h4 ⟨a, by simpa using ha, by simpa using hne⟩
theorem newE_arg {n : Int} {l : List Int} (h : n < 1 ∨ 12 < n) : newE n l = 1 := by unfold newE; rw [if_pos h]
theorem newE_long {n : Int} {l : List Int} (h : ¬ (n < 1 ∨ 12 < n)) (h2 : (l.length : Int) ≠ n * n) : newE n l = 2 := by unfold newE; rw [if_neg h, if_pos h2]
theorem newE_over {n : Nat} {l : List Int} (h : ¬ ((n : Int) < 1 ∨ 12 < (n : Int))) (h2 : l.length = n * n) {x : Int} (hx : x ∈ l) (hb : x < 0 ∨ 1000000 < x) : newE n l = 7 := by
  unfold newE; rw [if_neg h, if_neg (by rw [h2, Int.natCast_mul]; simp), if_pos ⟨x, hx, hb⟩]
theorem newE_form {n : Nat} {l : List Int} (h : ¬ ((n : Int) < 1 ∨ 12 < (n : Int))) (h2 : l.length = n * n) (h3 : ∀ x ∈ l, 0 ≤ x ∧ x ≤ 1000000) {a : Nat} (ha : a < n) (hd : T n l a a ≠ 0) : newE n l = 4 := by
  unfold newE
  rw [if_neg h, if_neg (by rw [h2, Int.natCast_mul]; simp), if_neg (by rintro ⟨x, hx, hb⟩; have := h3 x hx; omega), if_pos ⟨a, by simpa using ha, by simpa using hd⟩]
theorem newE_none {n : Nat} {l : List Int} (h : ¬ ((n : Int) < 1 ∨ 12 < (n : Int))) (h2 : l.length = n * n) (h3 : ∀ x ∈ l, 0 ≤ x ∧ x ≤ 1000000) (h4 : ∀ a, a < n → T n l a a = 0) : newE n l = 0 := by
  unfold newE
  rw [if_neg h, if_neg (by rw [h2, Int.natCast_mul]; simp), if_neg (by rintro ⟨x, hx, hb⟩; have := h3 x hx; omega), if_neg (by rintro ⟨a, ha, hd⟩; exact hd (by simpa using h4 a (by simpa using ha)))]
end Go.Proofs.YtilggpkmdmelmaaGreat.GeoMath

namespace Go.Proofs.YtilggpkmdmelmaaGreat.FleetMath
open Go.Proofs.YtilggpkmdmelmaaGreat.GeoMath
structure Win where
  fr : Int
  to : Int
structure Site where
  place : Int
  win : Win
  serv : Int
structure Ord where
  id : Int
  size : Int
  pick : Site
  drop : Site
structure Drv where
  id : Int
  room : Int
  home : Int
  win : Win
  retired : Bool
structure Stp where
  ord : Int
  drop : Bool
structure Vis where
  stop : Stp
  arrive : Int
  start : Int
  leave : Int
  load : Int
structure Mp where
  n : Nat
  ts : List Int
theorem Stp.ext_iff' {a b : Stp} : a = b ↔ a.ord = b.ord ∧ a.drop = b.drop := by cases a; cases b; simp
instance : DecidableEq Stp := fun a b => decidable_of_iff (a.ord = b.ord ∧ a.drop = b.drop) Stp.ext_iff'.symm
def right (w : Win) : Bool := decide (0 ≤ w.fr ∧ w.fr ≤ w.to ∧ w.to ≤ 1000000)
def has (w : Win) (t : Int) : Bool := right w && decide (w.fr ≤ t ∧ t ≤ w.to)
def beginT (w : Win) (a : Int) : Option Int := if right w = false ∨ w.to < a then none else some (if a < w.fr then w.fr else a)
def lastT (w : Win) (s u : Int) : Option Int :=
  if right w = false ∨ s < 0 ∨ u < s then none
  else if (if w.to < u - s then w.to else u - s) < w.fr then none else some (if w.to < u - s then w.to else u - s)
theorem right_iff {w : Win} : right w = true ↔ 0 ≤ w.fr ∧ w.fr ≤ w.to ∧ w.to ≤ 1000000 := by simp [right]
theorem has_iff {w : Win} {t : Int} : has w t = true ↔ right w = true ∧ w.fr ≤ t ∧ t ≤ w.to := by simp [has]
theorem beginT_some {w : Win} {a b : Int} : beginT w a = some b ↔ right w = true ∧ a ≤ w.to ∧ b = (if a < w.fr then w.fr else a) := by
  unfold beginT
  split
  · rename_i h
    constructor
    · intro h'; cases h'
    · rintro ⟨h1, h2, _⟩
      rcases h with h | h
      · rw [h1] at h; cases h
      · omega
  · rename_i h
    have h1 : right w = true := by
      cases hr : right w
      · exact absurd (Or.inl hr) h
      · rfl
    have h2 : a ≤ w.to := by
      have : ¬ w.to < a := fun h' => h (Or.inr h')
      omega
    constructor
    · intro h'; injection h' with h'; exact ⟨h1, h2, h'.symm⟩
    · rintro ⟨_, _, rfl⟩; rfl
theorem beginT_in {w : Win} {a b : Int} (h : beginT w a = some b) : has w b = true ∧ a ≤ b ∧ w.fr ≤ b ∧ b ≤ w.to ∧ (b = a ∨ b = w.fr) := by
  obtain ⟨h1, h2, rfl⟩ := beginT_some.1 h
  have h3 := right_iff.1 h1
  rw [has_iff]
  split <;> refine ⟨⟨h1, ?_, ?_⟩, ?_, ?_, ?_, ?_⟩ <;> omega
def isPlace (m : Mp) (p : Int) : Bool := decide (0 ≤ p ∧ p < m.n)
def time (m : Mp) (a b : Int) : Int := if isPlace m a = true ∧ isPlace m b = true then T m.n m.ts a.toNat b.toNat else 0
def ordE : Option Mp → Ord → Int
  | none, _ => 1
  | some m, o =>
    if o.id < 1 ∨ 1000000 < o.id then 1
    else if o.size < 1 ∨ 1000 < o.size then 14
    else if isPlace m o.pick.place = false ∨ isPlace m o.drop.place = false then 12
    else if right o.pick.win = false ∨ right o.drop.win = false then 13
    else if o.pick.serv < 0 ∨ 1000000 < o.pick.serv ∨ o.drop.serv < 0 ∨ 1000000 < o.drop.serv then 7 else 0
def drvE : Option Mp → Drv → Int
  | none, _ => 1
  | some m, d =>
    if d.id < 1 ∨ 1000000 < d.id then 1
    else if d.room < 1 ∨ 1000 < d.room then 14
    else if isPlace m d.home = false then 12
    else if right d.win = false then 13 else 0
def Dist (os : List Ord) : Prop := os.Pairwise fun a b => a.id ≠ b.id
instance (os : List Ord) : Decidable (Dist os) := by unfold Dist; infer_instance
def known (m : Option Mp) (os : List Ord) : Bool := decide (os.length ≤ 40 ∧ (∀ o ∈ os, ordE m o = 0) ∧ Dist os)
structure OrdOk (m : Mp) (o : Ord) : Prop where
  id : 1 ≤ o.id ∧ o.id ≤ 1000000
  size : 1 ≤ o.size ∧ o.size ≤ 1000
  pickP : isPlace m o.pick.place = true
  dropP : isPlace m o.drop.place = true
  pickW : right o.pick.win = true
  dropW : right o.drop.win = true
  pickS : 0 ≤ o.pick.serv ∧ o.pick.serv ≤ 1000000
  dropS : 0 ≤ o.drop.serv ∧ o.drop.serv ≤ 1000000
structure DrvOk (m : Mp) (d : Drv) : Prop where
  id : 1 ≤ d.id ∧ d.id ≤ 1000000
  room : 1 ≤ d.room ∧ d.room ≤ 1000
  home : isPlace m d.home = true
  win : right d.win = true
theorem ordE_some (m : Mp) (o : Ord) : ordE (some m) o =
    if o.id < 1 ∨ 1000000 < o.id then 1
    else if o.size < 1 ∨ 1000 < o.size then 14
    else if isPlace m o.pick.place = false ∨ isPlace m o.drop.place = false then 12
    else if right o.pick.win = false ∨ right o.drop.win = false then 13
    else if o.pick.serv < 0 ∨ 1000000 < o.pick.serv ∨ o.drop.serv < 0 ∨ 1000000 < o.drop.serv then 7 else 0 := rfl
theorem drvE_some (m : Mp) (d : Drv) : drvE (some m) d =
    if d.id < 1 ∨ 1000000 < d.id then 1
    else if d.room < 1 ∨ 1000 < d.room then 14
    else if isPlace m d.home = false then 12
    else if right d.win = false then 13 else 0 := rfl
theorem not_false {b : Bool} : ¬ b = false ↔ b = true := by cases b <;> simp
theorem ordE_ok {m : Option Mp} {o : Ord} : ordE m o = 0 ↔ ∃ m', m = some m' ∧ OrdOk m' o := by
  cases m with
  | none => simp [ordE]
  | some m =>
    rw [ordE_some]
    constructor
    · intro h
      refine ⟨m, rfl, ?_⟩
      split at h
      · omega
      split at h
      · omega
      split at h
      · omega
      split at h
      · omega
      split at h
      · omega
      rename_i h1 h2 h3 h4 h5
      simp only [not_or, not_false] at h3 h4
      exact ⟨by omega, by omega, h3.1, h3.2, h4.1, h4.2, by omega, by omega⟩
    · rintro ⟨m', e, h⟩
      injection e with e
      subst e
      rw [if_neg (by have := h.id; omega), if_neg (by have := h.size; omega), if_neg (by simp [h.pickP, h.dropP]), if_neg (by simp [h.pickW, h.dropW]), if_neg (by have := h.pickS; have := h.dropS; omega)]
theorem drvE_ok {m : Option Mp} {d : Drv} : drvE m d = 0 ↔ ∃ m', m = some m' ∧ DrvOk m' d := by
  cases m with
  | none => simp [drvE]
  | some m =>
    rw [drvE_some]
    constructor
    · intro h
      refine ⟨m, rfl, ?_⟩
      split at h
      · omega
      split at h
      · omega
      split at h
      · omega
      split at h
      · omega
      rename_i h1 h2 h3 h4
      simp only [not_false] at h3 h4
      exact ⟨by omega, by omega, h3, h4⟩
    · rintro ⟨m', e, h⟩
      injection e with e
      subst e
      rw [if_neg (by have := h.id; omega), if_neg (by have := h.room; omega), if_neg (by simp [h.home]), if_neg (by simp [h.win])]
def served (m : Mp) (frm left : Int) (s : Site) (til : Int) : Option (Int × Int) :=
  match beginT s.win (left + time m frm s.place) with
  | none => none
  | some b => if til < b + s.serv then none else some (b, b + s.serv)
theorem served_some {m : Mp} {f l til b v : Int} {s : Site} : served m f l s til = some (b, v) ↔ beginT s.win (l + time m f s.place) = some b ∧ v = b + s.serv ∧ v ≤ til := by
  unfold served
  split
  · rename_i h; simp [h]
  · rename_i x h
    rw [h]
    split
    · rename_i h2
      constructor
      · intro h'; cases h'
      · rintro ⟨e, rfl, h3⟩; injection e with e; omega
    · rename_i h2
      constructor
      · intro h'; injection h' with h'; injection h' with h3 h4; subst h3; subst h4; exact ⟨rfl, rfl, by omega⟩
      · rintro ⟨e, rfl, _⟩; injection e with e; subst e; rfl
def find (os : List Ord) (id : Int) : Option Ord := os.find? fun o => decide (o.id = id)
def siteOf (o : Ord) (s : Stp) : Site := if s.drop then o.drop else o.pick
def loadOf (o : Ord) (s : Stp) (l : Int) : Int := if s.drop then l - o.size else l + o.size
theorem find_some {os : List Ord} {id : Int} {o : Ord} (h : find os id = some o) : o ∈ os ∧ o.id = id := by
  refine ⟨List.mem_of_find?_eq_some h, ?_⟩
  have := List.find?_some h
  simpa using this
theorem find_mem {os : List Ord} {o : Ord} (hd : Dist os) (h : o ∈ os) : find os o.id = some o := by
  induction os with
  | nil => cases h
  | cons x xs ih =>
    obtain ⟨h1, h2⟩ := List.pairwise_cons.1 hd
    rcases List.mem_cons.1 h with rfl | h
    · simp [find]
    · have hne : x.id ≠ o.id := h1 o h
      have := ih h2 h
      simpa [find, hne] using this
structure St where
  at_ : Int
  left : Int
  load : Int
def step (m : Mp) (d : Drv) (os : List Ord) (seen : List Stp) (st : St) (s : Stp) : Except Int (St × Vis) :=
  match find os s.ord with
  | none => .error 8
  | some o =>
    if s ∈ seen then .error 16
    else if s.drop = true ∧ Stp.mk s.ord false ∉ seen then .error 17
    else if d.room < loadOf o s st.load then .error 14
    else match served m st.at_ st.left (siteOf o s) d.win.to with
      | none => .error 15
      | some (b, v) => .ok (⟨(siteOf o s).place, v, loadOf o s st.load⟩, ⟨s, st.left + time m st.at_ (siteOf o s).place, b, v, loadOf o s st.load⟩)
def run (m : Mp) (d : Drv) (os : List Ord) : List Stp → St → List Stp → Except (Nat × Int) (St × List Vis)
  | _, st, [] => .ok (st, [])
  | seen, st, s :: r =>
    match step m d os seen st s with
    | .error e => .error (seen.length, e)
    | .ok (st', v) =>
      match run m d os (seen ++ [s]) st' r with
      | .error x => .error x
      | .ok (st'', vs) => .ok (st'', v :: vs)
def st0 (d : Drv) : St := ⟨d.home, d.win.fr, 0⟩
def driveM (m : Mp) (d : Drv) (os : List Ord) (stops : List Stp) : List Vis × Nat × Int :=
  match run m d os [] (st0 d) stops with
  | .error (k, e) => ([], k, e)
  | .ok (st, vs) => if 0 < st.load then ([], stops.length, 18) else (vs, 0, 0)
def drive (m : Option Mp) (d : Drv) (os : List Ord) (stops : List Stp) : List Vis × Nat × Int :=
  match m with
  | none => ([], 0, 1)
  | some m' => if drvE m d ≠ 0 ∨ known m os = false ∨ 80 < stops.length then ([], 0, 1) else driveM m' d os stops
section
variable {m : Mp} {d : Drv} {os : List Ord}
theorem run_nil (seen : List Stp) (st : St) : run m d os seen st [] = .ok (st, []) := rfl
theorem run_cons (seen : List Stp) (st : St) (s : Stp) (r : List Stp) : run m d os seen st (s :: r) =
    match step m d os seen st s with
    | .error e => .error (seen.length, e)
    | .ok (st', v) =>
      match run m d os (seen ++ [s]) st' r with
      | .error x => .error x
      | .ok (st'', vs) => .ok (st'', v :: vs) := rfl
theorem run_append (seen : List Stp) (st : St) (xs ys : List Stp) :
    run m d os seen st (xs ++ ys) = match run m d os seen st xs with
      | .error x => .error x
      | .ok (st', vs) => match run m d os (seen ++ xs) st' ys with
        | .error x => .error x
        | .ok (st'', us) => .ok (st'', vs ++ us) := by
  induction xs generalizing seen st with
  | nil =>
    simp only [List.nil_append, List.append_nil, run]
    split <;> simp_all
  | cons s r ih =>
    rw [List.cons_append, run_cons, run_cons]
    cases hs : step m d os seen st s with
    | error e => rfl
    | ok p =>
      obtain ⟨st', v⟩ := p
      simp only [ih, List.append_assoc, List.singleton_append]
      cases hr : run m d os (seen ++ [s]) st' r with
      | error x => rfl
      | ok q =>
        obtain ⟨st2, vs⟩ := q
        simp only
        cases run m d os (seen ++ s :: r) st2 ys with
        | error x => rfl
        | ok q => rfl
theorem run_len {seen : List Stp} {st st' : St} {xs : List Stp} {vs : List Vis} (h : run m d os seen st xs = .ok (st', vs)) : vs.length = xs.length := by
  induction xs generalizing seen st st' vs with
  | nil => rw [run_nil] at h; injection h with h; injection h with _ h; rw [← h]; rfl
  | cons s r ih =>
    rw [run_cons] at h
    split at h
    · cases h
    · split at h
      · cases h
      · rename_i hr
        injection h with h; injection h with _ h
        rw [← h]
        simp [ih hr]
theorem run_prefix {seen : List Stp} {st st' : St} {xs ys : List Stp} {vs : List Vis} (h : run m d os seen st (xs ++ ys) = .ok (st', vs)) :
    ∃ st1, run m d os seen st xs = .ok (st1, vs.take xs.length) ∧ run m d os (seen ++ xs) st1 ys = .ok (st', vs.drop xs.length) := by
  rw [run_append] at h
  cases h1 : run m d os seen st xs with
  | error x => rw [h1] at h; cases h
  | ok p =>
    obtain ⟨st1, us⟩ := p
    rw [h1] at h
    simp only at h
    cases h2 : run m d os (seen ++ xs) st1 ys with
    | error x => rw [h2] at h; cases h
    | ok q =>
      obtain ⟨st2, ws⟩ := q
      rw [h2] at h
      simp only at h
      injection h with h; injection h with e1 e2
      subst e1; subst e2
      have := run_len h1
      exact ⟨st1, by rw [← this, List.take_left], by rw [← this, List.drop_left]; exact h2⟩
theorem run_at {seen : List Stp} {st st' : St} {xs : List Stp} {vs : List Vis} (h : run m d os seen st xs = .ok (st', vs)) {k : Nat} {s : Stp} (hk : xs[k]? = some s) :
    ∃ st1 st2 v, run m d os seen st (xs.take k) = .ok (st1, vs.take k) ∧ vs[k]? = some v ∧ step m d os (seen ++ xs.take k) st1 s = .ok (st2, v) ∧
      run m d os seen st (xs.take (k + 1)) = .ok (st2, vs.take (k + 1)) := by
  have hlt : k < xs.length := (List.getElem?_eq_some_iff.1 hk).1
  have hs : xs[k] = s := (List.getElem?_eq_some_iff.1 hk).2
  have hx : xs.take k ++ (s :: xs.drop (k + 1)) = xs := by
    rw [← hs, List.getElem_cons_drop, List.take_append_drop]
  have hlen : (xs.take k).length = k := by rw [List.length_take]; omega
  rw [← hx] at h
  obtain ⟨st1, h1, h2⟩ := run_prefix h
  rw [hlen] at h1 h2
  rw [run_cons] at h2
  split at h2
  · cases h2
  · rename_i st2 v hst
    split at h2
    · cases h2
    · rename_i st3 us hr
      injection h2 with h2; injection h2 with e1 e2
      have hvk : vs[k]? = some v := by
        have : (vs.drop k)[0]? = some v := by rw [← e2]; rfl
        simpa using this
      refine ⟨st1, st2, v, h1, hvk, hst, ?_⟩
      rw [List.take_add_one, hk, run_append, h1]
      simp only [Option.toList, run, hst]
      rw [List.take_add_one, hvk]
      rfl
theorem run_fault {seen : List Stp} {st : St} {xs : List Stp} {k : Nat} {e : Int} (h : run m d os seen st xs = .error (k, e)) :
    ∃ s, seen.length ≤ k ∧ xs[k - seen.length]? = some s ∧ ∃ st1 vs, run m d os seen st (xs.take (k - seen.length)) = .ok (st1, vs) ∧
      step m d os (seen ++ xs.take (k - seen.length)) st1 s = .error e := by
  induction xs generalizing seen st with
  | nil => rw [run_nil] at h; cases h
  | cons s r ih =>
    rw [run_cons] at h
    split at h
    · rename_i e' hs
      injection h with h; injection h with h1 h2
      subst h1; subst h2
      refine ⟨s, Nat.le_refl _, by simp, st, [], by simp [run], by simpa using hs⟩
    · rename_i st1 v hs
      split at h
      · rename_i x hr
        injection h with h
        subst h
        obtain ⟨s', h1, h2, st2, us, h3, h4⟩ := ih hr
        rw [List.length_append, List.length_singleton] at h1 h2 h3 h4
        obtain ⟨c, hc⟩ : ∃ c, k - seen.length = c + 1 := ⟨k - seen.length - 1, by omega⟩
        have hc' : k - (seen.length + 1) = c := by omega
        rw [hc'] at h2 h3 h4
        rw [hc]
        refine ⟨s', by omega, by simpa using h2, st2, v :: us, ?_, ?_⟩
        · rw [List.take_succ_cons, run_cons, hs]; simp only [h3]
        · rw [List.take_succ_cons]; simpa using h4
      · cases h
theorem run_fault_at {seen : List Stp} {st st1 : St} {xs : List Stp} {vs : List Vis} {s : Stp} {e : Int} (h1 : run m d os seen st xs = .ok (st1, vs)) (h2 : step m d os (seen ++ xs) st1 s = .error e) (ys : List Stp) :
    run m d os seen st (xs ++ s :: ys) = .error (seen.length + xs.length, e) := by
  rw [run_append, h1]
  simp only
  rw [run_cons, h2]
  simp
structure Made (m : Mp) (d : Drv) (os : List Ord) (seen : List Stp) (st : St) (s : Stp) (o : Ord) (st' : St) (v : Vis) : Prop where
  find : find os s.ord = some o
  new : s ∉ seen
  first : s.drop = true → Stp.mk s.ord false ∈ seen
  load : loadOf o s st.load ≤ d.room
  serve : served m st.at_ st.left (siteOf o s) d.win.to = some (v.start, v.leave)
  st' : st' = ⟨(siteOf o s).place, v.leave, loadOf o s st.load⟩
  stop : v.stop = s
  arrive : v.arrive = st.left + time m st.at_ (siteOf o s).place
  vload : v.load = loadOf o s st.load
theorem step_ok {seen : List Stp} {st st' : St} {s : Stp} {v : Vis} : step m d os seen st s = .ok (st', v) ↔ ∃ o, Made m d os seen st s o st' v := by
  unfold step
  constructor
  · intro h
    split at h
    · cases h
    rename_i o ho
    split at h
    · cases h
    split at h
    · cases h
    split at h
    · cases h
    split at h
    · cases h
    rename_i h1 h2 h3 _ b t hs
    injection h with h; injection h with e1 e2
    subst e1; subst e2
    exact ⟨o, ho, h1, fun hd => Decidable.not_not.1 fun hn => h2 ⟨hd, hn⟩, by omega, hs, rfl, rfl, rfl, rfl⟩
  · rintro ⟨o, h⟩
    rw [h.find]
    simp only
    rw [if_neg h.new, if_neg (fun hd => hd.2 (h.first hd.1)), if_neg (by have := h.load; omega), h.serve]
    simp only
    obtain ⟨a, b, c, e, f⟩ := v
    have h1 := h.st'; have h2 := h.stop; have h3 := h.arrive; have h4 := h.vload
    simp only at h1 h2 h3 h4
    rw [h1, h2, h3, h4]
def sizeOf (os : List Ord) (id : Int) : Int := match find os id with | none => 0 | some o => o.size
structure Open (os : List Ord) (seen : List Stp) (l : Int) (opn : List Int) : Prop where
  mem : ∀ id, id ∈ opn ↔ Stp.mk id false ∈ seen ∧ Stp.mk id true ∉ seen
  drops : ∀ id, Stp.mk id true ∈ seen → Stp.mk id false ∈ seen
  nodup : opn.Nodup
  sum : l = (opn.map (sizeOf os)).sum
theorem sum_erase (f : Int → Int) {l : List Int} {x : Int} (h : x ∈ l) : (l.map f).sum = f x + ((l.erase x).map f).sum := by
  induction l with
  | nil => cases h
  | cons y ys ih =>
    by_cases hxy : y = x
    · subst hxy; simp
    · have hb : (y == x) = false := by simpa using hxy
      rw [List.erase_cons, hb]
      have := ih (by rcases List.mem_cons.1 h with h | h; exact absurd h.symm hxy; exact h)
      simp only [List.map_cons, List.sum_cons, this, Bool.false_eq_true, if_false]
      omega
theorem Open.start (os : List Ord) : Open os [] 0 [] := ⟨by simp, by simp, List.nodup_nil, rfl⟩
theorem Open.step {seen : List Stp} {st st' : St} {s : Stp} {v : Vis} {o : Ord} {opn : List Int} (h : Open os seen st.load opn) (hm : Made m d os seen st s o st' v) :
    ∃ opn', Open os (seen ++ [s]) st'.load opn' := by
  have hsz : sizeOf os s.ord = o.size := by unfold sizeOf; rw [hm.find]
  obtain ⟨id, dr⟩ := s
  rw [hm.st']
  cases dr with
  | false =>
    refine ⟨id :: opn, fun x => ?_, fun x hx => ?_, ?_, ?_⟩
    · rw [List.mem_cons, List.mem_append, List.mem_append, h.mem]
      by_cases hx : x = id
      · subst hx
        have hn : Stp.mk x true ∉ seen := fun ht => hm.new (h.drops x ht)
        simp [hn]
      · simp [hx]
    · rcases List.mem_append.1 hx with hx | hx
      · exact List.mem_append.2 (Or.inl (h.drops x hx))
      · simp at hx
    · refine List.nodup_cons.2 ⟨fun hin => ?_, h.nodup⟩
      exact hm.new ((h.mem id).1 hin).1
    · simp only [loadOf, List.map_cons, List.sum_cons, ← h.sum, hsz, Bool.false_eq_true, if_false]
      omega
  | true =>
    have hin : id ∈ opn := (h.mem id).2 ⟨hm.first rfl, hm.new⟩
    refine ⟨opn.erase id, fun x => ?_, fun x hx => ?_, h.nodup.erase _, ?_⟩
    · rw [h.nodup.mem_erase_iff, List.mem_append, List.mem_append, h.mem]
      by_cases hx : x = id
      · subst hx; simp
      · simp [hx]
    · rcases List.mem_append.1 hx with hx | hx
      · exact List.mem_append.2 (Or.inl (h.drops x hx))
      · simp only [List.mem_singleton, Stp.mk.injEq, and_true] at hx
        rw [hx]
        exact List.mem_append.2 (Or.inl (hm.first rfl))
    · have := sum_erase (sizeOf os) hin
      simp only [loadOf, if_true]
      rw [h.sum, this, hsz]
      omega
end
end Go.Proofs.YtilggpkmdmelmaaGreat.FleetMath

namespace Go.Proofs.YtilggpkmdmelmaaGreat.FleetMath
open Go.Proofs.YtilggpkmdmelmaaGreat.GeoMath
theorem known_iff {m : Option Mp} {os : List Ord} : known m os = true ↔ os.length ≤ 40 ∧ (∀ o ∈ os, ordE m o = 0) ∧ Dist os := by simp [known]
theorem known_ok {m : Mp} {os : List Ord} (h : known (some m) os = true) : ∀ o ∈ os, OrdOk m o := fun o ho => by
  obtain ⟨m', e, h'⟩ := ordE_ok.1 ((known_iff.1 h).2.1 o ho)
  injection e with e
  rw [e]; exact h'
theorem drive_arg {m : Mp} {d : Drv} {os : List Ord} {stops : List Stp} (h1 : drvE (some m) d = 0) (h2 : known (some m) os = true) (h3 : stops.length ≤ 80) :
    drive (some m) d os stops = driveM m d os stops := by
  unfold drive
  simp only
  rw [if_neg]
  rintro (h | h | h)
  · exact h h1
  · rw [h2] at h; cases h
  · omega
theorem drive_bad {m : Option Mp} {d : Drv} {os : List Ord} {stops : List Stp} (h : drvE m d ≠ 0 ∨ known m os = false ∨ 80 < stops.length) : drive m d os stops = ([], 0, 1) := by
  unfold drive
  split
  · rfl
  · rw [if_pos h]
section
variable {m : Mp} {d d' : Drv} {os ps : List Ord}
def Later (vs us : List Vis) : Prop := vs.length = us.length ∧ ∀ (k : Nat) (v u : Vis), vs[k]? = some v → us[k]? = some u → v.start ≤ u.start ∧ v.load = u.load
theorem Later.cons {vs us : List Vis} {v u : Vis} (h : Later vs us) (h1 : v.start ≤ u.start) (h2 : v.load = u.load) : Later (v :: vs) (u :: us) := by
  refine ⟨by simp [h.1], fun k => ?_⟩
  cases k with
  | zero => intro a b ha hb; simp at ha hb; subst ha; subst hb; exact ⟨h1, h2⟩
  | succ k => intro a b ha hb; exact h.2 k a b (by simpa using ha) (by simpa using hb)
theorem step_congr {seen : List Stp} {st : St} {s : Stp} (h : find os s.ord = find ps s.ord) : step m d os seen st s = step m d ps seen st s := by
  unfold step; rw [h]
theorem run_congr {seen : List Stp} {st : St} {xs : List Stp} (h : ∀ s ∈ xs, find os s.ord = find ps s.ord) : run m d os seen st xs = run m d ps seen st xs := by
  induction xs generalizing seen st with
  | nil => rfl
  | cons s r ih =>
    rw [run_cons, run_cons, step_congr (h s (by simp))]
    simp only [ih fun x hx => h x (by simp [hx])]
theorem driveM_congr {xs : List Stp} (h : ∀ s ∈ xs, find os s.ord = find ps s.ord) : driveM m d os xs = driveM m d ps xs := by
  unfold driveM; rw [run_congr h]
theorem Dist.filter (h : Dist os) (p : Ord → Bool) : Dist (os.filter p) := List.Pairwise.filter p h
def good (m : Mp) (til : Int) : Int → List Site → Prop
  | _, [] => True
  | b, s :: r => s.win.fr ≤ b ∧ b ≤ s.win.to ∧ b + s.serv ≤ til ∧
    match r with
    | [] => True
    | s' :: _ => ∃ c, beginT s'.win (b + s.serv + time m s.place s'.place) = some c ∧ good m til c r
def untilOf (m : Mp) (til : Int) (s : Site) : List Site → List Int → Int
  | s' :: _, t :: _ => if t - time m s.place s'.place < til then t - time m s.place s'.place else til
  | _, _ => til
def latest (m : Mp) (til : Int) : List Site → List Int
  | [] => []
  | s :: r => (lastT s.win s.serv (untilOf m til s r (latest m til r))).getD 0 :: latest m til r
end
end Go.Proofs.YtilggpkmdmelmaaGreat.FleetMath

namespace Go.Proofs.YtilggpkmdmelmaaGreat.FleetMath
open Go.Proofs.YtilggpkmdmelmaaGreat.GeoMath
def siteAt (os : List Ord) (s : Stp) : Site := match find os s.ord with | none => ⟨0, ⟨0, 0⟩, 0⟩ | some o => siteOf o s
theorem siteAt_of {os : List Ord} {s : Stp} {o : Ord} (h : find os s.ord = some o) : siteAt os s = siteOf o s := by unfold siteAt; rw [h]
section
variable {m : Mp} {d : Drv} {os ps : List Ord}
end
end Go.Proofs.YtilggpkmdmelmaaGreat.FleetMath

namespace Go.Proofs.YtilggpkmdmelmaaGreat.FleetMath
open Go.Proofs.YtilggpkmdmelmaaGreat.GeoMath
def putM (l : List Stp) (o : Int) (i j : Nat) : List Stp := l.take i ++ ⟨o, false⟩ :: ((l.drop i).take (j - i) ++ ⟨o, true⟩ :: l.drop j)
def one (c : Bool) (s : Stp) : List Stp := if c then [s] else []
theorem putM_len {l : List Stp} {o : Int} {i j : Nat} (hij : i ≤ j) (hj : j ≤ l.length) : (putM l o i j).length = l.length + 2 := by
  unfold putM
  simp only [List.length_append, List.length_cons, List.length_take, List.length_drop]
  omega
def putR (l : List Stp) (o i j : Int) : List Stp := if 0 ≤ i ∧ i ≤ j ∧ j ≤ l.length then putM l o i.toNat j.toNat else []
theorem putR_no {l : List Stp} {o i j : Int} (h : ¬ (0 ≤ i ∧ i ≤ j ∧ j ≤ l.length)) : putR l o i j = [] := if_neg h
theorem putR_nat {l : List Stp} {o : Int} {i j : Nat} (hij : i ≤ j) (hj : j ≤ l.length) : putR l o i j = putM l o i j := by
  unfold putR
  rw [if_pos (by omega)]
  rfl
def fits (m : Option Mp) (d : Drv) (os : List Ord) (stops : List Stp) (o : Ord) (i j : Int) : Bool :=
  decide (0 ≤ i ∧ i ≤ j ∧ j ≤ stops.length) && decide (find os o.id = none) && decide ((drive m d os stops).2.2 = 0) && decide ((drive m d (os ++ [o]) (putM stops o.id i.toNat j.toNat)).2.2 = 0)
end Go.Proofs.YtilggpkmdmelmaaGreat.FleetMath

namespace Go.Proofs.YtilggpkmdmelmaaGreat.FleetMath
open Go.Proofs.YtilggpkmdmelmaaGreat.GeoMath
def costM (m : Mp) (os : List Ord) : Int → List Stp → Int
  | _, [] => 0
  | a, s :: r => time m a (siteAt os s).place + costM m os (siteAt os s).place r
def cost (m : Option Mp) (d : Drv) (os : List Ord) (stops : List Stp) : Option Int :=
  match m with
  | none => none
  | some m' => if (drive m d os stops).2.2 = 0 then some (costM m' os d.home stops) else none
theorem costM_bound {m : Mp} {os : List Ord} (hm : ∀ a b, 0 ≤ time m a b ∧ time m a b ≤ 1000000) (a : Int) (l : List Stp) : 0 ≤ costM m os a l ∧ costM m os a l ≤ 1000000 * (l.length : Int) := by
  induction l generalizing a with
  | nil => simp [costM]
  | cons s r ih =>
    have h1 := hm a (siteAt os s).place
    have h2 := ih (siteAt os s).place
    simp only [costM, List.length_cons]
    omega
theorem drive_fine {m : Option Mp} {d : Drv} {os : List Ord} {stops : List Stp} (h : (drive m d os stops).2.2 = 0) : ∃ m' st, m = some m' ∧ run m' d os [] (st0 d) stops = .ok (st, (drive m d os stops).1) ∧ stops.length ≤ 80 ∧ known m os = true ∧ drvE m d = 0 := by
  cases m with
  | none => simp [drive] at h
  | some m' =>
    by_cases hb : drvE (some m') d ≠ 0 ∨ known (some m') os = false ∨ 80 < stops.length
    · rw [drive_bad hb] at h
      simp at h
    · have h1 : drvE (some m') d = 0 := Decidable.not_not.1 fun hx => hb (.inl hx)
      have h2 : known (some m') os = true := by
        cases hk : known (some m') os
        · exact absurd (.inr (.inl hk)) hb
        · rfl
      have h3 : stops.length ≤ 80 := by
        have : ¬ 80 < stops.length := fun hx => hb (.inr (.inr hx))
        omega
      rw [drive_arg h1 h2 h3] at h ⊢
      unfold driveM at h ⊢
      cases hr : run m' d os [] (st0 d) stops with
      | error x =>
        obtain ⟨k, e⟩ := x
        obtain ⟨s, _, hs, st1, vs, _, hst⟩ := run_fault hr
        rw [hr] at h
        simp only at h
        subst h
        exfalso
        unfold step at hst
        split at hst
        · injection hst with hst; omega
        · split at hst
          · injection hst with hst; omega
          · split at hst
            · injection hst with hst; omega
            · split at hst
              · injection hst with hst; omega
              · split at hst
                · injection hst with hst; omega
                · cases hst
      | ok p =>
        obtain ⟨st, vs⟩ := p
        rw [hr] at h
        simp only at h ⊢
        split at h
        · simp at h
        · rename_i hl
          rw [if_neg hl]
          exact ⟨m', st, rfl, by rw [hr], h3, h2, h1⟩
theorem drive_finds {m : Option Mp} {d : Drv} {os : List Ord} {stops : List Stp} (h : (drive m d os stops).2.2 = 0) {k : Nat} {s : Stp} (hk : stops[k]? = some s) : ∃ o, find os s.ord = some o := by
  obtain ⟨m', st, _, hr, _⟩ := drive_fine h
  obtain ⟨st1, st2, v, _, _, h3, _⟩ := run_at hr hk
  obtain ⟨o, hm⟩ := step_ok.1 h3
  exact ⟨o, hm.find⟩
end Go.Proofs.YtilggpkmdmelmaaGreat.FleetMath

namespace Go.Proofs.YtilggpkmdmelmaaGreat.FleetMath
open Go.Proofs.YtilggpkmdmelmaaGreat.GeoMath
section
variable {m : Mp} {d : Drv} {os : List Ord} {seen : List Stp} {st : St} {s : Stp} {o : Ord}
theorem step_none (h : find os s.ord = none) : step m d os seen st s = .error 8 := by unfold step; rw [h]
theorem step_twice (h : find os s.ord = some o) (h1 : s ∈ seen) : step m d os seen st s = .error 16 := by unfold step; rw [h]; simp only; rw [if_pos h1]
theorem step_first (h : find os s.ord = some o) (h1 : s ∉ seen) (h2 : s.drop = true) (h3 : Stp.mk s.ord false ∉ seen) : step m d os seen st s = .error 17 := by unfold step; rw [h]; simp only; rw [if_neg h1, if_pos ⟨h2, h3⟩]
theorem step_load (h : find os s.ord = some o) (h1 : s ∉ seen) (h2 : s.drop = true → Stp.mk s.ord false ∈ seen) (h3 : d.room < loadOf o s st.load) : step m d os seen st s = .error 14 := by
  unfold step; rw [h]; simp only; rw [if_neg h1, if_neg (fun hd => hd.2 (h2 hd.1)), if_pos h3]
theorem step_tardy (h : find os s.ord = some o) (h1 : s ∉ seen) (h2 : s.drop = true → Stp.mk s.ord false ∈ seen) (h3 : loadOf o s st.load ≤ d.room) (h4 : served m st.at_ st.left (siteOf o s) d.win.to = none) : step m d os seen st s = .error 15 := by
  unfold step; rw [h]; simp only; rw [if_neg h1, if_neg (fun hd => hd.2 (h2 hd.1)), if_neg (by omega), h4]
theorem step_made {b v : Int} (h : find os s.ord = some o) (h1 : s ∉ seen) (h2 : s.drop = true → Stp.mk s.ord false ∈ seen) (h3 : loadOf o s st.load ≤ d.room) (h4 : served m st.at_ st.left (siteOf o s) d.win.to = some (b, v)) :
    step m d os seen st s = .ok (⟨(siteOf o s).place, v, loadOf o s st.load⟩, ⟨s, st.left + time m st.at_ (siteOf o s).place, b, v, loadOf o s st.load⟩) := by
  unfold step; rw [h]; simp only; rw [if_neg h1, if_neg (fun hd => hd.2 (h2 hd.1)), if_neg (by omega), h4]
end
theorem split_at {l : List Stp} {k : Nat} {s : Stp} (h : l[k]? = some s) : l = l.take k ++ s :: l.drop (k + 1) := by
  obtain ⟨hlt, e⟩ := List.getElem?_eq_some_iff.1 h
  rw [← e, ← List.drop_eq_getElem_cons hlt, List.take_append_drop]
structure Upto (m : Mp) (d : Drv) (os : List Ord) (stops : List Stp) (k : Nat) (st : St) (vs : List Vis) : Prop where
  run : run m d os [] (st0 d) (stops.take k) = .ok (st, vs)
  left : 0 ≤ st.left ∧ st.left ≤ 2000000
  load : -(1000 * (k : Int)) ≤ st.load ∧ st.load ≤ 1000 * (k : Int)
  len : vs.length = k
section
variable {m : Mp} {d : Drv} {os : List Ord} {stops : List Stp} {k : Nat} {st : St} {vs : List Vis} {s : Stp}
theorem Upto.start (hd : DrvOk m d) : Upto m d os stops 0 (st0 d) [] := by
  have hw := right_iff.1 hd.win
  exact ⟨by simp [FleetMath.run], ⟨hw.1, by show d.win.fr ≤ 2000000; omega⟩, ⟨by simp [st0], by simp [st0]⟩, rfl⟩
theorem Upto.fault {e : Int} (h : Upto m d os stops k st vs) (hs : stops[k]? = some s) (he : step m d os (stops.take k) st s = .error e) (hd : drvE (some m) d = 0) (hk : known (some m) os = true) (hn : stops.length ≤ 80) :
    drive (some m) d os stops = ([], k, e) := by
  have hlt := (List.getElem?_eq_some_iff.1 hs).1
  rw [drive_arg hd hk hn]
  unfold driveM
  rw [split_at hs, run_fault_at h.run (by simpa using he)]
  simp only [List.length_nil, Nat.zero_add, List.length_take]
  rw [Nat.min_eq_left (by omega)]
theorem Upto.next {o : Ord} {b v : Int} (h : Upto m d os stops k st vs) (hs : stops[k]? = some s) (ho : OrdOk m o) (h0 : find os s.ord = some o) (h1 : s ∉ stops.take k) (h2 : s.drop = true → Stp.mk s.ord false ∈ stops.take k) (h3 : loadOf o s st.load ≤ d.room) (h4 : served m st.at_ st.left (siteOf o s) d.win.to = some (b, v)) :
    Upto m d os stops (k + 1) ⟨(siteOf o s).place, v, loadOf o s st.load⟩ (vs ++ [⟨s, st.left + time m st.at_ (siteOf o s).place, b, v, loadOf o s st.load⟩]) := by
  have hst := step_made h0 h1 h2 h3 h4
  obtain ⟨q1, q2, _⟩ := served_some.1 h4
  have hw := right_iff.1 (has_iff.1 (beginT_in q1).1).1
  have hb := beginT_in q1
  have hsz := ho.size
  have hsv : 0 ≤ (siteOf o s).serv ∧ (siteOf o s).serv ≤ 1000000 := by
    unfold siteOf
    split
    · exact ho.dropS
    · exact ho.pickS
  refine ⟨?_, ⟨by simp only; omega, by simp only; omega⟩, ?_, by simp [h.len]⟩
  · rw [List.take_add_one, hs, run_append, h.run]
    simp only [Option.toList, List.nil_append]
    rw [run_cons, hst]
    simp [FleetMath.run]
  · have := h.load
    simp only [loadOf]
    split <;> constructor <;> omega
theorem Upto.done (h : Upto m d os stops stops.length st vs) (hd : drvE (some m) d = 0) (hk : known (some m) os = true) (hn : stops.length ≤ 80) :
    drive (some m) d os stops = if 0 < st.load then ([], stops.length, 18) else (vs, 0, 0) := by
  rw [drive_arg hd hk hn]
  unfold driveM
  have := h.run
  rw [List.take_length] at this
  rw [this]
end
end Go.Proofs.YtilggpkmdmelmaaGreat.FleetMath
