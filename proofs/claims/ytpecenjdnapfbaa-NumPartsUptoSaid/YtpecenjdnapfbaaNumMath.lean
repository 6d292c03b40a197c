/-
  The plain arithmetic of chapter 1: what Sum, Sat, Mul and Clip come to, on Lean's own integers and lists. No program is named here.
-/
import Derived.Below
namespace Go.Proofs.Ytpecenjdnapfbaa.NumMath

/-- in range: from -2^50 to 2^50 -/
def inB (n : Int) : Bool := decide (-1125899906842624 ≤ n ∧ n ≤ 1125899906842624)
theorem inB_true {n : Int} (h : inB n = true) : -1125899906842624 ≤ n ∧ n ≤ 1125899906842624 := by simpa [inB] using h
theorem inB_false {n : Int} (h : inB n = false) : n < -1125899906842624 ∨ 1125899906842624 < n := by
  have : ¬ (-1125899906842624 ≤ n ∧ n ≤ 1125899906842624) := by simpa [inB] using h
  omega
theorem inB_mk {n : Int} (h : -1125899906842624 ≤ n) (h' : n ≤ 1125899906842624) : inB n = true := by simp [inB, h, h']
theorem inB_not {n : Int} (h : n < -1125899906842624 ∨ 1125899906842624 < n) : inB n = false := by
  simp only [inB, decide_eq_false_iff_not]; omega

def clip (n lo hi : Int) : Int := if n < lo then lo else if hi < n then hi else n
def bnd (n : Int) : Int := clip n (-1125899906842624) 1125899906842624
theorem bnd_le (n : Int) : -1125899906842624 ≤ bnd n ∧ bnd n ≤ 1125899906842624 := by
  unfold bnd clip; split
  · omega
  · split <;> omega
theorem bnd_in {n : Int} (h : inB n = true) : bnd n = n := by
  have := inB_true h
  unfold bnd clip; rw [if_neg (by omega), if_neg (by omega)]
theorem bnd_mono {a b : Int} (h : a ≤ b) : bnd a ≤ bnd b := by
  unfold bnd clip
  split <;> split <;> (try split) <;> (try split) <;> omega

/-- the sum from s on, if each number and each sum on the way is in range -/
def sumGo (s : Int) : List Int → Option Int
  | [] => some s
  | n :: r => if inB n && inB (s + n) then sumGo (s + n) r else none
def sumV (l : List Int) : Int := (sumGo 0 l).getD 0
def sumB (l : List Int) : Bool := (sumGo 0 l).isSome

/-- the clipped sum from s on -/
def satGo (s : Int) : List Int → Int
  | [] => s
  | n :: r => satGo (bnd (s + bnd n)) r
def satV (l : List Int) : Int := satGo 0 l

theorem sumGo_in {s v : Int} (hs : inB s = true) {l : List Int} (h : sumGo s l = some v) : inB v = true := by
  induction l generalizing s with
  | nil => simp [sumGo] at h; subst h; exact hs
  | cons n r ih =>
    simp only [sumGo] at h
    split at h
    · rename_i hc; simp at hc; exact ih hc.2 h
    · cases h

theorem sumGo_append (s : Int) (l m : List Int) : sumGo s (l ++ m) = match sumGo s l with | some v => sumGo v m | none => none := by
  induction l generalizing s with
  | nil => rfl
  | cons n r ih =>
    simp only [List.cons_append, sumGo]
    split
    · exact ih _
    · rfl

theorem satGo_append (s : Int) (l m : List Int) : satGo s (l ++ m) = satGo (satGo s l) m := by
  induction l generalizing s with
  | nil => rfl
  | cons n r ih => exact ih _

theorem satGo_in {s : Int} (hs : inB s = true) (l : List Int) : inB (satGo s l) = true := by
  induction l generalizing s with
  | nil => exact hs
  | cons n r ih => exact ih (inB_mk (bnd_le _).1 (bnd_le _).2)

theorem satGo_mono {s t : Int} (h : s ≤ t) (l : List Int) : satGo s l ≤ satGo t l := by
  induction l generalizing s t with
  | nil => exact h
  | cons n r ih => exact ih (bnd_mono (by omega))

theorem satGo_sum {s v : Int} {l : List Int} (h : sumGo s l = some v) : satGo s l = v := by
  induction l generalizing s with
  | nil => simpa [sumGo, satGo] using h
  | cons n r ih =>
    simp only [sumGo] at h
    split at h
    · rename_i hc
      simp at hc
      simp only [satGo]
      rw [bnd_in hc.1, bnd_in hc.2]
      exact ih h
    · cases h

/-- from 0 on, with s ahead: s itself is the first sum -/
theorem sumGo_cons {s : Int} (hs : inB s = true) (m : List Int) : sumGo 0 (s :: m) = sumGo s m := by simp [sumGo, hs]
theorem satGo_cons {s : Int} (hs : inB s = true) (m : List Int) : satGo 0 (s :: m) = satGo s m := by
  simp only [satGo]; rw [bnd_in hs, Int.zero_add, bnd_in hs]

theorem satGo_set_mono (s : Int) (l : List Int) (k : Nat) (o : Int) (h : ∀ n, l[k]? = some n → n ≤ o) : satGo s l ≤ satGo s (l.set k o) := by
  induction l generalizing s k with
  | nil => exact Int.le_refl _
  | cons n r ih =>
    cases k with
    | zero => exact satGo_mono (bnd_mono (by have := bnd_mono (h n rfl); omega)) r
    | succ k => exact ih _ k (fun n hn => h n (by simpa using hn))

/-- the product, if the two and it are in range -/
def mulB (a b : Int) : Bool := inB a && inB b && inB (a * b)
def mulV (a b : Int) : Int := if mulB a b then a * b else 0

theorem mulB_comm (a b : Int) : mulB a b = mulB b a := by simp [mulB, Int.mul_comm a b, Bool.and_comm (inB a) (inB b)]
theorem mulV_comm (a b : Int) : mulV a b = mulV b a := by simp [mulV, mulB_comm a b, Int.mul_comm a b]

/-- the quotient tells whether the product stays in range: for sizes -/
theorem quo_lt {x y : Int} (hx : 0 < x) (h : 1125899906842624 / x < y) : 1125899906842624 < x * y := by
  have h1 := Int.lt_ediv_add_one_mul_self 1125899906842624 hx
  have h2 : (1125899906842624 / x + 1) * x ≤ y * x := Int.mul_le_mul_of_nonneg_right (by omega) (by omega)
  have h3 : y * x = x * y := Int.mul_comm y x
  omega
theorem quo_le {x y : Int} (hx : 0 < x) (h : y ≤ 1125899906842624 / x) : x * y ≤ 1125899906842624 := by
  have h1 := Int.ediv_mul_le 1125899906842624 (show x ≠ 0 by omega)
  have h2 : y * x ≤ 1125899906842624 / x * x := Int.mul_le_mul_of_nonneg_right h (by omega)
  have h3 : y * x = x * y := Int.mul_comm y x
  omega

def absI (n : Int) : Int := if n < 0 then -n else n
theorem absI_le {n : Int} (h : inB n = true) : 0 ≤ absI n ∧ absI n ≤ 1125899906842624 := by
  have := inB_true h
  unfold absI; split <;> omega
theorem absI_pos {n : Int} (h : n ≠ 0) : 1 ≤ absI n := by unfold absI; split <;> omega
theorem absI_cases (n : Int) : absI n = n ∨ absI n = -n := by unfold absI; split <;> simp
theorem mul_out {a b : Int} (ha : a ≠ 0) (h : 1125899906842624 / absI a < absI b) : inB (a * b) = false := by
  have h1 := quo_lt (absI_pos ha) h
  apply inB_not
  rcases absI_cases a with e | e <;> rcases absI_cases b with e' | e' <;> rw [e, e'] at h1 <;> (try simp only [Int.neg_mul, Int.mul_neg, Int.neg_neg] at h1) <;> omega
theorem mul_within {a b : Int} (ha : a ≠ 0) (h : ¬ 1125899906842624 / absI a < absI b) : inB (a * b) = true := by
  have h1 := quo_le (absI_pos ha) (Int.not_lt.1 h)
  have h2 : 0 ≤ absI a * absI b := Int.mul_nonneg (by have := absI_pos ha; omega) (by unfold absI; split <;> omega)
  apply inB_mk
  · rcases absI_cases a with e | e <;> rcases absI_cases b with e' | e' <;> rw [e, e'] at h1 h2 <;> (try simp only [Int.neg_mul, Int.mul_neg, Int.neg_neg] at h1 h2) <;> omega
  · rcases absI_cases a with e | e <;> rcases absI_cases b with e' | e' <;> rw [e, e'] at h1 h2 <;> (try simp only [Int.neg_mul, Int.mul_neg, Int.neg_neg] at h1 h2) <;> omega
theorem mul_no {a b : Int} (h : inB a = false ∨ inB b = false ∨ inB (a * b) = false) : (0 : Int) = mulV a b ∧ false = mulB a b := by
  rcases h with h | h | h <;> simp [mulV, mulB, h]
theorem mul_yes {a b : Int} (h : inB a = true) (h' : inB b = true) (h'' : inB (a * b) = true) : a * b = mulV a b ∧ true = mulB a b := by simp [mulV, mulB, h, h', h'']

#print axioms mul_within
end Go.Proofs.Ytpecenjdnapfbaa.NumMath
