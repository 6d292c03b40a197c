/-
  WireMath, WireWords, WireRNum, WireRFlag, WirePNum, WirePFlag: one text.
-/
import Derived.Below
import Derived.Test.YtbnhbbjmocclmaaLibRows
import Derived.Test.YtbnhbbjmocclmaaRegions
import Derived.Laws.BitsLemmas
import Derived.Laws.Bits64
import Derived.Deep.DeepCutAuto
import Derived.Laws.OwnMore
/-
  The plain mathematics of chapter 3: numbers as bytes in groups of seven bits, read back, in one way only; lists of numbers. No program is named here.
-/
namespace Go.Proofs.Ytbnhbbjmocclmaa.WireMath

def zig (n : Int) : Nat := if 0 ≤ n then (2 * n).toNat else (-2 * n - 1).toNat
def zag (u : Nat) : Int := if u % 2 = 0 then ((u / 2 : Nat) : Int) else -((u / 2 : Nat) : Int) - 1
theorem zag_zig (n : Int) : zag (zig n) = n := by
  unfold zag zig
  split
  · rename_i h; rw [if_pos (by omega)]; omega
  · rename_i h; rw [if_neg (by omega)]; omega
theorem zig_zag (u : Nat) : zig (zag u) = u := by
  unfold zag zig
  by_cases h : u % 2 = 0
  · rw [if_pos h, if_pos (by omega)]; omega
  · rw [if_neg h, if_neg (by omega)]; omega
theorem zig_lt {n : Int} (h1 : -9223372036854775808 ≤ n) (h2 : n ≤ 9223372036854775807) : zig n < 18446744073709551616 := by
  unfold zig; split <;> omega
theorem zag_in {u : Nat} (h : u < 18446744073709551616) : -9223372036854775808 ≤ zag u ∧ zag u ≤ 9223372036854775807 := by
  unfold zag; split <;> omega

/-- groups of seven bits, the least first; 128 more on each but the last -/
def putU (u : Nat) : List UInt8 := if u < 128 then [UInt8.ofNat u] else UInt8.ofNat (u % 128 + 128) :: putU (u / 128)
termination_by u
decreasing_by omega
theorem putU_lt {u : Nat} (h : u < 128) : putU u = [UInt8.ofNat u] := by rw [putU, if_pos h]
theorem putU_ge {u : Nat} (h : ¬ u < 128) : putU u = UInt8.ofNat (u % 128 + 128) :: putU (u / 128) := by rw [putU, if_neg h]
def putN (n : Int) : List UInt8 := putU (zig n)
def putL (l : List Int) : List UInt8 := putN l.length ++ (l.map putN).flatten
def putS (s : List UInt8) : List UInt8 := putN s.length ++ s
theorem putU_ne (u : Nat) : putU u ≠ [] := by
  by_cases h : u < 128
  · rw [putU_lt h]; simp
  · rw [putU_ge h]; simp
theorem putU_len {u : Nat} (k : Nat) (hk : 0 < k) (h : u < 128 ^ k) : (putU u).length ≤ k := by
  induction k generalizing u with
  | zero => omega
  | succ k ih =>
    by_cases hu : u < 128
    · rw [putU_lt hu]; simp
    · rw [putU_ge hu, List.length_cons]
      have hk' : 0 < k := by
        rcases Nat.eq_zero_or_pos k with rfl | h'
        · simp at h; omega
        · exact h'
      have : u / 128 < 128 ^ k := by rw [Nat.pow_succ] at h; omega
      have := ih hk' this
      omega

/-- what is read: the number, how many bytes; or the error's number. i: bytes that were read; u: what they came to -/
def getU : Nat → Nat → List UInt8 → Except Int (Nat × Nat)
  | _, _, [] => .error 3
  | i, u, c :: r =>
    if i = 9 ∧ 1 < c.toNat then .error 4
    else if 128 ≤ c.toNat then getU (i + 1) (u + c.toNat % 128 * 128 ^ i) r
    else if c.toNat = 0 ∧ 0 < i then .error 4 else .ok (u + c.toNat % 128 * 128 ^ i, i + 1)
def getN (l : List UInt8) : Except Int (Int × Nat) :=
  match getU 0 0 l with
  | .error e => .error e
  | .ok (u, k) => .ok (zag u, k)
theorem getU_nil (i u : Nat) : getU i u [] = .error 3 := rfl
theorem getU_cons (i u : Nat) (c : UInt8) (r : List UInt8) : getU i u (c :: r) =
    if i = 9 ∧ 1 < c.toNat then .error 4
    else if 128 ≤ c.toNat then getU (i + 1) (u + c.toNat % 128 * 128 ^ i) r
    else if c.toNat = 0 ∧ 0 < i then .error 4 else .ok (u + c.toNat % 128 * 128 ^ i, i + 1) := rfl
theorem toNat_of {n : Nat} (h : n < 256) : (UInt8.ofNat n).toNat = n := by
  simp only [UInt8.toNat_ofNat']; omega
theorem pow9 : (128 : Nat) ^ 9 = 9223372036854775808 := by decide
theorem ge10 {i v : Nat} (hi : 10 ≤ i) (hv : 0 < v) : ¬ v * 128 ^ i < 18446744073709551616 := by
  intro h
  have h1 : (128 : Nat) ^ 10 ≤ 128 ^ i := Nat.pow_le_pow_right (by omega) hi
  have h2 : (128 : Nat) ^ 10 = 1180591620717411303424 := by decide
  have h3 : 1 * 128 ^ i ≤ v * 128 ^ i := Nat.mul_le_mul_right _ hv
  omega
/-- what is written is read back, whatever stands behind it -/
theorem getU_putU {i u v : Nat} (r : List UInt8) (hi : i ≤ 9) (hv : v * 128 ^ i < 18446744073709551616) (h0 : 0 < i → 0 < v) :
    getU i u (putU v ++ r) = .ok (u + v * 128 ^ i, i + (putU v).length) := by
  induction v using Nat.strongRecOn generalizing i u with
  | _ v ih =>
    by_cases h : v < 128
    · rw [putU_lt h, List.singleton_append, getU_cons, toNat_of (by omega)]
      rw [if_neg, if_neg (by omega), if_neg (by omega), Nat.mod_eq_of_lt h]
      · rfl
      · rintro ⟨rfl, h1⟩
        rw [pow9] at hv
        omega
    · rw [putU_ge h, List.cons_append, getU_cons, toNat_of (by omega)]
      have hi9 : i ≠ 9 := by
        rintro rfl
        rw [pow9] at hv
        omega
      rw [if_neg (by omega), if_pos (by omega)]
      have e1 : (v % 128 + 128) % 128 = v % 128 := by omega
      have e2 : v % 128 * 128 ^ i + v / 128 * 128 ^ (i + 1) = v * 128 ^ i := by
        rw [Nat.pow_succ, Nat.mul_comm (128 ^ i) 128, ← Nat.mul_assoc, ← Nat.add_mul]
        congr 1
        omega
      rw [e1, ih (v / 128) (by omega) (by omega) (by omega) (by omega), List.length_cons]
      congr 2
      · omega
      · omega
/-- what is read is what is written so -/
theorem getU_only {i u w k : Nat} {l : List UInt8} (hi : i ≤ 9) (h : getU i u l = .ok (w, k)) :
    ∃ v r, l = putU v ++ r ∧ w = u + v * 128 ^ i ∧ k = i + (putU v).length ∧ v * 128 ^ i < 18446744073709551616 ∧ (0 < i → 0 < v) := by
  induction l generalizing i u with
  | nil => rw [getU_nil] at h; cases h
  | cons c r ih =>
    rw [getU_cons] at h
    have hc := UInt8.toNat_lt c
    have hce : UInt8.ofNat c.toNat = c := by simp
    split at h
    · cases h
    rename_i h1
    split at h
    · rename_i h2
      have hi9 : i ≠ 9 := fun e => h1 ⟨e, by omega⟩
      obtain ⟨v, r', e1, e2, e3, e4, e5⟩ := ih (by omega) h
      have hv := e5 (by omega)
      have hge : ¬ c.toNat % 128 + v * 128 < 128 := by omega
      have hp : putU (c.toNat % 128 + v * 128) = c :: putU v := by
        rw [putU_ge hge]
        have d1 : (c.toNat % 128 + v * 128) % 128 + 128 = c.toNat := by omega
        have d2 : (c.toNat % 128 + v * 128) / 128 = v := by omega
        rw [d1, d2, hce]
      have e6 : (c.toNat % 128 + v * 128) * 128 ^ i = c.toNat % 128 * 128 ^ i + v * 128 ^ (i + 1) := by
        rw [Nat.add_mul, Nat.pow_succ, Nat.mul_assoc, Nat.mul_comm 128 (128 ^ i)]
      refine ⟨c.toNat % 128 + v * 128, r', by rw [hp, e1]; rfl, by rw [e6, e2]; omega, by rw [hp, e3, List.length_cons]; omega, ?_, by omega⟩
      obtain ⟨q, hq⟩ := Nat.pow_dvd_pow 128 (show i + 1 ≤ 9 by omega)
      rw [pow9] at hq
      have hvq : v * 128 ^ (i + 1) < (2 * q) * 128 ^ (i + 1) := by
        have : (2 * q) * 128 ^ (i + 1) = 2 * (128 ^ (i + 1) * q) := by rw [Nat.mul_assoc, Nat.mul_comm q]
        omega
      have hlt : v < 2 * q := Nat.lt_of_mul_lt_mul_right hvq
      have hle : (v + 1) * 128 ^ (i + 1) ≤ (2 * q) * 128 ^ (i + 1) := Nat.mul_le_mul_right _ hlt
      have h3 : (2 * q) * 128 ^ (i + 1) = 2 * (128 ^ (i + 1) * q) := by rw [Nat.mul_assoc, Nat.mul_comm q]
      have h4 : (v + 1) * 128 ^ (i + 1) = v * 128 ^ (i + 1) + 128 * 128 ^ i := by rw [Nat.add_mul, Nat.one_mul, Nat.pow_succ, Nat.mul_comm (128 ^ i) 128]
      have h5 : c.toNat % 128 * 128 ^ i ≤ 127 * 128 ^ i := Nat.mul_le_mul_right _ (by omega)
      have h6 : 0 < 128 ^ i := Nat.pow_pos (by omega)
      rw [e6]
      omega
    · rename_i h2
      split at h
      · cases h
      rename_i h3
      injection h with h; injection h with e1 e2
      have hm : c.toNat % 128 = c.toNat := by omega
      rw [hm] at e1
      refine ⟨c.toNat, r, by rw [putU_lt (by omega), hce]; rfl, e1.symm, by rw [putU_lt (by omega)]; simpa using e2.symm, ?_, by omega⟩
      rcases Nat.lt_or_ge i 9 with hlt | hge
      · have : (128 : Nat) ^ i ≤ 128 ^ 8 := Nat.pow_le_pow_right (by omega) (by omega)
        have h8 : (128 : Nat) ^ 8 = 72057594037927936 := by decide
        have : c.toNat * 128 ^ i ≤ 127 * 128 ^ 8 := Nat.mul_le_mul (by omega) this
        omega
      · obtain rfl : i = 9 := by omega
        rw [pow9]
        omega
/-- what is cut off ends too early -/
theorem getU_cut {i u v k : Nat} (hi : i ≤ 9) (hv : v * 128 ^ i < 18446744073709551616) (hk : k < (putU v).length) : getU i u ((putU v).take k) = .error 3 := by
  induction k generalizing i u v with
  | zero => rfl
  | succ k ih =>
    by_cases h : v < 128
    · rw [putU_lt h] at hk; simp at hk
    · rw [putU_ge h] at hk ⊢
      have hi9 : i ≠ 9 := by
        rintro rfl
        rw [pow9] at hv
        omega
      rw [List.take_succ_cons, getU_cons, toNat_of (by omega), if_neg (by omega), if_pos (by omega)]
      refine ih (by omega) ?_ (by simpa using hk)
      have h1 : v / 128 * 128 ^ (i + 1) ≤ v * 128 ^ i := by
        rw [Nat.pow_succ, Nat.mul_comm (128 ^ i) 128, ← Nat.mul_assoc]
        exact Nat.mul_le_mul_right _ (by omega)
      omega

/-- an int64 -/
def i64 (n : Int) : Prop := -9223372036854775808 ≤ n ∧ n ≤ 9223372036854775807
theorem getN_putN {n : Int} (r : List UInt8) (h : i64 n) : getN (putN n ++ r) = .ok (n, (putN n).length) := by
  unfold getN putN
  rw [getU_putU r (by omega) (by simpa using zig_lt h.1 h.2) (by omega)]
  simp [zag_zig]
theorem getN_only {n : Int} {k : Nat} {l : List UInt8} (h : getN l = .ok (n, k)) : ∃ r, l = putN n ++ r ∧ k = (putN n).length ∧ i64 n := by
  unfold getN at h
  split at h
  · cases h
  rename_i u k' hu
  injection h with h; injection h with e1 e2
  obtain ⟨v, r, d1, d2, d3, d4, _⟩ := getU_only (by omega) hu
  have d5 : u = v := by simpa using d2
  subst d5
  subst e1
  refine ⟨r, by unfold putN; rw [zig_zag]; exact d1, by unfold putN; rw [zig_zag, ← e2]; simpa using d3, zag_in (by simpa using d4)⟩
theorem getN_cut {n : Int} {k : Nat} (h : i64 n) (hk : k < (putN n).length) : getN ((putN n).take k) = .error 3 := by
  unfold getN
  have := getU_cut (i := 0) (u := 0) (k := k) (by omega) (by simpa using zig_lt h.1 h.2) (show k < (putU (zig n)).length from hk)
  unfold putN
  rw [this]
theorem getN_err {l : List UInt8} {e : Int} (h : getN l = .error e) : e = 3 ∨ e = 4 := by
  have key : ∀ (l : List UInt8) (i u : Nat), getU i u l = .error e → e = 3 ∨ e = 4 := by
    intro l
    induction l with
    | nil => intro i u h; rw [getU_nil] at h; injection h with h; exact Or.inl h.symm
    | cons c r ih =>
      intro i u h
      rw [getU_cons] at h
      split at h
      · injection h with h; exact Or.inr h.symm
      split at h
      · exact ih _ _ h
      split at h
      · injection h with h; exact Or.inr h.symm
      · cases h
  unfold getN at h
  split at h
  · rename_i e' he
    injection h with h
    subst h
    exact key _ _ _ he
  · cases h
theorem putN_len {n : Int} (h : i64 n) : 0 < (putN n).length ∧ (putN n).length ≤ 10 := by
  refine ⟨List.length_pos_iff.2 (putU_ne _), putU_len 10 (by omega) ?_⟩
  have := zig_lt h.1 h.2
  have h2 : (128 : Nat) ^ 10 = 1180591620717411303424 := by decide
  omega

/-- the numbers of a list, one behind the other: what is read, how many bytes -/
def getM : Nat → List UInt8 → Except Int (List Int × Nat)
  | 0, _ => .ok ([], 0)
  | c + 1, l =>
    match getN l with
    | .error e => .error e
    | .ok (n, k) =>
      match getM c (l.drop k) with
      | .error e => .error e
      | .ok (ns, j) => .ok (n :: ns, k + j)
def getC (most : Int) (l : List UInt8) : Except Int (Int × Nat) :=
  match getN l with
  | .error e => .error e
  | .ok (n, k) => if n < 0 ∨ most < n then .error 2 else .ok (n, k)
def getL (most : Int) (l : List UInt8) : Except Int (List Int × Nat) :=
  match getC most l with
  | .error e => .error e
  | .ok (n, k) =>
    match getM n.toNat (l.drop k) with
    | .error e => .error e
    | .ok (ns, j) => .ok (ns, k + j)
def getS (most : Int) (l : List UInt8) : Except Int (List UInt8 × Nat) :=
  match getC most l with
  | .error e => .error e
  | .ok (n, k) => if l.length < k + n.toNat then .error 3 else .ok ((l.drop k).take n.toNat, k + n.toNat)
def getF : List UInt8 → Except Int (Bool × Nat)
  | [] => .error 3
  | c :: _ => if 1 < c.toNat then .error 4 else .ok (decide (c.toNat = 1), 1)
theorem getM_put {ns : List Int} (r : List UInt8) (h : ∀ n ∈ ns, i64 n) : getM ns.length ((ns.map putN).flatten ++ r) = .ok (ns, (ns.map putN).flatten.length) := by
  induction ns with
  | nil => rfl
  | cons n ns ih =>
    rw [List.length_cons, getM, List.map_cons, List.flatten_cons, List.append_assoc, getN_putN _ (h n (by simp))]
    simp only [List.drop_left, ih fun x hx => h x (by simp [hx]), List.length_append]
theorem getM_only {c : Nat} {l : List UInt8} {ns : List Int} {j : Nat} (h : getM c l = .ok (ns, j)) : ∃ r, l = (ns.map putN).flatten ++ r ∧ j = (ns.map putN).flatten.length ∧ ns.length = c ∧ ∀ n ∈ ns, i64 n := by
  induction c generalizing l ns j with
  | zero => rw [getM] at h; injection h with h; injection h with e1 e2; subst e1; subst e2; exact ⟨l, rfl, rfl, rfl, by simp⟩
  | succ c ih =>
    rw [getM] at h
    split at h
    · cases h
    rename_i n k hn
    split at h
    · cases h
    rename_i ns' j' hm
    injection h with h; injection h with e1 e2
    subst e1; subst e2
    obtain ⟨r, d1, d2, d3⟩ := getN_only hn
    rw [d1, d2, List.drop_left] at hm
    obtain ⟨r', f1, f2, f3, f4⟩ := ih hm
    refine ⟨r', ?_, ?_, by simp [f3], ?_⟩
    · rw [d1, f1]; simp
    · rw [d2, f2]; simp
    · intro x hx
      rcases List.mem_cons.1 hx with rfl | hx
      · exact d3
      · exact f4 x hx
theorem getC_put {n most : Int} (r : List UInt8) (h : i64 n) (h0 : 0 ≤ n) (hm : n ≤ most) : getC most (putN n ++ r) = .ok (n, (putN n).length) := by
  unfold getC; rw [getN_putN r h]; simp only; rw [if_neg (by omega)]
theorem getC_only {n most : Int} {k : Nat} {l : List UInt8} (h : getC most l = .ok (n, k)) : ∃ r, l = putN n ++ r ∧ k = (putN n).length ∧ i64 n ∧ 0 ≤ n ∧ n ≤ most := by
  unfold getC at h
  split at h
  · cases h
  rename_i n' k' hn
  split at h
  · cases h
  rename_i hb
  injection h with h; injection h with e1 e2
  subst e1; subst e2
  obtain ⟨r, d1, d2, d3⟩ := getN_only hn
  exact ⟨r, d1, d2, d3, by omega, by omega⟩
theorem getL_put {ns : List Int} {most : Int} (r : List UInt8) (h : ∀ n ∈ ns, i64 n) (hl : i64 ns.length) (hm : (ns.length : Int) ≤ most) : getL most (putL ns ++ r) = .ok (ns, (putL ns).length) := by
  unfold getL putL
  rw [List.append_assoc, getC_put _ hl (by omega) hm]
  simp only [List.drop_left, Int.toNat_natCast, getM_put r h, List.length_append]
theorem getL_only {ns : List Int} {most : Int} {k : Nat} {l : List UInt8} (h : getL most l = .ok (ns, k)) : ∃ r, l = putL ns ++ r ∧ k = (putL ns).length ∧ (ns.length : Int) ≤ most ∧ ∀ n ∈ ns, i64 n := by
  unfold getL at h
  split at h
  · cases h
  rename_i n k' hc
  split at h
  · cases h
  rename_i ns' j hm
  injection h with h; injection h with e1 e2
  subst e1; subst e2
  obtain ⟨r, d1, d2, d3, d4, d5⟩ := getC_only hc
  rw [d1, d2, List.drop_left] at hm
  obtain ⟨r', f1, f2, f3, f4⟩ := getM_only hm
  have hn : n = (ns'.length : Int) := by omega
  subst hn
  refine ⟨r', ?_, ?_, d5, f4⟩
  · unfold putL; rw [d1, f1, List.append_assoc]
  · unfold putL; rw [d2, f2, List.length_append]
theorem getS_put {s : List UInt8} {most : Int} (r : List UInt8) (hl : i64 s.length) (hm : (s.length : Int) ≤ most) : getS most (putS s ++ r) = .ok (s, (putS s).length) := by
  unfold getS putS
  rw [List.append_assoc, getC_put _ hl (by omega) hm]
  simp only [Int.toNat_natCast, List.length_append]
  rw [if_neg (by omega), List.drop_left, List.take_left]
theorem getS_only {s : List UInt8} {most : Int} {k : Nat} {l : List UInt8} (h : getS most l = .ok (s, k)) : ∃ r, l = putS s ++ r ∧ k = (putS s).length ∧ (s.length : Int) ≤ most := by
  unfold getS at h
  split at h
  · cases h
  rename_i n k' hc
  split at h
  · cases h
  rename_i hlen
  injection h with h; injection h with e1 e2
  obtain ⟨r, d1, d2, d3, d4, d5⟩ := getC_only hc
  subst d1
  rw [d2, List.drop_left] at e1
  have hl : s.length = n.toNat := by
    rw [← e1, List.length_take]
    rw [List.length_append] at hlen
    omega
  have hn : (s.length : Int) = n := by omega
  refine ⟨r.drop n.toNat, ?_, ?_, by omega⟩
  · unfold putS
    rw [hn, List.append_assoc]
    congr 1
    rw [← e1, List.take_append_drop]
  · unfold putS
    rw [hn, List.length_append, hl, ← e2, d2]

#print axioms getU_putU
end Go.Proofs.Ytbnhbbjmocclmaa.WireMath

/-
  Readers: what they do, how they lie in memory.
-/
namespace Go.Proofs.Ytbnhbbjmocclmaa.Wire
open Go.ChangeShapes Go.WideShapes Go.ChangeAt Go.RowKit Go.Proofs.Ytbnhbbjmocclmaa.Mem Go.Proofs.Ytbnhbbjmocclmaa.WireMath

/-- a reader: where it stands, its fault (0: none) -/
structure Rd where
  next : Nat
  at_ : Nat
  why : Int
def rdNum (xs : List UInt8) (r : Rd) : Int × Rd :=
  if r.why = 0 then
    match getN (xs.drop r.next) with
    | .ok (v, k) => (v, ⟨r.next + k, r.at_, 0⟩)
    | .error e => (0, ⟨r.next, r.next, e⟩)
  else (0, r)
def rdCount (xs : List UInt8) (most : Int) (r : Rd) : Int × Rd :=
  if r.why = 0 then
    match getC most (xs.drop r.next) with
    | .ok (v, k) => (v, ⟨r.next + k, r.at_, 0⟩)
    | .error e => (0, ⟨r.next, r.next, e⟩)
  else (0, r)
def rdFlag (xs : List UInt8) (r : Rd) : Bool × Rd :=
  if r.why = 0 then
    match getF (xs.drop r.next) with
    | .ok (v, k) => (v, ⟨r.next + k, r.at_, 0⟩)
    | .error e => (false, ⟨r.next, r.next, e⟩)
  else (false, r)
def rdEnd (xs : List UInt8) (r : Rd) : Int × Rd :=
  if r.why = 0 ∧ r.next < xs.length then (5, ⟨r.next, r.next, 5⟩) else (r.why, r)
/-- the document's reader in block g -/
structure RRef (u : World) (g : Nat) (xs : List UInt8) (r : Rd) : Prop where
  bytes : ∃ A c, Blk u g 101 [.slice A xs.length c, .int .i64 (r.next : Int), .int .i64 (r.at_ : Int), .int .i64 r.why] ∧ Bytes u g A xs.length xs ∧ xs.length ≤ c
  le : r.next ≤ xs.length
  max : xs.length ≤ 140737488355328
/-- the program's -/
structure RProg (u : World) (g : Nat) (xs : List UInt8) (r : Rd) : Prop where
  bytes : ∃ A c, Blk u g 97 [.int .i64 (r.at_ : Int), .int .i64 r.why, .slice A xs.length c, .int .i64 (r.next : Int)] ∧ Bytes u g A xs.length xs ∧ xs.length ≤ c
  le : r.next ≤ xs.length
  max : xs.length ≤ 140737488355328
section
variable {u u' : World} {g : Nat} {xs : List UInt8} {r : Rd}
theorem RRef.below (h : RRef u g xs r) (hb : Below u.heap.size u u') : RRef u' g xs r := by
  obtain ⟨⟨A, c, h1, h2, h3⟩, h4, h5⟩ := h
  exact ⟨⟨A, c, h1.below hb h1.lt, Reads.keep h2 (hb.mono (Nat.le_of_lt h1.lt)), h3⟩, h4, h5⟩
theorem RProg.below (h : RProg u g xs r) (hb : Below u.heap.size u u') : RProg u' g xs r := by
  obtain ⟨⟨A, c, h1, h2, h3⟩, h4, h5⟩ := h
  exact ⟨⟨A, c, h1.below hb h1.lt, Reads.keep h2 (hb.mono (Nat.le_of_lt h1.lt)), h3⟩, h4, h5⟩
theorem RRef.lt (h : RRef u g xs r) : g < u.heap.size := by obtain ⟨_, _, h1, _⟩ := h.bytes; exact h1.lt
theorem RProg.lt (h : RProg u g xs r) : g < u.heap.size := by obtain ⟨_, _, h1, _⟩ := h.bytes; exact h1.lt
theorem keep_set {i : Nat} {x : Value} : Below g u (u.setCell ⟨g, i, none⟩ x) := (Below.refl g u).setCell (Nat.le_refl _) _
end
theorem getN_k {l : List UInt8} {v : Int} {k : Nat} (h : getN l = .ok (v, k)) : k ≤ l.length ∧ i64 v := by
  obtain ⟨r, e, hk, hv⟩ := getN_only h
  exact ⟨by rw [e, hk]; simp, hv⟩
#print axioms RRef.below
end Go.Proofs.Ytbnhbbjmocclmaa.Wire

/-
  The document's own answer to chapter 3, walked: Num, Flag.
-/
namespace Go.Proofs.Ytbnhbbjmocclmaa.Wire
open Go.ChangeShapes Go.WideShapes Go.ChangeAt Go.RowKit Go.Proofs.Ytbnhbbjmocclmaa.Mem Go.Proofs.Ytbnhbbjmocclmaa.WireMath
set_option linter.unusedVariables false

theorem wrap_u64 (n : Int) : IntKind.u64.wrap n = n % 18446744073709551616 := by simp [IntKind.wrap, IntKind.bits, IntKind.signed]
theorem zig_pos {v : Int} (h0 : 0 ≤ v) (h1 : v ≤ 9223372036854775807) : IntKind.u64.wrap (IntKind.u64.wrap v * 2) = ((zig v : Nat) : Int) := by
  rw [wrap_u64, wrap_u64]
  unfold zig
  rw [if_pos h0]
  omega
theorem xor_ones (b : Nat) (hb : b < 18446744073709551616) : 18446744073709551615 ^^^ b = 18446744073709551615 - b := by
  have h : (BitVec.allOnes 64 ^^^ BitVec.ofNat 64 b).toNat = (~~~ BitVec.ofNat 64 b).toNat := by
    congr 1
  rw [BitVec.toNat_xor, BitVec.toNat_not, BitVec.toNat_ofNat, BitVec.toNat_allOnes, Nat.mod_eq_of_lt (by simpa using hb)] at h
  simpa using h
theorem zig_neg {v : Int} (h0 : v < 0) (h1 : -9223372036854775808 ≤ v) : bits .xor .u64 IntKind.u64.max (IntKind.u64.wrap (IntKind.u64.wrap v * 2)) = ((zig v : Nat) : Int) := by
  obtain ⟨b, hb⟩ : ∃ b : Nat, IntKind.u64.wrap (IntKind.u64.wrap v * 2) = (b : Int) := ⟨(IntKind.u64.wrap (IntKind.u64.wrap v * 2)).toNat, by rw [wrap_u64, wrap_u64]; omega⟩
  have hb2 : (b : Int) = 2 * v + 18446744073709551616 := by
    rw [← hb, wrap_u64, wrap_u64]; omega
  rw [hb, show IntKind.u64.max = ((18446744073709551615 : Nat) : Int) by simp [IntKind.max, IntKind.bits, IntKind.signed], bits_xor_u64_nat _ _ (by decide) (by omega), xor_ones _ (by omega)]
  unfold zig
  rw [if_neg (by omega)]
  omega
set_option maxRecDepth 100000 in
theorem or_all : ∀ a : Fin 256, (a.val ||| 128) = a.val % 128 + 128 := by decide
theorem more_byte (u : Nat) : bits .or .u8 ((u : Int) % 256) 128 = ((UInt8.ofNat (u % 128 + 128)).toNat : Int) := by
  have e : (u : Int) % 256 = ((u % 256 : Nat) : Int) := by omega
  rw [e, show (128 : Int) = ((128 : Nat) : Int) from rfl, (bits_nat .u8 8 (by decide) wraps_u8 (u % 256) 128 (by omega) (by omega)).2, show u % 256 ||| 128 = u % 256 % 128 + 128 from or_all ⟨u % 256, by omega⟩, toNat_of (by omega)]
  omega
theorem one_recs {w : World} {x : Int} : Reads (w.alloc (.cells #[.int .u8 x] 5)) (w.alloc (.cells #[.int .u8 x] 5)).heap.size (some ⟨w.heap.size, 0, none⟩) 1 [.int .u8 x] :=
  ⟨rfl, by unfold maxLen; omega, fun _ => ⟨w.heap.size, 0, rfl, by simp, fun j u hu => by
    have := (Blk.new w 5 [.int .u8 x]).cell hu
    rw [Nat.zero_add]
    exact this⟩⟩
theorem one_one {x : Int} : ∀ u ∈ [Value.int .u8 x], u.oneCell' = true := by
  intro u hu
  simp only [List.mem_cons, List.not_mem_nil, or_false] at hu
  subst hu; rfl
theorem bytesV_snoc (p : List UInt8) (b : UInt8) : bytesV (p ++ [b]) = bytesV p ++ [.int .u8 (b.toNat : Int)] := by simp [bytesV]
/-- bytes of the call's own -/
structure PW (w : World) (v : Value) (p : List UInt8) (u : World) : Prop where
  old : Below w.heap.size w u
  own : Own u w.heap.size 5 v p.length (bytesV p)
section
variable {w u : World} {v : Value} {p : List UInt8}
theorem PW.alloc (h : PW w v p u) (o : Obj) : PW w v p (u.alloc o) := ⟨h.old.alloc h.old.size o, h.own.alloc o⟩
end

set_option maxRecDepth 100000 in
set_option maxHeartbeats 1000000 in
theorem rnum_any (A : Option Addr) (n c : Nat) (xs : List UInt8) (v : Int) (w : World) (h : Bytes w w.heap.size A n xs) (hv : i64 v) (hr : n + 10 ≤ 140737488355328) :
    Calls Try.prog 57 #[.slice A n c, .int .i64 v] w (Makes w 5 (n + (putN v).length) (bytesV (xs ++ putN v))) := by
  have HI : Hid (Bytes (w.alloc (.cells #[] 5)) w.heap.size A n xs) := Reads.alloc h (Nat.le_refl _) _
  have HO : Hid (Own (w.alloc (.cells #[] 5)) w.heap.size 5 (.slice (some ⟨w.heap.size, 0, none⟩) 0 0) 0 []) := Own.new w w.heap.size 5 [] (Nat.le_refl _) (Nat.zero_le _)
  have HB : Hid (Below w.heap.size w (w.alloc (.cells #[] 5))) := (Below.refl _ _).alloc (Nat.le_refl _) _
  have HXL := Lib.hid (Bytes.length h)
  have HLN := Lib.hid (putN_len hv)
  obtain ⟨hv0, hv1⟩ := hv
  clear h
  go_enter Try.func57, Try.ntmps57
  go_upto_region 2 with (at_builtin; refine wpList_append_b (o := ⟨some 9, _, _, _, _, _⟩) rfl (.tmp 7) (.tmp 8) Try.underlying44 infoByte rfl rfl HO.out rfl HI.out rfl (bytesV_one _) (by unfold maxLen; omega) (by omega) HB.out HB.out.size HB.out.size (Nat.le_refl _) ?_; intro vB wB HO2 HB2 _ HG2)
  have P1 : Hid (PW w vB xs wB) := ⟨HB2, by
    have := HO2.out
    rw [Nat.zero_add, List.nil_append] at this
    rw [HXL.out]
    exact this⟩
  clear HO2 HB2 HG2 HI HO HB
  go_upto_if 14 with fail
  go_cut [6] (fun uv wx => wx = wB ∧ uv = .int .u64 ((zig v : Nat) : Int))
  case first =>
    by_cases hn : v < 0
    · have HZ := Lib.hid (zig_neg hn hv0)
      go_wp2_with fail
      go_meet
      exact ⟨rfl, by rw [HZ.out]⟩
    · have HZ := Lib.hid (zig_pos (v := v) (by omega) hv1)
      go_wp2_with fail
      go_meet
      exact ⟨rfl, by rw [HZ.out]⟩
  case rest =>
  obtain ⟨hwc, rfl⟩ := hcut
  subst hwc
  have HZL : Hid (zig v < 18446744073709551616) := zig_lt hv0 hv1
  obtain ⟨z, hz⟩ : ∃ z, zig v = z := ⟨_, rfl⟩
  have HP : Hid (putN v = putU z) := by show _ = _; rw [← hz]; rfl
  rw [hz] at HZL ⊢
  clear hz
  go_wp2_with fail
  go_loopw [5, 6] (fun bv uv wr => ∃ (u : Nat) (p : List UInt8), uv = .int .u64 (u : Int) ∧ Hid (u < 18446744073709551616) ∧ Hid (PW w bv (xs ++ p) wr) ∧ Hid (p ++ putU u = putN v)) (fun _ uv _ => (intOf uv).toNat)
  case atStart => exact ⟨z, [], rfl, HZL, by rw [List.append_nil]; exact P1, by show _ = _; rw [HP.out]; rfl⟩
  case round =>
    clear P1 HP HZL
    obtain ⟨u, p, rfl, HUL, HP, HE⟩ := hrel
    have hpl : n + p.length + 1 ≤ 140737488355328 := by
      have h1 := congrArg List.length HE.out
      have h2 := HLN.out.2
      have h3 : 0 < (putU u).length := List.length_pos_iff.2 (putU_ne u)
      rw [List.length_append] at h1
      omega
    have hxp : (xs ++ p).length = n + p.length := by rw [List.length_append, HXL.out]
    have HXP := Lib.hid hxp
    clear hxp
    by_cases hge : 128 ≤ u
    · have hgi : (128 : Int) ≤ (u : Int) := by omega
      have hmb := more_byte u
      obtain ⟨b, hb⟩ : ∃ b, UInt8.ofNat (u % 128 + 128) = b := ⟨_, rfl⟩
      rw [hb] at hmb
      have HE2 : Hid ((p ++ [b]) ++ putU (u / 128) = putN v) := by
        show _ = _
        rw [← HE.out, putU_ge (u := u) (by omega), hb, List.append_assoc]
        rfl
      have HA1 := Lib.hid (HP.out.alloc (.cells #[.int .u8 (b.toNat : Int)] 5))
      have HR1 : Hid (Reads (wr.alloc (.cells #[.int .u8 (b.toNat : Int)] 5)) (wr.alloc (.cells #[.int .u8 (b.toNat : Int)] 5)).heap.size (some ⟨wr.heap.size, 0, none⟩) 1 [.int .u8 (b.toNat : Int)]) := one_recs
      clear hb
      go_wp2_with (at_builtin; refine wpList_append_b (o := ⟨some 24, _, _, _, _, _⟩) rfl (.tmp 19) (.tmp 23) Try.underlying44 infoByte rfl rfl HA1.out.own rfl HR1.out rfl one_one (by rw [HXP.out]; unfold maxLen; omega) (by rw [HXP.out]; omega) HA1.out.old HA1.out.old.size HA1.out.old.size (Nat.le_refl _) ?_; intro vC wC HO2 HB2 _ HG2)
      go_roundw
      case rel => exact ⟨u / 128, p ++ [b], by go_num, by show _ < _; have := HUL.out; omega, ⟨HB2, by rw [← List.append_assoc, bytesV_snoc, List.length_append]; exact HO2.out⟩, HE2⟩
      case measure => simp [intOf]; omega
    · have hgi : ¬ (128 : Int) ≤ (u : Int) := by omega
      obtain ⟨b, hb⟩ : ∃ b, UInt8.ofNat u = b := ⟨_, rfl⟩
      have HBU : Hid ((u : Int) = (b.toNat : Int)) := by
        show _ = _
        rw [← hb, toNat_of (by omega)]
      have HE2 : Hid (p ++ [b] = putN v) := by
        show _ = _
        rw [← HE.out, putU_lt (u := u) (by omega), hb]
      have HA1 := Lib.hid (HP.out.alloc (.cells #[.int .u8 (u : Int)] 5))
      have HR1 : Hid (Reads (wr.alloc (.cells #[.int .u8 (u : Int)] 5)) (wr.alloc (.cells #[.int .u8 (u : Int)] 5)).heap.size (some ⟨wr.heap.size, 0, none⟩) 1 [.int .u8 (u : Int)]) := one_recs
      clear hb
      go_wp2_with (at_builtin; refine wpList_append_b (o := ⟨some 31, _, _, _, _, _⟩) rfl (.tmp 27) (.tmp 30) Try.underlying44 infoByte rfl rfl HA1.out.own rfl HR1.out rfl one_one (by rw [HXP.out]; unfold maxLen; omega) (by rw [HXP.out]; omega) HA1.out.old HA1.out.old.size HA1.out.old.size (Nat.le_refl _) ?_; intro vC wC HO2 HB2 _ HG2)
      go_ret
      refine ⟨_, rfl, HB2, ?_⟩
      have h := HO2.out
      rw [HBU.out, ← bytesV_snoc, List.append_assoc, HE2.out, HXP.out] at h
      have e : n + (putN v).length = n + p.length + 1 := by rw [← HE2.out]; simp; omega
      rw [e]
      exact h

#print axioms rnum_any
end Go.Proofs.Ytbnhbbjmocclmaa.Wire

/-
  The document's own answer to chapter 3, walked: Flag.
-/
namespace Go.Proofs.Ytbnhbbjmocclmaa.Wire
open Go.ChangeShapes Go.WideShapes Go.ChangeAt Go.RowKit Go.Proofs.Ytbnhbbjmocclmaa.Mem Go.Proofs.Ytbnhbbjmocclmaa.WireMath
set_option linter.unusedVariables false

/-- a flag's byte -/
def flagB (f : Bool) : UInt8 := if f then 1 else 0
set_option maxRecDepth 100000 in
set_option maxHeartbeats 1000000 in
theorem rflag_any (A : Option Addr) (n c : Nat) (xs : List UInt8) (f : Bool) (w : World) (h : Bytes w w.heap.size A n xs) (hr : n + 1 ≤ 140737488355328) :
    Calls Try.prog 58 #[.slice A n c, .bool f] w (Makes w 5 (n + 1) (bytesV (xs ++ [flagB f]))) := by
  have HI : Hid (Bytes (w.alloc (.cells #[] 5)) w.heap.size A n xs) := Reads.alloc h (Nat.le_refl _) _
  have HO : Hid (Own (w.alloc (.cells #[] 5)) w.heap.size 5 (.slice (some ⟨w.heap.size, 0, none⟩) 0 0) 0 []) := Own.new w w.heap.size 5 [] (Nat.le_refl _) (Nat.zero_le _)
  have HB : Hid (Below w.heap.size w (w.alloc (.cells #[] 5))) := (Below.refl _ _).alloc (Nat.le_refl _) _
  clear h
  go_enter Try.func58, Try.ntmps58
  cases f with
  | true =>
    go_wp2_with (first
      | (at_builtin; refine wpList_append_b (o := ⟨some 8, _, _, _, _, _⟩) rfl (.tmp 6) (.tmp 7) Try.underlying44 infoByte rfl rfl HO.out rfl HI.out rfl (bytesV_one _) (by unfold maxLen; omega) (by omega) HB.out HB.out.size HB.out.size (Nat.le_refl _) ?_; intro vB wB HO2 HB2 _ HG2; rw [Nat.zero_add, List.nil_append] at HO2; have HA2 := Lib.hid (HO2.out.alloc (.cells #[.int .u8 1] 5)); have HB3 := Lib.hid (HB2.alloc HB2.size (.cells #[.int .u8 1] 5)); have HR1 : Hid (Reads (wB.alloc (.cells #[.int .u8 1] 5)) (wB.alloc (.cells #[.int .u8 1] 5)).heap.size (some ⟨wB.heap.size, 0, none⟩) 1 [.int .u8 1]) := one_recs)
      | (at_builtin; refine wpList_append_b (o := ⟨some 10, _, _, _, _, _⟩) rfl (.tmp 8) (.tmp 9) Try.underlying44 infoByte rfl rfl HA2.out rfl HR1.out rfl one_one (by unfold maxLen; omega) (by omega) HB3.out HB3.out.size HB3.out.size (Nat.le_refl _) ?_; intro vC wC HO4 HB4 _ HG4))
    go_ret
    exact ⟨_, rfl, HB4, by rw [bytesV_snoc]; exact HO4.out⟩
  | false =>
    go_wp2_with (first
      | (at_builtin; refine wpList_append_b (o := ⟨some 13, _, _, _, _, _⟩) rfl (.tmp 11) (.tmp 12) Try.underlying44 infoByte rfl rfl HO.out rfl HI.out rfl (bytesV_one _) (by unfold maxLen; omega) (by omega) HB.out HB.out.size HB.out.size (Nat.le_refl _) ?_; intro vB wB HO2 HB2 _ HG2; rw [Nat.zero_add, List.nil_append] at HO2; have HA2 := Lib.hid (HO2.out.alloc (.cells #[.int .u8 0] 5)); have HB3 := Lib.hid (HB2.alloc HB2.size (.cells #[.int .u8 0] 5)); have HR1 : Hid (Reads (wB.alloc (.cells #[.int .u8 0] 5)) (wB.alloc (.cells #[.int .u8 0] 5)).heap.size (some ⟨wB.heap.size, 0, none⟩) 1 [.int .u8 0]) := one_recs)
      | (at_builtin; refine wpList_append_b (o := ⟨some 15, _, _, _, _, _⟩) rfl (.tmp 13) (.tmp 14) Try.underlying44 infoByte rfl rfl HA2.out rfl HR1.out rfl one_one (by unfold maxLen; omega) (by omega) HB3.out HB3.out.size HB3.out.size (Nat.le_refl _) ?_; intro vC wC HO4 HB4 _ HG4))
    go_ret
    exact ⟨_, rfl, HB4, by rw [bytesV_snoc]; exact HO4.out⟩

#print axioms rflag_any
end Go.Proofs.Ytbnhbbjmocclmaa.Wire

/-
  The program's wire, walked: copied, put, Num.
-/
namespace Go.Proofs.Ytbnhbbjmocclmaa.Wire
open Go.ChangeShapes Go.WideShapes Go.ChangeAt Go.RowKit Go.Proofs.Ytbnhbbjmocclmaa.Mem Go.Proofs.Ytbnhbbjmocclmaa.WireMath
set_option linter.unusedVariables false

theorem make_bytes (n : Nat) (hn : n ≤ 140737488355328) (u : World) : (Instr.makeSlice 44 (.int .i64 0) (.int .i64 (n : Int))).run Try.prog u =
    .ok (.slice (some ⟨u.heap.size, 0, none⟩) 0 n) (u.alloc (.cells (madeCells #[.int .u8 0] n) 5)) := by
  obtain ⟨i0, hi, hz0, hz1, hz2⟩ := info_parts infoByte
  have h := run_make (P := Try.prog) u 44 5 i0 (.int .u8 0) Try.underlying44 hi hz0 .i64 .i64 (0 : Int) (n : Int) (by omega) (by omega) (by rw [hz2]; omega) (by omega)
  simp only [hz1, Int.toNat_natCast, Nat.mul_one] at h
  exact h
set_option maxRecDepth 100000 in
set_option maxHeartbeats 1000000 in
theorem pcopied_any (A : Option Addr) (n c room : Nat) (xs : List UInt8) (w : World) (h : Bytes w w.heap.size A n xs) (hr : n + room ≤ 140737488355328) :
    Calls Try.prog 65 #[.slice A n c, .int .i64 room] w (Makes w 5 n (bytesV xs)) := by
  obtain ⟨k, hk⟩ : ∃ k, n + room = k := ⟨_, rfl⟩
  have hk1 : (n : Int) + (room : Int) = (k : Int) := by omega
  have hk2 : IntKind.i64.wrap (k : Int) = (k : Int) := IntWalk.i64_in _ (by omega)
  have hmk := make_bytes k (by omega) w
  have HI : Hid (Bytes (w.alloc (.cells (madeCells #[.int .u8 0] k) 5)) w.heap.size A n xs) := Reads.alloc h (Nat.le_refl _) _
  have HO : Hid (Own (w.alloc (.cells (madeCells #[.int .u8 0] k) 5)) w.heap.size 5 (.slice (some ⟨w.heap.size, 0, none⟩) 0 k) 0 []) := Own.made w w.heap.size 5 _ k (Nat.le_refl _) (by unfold maxLen; omega)
  have HB : Hid (Below w.heap.size w (w.alloc (.cells (madeCells #[.int .u8 0] k) 5))) := (Below.refl _ _).alloc (Nat.le_refl _) _
  clear h
  go_enter Try.func65, Try.ntmps65
  go_wp2_with (at_builtin; refine wpList_append_b (o := ⟨some 11, _, _, _, _, _⟩) rfl (.tmp 9) (.tmp 10) Try.underlying44 infoByte rfl rfl HO.out rfl HI.out rfl (bytesV_one _) (by unfold maxLen; omega) (by omega) HB.out HB.out.size HB.out.size (Nat.le_refl _) ?_; intro vB wB HO2 HB2 _ HG2)
  go_ret
  refine ⟨_, rfl, HB2, ?_⟩
  have := HO2.out
  rw [Nat.zero_add, List.nil_append] at this
  exact this

theorem zig_xor {v : Int} (h : i64 v) : bits .xor .u64 (IntKind.u64.wrap (IntKind.u64.wrap v * 2)) (IntKind.u64.wrap (v / 9223372036854775808)) = ((zig v : Nat) : Int) := by
  obtain ⟨h0, h1⟩ := h
  obtain ⟨b, hb⟩ : ∃ b : Nat, IntKind.u64.wrap (IntKind.u64.wrap v * 2) = (b : Int) := ⟨(IntKind.u64.wrap (IntKind.u64.wrap v * 2)).toNat, by rw [wrap_u64, wrap_u64]; omega⟩
  have hb1 : (b : Int) < 18446744073709551616 := by rw [← hb, wrap_u64]; omega
  by_cases hn : v < 0
  · have hb2 : (b : Int) = 2 * v + 18446744073709551616 := by
      rw [← hb, wrap_u64, wrap_u64]; omega
    rw [hb, show IntKind.u64.wrap (v / 9223372036854775808) = ((18446744073709551615 : Nat) : Int) by rw [wrap_u64]; omega, bits_xor_u64_nat _ _ (by omega) (by decide), Nat.xor_comm, xor_ones _ (by omega)]
    unfold zig
    rw [if_neg (by omega)]
    omega
  · have hb2 : (b : Int) = 2 * v := by
      rw [← hb, wrap_u64, wrap_u64]; omega
    rw [hb, show IntKind.u64.wrap (v / 9223372036854775808) = ((0 : Nat) : Int) by rw [wrap_u64]; omega, bits_xor_u64_nat _ _ (by omega) (by decide), Nat.xor_zero]
    unfold zig
    rw [if_pos (by omega)]
    omega
set_option maxRecDepth 100000 in
set_option maxHeartbeats 1000000 in
theorem pput_any (bv0 : Value) (xs : List UInt8) (v : Int) (w W : World) (h : PW w bv0 xs W) (hv : i64 v) (hr : xs.length + 10 ≤ 140737488355328) :
    Calls Try.prog 71 #[bv0, .int .i64 v] W (fun e w' => ∃ bv, e = .returned bv ∧ PW w bv (xs ++ putN v) w') := by
  have P1 := Lib.hid h
  have HLN := Lib.hid (putN_len hv)
  have hzx := zig_xor hv
  have HZL : Hid (zig v < 18446744073709551616) := zig_lt hv.1 hv.2
  obtain ⟨z, hz⟩ : ∃ z, zig v = z := ⟨_, rfl⟩
  have HP : Hid (putN v = putU z) := by show _ = _; rw [← hz]; rfl
  rw [hz] at HZL hzx
  clear hz h hv
  go_enter Try.func71, Try.ntmps71
  go_wp2_with fail
  clear hzx
  go_loopw [0, 5] (fun bv uv wr => ∃ (u : Nat) (p : List UInt8), uv = .int .u64 (u : Int) ∧ Hid (u < 18446744073709551616) ∧ Hid (PW w bv (xs ++ p) wr) ∧ Hid (p ++ putU u = putN v)) (fun _ uv _ => (intOf uv).toNat)
  case atStart => exact ⟨z, [], rfl, HZL, by rw [List.append_nil]; exact P1, by show _ = _; rw [HP.out]; rfl⟩
  case round =>
    clear P1 HP HZL
    obtain ⟨u, p, rfl, HUL, HP, HE⟩ := hrel
    have hpl : xs.length + p.length + 1 ≤ 140737488355328 := by
      have h1 := congrArg List.length HE.out
      have h2 := HLN.out.2
      have h3 : 0 < (putU u).length := List.length_pos_iff.2 (putU_ne u)
      rw [List.length_append] at h1
      omega
    have hxp : (xs ++ p).length = xs.length + p.length := by rw [List.length_append]
    have HXP := Lib.hid hxp
    clear hxp
    by_cases hge : 128 ≤ u
    · have hgi : (128 : Int) ≤ (u : Int) := by omega
      have hmb := more_byte u
      obtain ⟨b, hb⟩ : ∃ b, UInt8.ofNat (u % 128 + 128) = b := ⟨_, rfl⟩
      rw [hb] at hmb
      have HE2 : Hid ((p ++ [b]) ++ putU (u / 128) = putN v) := by
        show _ = _
        rw [← HE.out, putU_ge (u := u) (by omega), hb, List.append_assoc]
        rfl
      have HA1 := Lib.hid (HP.out.alloc (.cells #[.int .u8 (b.toNat : Int)] 5))
      have HR1 : Hid (Reads (wr.alloc (.cells #[.int .u8 (b.toNat : Int)] 5)) (wr.alloc (.cells #[.int .u8 (b.toNat : Int)] 5)).heap.size (some ⟨wr.heap.size, 0, none⟩) 1 [.int .u8 (b.toNat : Int)]) := one_recs
      clear hb
      go_wp2_with (at_builtin; refine wpList_append_b (o := ⟨some 20, _, _, _, _, _⟩) rfl (.tmp 15) (.tmp 19) Try.underlying44 infoByte rfl rfl HA1.out.own rfl HR1.out rfl one_one (by rw [HXP.out]; unfold maxLen; omega) (by rw [HXP.out]; omega) HA1.out.old HA1.out.old.size HA1.out.old.size (Nat.le_refl _) ?_; intro vC wC HO2 HB2 _ HG2)
      go_roundw
      case rel => exact ⟨u / 128, p ++ [b], by go_num, by show _ < _; have := HUL.out; omega, ⟨HB2, by rw [← List.append_assoc, bytesV_snoc, List.length_append]; exact HO2.out⟩, HE2⟩
      case measure => simp [intOf]; omega
    · have hgi : ¬ (128 : Int) ≤ (u : Int) := by omega
      obtain ⟨b, hb⟩ : ∃ b, UInt8.ofNat u = b := ⟨_, rfl⟩
      have HBU : Hid ((u : Int) = (b.toNat : Int)) := by
        show _ = _
        rw [← hb, toNat_of (by omega)]
      have HE2 : Hid (p ++ [b] = putN v) := by
        show _ = _
        rw [← HE.out, putU_lt (u := u) (by omega), hb]
      have HA1 := Lib.hid (HP.out.alloc (.cells #[.int .u8 (u : Int)] 5))
      have HR1 : Hid (Reads (wr.alloc (.cells #[.int .u8 (u : Int)] 5)) (wr.alloc (.cells #[.int .u8 (u : Int)] 5)).heap.size (some ⟨wr.heap.size, 0, none⟩) 1 [.int .u8 (u : Int)]) := one_recs
      clear hb
      go_wp2_with (at_builtin; refine wpList_append_b (o := ⟨some 27, _, _, _, _, _⟩) rfl (.tmp 23) (.tmp 26) Try.underlying44 infoByte rfl rfl HA1.out.own rfl HR1.out rfl one_one (by rw [HXP.out]; unfold maxLen; omega) (by rw [HXP.out]; omega) HA1.out.old HA1.out.old.size HA1.out.old.size (Nat.le_refl _) ?_; intro vC wC HO2 HB2 _ HG2)
      go_ret
      refine ⟨_, rfl, HB2, ?_⟩
      have h := HO2.out
      rw [HBU.out, ← bytesV_snoc, List.append_assoc, HE2.out, HXP.out] at h
      have e : (xs ++ putN v).length = xs.length + p.length + 1 := by rw [← HE2.out]; simp; omega
      rw [e]
      exact h

theorem pnum_any (A : Option Addr) (n c : Nat) (xs : List UInt8) (v : Int) (w : World) (h : Bytes w w.heap.size A n xs) (hv : i64 v) (hr : n + 10 ≤ 140737488355328) :
    Calls Try.prog 49 #[.slice A n c, .int .i64 v] w (Makes w 5 (n + (putN v).length) (bytesV (xs ++ putN v))) := by
  have HI := Lib.hid h
  have HXL := Lib.hid (Bytes.length h)
  have HV := Lib.hid hv
  clear h hv
  go_enter Try.func49, Try.ntmps49
  go_wp2_with fail
  refine (pcopied_any A n c 10 xs w HI.out (by omega)).mono ?_
  rintro e w1 ⟨v1, rfl, hb1, ho1⟩
  have P1 : Hid (PW w v1 xs w1) := ⟨hb1, by rw [HXL.out]; exact ho1⟩
  clear hb1 ho1
  go_wp2_with fail
  refine (pput_any v1 xs v w w1 P1.out HV.out (by rw [HXL.out]; omega)).mono ?_
  rintro e w2 ⟨v2, rfl, hp⟩
  have P2 := Lib.hid hp
  clear hp P1
  go_wp2_with fail
  go_ret
  refine ⟨_, rfl, P2.out.old, ?_⟩
  have := P2.out.own
  rw [List.length_append, HXL.out] at this
  exact this

#print axioms pnum_any
end Go.Proofs.Ytbnhbbjmocclmaa.Wire

/-
  The program's wire, walked: Flag.
-/
namespace Go.Proofs.Ytbnhbbjmocclmaa.Wire
open Go.ChangeShapes Go.WideShapes Go.ChangeAt Go.RowKit Go.Proofs.Ytbnhbbjmocclmaa.Mem Go.Proofs.Ytbnhbbjmocclmaa.WireMath
set_option linter.unusedVariables false

set_option maxRecDepth 100000 in
theorem pflag_any (A : Option Addr) (n c : Nat) (xs : List UInt8) (f : Bool) (w : World) (h : Bytes w w.heap.size A n xs) (hr : n + 1 ≤ 140737488355328) :
    Calls Try.prog 72 #[.slice A n c, .bool f] w (Makes w 5 (n + 1) (bytesV (xs ++ [flagB f]))) := by
  have HI := Lib.hid h
  clear h
  go_enter Try.func72, Try.ntmps72
  go_wp2_with fail
  refine (pcopied_any A n c 1 xs w HI.out (by omega)).mono ?_
  rintro e w1 ⟨v1, rfl, hb1, ho1⟩
  have HB1 := Lib.hid hb1
  have HO1 := Lib.hid ho1
  clear hb1 ho1
  cases f with
  | true =>
    have HA2 := Lib.hid (HO1.out.alloc (.cells #[.int .u8 1] 5))
    have HB3 := Lib.hid (HB1.out.alloc HB1.out.size (.cells #[.int .u8 1] 5))
    have HR1 : Hid (Reads (w1.alloc (.cells #[.int .u8 1] 5)) (w1.alloc (.cells #[.int .u8 1] 5)).heap.size (some ⟨w1.heap.size, 0, none⟩) 1 [.int .u8 1]) := one_recs
    go_wp2_with (at_builtin; refine wpList_append_b (o := ⟨some 11, _, _, _, _, _⟩) rfl (.tmp 9) (.tmp 10) Try.underlying44 infoByte rfl rfl HA2.out rfl HR1.out rfl one_one (by unfold maxLen; omega) (by omega) HB3.out HB3.out.size HB3.out.size (Nat.le_refl _) ?_; intro vC wC HO4 HB4 _ HG4)
    go_ret
    exact ⟨_, rfl, HB4, by rw [bytesV_snoc]; exact HO4.out⟩
  | false =>
    have HA2 := Lib.hid (HO1.out.alloc (.cells #[.int .u8 0] 5))
    have HB3 := Lib.hid (HB1.out.alloc HB1.out.size (.cells #[.int .u8 0] 5))
    have HR1 : Hid (Reads (w1.alloc (.cells #[.int .u8 0] 5)) (w1.alloc (.cells #[.int .u8 0] 5)).heap.size (some ⟨w1.heap.size, 0, none⟩) 1 [.int .u8 0]) := one_recs
    go_wp2_with (at_builtin; refine wpList_append_b (o := ⟨some 14, _, _, _, _, _⟩) rfl (.tmp 12) (.tmp 13) Try.underlying44 infoByte rfl rfl HA2.out rfl HR1.out rfl one_one (by unfold maxLen; omega) (by omega) HB3.out HB3.out.size HB3.out.size (Nat.le_refl _) ?_; intro vC wC HO4 HB4 _ HG4)
    go_ret
    exact ⟨_, rfl, HB4, by rw [bytesV_snoc]; exact HO4.out⟩

#print axioms pflag_any
end Go.Proofs.Ytbnhbbjmocclmaa.Wire
