/-
  Plain mathematics of chapter 2's checksum: the register, its steps, what sealing and opening mean, and that a burst of 32 bits is seen.
-/
import Derived.Laws.BitsLemmas
import Derived.IntWalk
namespace Go.Proofs.Ytgbnclaflhoabaa.SumMath

/-- one bit moved out of the register -/
def T (s : BitVec 32) : BitVec 32 := if s.getLsbD 0 then (s >>> 1) ^^^ 0xEDB88320#32 else s >>> 1
def iter : Nat → BitVec 32 → BitVec 32
  | 0, s => s
  | n + 1, s => iter n (T s)
def wide (b : UInt8) : BitVec 32 := b.toBitVec.setWidth 32
def step (s : BitVec 32) (b : UInt8) : BitVec 32 := iter 8 (s ^^^ wide b)
def reg : BitVec 32 → List UInt8 → BitVec 32
  | s, [] => s
  | s, b :: r => reg (step s b) r
def crc (c : BitVec 32) (xs : List UInt8) : BitVec 32 := ~~~ reg (~~~ c) xs
def byteAt (c : BitVec 32) (k : Nat) : UInt8 := ⟨(c >>> (8 * k)).setWidth 8⟩
def tail (c : BitVec 32) : List UInt8 := [byteAt c 0, byteAt c 1, byteAt c 2, byteAt c 3]
def sealed (xs : List UInt8) : List UInt8 := xs ++ tail (crc 0#32 xs)
def word (a b c d : UInt8) : BitVec 32 := wide a ||| wide b <<< 8 ||| wide c <<< 16 ||| wide d <<< 24
/-- the sum of several lists, one behind the other -/
def crcs (c : BitVec 32) (ls : List (List UInt8)) : BitVec 32 := crc c ls.flatten

theorem T_xor (a b : BitVec 32) : T (a ^^^ b) = T a ^^^ T b := by
  unfold T
  rw [BitVec.getLsbD_xor, BitVec.ushiftRight_xor_distrib]
  cases a.getLsbD 0 <;> cases b.getLsbD 0 <;> simp
  · rw [BitVec.xor_assoc]
  · rw [BitVec.xor_assoc, BitVec.xor_assoc, BitVec.xor_comm (b >>> 1)]
  · rw [BitVec.xor_assoc, BitVec.xor_comm (0xEDB88320#32), BitVec.xor_assoc, BitVec.xor_self, BitVec.xor_zero]
theorem T_zero : T 0 = 0 := by decide
theorem T_ne {a : BitVec 32} (h : T a = 0) : a = 0 := by
  unfold T at h
  cases h0 : a.getLsbD 0
  · rw [h0] at h
    simp at h
    apply BitVec.eq_of_getLsbD_eq
    intro i hi
    match i with
    | 0 => simpa using h0
    | j + 1 =>
      have := congrArg (fun v => v.getLsbD j) h
      simp [BitVec.getLsbD_ushiftRight] at this
      rw [Nat.add_comm] at this
      simpa using this
  · rw [h0] at h
    simp at h
    have := congrArg (fun v => v.getLsbD 31) h
    simp at this

theorem iter_succ (n : Nat) (s : BitVec 32) : iter (n + 1) s = T (iter n s) := by
  induction n generalizing s with
  | zero => rfl
  | succ n ih => exact ih (T s)
theorem iter_add (n m : Nat) (s : BitVec 32) : iter (n + m) s = iter n (iter m s) := by
  induction n with
  | zero => rw [Nat.zero_add]; rfl
  | succ n ih => rw [Nat.succ_add, iter_succ, iter_succ, ih]
theorem iter_xor (n : Nat) (a b : BitVec 32) : iter n (a ^^^ b) = iter n a ^^^ iter n b := by
  induction n generalizing a b with
  | zero => rfl
  | succ n ih => show iter n (T (a ^^^ b)) = _; rw [T_xor]; exact ih _ _
theorem iter_zero (n : Nat) : iter n 0 = 0 := by
  induction n with
  | zero => rfl
  | succ n ih => show iter n (T 0) = 0; rw [T_zero]; exact ih
theorem iter_ne {n : Nat} {a : BitVec 32} (h : iter n a = 0) : a = 0 := by
  induction n generalizing a with
  | zero => exact h
  | succ n ih => exact T_ne (ih h)

theorem reg_append (s : BitVec 32) (xs ys : List UInt8) : reg s (xs ++ ys) = reg (reg s xs) ys := by
  induction xs generalizing s with
  | nil => rfl
  | cons x r ih => exact ih _
theorem crc_append (c : BitVec 32) (xs ys : List UInt8) : crc c (xs ++ ys) = crc (crc c xs) ys := by
  unfold crc; rw [reg_append, BitVec.not_not]
theorem crc_nil (c : BitVec 32) : crc c [] = c := by unfold crc reg; rw [BitVec.not_not]

/- numbers -/
theorem lt32 (s : BitVec 32) : (0 : Int) ≤ s.toNat ∧ (s.toNat : Int) ≤ 4294967295 := by have := s.isLt; omega
theorem lt8 (b : UInt8) : (0 : Int) ≤ b.toNat ∧ (b.toNat : Int) ≤ 255 := by have := b.toNat_lt; omega
theorem of32 (s : BitVec 32) : BitVec.ofInt 32 (s.toNat : Int) = s := by
  rw [BitVec.ofInt_natCast]; exact BitVec.ofNat_toNat 32 s |>.trans (BitVec.setWidth_eq s)
theorem back32 (s : BitVec 32) : IntKind.u32.wrap (s.toNat : Int) = s.toNat := by
  rw [IntKind.wrap_u32]; have := s.isLt; omega
theorem bx (s t : BitVec 32) : bits .xor .u32 (s.toNat : Int) (t.toNat : Int) = ((s ^^^ t).toNat : Int) := by
  show IntKind.u32.wrap ((BitVec.ofInt 32 _ ^^^ BitVec.ofInt 32 _).toNat : Int) = _
  rw [of32, of32, back32]
theorem ba (s t : BitVec 32) : bits .and .u32 (s.toNat : Int) (t.toNat : Int) = ((s &&& t).toNat : Int) := by
  show IntKind.u32.wrap ((BitVec.ofInt 32 _ &&& BitVec.ofInt 32 _).toNat : Int) = _
  rw [of32, of32, back32]
theorem bo (s t : BitVec 32) : bits .or .u32 (s.toNat : Int) (t.toNat : Int) = ((s ||| t).toNat : Int) := by
  show IntKind.u32.wrap ((BitVec.ofInt 32 _ ||| BitVec.ofInt 32 _).toNat : Int) = _
  rw [of32, of32, back32]
theorem bnot (s : BitVec 32) : bits .xor .u32 4294967295 (s.toNat : Int) = ((~~~ s).toNat : Int) := by
  have := bx (BitVec.allOnes 32) s
  rw [BitVec.allOnes_xor] at this
  exact this
theorem band1 (s : BitVec 32) : bits .and .u32 (s.toNat : Int) 1 = if s.getLsbD 0 then 1 else 0 := by
  have e := ba s 1#32
  have h : ((1#32 : BitVec 32).toNat : Int) = 1 := rfl
  rw [h] at e
  rw [e, BitVec.toNat_and]
  show ((s.toNat &&& 1 : Nat) : Int) = _
  rw [Nat.and_one_is_mod]
  have hb : s.getLsbD 0 = decide (s.toNat % 2 = 1) := by
    simp [BitVec.getLsbD, Nat.testBit_zero]
  rw [hb]
  by_cases h1 : s.toNat % 2 = 1
  · simp [h1]
  · have : s.toNat % 2 = 0 := by omega
    simp [this]
theorem shr1 (s : BitVec 32) : Int.ofNat s.toNat / (2 : Int) = ((s >>> 1).toNat : Int) := by
  rw [BitVec.toNat_ushiftRight, Nat.shiftRight_eq_div_pow]
  rfl
theorem shrN (s : BitVec 32) (k : Nat) (m : Nat) (hm : m = 2 ^ k) : (↑s.toNat : Int) / (↑m : Int) = ((s >>> k).toNat : Int) := by
  rw [BitVec.toNat_ushiftRight, Nat.shiftRight_eq_div_pow, hm]
  rfl
theorem bpoly (s : BitVec 32) : bits .xor .u32 (s.toNat : Int) 3988292384 = ((s ^^^ 0xEDB88320#32).toNat : Int) := bx s 0xEDB88320#32
theorem wide_nat (b : UInt8) : ((wide b).toNat : Int) = b.toNat := by
  have h : (wide b).toNat = b.toNat := by
    unfold wide
    rw [BitVec.toNat_setWidth]
    show b.toNat % 4294967296 = _
    have := b.toNat_lt; omega
  omega
theorem bxbyte (s : BitVec 32) (b : UInt8) : bits .xor .u32 (s.toNat : Int) (b.toNat : Int) = ((s ^^^ wide b).toNat : Int) := by
  rw [← bx, wide_nat]

#print axioms iter_ne
end Go.Proofs.Ytgbnclaflhoabaa.SumMath
