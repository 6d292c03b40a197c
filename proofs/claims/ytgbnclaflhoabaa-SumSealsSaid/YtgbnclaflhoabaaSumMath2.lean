/-
  Plain mathematics of sealing: the four bytes of a sum as one word, when bytes are sealed ones, and what a turned bit does to the register.
-/
import Derived.Test.YtgbnclaflhoabaaSumMath
namespace Go.Proofs.Ytgbnclaflhoabaa.SumMath

theorem byteAt_nat (c : BitVec 32) (k : Nat) : (byteAt c k).toNat = c.toNat / 2 ^ (8 * k) % 256 := by
  show ((c >>> (8 * k)).setWidth 8).toNat = _
  rw [BitVec.toNat_setWidth, BitVec.toNat_ushiftRight, Nat.shiftRight_eq_div_pow]
theorem shl_nat (b : UInt8) (k : Nat) (hk : k ≤ 24) : (wide b <<< k).toNat = b.toNat * 2 ^ k := by
  rw [BitVec.toNat_shiftLeft, Nat.shiftLeft_eq]
  have h : (wide b).toNat = b.toNat := by have := wide_nat b; omega
  rw [h]
  apply Nat.mod_eq_of_lt
  have h1 := b.toNat_lt
  have h2 : 2 ^ k ≤ 2 ^ 24 := Nat.pow_le_pow_right (by omega) hk
  calc b.toNat * 2 ^ k ≤ 255 * 2 ^ 24 := Nat.mul_le_mul (by omega) h2
    _ < 2 ^ 32 := by decide
theorem word_nat (a b c d : UInt8) : (word a b c d).toNat = a.toNat + b.toNat * 256 + c.toNat * 65536 + d.toNat * 16777216 := by
  have ha := a.toNat_lt
  have hb := b.toNat_lt
  have hc := c.toNat_lt
  have hd := d.toNat_lt
  unfold word
  rw [BitVec.toNat_or, BitVec.toNat_or, BitVec.toNat_or, shl_nat b 8 (by omega), shl_nat c 16 (by omega), shl_nat d 24 (by omega)]
  have h : (wide a).toNat = a.toNat := by have := wide_nat a; omega
  rw [h]
  have e1 : a.toNat ||| b.toNat * 2 ^ 8 = a.toNat + b.toNat * 256 := by
    rw [Nat.or_comm, ← Nat.shiftLeft_eq, ← Nat.shiftLeft_add_eq_or_of_lt (by omega), Nat.shiftLeft_eq]; omega
  rw [e1]
  have e2 : (a.toNat + b.toNat * 256) ||| c.toNat * 2 ^ 16 = a.toNat + b.toNat * 256 + c.toNat * 65536 := by
    rw [Nat.or_comm, ← Nat.shiftLeft_eq, ← Nat.shiftLeft_add_eq_or_of_lt (by omega), Nat.shiftLeft_eq]; omega
  rw [e2, Nat.or_comm, ← Nat.shiftLeft_eq, ← Nat.shiftLeft_add_eq_or_of_lt (by omega), Nat.shiftLeft_eq]
  omega
theorem u8_ext {a b : UInt8} (h : a.toNat = b.toNat) : a = b := UInt8.toNat_inj.1 h
theorem word_tail (c : BitVec 32) : word (byteAt c 0) (byteAt c 1) (byteAt c 2) (byteAt c 3) = c := by
  apply BitVec.eq_of_toNat_eq
  rw [word_nat, byteAt_nat, byteAt_nat, byteAt_nat, byteAt_nat]
  have := c.isLt
  simp only [Nat.mul_zero, Nat.mul_one, Nat.pow_zero, Nat.div_one, show 2 ^ 8 = 256 from rfl, show 2 ^ (8 * 2) = 65536 from rfl, show 2 ^ (8 * 3) = 16777216 from rfl]
  omega
theorem tail_word (a b c d : UInt8) : tail (word a b c d) = [a, b, c, d] := by
  have ha := a.toNat_lt
  have hb := b.toNat_lt
  have hc := c.toNat_lt
  have hd := d.toNat_lt
  have h := word_nat a b c d
  unfold tail
  have e0 : byteAt (word a b c d) 0 = a := u8_ext (by rw [byteAt_nat, h]; simp only [Nat.mul_zero, Nat.pow_zero, Nat.div_one]; omega)
  have e1 : byteAt (word a b c d) 1 = b := u8_ext (by rw [byteAt_nat, h]; simp only [Nat.mul_one, show 2 ^ 8 = 256 from rfl]; omega)
  have e2 : byteAt (word a b c d) 2 = c := u8_ext (by rw [byteAt_nat, h]; simp only [show 2 ^ (8 * 2) = 65536 from rfl]; omega)
  have e3 : byteAt (word a b c d) 3 = d := u8_ext (by rw [byteAt_nat, h]; simp only [show 2 ^ (8 * 3) = 16777216 from rfl]; omega)
  rw [e0, e1, e2, e3]
theorem word_num (a b c d : UInt8) : bits .or .u32 (bits .or .u32 (bits .or .u32 (a.toNat : Int) ((b.toNat : Int) * 256)) ((c.toNat : Int) * 65536)) ((d.toNat : Int) * 16777216) = ((word a b c d).toNat : Int) := by
  have e1 : (b.toNat : Int) * (256 : Int) = ((wide b <<< 8).toNat : Int) := by rw [shl_nat b 8 (by omega)]; simp
  have e2 : (c.toNat : Int) * (65536 : Int) = ((wide c <<< 16).toNat : Int) := by rw [shl_nat c 16 (by omega)]; simp
  have e3 : (d.toNat : Int) * (16777216 : Int) = ((wide d <<< 24).toNat : Int) := by rw [shl_nat d 24 (by omega)]; simp
  rw [e1, e2, e3, ← wide_nat a, bo, bo, bo]
  rfl

theorem iter_low {k : Nat} {x : BitVec 32} (h : ∀ i, i < k → x.getLsbD i = false) : iter k x = x >>> k := by
  induction k generalizing x with
  | zero => simp [iter]
  | succ k ih =>
    show iter k (T x) = _
    have e : T x = x >>> 1 := by unfold T; rw [h 0 (by omega)]; rfl
    rw [e, ih (fun i hi => by rw [BitVec.getLsbD_ushiftRight]; exact h _ (by omega)), ← BitVec.shiftRight_add, Nat.add_comm]
theorem shl_low (x : BitVec 32) (k i : Nat) (h : i < k) : (x <<< k).getLsbD i = false := by simp [h]
theorem shl_shr (b : UInt8) (k j : Nat) (hk : k ≤ 24) (hj : j ≤ k) : wide b <<< k >>> j = wide b <<< (k - j) := by
  apply BitVec.eq_of_toNat_eq
  rw [BitVec.toNat_ushiftRight, shl_nat b k hk, shl_nat b (k - j) (by omega), Nat.shiftRight_eq_div_pow]
  obtain ⟨d, rfl⟩ : ∃ d, k = j + d := ⟨k - j, by omega⟩
  rw [Nat.add_sub_cancel_left, Nat.pow_add, Nat.mul_comm (2 ^ j), ← Nat.mul_assoc]
  exact Nat.mul_div_cancel _ (Nat.two_pow_pos j)
theorem wide_high (b : UInt8) (i : Nat) (h : 8 ≤ i) : (wide b).getLsbD i = false := by
  unfold wide
  rw [BitVec.getLsbD_setWidth]
  simp [BitVec.getLsbD_of_ge b.toBitVec i h]
theorem word_xor (a b c d : UInt8) : word a b c d = wide a ^^^ wide b <<< 8 ^^^ wide c <<< 16 ^^^ wide d <<< 24 := by
  unfold word
  apply BitVec.eq_of_getLsbD_eq
  intro i hi
  simp only [BitVec.getLsbD_or, BitVec.getLsbD_xor, BitVec.getLsbD_shiftLeft]
  by_cases h1 : i < 8
  · simp [h1, show i < 16 by omega, show i < 24 by omega]
  · by_cases h2 : i < 16
    · simp [h1, h2, show i < 24 by omega, wide_high a i (by omega)]
    · by_cases h3 : i < 24
      · simp [h1, h2, h3, wide_high a i (by omega), wide_high b (i - 8) (by omega)]
      · simp [h1, h2, h3, wide_high a i (by omega), wide_high b (i - 8) (by omega), wide_high c (i - 16) (by omega)]
/-- the register behind four bytes -/
theorem reg_four (s : BitVec 32) (a b c d : UInt8) : reg s [a, b, c, d] = iter 32 (s ^^^ word a b c d) := by
  have z (x : UInt8) : wide x <<< 0 = wide x := by simp
  have h0 (x : BitVec 32) : iter 32 x = iter 8 (iter 8 (iter 8 (iter 8 x))) := rfl
  rw [word_xor, h0]
  have h1 : iter 8 (s ^^^ (wide a ^^^ wide b <<< 8 ^^^ wide c <<< 16 ^^^ wide d <<< 24)) = step s a ^^^ wide b ^^^ wide c <<< 8 ^^^ wide d <<< 16 := by
    rw [← BitVec.xor_assoc, ← BitVec.xor_assoc, ← BitVec.xor_assoc, iter_xor, iter_xor, iter_xor, iter_low (shl_low _ _), iter_low (fun i hi => shl_low _ _ i (by omega)), iter_low (fun i hi => shl_low _ _ i (by omega)),
      shl_shr b 8 8 (by omega) (by omega), shl_shr c 16 8 (by omega) (by omega), shl_shr d 24 8 (by omega) (by omega), z]
    rfl
  have h2 : iter 8 (step s a ^^^ wide b ^^^ wide c <<< 8 ^^^ wide d <<< 16) = step (step s a) b ^^^ wide c ^^^ wide d <<< 8 := by
    rw [iter_xor, iter_xor, iter_low (shl_low _ _), iter_low (fun i hi => shl_low _ _ i (by omega)), shl_shr c 8 8 (by omega) (by omega), shl_shr d 16 8 (by omega) (by omega), z]
    rfl
  have h3 : iter 8 (step (step s a) b ^^^ wide c ^^^ wide d <<< 8) = step (step (step s a) b) c ^^^ wide d := by
    rw [iter_xor, iter_low (shl_low _ _), shl_shr d 8 8 (by omega) (by omega), z]
    rfl
  rw [h1, h2, h3]
  rfl

def ones : BitVec 32 := ~~~ 0
/-- are these bytes what sealing makes of some bytes? -/
def isSealed (bs : List UInt8) : Bool := decide (4 ≤ bs.length) && decide (reg ones bs = iter 32 ones)
theorem iter_inj {n : Nat} {a b : BitVec 32} (h : iter n a = iter n b) : a = b := by
  have : iter n (a ^^^ b) = 0 := by rw [iter_xor, h, BitVec.xor_self]; rfl
  have := iter_ne this
  exact BitVec.xor_eq_zero_iff.1 this
theorem xor_ones {a b : BitVec 32} : a ^^^ b = ones ↔ ~~~ a = b := by
  unfold ones
  have e0 : (~~~ (0 : BitVec 32)) = BitVec.allOnes 32 := by decide
  constructor
  · intro h
    have : a ^^^ (a ^^^ b) = a ^^^ ~~~ 0 := by rw [h]
    rw [← BitVec.xor_assoc, BitVec.xor_self, BitVec.zero_xor] at this
    rw [this, e0, BitVec.xor_allOnes]
  · rintro rfl
    rw [e0, ← BitVec.xor_allOnes, ← BitVec.xor_assoc, BitVec.xor_self, BitVec.zero_xor]
/-- the four last bytes are the sum of those ahead of them -/
theorem sealed_iff (xs : List UInt8) (a b c d : UInt8) : isSealed (xs ++ [a, b, c, d]) = decide (crc 0#32 xs = word a b c d) := by
  unfold isSealed
  have hl : decide (4 ≤ (xs ++ [a, b, c, d]).length) = true := by simp
  rw [hl, Bool.true_and, reg_append, reg_four]
  apply decide_eq_decide.2
  constructor
  · intro h
    exact xor_ones.1 (iter_inj h)
  · intro h
    have e : reg ones xs ^^^ word a b c d = ones := xor_ones.2 h
    rw [e]
theorem isSealed_sealed (xs : List UInt8) : isSealed (sealed xs) = true := by
  unfold sealed tail
  rw [sealed_iff, word_tail]
  simp
theorem isSealed_short (bs : List UInt8) (h : bs.length < 4) : isSealed bs = false := by
  unfold isSealed
  rw [decide_eq_false (by omega), Bool.false_and]
theorem last_four (bs : List UInt8) (h : 4 ≤ bs.length) : ∃ a b c d, bs = bs.take (bs.length - 4) ++ [a, b, c, d] := by
  have e := (List.take_append_drop (bs.length - 4) bs).symm
  have hl : (bs.drop (bs.length - 4)).length = 4 := by rw [List.length_drop]; omega
  match hq : bs.drop (bs.length - 4), hl with
  | [a, b, c, d], _ => rw [hq] at e; exact ⟨a, b, c, d, e⟩

/- a turned bit -/
theorem wide_xor (x y : UInt8) : wide (x ^^^ y) = wide x ^^^ wide y := by
  unfold wide
  rw [UInt8.toBitVec_xor, BitVec.setWidth_xor]
theorem step_xor (s t : BitVec 32) (x : UInt8) : step (s ^^^ t) x = step s x ^^^ iter 8 t := by
  unfold step
  rw [BitVec.xor_assoc, BitVec.xor_comm t, ← BitVec.xor_assoc, iter_xor]
theorem reg_xor (s t : BitVec 32) (xs : List UInt8) : reg (s ^^^ t) xs = reg s xs ^^^ iter (8 * xs.length) t := by
  induction xs generalizing s t with
  | nil => rfl
  | cons x r ih =>
    show reg (step (s ^^^ t) x) r = _
    rw [step_xor, ih, ← iter_add]
    rfl
theorem reg_turn (s : BitVec 32) (ys : List UInt8) (i : Nat) (y m : UInt8) (h : ys[i]? = some y) : reg s (ys.set i (y ^^^ m)) = reg s ys ^^^ iter (8 * (ys.length - i)) (wide m) := by
  induction ys generalizing s i with
  | nil => cases h
  | cons x r ih =>
    match i, h with
    | 0, h =>
      have : x = y := by simpa using h
      subst this
      show reg (step s (x ^^^ m)) r = reg (step s x) r ^^^ _
      have e : step s (x ^^^ m) = step s x ^^^ iter 8 (wide m) := by
        unfold step
        rw [wide_xor, ← BitVec.xor_assoc, iter_xor]
      rw [e, reg_xor, ← iter_add]
      rfl
    | i + 1, h =>
      show reg (step s x) (r.set i (y ^^^ m)) = reg (step s x) r ^^^ _
      rw [ih (step s x) i (by simpa using h), List.length_cons, Nat.succ_sub_succ]
theorem iter_bit (k : Nat) (h : k < 32) : iter k (1#32 <<< k) = 1#32 := by
  rw [iter_low (shl_low _ _)]
  apply BitVec.eq_of_toNat_eq
  have h2 : 2 ^ k < 2 ^ 32 := Nat.pow_lt_pow_right (by omega) h
  rw [BitVec.toNat_ushiftRight, BitVec.toNat_shiftLeft, Nat.shiftLeft_eq, Nat.shiftRight_eq_div_pow]
  show 1 * 2 ^ k % 2 ^ 32 / 2 ^ k = 1
  rw [Nat.one_mul, Nat.mod_eq_of_lt h2, Nat.div_self (Nat.two_pow_pos k)]
theorem wide_bit (m : UInt8) (r : Nat) (hr : r < 8) (hm : m.toNat = 2 ^ r) : wide m = 1#32 <<< r := by
  apply BitVec.eq_of_toNat_eq
  have h : (wide m).toNat = m.toNat := by have := wide_nat m; omega
  have h2 : 2 ^ r < 2 ^ 32 := Nat.pow_lt_pow_right (by omega) (by omega)
  rw [h, hm, BitVec.toNat_shiftLeft, Nat.shiftLeft_eq]
  show _ = 1 * 2 ^ r % 2 ^ 32
  rw [Nat.one_mul, Nat.mod_eq_of_lt h2]
/-- bit number 'bit + k' of the bytes turned, seen from bit number 'bit' -/
theorem reg_burst (ys : List UInt8) (s t : BitVec 32) (bit k : Nat) (y m : UInt8) (mask : BitVec 32) (hk : k < 32) (hq : bit + k < 8 * ys.length) (hy : ys[(bit + k) / 8]? = some y) (hm : m.toNat = 2 ^ ((bit + k) % 8))
    (h : reg s ys = t ^^^ iter (8 * ys.length - bit) mask) : reg s (ys.set ((bit + k) / 8) (y ^^^ m)) = t ^^^ iter (8 * (ys.set ((bit + k) / 8) (y ^^^ m)).length - bit) (mask ^^^ 1#32 <<< k) := by
  rw [reg_turn s ys _ y m hy, h, wide_bit m _ (Nat.mod_lt _ (by omega)) hm, List.length_set, iter_xor, BitVec.xor_assoc]
  congr 2
  have e1 : 8 * (ys.length - (bit + k) / 8) = (8 * ys.length - (bit + k)) + (bit + k) % 8 := by omega
  have e2 : 8 * ys.length - bit = (8 * ys.length - (bit + k)) + k := by omega
  rw [e1, e2, iter_add, iter_add, iter_bit k hk, iter_bit _ (by omega)]
theorem mask_on {mask : BitVec 32} {k : Nat} (hk : k < 32) (h : ∀ j, k ≤ j → mask.getLsbD j = false) : (mask ^^^ 1#32 <<< k) ≠ 0 ∧ ∀ j, k + 1 ≤ j → (mask ^^^ 1#32 <<< k).getLsbD j = false := by
  constructor
  · intro e
    have := congrArg (fun v => v.getLsbD k) e
    have h' := h k (Nat.le_refl _)
    simp only [BitVec.getLsbD_xor, h', BitVec.getLsbD_shiftLeft, Nat.sub_self, Nat.lt_irrefl] at this
    simp [hk] at this
  · intro j hj
    rw [BitVec.getLsbD_xor, h j (by omega), BitVec.getLsbD_shiftLeft]
    have : (1#32 : BitVec 32).getLsbD (j - k) = false := by
      rw [BitVec.getLsbD_one]
      simp
      omega
    simp [this]
theorem burst_seen (ys : List UInt8) (n bit : Nat) (mask : BitVec 32) (hn : ys.length = n) (hl : 4 ≤ n) (h : reg ones ys = iter 32 ones ^^^ iter (8 * n - bit) mask) : isSealed ys = decide (mask = 0) := by
  unfold isSealed
  rw [decide_eq_true (by omega), Bool.true_and]
  apply decide_eq_decide.2
  rw [h]
  constructor
  · intro e
    have : iter 32 ones ^^^ (iter 32 ones ^^^ iter (8 * n - bit) mask) = iter 32 ones ^^^ iter 32 ones := by rw [e]
    rw [← BitVec.xor_assoc, BitVec.xor_self, BitVec.zero_xor] at this
    exact iter_ne this
  · rintro rfl
    rw [iter_zero]
    simp
theorem sealed_reg (xs : List UInt8) (m : Nat) : reg ones (sealed xs) = iter 32 ones ^^^ iter m 0 := by
  have := isSealed_sealed xs
  unfold isSealed at this
  rw [Bool.and_eq_true] at this
  rw [of_decide_eq_true this.2, iter_zero]
  simp
theorem sealed_length (xs : List UInt8) : (sealed xs).length = xs.length + 4 := by simp [sealed, tail]
theorem bx8 (a b : UInt8) : bits .xor .u8 (a.toNat : Int) (b.toNat : Int) = ((a ^^^ b).toNat : Int) := by
  show IntKind.u8.wrap ((BitVec.ofInt 8 _ ^^^ BitVec.ofInt 8 _).toNat : Int) = _
  have e (x : UInt8) : BitVec.ofInt 8 (x.toNat : Int) = x.toBitVec := by
    rw [BitVec.ofInt_natCast]; exact BitVec.ofNat_toNat 8 x.toBitVec |>.trans (BitVec.setWidth_eq x.toBitVec)
  rw [e, e, ← UInt8.toBitVec_xor, IntKind.wrap_u8]
  show (((a ^^^ b).toNat : Int)) % 256 = _
  have := (a ^^^ b).toNat_lt
  omega

#print axioms burst_seen
#print axioms reg_burst
#print axioms bx8
end Go.Proofs.Ytgbnclaflhoabaa.SumMath
