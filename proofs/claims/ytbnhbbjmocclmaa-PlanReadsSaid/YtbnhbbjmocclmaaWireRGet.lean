/-
  The document's own answer to chapter 3, walked: a number at a place.
-/
import Derived.Test.YtbnhbbjmocclmaaWireAll
import Derived.Laws.Bits64b
namespace Go.Proofs.Ytbnhbbjmocclmaa.Wire
open Go.ChangeShapes Go.WideShapes Go.ChangeAt Go.RowKit Go.Proofs.Ytbnhbbjmocclmaa.Mem Go.Proofs.Ytbnhbbjmocclmaa.WireMath
set_option linter.unusedVariables false

/-- what is told of a number at a place -/
def numV (at_ : Nat) : Except Int (Int × Nat) → Value
  | .ok (v, k) => .tuple #[.int .i64 v, .int .i64 ((at_ + k : Nat) : Int), .int .i64 0]
  | .error e => .tuple #[.int .i64 0, .int .i64 0, .int .i64 e]

theorem low7 {x : Int} (h0 : 0 ≤ x) (h1 : x < 256) : bits .and .u8 x 127 = x % 128 := by
  have := bits_mask .u8 8 (by decide) wraps_u8 7 (by decide) x h0 (by simpa using h1)
  simpa using this
theorem pow128 (k : Nat) : (2 : Nat) ^ (7 * k) = 128 ^ k := by rw [Nat.pow_mul]
theorem get_more {u k x : Nat} (hu : u < 128 ^ k) (hk : k ≤ 9) (hx : x < 256) (h9 : ¬ (k = 9 ∧ 1 < x)) :
    bits .or .u64 (u : Int) (IntKind.u64.wrap (IntKind.u64.wrap (bits .and .u8 (x : Int) 127) * 2 ^ (7 * k))) = ((u + x % 128 * 128 ^ k : Nat) : Int) ∧ (k < 9 → u + x % 128 * 128 ^ k < 128 ^ (k + 1)) ∧ u + x % 128 * 128 ^ k < 18446744073709551616 := by
  have hle : (128 : Nat) ^ k ≤ 128 ^ 9 := Nat.pow_le_pow_right (by decide) hk
  have h9' := pow9
  have hm : x % 128 * 128 ^ k ≤ 127 * 128 ^ k := Nat.mul_le_mul_right _ (by omega)
  have hlt : x % 128 * 128 ^ k < 18446744073709551616 - 9223372036854775808 + 1 := by
    rcases Nat.lt_or_ge k 9 with h | h
    · have h8 : (128 : Nat) ^ k ≤ 128 ^ 8 := Nat.pow_le_pow_right (by decide) (by omega)
      have : (128 : Nat) ^ 8 = 72057594037927936 := by decide
      omega
    · have e : k = 9 := by omega
      subst e
      have hx1 : x % 128 ≤ 1 := by omega
      have := Nat.mul_le_mul_right (128 ^ 9) hx1
      omega
  have hu9 : u < 9223372036854775808 := by omega
  refine ⟨?_, fun h => ?_, by omega⟩
  · rw [low7 (by omega) (by omega), wrap_u64 ((x : Int) % 128), show ((x : Int) % 128) % 18446744073709551616 = ((x % 128 : Nat) : Int) by omega]
    have e2 : (2 : Int) ^ (7 * k) = ((128 ^ k : Nat) : Int) := by rw [← pow128]; simp
    rw [e2, ← Int.natCast_mul, wrap_u64, show ((x % 128 * 128 ^ k : Nat) : Int) % 18446744073709551616 = ((x % 128 * 128 ^ k : Nat) : Int) by omega, bits_or_u64_nat _ _ (by omega) (by omega)]
    congr 1
    have h := Nat.two_pow_add_eq_or_of_lt (i := 7 * k) (b := u) (by rw [pow128]; exact hu) (x % 128)
    rw [pow128] at h
    rw [Nat.or_comm, Nat.mul_comm (x % 128), ← h]
    omega
  · rw [Nat.pow_succ]
    omega
theorem half_in {u : Nat} (h : u < 18446744073709551616) : wrap64 ((u : Int) / 2) = ((u / 2 : Nat) : Int) := by
  unfold wrap64
  omega
theorem and_one {u : Nat} (h : u < 18446744073709551616) : bits .and .u64 (u : Int) 1 = ((u % 2 : Nat) : Int) := by
  have := bits_and_u64_nat u 1 h (by decide)
  rw [Nat.and_one_is_mod] at this
  exact this
theorem odd_yes {u : Nat} (h : u < 18446744073709551616) (h1 : ¬ u % 2 = 0) : (bits .and .u64 (u : Int) 1 == 1) = true := by
  rw [and_one h]; simp; omega
theorem odd_no {u : Nat} (h : u < 18446744073709551616) (h1 : u % 2 = 0) : (bits .and .u64 (u : Int) 1 == 1) = false := by
  rw [and_one h]; simp; omega
theorem not_in {n : Nat} (h : n < 9223372036854775808) : bits .xor .i64 (-1) (n : Int) = -(n : Int) - 1 := by
  have e1 : BitVec.ofInt 64 (-1) = BitVec.allOnes 64 := by decide
  have e2 : (BitVec.ofInt 64 (n : Int)).toNat = n := by
    rw [BitVec.ofInt_natCast, BitVec.toNat_ofNat]; exact Nat.mod_eq_of_lt (by omega)
  show IntKind.i64.wrap ((BitVec.ofInt 64 (-1) ^^^ BitVec.ofInt 64 (n : Int)).toNat : Int) = _
  rw [e1, BitVec.toNat_xor, e2, BitVec.toNat_allOnes, show 2 ^ 64 - 1 = 18446744073709551615 by decide, xor_ones n (by omega), IntKind.wrap_i64]
  omega
set_option maxRecDepth 100000 in
set_option maxHeartbeats 1000000 in
theorem rnumber_any (A : Option Addr) (n c at_ B : Nat) (xs : List UInt8) (w : World) (h : Bytes w B A n xs) (hat : at_ ≤ n) (hn : n ≤ 140737488355328) :
    Calls Try.prog 91 #[.slice A n c, .int .i64 at_] w (fun e w' => e = .returned (numV at_ (getN (xs.drop at_))) ∧ w = w') := by
  have HI := Lib.hid h
  have HXL := Lib.hid (Bytes.length h)
  clear h
  go_enter Try.func91, Try.ntmps91
  go_wp2_with fail
  go_loopw [7, 8] (fun uv kv wr => ∃ (k u : Nat), k ≤ 9 ∧ at_ + k ≤ n ∧ uv = .int .u64 (u : Int) ∧ kv = .int .i64 (k : Int) ∧ w = wr ∧ Hid (u < 128 ^ k) ∧ Hid (getU k u (xs.drop (at_ + k)) = getU 0 0 (xs.drop at_))) (fun _ kv _ => 10 - (intOf kv).toNat)
  case atStart => exact ⟨0, 0, by omega, by omega, rfl, rfl, rfl, by show 0 < 128 ^ 0; decide, rfl⟩
  case round =>
    obtain ⟨k, u, hk, hkn, rfl, rfl, rfl, HU, HG⟩ := hrel
    have hk10 : (k : Int) < 10 := by omega
    obtain ⟨p, hp⟩ : ∃ p, at_ + k = p := ⟨_, rfl⟩
    have hp1 : (at_ : Int) + (k : Int) = (p : Int) := by omega
    have hp2 : IntKind.i64.wrap (p : Int) = (p : Int) := IntWalk.i64_in _ (by omega)
    have hp3 : (0 : Int) ≤ (p : Int) := by omega
    rw [hp] at HG
    by_cases hlt : p < n
    · have hlt1 : (p : Int) < (n : Int) := by omega
      have hge1 : ¬ (n : Int) ≤ (p : Int) := by omega
      obtain ⟨b, off, x, rfl, hx, cx, _, hdr⟩ := Bytes.at_ HI.out hlt
      have hxl := x.toNat_lt
      rw [hdr] at HG
      clear hdr hx
      by_cases h9 : k = 9 ∧ 1 < x.toNat
      · have HE : Hid (getN (xs.drop at_) = .error 4) := by
          show _ = _
          unfold getN
          rw [← HG.out, getU_cons, if_pos h9]
        have h1 : (1 : Int) < (x.toNat : Int) := by omega
        have e9 : ((k : Int) == 9) = true := by simp; omega
        clear h9
        go_wp2_with fail
        go_ret3
        exact ⟨by rw [HE.out]; rfl, rfl⟩
      have HN9 : Hid (¬ (k = 9 ∧ 1 < x.toNat)) := h9
      go_upto_region 8 with fail
      go_cut [32] (fun b wx => w = wx ∧ b = .bool false)
      case first =>
        by_cases hk9 : k = 9
        · have h1 : ¬ (1 : Int) < (x.toNat : Int) := by omega
          have e9 : ((k : Int) == 9) = true := by simp; omega
          have HK9 := Lib.hid hk9
          clear hk9 h9
          go_wp2_with fail
          go_meet
          exact ⟨rfl, rfl⟩
        · have e9 : ((k : Int) == 9) = false := by simp; omega
          clear hk9 h9
          go_wp2_with fail
          go_meet
          exact ⟨rfl, rfl⟩
      case rest =>
      obtain ⟨rfl, rfl⟩ := hcut
      obtain ⟨g1, g2, g3⟩ := get_more HU.out hk hxl h9
      obtain ⟨u2, hu2⟩ : ∃ u2, u + x.toNat % 128 * 128 ^ k = u2 := ⟨_, rfl⟩
      rw [hu2] at g1 g2 g3
      have HU2 := Lib.hid g2
      have HU3 := Lib.hid g3
      have HUE := Lib.hid hu2
      clear g2 g3 hu2 h9
      by_cases hm : 128 ≤ x.toNat
      · have hm1 : (128 : Int) ≤ (x.toNat : Int) := by omega
        have HG2 : Hid (k < 9 ∧ getU (k + 1) u2 (xs.drop (at_ + (k + 1))) = getU 0 0 (xs.drop at_)) := by
          have hk9 : k < 9 := by
            have := HN9.out
            omega
          refine ⟨hk9, ?_⟩
          have := HG.out
          rw [getU_cons, if_neg HN9.out, if_pos hm, HUE.out] at this
          rw [← this, show at_ + (k + 1) = p + 1 by omega]
        clear hm
        go_wp2_with fail
        go_roundw
        case rel => exact ⟨k + 1, u2, by have := HG2.out.1; omega, by omega, by first | rfl | trivial, by go_num, by first | rfl | trivial, HU2.out HG2.out.1, HG2.out.2⟩
        case measure => simp [intOf]; omega
      · have hm1 : ¬ (128 : Int) ≤ (x.toNat : Int) := by omega
        have HG2 := HG.out
        rw [getU_cons, if_neg HN9.out, if_neg hm, HUE.out] at HG2
        by_cases h0 : x.toNat = 0 ∧ 0 < k
        · rw [if_pos h0] at HG2
          have HE : Hid (getN (xs.drop at_) = .error 4) := by
            show _ = _
            unfold getN
            rw [← HG2]
          have hx0 : ((x.toNat : Int) == 0) = true := by simp; omega
          have hk1 : (0 : Int) < (k : Int) := by omega
          clear hm h0 HG2
          go_wp2_with fail
          go_ret3
          exact ⟨by rw [HE.out]; rfl, rfl⟩
        · rw [if_neg h0] at HG2
          have HE : Hid (getN (xs.drop at_) = .ok (zag u2, k + 1)) := by
            show _ = _
            unfold getN
            rw [← HG2]
          clear HG2
          go_upto_region 12 with fail
          go_cut [48] (fun b wx => w = wx ∧ b = .bool false)
          case first =>
            by_cases hx0 : x.toNat = 0
            · have hx1 : ((x.toNat : Int) == 0) = true := by simp; omega
              have hk1 : ¬ 0 < k := by omega
              clear hx0 h0
              go_wp2_with fail
              go_meet
              exact ⟨rfl, by simp⟩
            · have hx1 : ((x.toNat : Int) == 0) = false := by simp; omega
              clear hx0 h0
              go_wp2_with fail
              go_meet
              exact ⟨rfl, rfl⟩
          case rest =>
          obtain ⟨rfl, rfl⟩ := hcut
          have hw := half_in HU3.out
          obtain ⟨hf, hhf⟩ : ∃ hf, u2 / 2 = hf := ⟨_, rfl⟩
          rw [hhf] at hw
          have hhl : hf < 9223372036854775808 := by have := HU3.out; omega
          have hn1 := not_in hhl
          have hpk : ((at_ + (k + 1) : Nat) : Int) = (p : Int) + 1 := by omega
          by_cases hpar : u2 % 2 = 0
          · have HZ : Hid (numV at_ (.ok (zag u2, k + 1)) = .tuple #[.int .i64 ((hf : Int)), .int .i64 ((p : Int) + 1), .int .i64 0]) := by
              show _ = _
              unfold numV zag
              simp only
              rw [if_pos hpar, hhf, hpk]
            have hb := odd_no HU3.out hpar
            clear hpar hhf hpk
            go_wp2_with fail
            go_ret3
            exact ⟨by rw [HE.out, HZ.out]; rfl, rfl⟩
          · have HZ : Hid (numV at_ (.ok (zag u2, k + 1)) = .tuple #[.int .i64 (-(hf : Int) - 1), .int .i64 ((p : Int) + 1), .int .i64 0]) := by
              show _ = _
              unfold numV zag
              simp only
              rw [if_neg hpar, hhf, hpk]
            have hb := odd_yes HU3.out hpar
            clear hpar hhf hpk
            go_wp2_with fail
            go_ret3
            exact ⟨by rw [HE.out, HZ.out]; rfl, rfl⟩
    · have hlt1 : (n : Int) ≤ (p : Int) := by omega
      have HE : Hid (getN (xs.drop at_) = .error 3) := by
        show _ = _
        unfold getN
        rw [← HG.out, List.drop_of_length_le (by have := HXL.out; omega)]
        rfl
      go_wp2_with fail
      go_ret3
      exact ⟨by rw [HE.out]; rfl, rfl⟩

#print axioms rnumber_any
end Go.Proofs.Ytbnhbbjmocclmaa.Wire
