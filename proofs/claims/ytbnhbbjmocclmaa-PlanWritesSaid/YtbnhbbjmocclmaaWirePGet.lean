/-
  The program's wire, walked: number.
-/
import Derived.Test.YtbnhbbjmocclmaaWireRGet
namespace Go.Proofs.Ytbnhbbjmocclmaa.Wire
open Go.ChangeShapes Go.WideShapes Go.ChangeAt Go.RowKit Go.Proofs.Ytbnhbbjmocclmaa.Mem Go.Proofs.Ytbnhbbjmocclmaa.WireMath
set_option linter.unusedVariables false

/-- what is told of a number -/
def numP : Except Int (Int × Nat) → Value
  | .ok (v, k) => .tuple #[.int .i64 v, .int .i64 ((k : Nat) : Int), .int .i64 0]
  | .error e => .tuple #[.int .i64 0, .int .i64 0, .int .i64 e]
set_option maxRecDepth 100000 in
theorem strip_all : ∀ a : Fin 256, bits .andNot .u8 ((a.val : Nat) : Int) 128 = ((a.val % 128 : Nat) : Int) := by decide +kernel
theorem strip {x : Nat} (h : x < 256) : bits .andNot .u8 (x : Int) 128 = bits .and .u8 (x : Int) 127 := by
  rw [low7 (by omega) (by omega), strip_all ⟨x, h⟩]
  simp only
  omega
theorem xor_zero {n : Nat} (h : n < 9223372036854775808) : bits .xor .i64 (n : Int) 0 = (n : Int) := by
  have e2 : (BitVec.ofInt 64 (n : Int)).toNat = n := by
    rw [BitVec.ofInt_natCast, BitVec.toNat_ofNat]; exact Nat.mod_eq_of_lt (by omega)
  show IntKind.i64.wrap ((BitVec.ofInt 64 (n : Int) ^^^ BitVec.ofInt 64 0).toNat : Int) = _
  rw [BitVec.toNat_xor, e2, show (BitVec.ofInt 64 0).toNat = 0 by decide, Nat.xor_zero, IntKind.wrap_i64]
  omega
theorem xor_back {n : Nat} (h : n < 9223372036854775808) : bits .xor .i64 (n : Int) (-1) = -(n : Int) - 1 := by
  rw [← not_in h]
  show IntKind.i64.wrap ((BitVec.ofInt 64 (n : Int) ^^^ BitVec.ofInt 64 (-1)).toNat : Int) = IntKind.i64.wrap ((BitVec.ofInt 64 (-1) ^^^ BitVec.ofInt 64 (n : Int)).toNat : Int)
  rw [BitVec.xor_comm]
set_option maxRecDepth 100000 in
set_option maxHeartbeats 1000000 in
theorem pnumber_any (A : Option Addr) (n c B : Nat) (xs : List UInt8) (w : World) (h : Bytes w B A n xs) (hn : n ≤ 140737488355328) :
    Calls Try.prog 89 #[.slice A n c] w (fun e w' => e = .returned (numP (getN xs)) ∧ w = w') := by
  have HI := Lib.hid h
  have HXL := Lib.hid (Bytes.length h)
  clear h
  go_enter Try.func89, Try.ntmps89
  go_wp2_with fail
  go_loopw [5, 10] (fun uv kv wr => ∃ (k u : Nat), k ≤ 9 ∧ k ≤ n ∧ uv = .int .u64 (u : Int) ∧ kv = .int .i64 (k : Int) ∧ w = wr ∧ Hid (u < 128 ^ k) ∧ Hid (getU k u (xs.drop k) = getU 0 0 xs)) (fun _ kv _ => n - (intOf kv).toNat)
  case atStart => exact ⟨0, 0, by omega, by omega, rfl, rfl, rfl, by show 0 < 128 ^ 0; decide, rfl⟩
  case round =>
    obtain ⟨k, u, hk, hkn, rfl, rfl, rfl, HU, HG⟩ := hrel
    by_cases hlt : k < n
    · have hlt1 : (k : Int) < (n : Int) := by omega
      obtain ⟨b, off, x, rfl, hx, cx, _, hdr⟩ := Bytes.at_ HI.out hlt
      have hxl := x.toNat_lt
      rw [hdr] at HG
      clear hdr hx
      by_cases h9 : k = 9 ∧ 1 < x.toNat
      · have HE : Hid (getN xs = .error 4) := by
          show _ = _
          unfold getN
          rw [← HG.out, getU_cons, if_pos h9]
        have h1 : (1 : Int) < (x.toNat : Int) := by omega
        have e9 : ((k : Int) == 9) = true := by simp; omega
        clear h9
        go_wp2_with fail
        go_ret3
        exact ⟨by rw [HE.out]; rfl, rfl⟩
      have HN9 : Hid (¬ (k = 9 ∧ 1 < x.toNat)) := h9
      go_upto_region 5 with fail
      go_cut [20] (fun b wx => w = wx ∧ b = .bool false)
      case first =>
        by_cases hk9 : k = 9
        · have h1 : ¬ (1 : Int) < (x.toNat : Int) := by omega
          have e9 : ((k : Int) == 9) = true := by simp; omega
          have HK9 := Lib.hid hk9
          clear hk9 h9
          go_wp2_with fail
          go_meet
          exact ⟨rfl, rfl⟩
        · have e9 : ((k : Int) == 9) = false := by simp; omega
          clear hk9 h9
          go_wp2_with fail
          go_meet
          exact ⟨rfl, rfl⟩
      case rest =>
      obtain ⟨rfl, rfl⟩ := hcut
      obtain ⟨g1, g2, g3⟩ := get_more HU.out hk hxl h9
      rw [← strip hxl] at g1
      obtain ⟨u2, hu2⟩ : ∃ u2, u + x.toNat % 128 * 128 ^ k = u2 := ⟨_, rfl⟩
      rw [hu2] at g1 g2 g3
      have HU2 := Lib.hid g2
      have HU3 := Lib.hid g3
      have HUE := Lib.hid hu2
      clear g2 g3 hu2 h9
      by_cases hm : 128 ≤ x.toNat
      · have hm1 : (128 : Int) ≤ (x.toNat : Int) := by omega
        have HG2 : Hid (k < 9 ∧ getU (k + 1) u2 (xs.drop (k + 1)) = getU 0 0 xs) := by
          have hk9 : k < 9 := by
            have := HN9.out
            omega
          refine ⟨hk9, ?_⟩
          have := HG.out
          rw [getU_cons, if_neg HN9.out, if_pos hm, HUE.out] at this
          rw [← this]
        clear hm
        go_wp2_with fail
        go_roundw
        case rel => exact ⟨k + 1, u2, by have := HG2.out.1; omega, by omega, by first | rfl | trivial, by go_num, by first | rfl | trivial, HU2.out HG2.out.1, HG2.out.2⟩
        case measure => simp [intOf]; omega
      · have hm1 : ¬ (128 : Int) ≤ (x.toNat : Int) := by omega
        have HG2 := HG.out
        rw [getU_cons, if_neg HN9.out, if_neg hm, HUE.out] at HG2
        by_cases h0 : x.toNat = 0 ∧ 0 < k
        · rw [if_pos h0] at HG2
          have HE : Hid (getN xs = .error 4) := by
            show _ = _
            unfold getN
            rw [← HG2]
          have hx0 : ((x.toNat : Int) == 0) = true := by simp; omega
          have hk1 : (0 : Int) < (k : Int) := by omega
          clear hm h0 HG2
          go_wp2_with fail
          go_ret3
          exact ⟨by rw [HE.out]; rfl, rfl⟩
        · rw [if_neg h0] at HG2
          have HE : Hid (getN xs = .ok (zag u2, k + 1)) := by
            show _ = _
            unfold getN
            rw [← HG2]
          clear HG2
          go_upto_region 9 with fail
          go_cut [36] (fun b wx => w = wx ∧ b = .bool false)
          case first =>
            by_cases hx0 : x.toNat = 0
            · have hx1 : ((x.toNat : Int) == 0) = true := by simp; omega
              have hk1 : ¬ 0 < k := by omega
              clear hx0 h0
              go_wp2_with fail
              go_meet
              exact ⟨rfl, by simp⟩
            · have hx1 : ((x.toNat : Int) == 0) = false := by simp; omega
              clear hx0 h0
              go_wp2_with fail
              go_meet
              exact ⟨rfl, rfl⟩
          case rest =>
          obtain ⟨rfl, rfl⟩ := hcut
          have hw := half_in HU3.out
          obtain ⟨hf, hhf⟩ : ∃ hf, u2 / 2 = hf := ⟨_, rfl⟩
          rw [hhf] at hw
          have hhl : hf < 9223372036854775808 := by have := HU3.out; omega
          have hb := and_one HU3.out
          by_cases hpar : u2 % 2 = 0
          · have HZ : Hid (numP (.ok (zag u2, k + 1)) = .tuple #[.int .i64 (hf : Int), .int .i64 ((k : Int) + 1), .int .i64 0]) := by
              show _ = _
              unfold numP zag
              simp only
              rw [if_pos hpar, hhf]
              rfl
            have hn1 := xor_zero hhl
            have hw0 : wrap64 0 = 0 := by unfold wrap64; omega
            rw [hpar] at hb
            clear hpar hhf
            go_wp2_with fail
            go_ret3
            exact ⟨by rw [HE.out, HZ.out]; rfl, rfl⟩
          · have HZ : Hid (numP (.ok (zag u2, k + 1)) = .tuple #[.int .i64 (-(hf : Int) - 1), .int .i64 ((k : Int) + 1), .int .i64 0]) := by
              show _ = _
              unfold numP zag
              simp only
              rw [if_neg hpar, hhf]
              rfl
            have hn1 := xor_back hhl
            have hw0 : wrap64 1 = 1 := by unfold wrap64; omega
            have hw1 : wrap64 (-1) = -1 := by unfold wrap64; omega
            rw [show u2 % 2 = 1 by omega] at hb
            clear hpar hhf
            go_wp2_with fail
            go_ret3
            exact ⟨by rw [HE.out, HZ.out]; rfl, rfl⟩
    · have hlt1 : ¬ (k : Int) < (n : Int) := by omega
      have HE : Hid (getN xs = .error 3) := by
        show _ = _
        unfold getN
        rw [← HG.out, List.drop_of_length_le (by have := HXL.out; omega)]
        rfl
      go_wp2_with fail
      go_ret3
      exact ⟨by rw [HE.out]; rfl, rfl⟩

#print axioms pnumber_any
end Go.Proofs.Ytbnhbbjmocclmaa.Wire
