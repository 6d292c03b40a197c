/-
  What one call of each function of package sum that only computes does, and of the document's own Add: the contracts.
-/
import Derived.Test.YtgbnclaflhoabaaMem
import Derived.Test.YtgbnclaflhoabaaSumMath
namespace Go.Proofs.Ytgbnclaflhoabaa.SumWalks
open Go.ChangeShapes Go.WideShapes Go.ChangeAt Go.RowKit Go.Proofs.Ytgbnclaflhoabaa.SumMath Go.Proofs.Ytgbnclaflhoabaa.Mem

theorem T_yes {s : BitVec 32} (h : s.getLsbD 0 = true) : T s = (s >>> 1) ^^^ 0xEDB88320#32 := by unfold T; rw [if_pos h]
theorem T_no {s : BitVec 32} (h : s.getLsbD 0 = false) : T s = s >>> 1 := by unfold T; rw [h]; rfl
theorem out_yes {y : Int} {r : BitVec 32} (hy : y = r.toNat) (h : r.getLsbD 0 = true) : (bits .and .u32 y 1 == 1) = true ∧ bits .xor .u32 (y / 2) 3988292384 = ((T r).toNat : Int) := by
  subst hy
  rw [band1, h, show ((r.toNat : Int) / (2 : Int)) = ((r >>> 1).toNat : Int) from shr1 r, bpoly, T_yes h]
  exact ⟨rfl, rfl⟩
theorem out_no {y : Int} {r : BitVec 32} (hy : y = r.toNat) (h : r.getLsbD 0 = false) : (bits .and .u32 y 1 == 1) = false ∧ y / 2 = ((T r).toNat : Int) := by
  subst hy
  rw [band1, h, show ((r.toNat : Int) / (2 : Int)) = ((r >>> 1).toNat : Int) from shr1 r, T_no h]
  exact ⟨rfl, rfl⟩
theorem iter_on {k : Nat} {r s : BitVec 32} (h : iter (8 - k) r = s) (hk : k < 8) : iter (8 - (k + 1)) (T r) = s := by
  have e : 8 - k = (8 - (k + 1)) + 1 := by omega
  rw [e] at h
  exact h

theorem shift_any (x : Int) (s : BitVec 32) (hx : x = s.toNat) (w : World) : Calls Try.prog 24 #[.int .u32 x] w fun e w' => e = .returned (.int .u32 ((iter 8 s).toNat : Int)) ∧ w = w' := by
  have HX := Lib.hid hx
  clear hx
  go_enter Try.func24, Try.ntmps24
  go_wp2
  go_loop [0, 4] (fun t i => ∃ (k : Nat) (r : BitVec 32) (y : Int), k ≤ 8 ∧ i = .int .i64 k ∧ t = .int .u32 y ∧ Hid (y = r.toNat) ∧ Hid (iter (8 - k) r = iter 8 s)) (fun _ i => 8 - (intOf i).toNat)
  case atStart => exact ⟨0, s, x, by omega, rfl, rfl, HX, rfl⟩
  case round =>
    obtain ⟨k, r, y, hk, rfl, rfl, HY, HR⟩ := hrel
    have hy : 0 ≤ y ∧ y ≤ 4294967295 := by rw [HY.out]; exact lt32 r
    obtain ⟨hy0, hy1⟩ := hy
    by_cases hlt : k < 8
    · have HR' : Hid (iter (8 - (k + 1)) (T r) = iter 8 s) := iter_on HR.out hlt
      cases hr : r.getLsbD 0
      · obtain ⟨ht, h2⟩ := out_no HY.out hr
        have H2 := Lib.hid h2
        clear h2 hr
        go_wp2
        go_round
        case rel => exact ⟨k + 1, T r, _, by omega, by go_num, rfl, H2, HR'⟩
        case measure => simp [intOf]; omega
      · obtain ⟨ht, h2⟩ := out_yes HY.out hr
        have H2 := Lib.hid h2
        clear h2 hr
        go_wp2
        go_round
        case rel => exact ⟨k + 1, T r, _, by omega, by go_num, rfl, H2, HR'⟩
        case measure => simp [intOf]; omega
    · obtain rfl : k = 8 := by omega
      have HE : Hid (y = ((iter 8 s).toNat : Int)) := by rw [← HR.out]; exact HY.out
      go_wp2
      go_ret
      exact ⟨ret_i HE.out, rfl⟩

theorem add_any (x : Int) (c : BitVec 32) (hx : x = c.toNat) (A : Option Addr) (n cap : Nat) (xs : List UInt8) (B : Nat) (w : World) (h : Bytes w B A n xs) :
    Calls Try.prog 14 #[.int .u32 x, .slice A n cap] w fun e w' => e = .returned (.int .u32 ((crc c xs).toNat : Int)) ∧ w = w' := by
  have hm := h.le
  have HX : Hid (bits .xor .u32 4294967295 x = ((~~~ c).toNat : Int)) := by rw [hx]; exact bnot c
  have hx0 : 0 ≤ x ∧ x ≤ 4294967295 := by rw [hx]; exact lt32 c
  obtain ⟨hx0, hx1⟩ := hx0
  have HL := Lib.hid h.length
  have H := Lib.hid h
  clear h hx
  go_enter Try.func14, Try.ntmps14
  go_wp2
  go_loop [5, 12] (fun t i => ∃ (k : Nat) (r : BitVec 32) (y : Int), k ≤ n ∧ i = .int .i64 k ∧ t = .int .u32 y ∧ Hid (y = r.toNat) ∧ Hid (reg r (xs.drop k) = reg (~~~ c) xs)) (fun _ i => n - (intOf i).toNat)
  case atStart => exact ⟨0, ~~~ c, _, by omega, rfl, rfl, HX, rfl⟩
  case round =>
    obtain ⟨k, r, y, hk, rfl, rfl, HY, HR⟩ := hrel
    have hy : 0 ≤ y ∧ y ≤ 4294967295 := by rw [HY.out]; exact lt32 r
    obtain ⟨hy0, hy1⟩ := hy
    by_cases hlt : k < n
    · obtain ⟨b, off, u, rfl, _, hc, _, hd⟩ := H.out.at_ hlt
      have HS : Hid (reg (iter 8 (r ^^^ wide u)) (xs.drop (k + 1)) = reg (~~~ c) xs) := by have := HR.out; rw [hd] at this; exact this
      have HZ : Hid (bits .xor .u32 y (u.toNat : Int) = ((r ^^^ wide u).toNat : Int)) := by rw [HY.out]; exact bxbyte r u
      have hu := lt8 u
      obtain ⟨hu0, hu1⟩ := hu
      clear hd
      go_wp2_with (go_at_call 24; refine (shift_any _ _ HZ.out _).mono ?_; rintro e w' ⟨rfl, rfl⟩)
      go_round
      case rel => exact ⟨k + 1, _, _, by omega, by go_num, rfl, rfl, HS⟩
      case measure => simp [intOf]; omega
    · have HE : Hid (bits .xor .u32 4294967295 y = ((crc c xs).toNat : Int)) := by
        have := HR.out
        rw [List.drop_of_length_le (by have := HL.out; omega)] at this
        unfold crc
        rw [← this, HY.out]
        exact bnot r
      go_wp2
      go_ret
      exact ⟨ret_i HE.out, rfl⟩

/-- values that are slices of bytes -/
def Parts (w : World) (B : Nat) : List Value → List (List UInt8) → Prop
  | [], [] => True
  | v :: r, l :: s => (∃ A n c, v = .slice A n c ∧ Bytes w B A n l) ∧ Parts w B r s
  | _, _ => False
theorem Parts.drop {w : World} {B k : Nat} {vs : List Value} {ls : List (List UInt8)} (h : Parts w B vs ls) : Parts w B (vs.drop k) (ls.drop k) := by
  induction k generalizing vs ls with
  | zero => exact h
  | succ k ih =>
    match vs, ls, h with
    | [], [], _ => exact trivial
    | v :: r, l :: s, h => exact ih h.2
theorem Parts.head {w : World} {B : Nat} {v : Value} {r : List Value} {ls : List (List UInt8)} (h : Parts w B (v :: r) ls) : ∃ A n c l s, v = .slice A n c ∧ ls = l :: s ∧ Bytes w B A n l := by
  match ls, h with
  | l :: s, h => obtain ⟨A, n, c, e, hb⟩ := h.1; exact ⟨A, n, c, l, s, e, rfl, hb⟩
theorem Parts.nil {w : World} {B : Nat} {ls : List (List UInt8)} (h : Parts w B [] ls) : ls = [] := by
  match ls, h with
  | [], _ => rfl

theorem of_any (A : Option Addr) (n cap : Nat) (vs : List Value) (ls : List (List UInt8)) (B B' : Nat) (w : World) (h : Reads w B A n vs) (hp : Parts w B' vs ls) :
    Calls Try.prog 9 #[.slice A n cap] w fun e w' => e = .returned (.int .u32 ((crc 0#32 ls.flatten).toNat : Int)) ∧ w = w' := by
  have hm := h.le
  have HL := Lib.hid h.len
  have H := Lib.hid h
  have HP := Lib.hid hp
  clear h hp
  go_enter Try.func9, Try.ntmps9
  go_wp2
  go_loop [3, 8] (fun t i => ∃ (k : Nat) (r : BitVec 32) (y : Int), k ≤ n ∧ i = .int .i64 k ∧ t = .int .u32 y ∧ Hid (y = r.toNat) ∧ Hid (crc r (ls.drop k).flatten = crc 0#32 ls.flatten)) (fun _ i => n - (intOf i).toNat)
  case atStart => exact ⟨0, 0, 0, by omega, rfl, rfl, rfl, rfl⟩
  case round =>
    obtain ⟨k, r, y, hk, rfl, rfl, HY, HR⟩ := hrel
    by_cases hlt : k < n
    · obtain ⟨b, off, v, rfl, _, hc, _, hd⟩ := H.out.at_ hlt
      have hq := HP.out.drop (k := k)
      rw [hd] at hq
      obtain ⟨A', m, c', l, s, rfl, hs, hb⟩ := hq.head
      have HB := Lib.hid hb
      have HS : Hid (crc (crc r l) (ls.drop (k + 1)).flatten = crc 0#32 ls.flatten) := by
        have := HR.out
        rw [hs, List.flatten_cons, crc_append] at this
        have e : ls.drop (k + 1) = s := by rw [← List.drop_drop, hs]; rfl
        rw [e]
        exact this
      clear hd hq hs hb
      go_wp2_with (go_at_call 14; refine (add_any _ r HY.out _ _ _ l _ _ HB.out).mono ?_; rintro e w' ⟨rfl, rfl⟩)
      go_round
      case rel => exact ⟨k + 1, _, _, by omega, by go_num, rfl, rfl, HS⟩
      case measure => simp [intOf]; omega
    · have HE : Hid (y = ((crc 0#32 ls.flatten).toNat : Int)) := by
        have hq := HP.out.drop (k := k)
        rw [List.drop_of_length_le (by have := HL.out; omega)] at hq
        have := HR.out
        rw [hq.nil, List.flatten_nil, crc_nil] at this
        rw [← this]
        exact HY.out
      go_wp2
      go_ret
      exact ⟨ret_i HE.out, rfl⟩

#print axioms of_any
end Go.Proofs.Ytgbnclaflhoabaa.SumWalks
