/-
  The document's own Add, the reading of four bytes, Within: the contracts.
-/
import Derived.Test.YtgbnclaflhoabaaSumWalks
import Derived.Test.YtgbnclaflhoabaaSumMath2
namespace Go.Proofs.Ytgbnclaflhoabaa.SumWalks
open Go.ChangeShapes Go.WideShapes Go.ChangeAt Go.RowKit Go.Proofs.Ytgbnclaflhoabaa.SumMath Go.Proofs.Ytgbnclaflhoabaa.Mem

theorem radd_any (x : Int) (c : BitVec 32) (hx : x = c.toNat) (A : Option Addr) (n cap : Nat) (xs : List UInt8) (B : Nat) (w : World) (h : Bytes w B A n xs) :
    Calls Try.prog 13 #[.int .u32 x, .slice A n cap] w fun e w' => e = .returned (.int .u32 ((crc c xs).toNat : Int)) ∧ w = w' := by
  have hm := h.le
  have HX : Hid (bits .xor .u32 4294967295 x = ((~~~ c).toNat : Int)) := by rw [hx]; exact bnot c
  have hx0 : 0 ≤ x ∧ x ≤ 4294967295 := by rw [hx]; exact lt32 c
  obtain ⟨hx0, hx1⟩ := hx0
  have HL := Lib.hid h.length
  have H := Lib.hid h
  clear h hx
  go_enter Try.func13, Try.ntmps13
  go_wp2
  go_loop [5, 6] (fun t i => ∃ (k : Nat) (r : BitVec 32) (y : Int), k ≤ n ∧ i = .int .i64 k ∧ t = .int .u32 y ∧ Hid (y = r.toNat) ∧ Hid (reg r (xs.drop k) = reg (~~~ c) xs)) (fun _ i => n - (intOf i).toNat)
  case atStart => exact ⟨0, ~~~ c, _, by omega, rfl, rfl, HX, rfl⟩
  case round =>
    obtain ⟨k, r, y, hk, rfl, rfl, HY, HR⟩ := hrel
    have hy : 0 ≤ y ∧ y ≤ 4294967295 := by rw [HY.out]; exact lt32 r
    obtain ⟨hy0, hy1⟩ := hy
    by_cases hlt : k < n
    · obtain ⟨b, off, u, rfl, _, hc, _, hd⟩ := H.out.at_ hlt
      have HS : Hid (reg (iter 8 (r ^^^ wide u)) (xs.drop (k + 1)) = reg (~~~ c) xs) := by have := HR.out; rw [hd] at this; exact this
      have HZ : Hid (bits .xor .u32 y (u.toNat : Int) = ((r ^^^ wide u).toNat : Int)) := by rw [HY.out]; exact bxbyte r u
      have hu := lt8 u
      obtain ⟨hu0, hu1⟩ := hu
      clear hd
      go_wp2
      go_loop [5, 7] (fun t i => ∃ (j : Nat) (q : BitVec 32) (z : Int), j ≤ 8 ∧ i = .int .i64 j ∧ t = .int .u32 z ∧ Hid (z = q.toNat) ∧ Hid (iter (8 - j) q = iter 8 (r ^^^ wide u))) (fun _ i => 8 - (intOf i).toNat)
      case atStart => exact ⟨0, _, _, by omega, rfl, rfl, HZ, rfl⟩
      case round =>
        obtain ⟨j, q, z, hj, rfl, rfl, HQ, HI⟩ := hrel
        have hz : 0 ≤ z ∧ z ≤ 4294967295 := by rw [HQ.out]; exact lt32 q
        obtain ⟨hz0, hz1⟩ := hz
        by_cases hlt' : j < 8
        · have HI' : Hid (iter (8 - (j + 1)) (T q) = iter 8 (r ^^^ wide u)) := iter_on HI.out hlt'
          cases hr : q.getLsbD 0
          · obtain ⟨ht, h2⟩ := out_no HQ.out hr
            have H2 := Lib.hid h2
            clear h2 hr
            go_wp2
            go_round
            case rel => exact ⟨j + 1, T q, _, by omega, by go_num, rfl, H2, HI'⟩
            case measure => simp [intOf]; omega
          · obtain ⟨ht, h2⟩ := out_yes HQ.out hr
            have H2 := Lib.hid h2
            clear h2 hr
            go_wp2
            go_round
            case rel => exact ⟨j + 1, T q, _, by omega, by go_num, rfl, H2, HI'⟩
            case measure => simp [intOf]; omega
        · obtain rfl : j = 8 := by omega
          have HE : Hid (z = ((iter 8 (r ^^^ wide u)).toNat : Int)) := by rw [← HI.out]; exact HQ.out
          go_wp2
          go_round
          case rel => exact ⟨k + 1, _, _, by omega, by go_num, rfl, HE, HS⟩
          case measure => simp [intOf]; omega
    · have HE : Hid (bits .xor .u32 4294967295 y = ((crc c xs).toNat : Int)) := by
        have := HR.out
        rw [List.drop_of_length_le (by have := HL.out; omega)] at this
        unfold crc
        rw [← this, HY.out]
        exact bnot r
      go_wp2
      go_ret
      exact ⟨ret_i HE.out, rfl⟩

theorem read_any (A : Option Addr) (cap : Nat) (a b c d : UInt8) (B : Nat) (w : World) (h : Bytes w B A 4 [a, b, c, d]) :
    Calls Try.prog 23 #[.slice A 4 cap] w (Quietly w (.int .u32 ((word a b c d).toNat : Int))) := by
  obtain ⟨g, off, rfl, _, hc⟩ := h.2.2 (by omega)
  have h0 : w.cell? ⟨g, off, none⟩ = some (.int .u8 (a.toNat : Int)) := hc 0 _ rfl
  have h1 : w.cell? ⟨g, off + 1, none⟩ = some (.int .u8 (b.toNat : Int)) := hc 1 _ rfl
  have h2 : w.cell? ⟨g, off + 2, none⟩ = some (.int .u8 (c.toNat : Int)) := hc 2 _ rfl
  have h3 : w.cell? ⟨g, off + 3, none⟩ = some (.int .u8 (d.toNat : Int)) := hc 3 _ rfl
  have ha := lt8 a
  have hb := lt8 b
  have hc' := lt8 c
  have hd := lt8 d
  clear hc h
  go_enter Try.func23, Try.ntmps23
  go_wp2
  go_quiet (fail)
  go_wp2
  go_ret
  exact ⟨ret_i (word_num a b c d), _, rfl⟩

/-- it answers a number from lo to hi -/
def Picks (lo hi : Int) (w : World) (e : Ending) (w' : World) : Prop := ∃ k : Nat, (lo ≤ k ∧ (k : Int) ≤ hi) ∧ e = .returned (.int .i64 (k : Int)) ∧ w = w'
theorem picks_mk {r lo hi : Int} {w : World} (h0 : 0 ≤ lo) (h : lo ≤ r) (h' : r ≤ hi) : Picks lo hi w (.returned (.int .i64 r)) w :=
  ⟨r.toNat, by omega, by rw [Int.toNat_of_nonneg (by omega)], rfl⟩
theorem tmod_lo (a b : Int) (h : 0 < b) : -b < a.tmod b ∧ a.tmod b < b := by
  have h1 := Int.tmod_lt_of_pos a h
  have h2 := Int.lt_tmod_of_pos a h
  omega
theorem within_any (a lo hi : Int) (w : World) (h0 : 0 ≤ lo) (h : lo ≤ hi) (h' : hi ≤ 1125899906842624) : Calls Try.prog 15 #[.int .i64 a, .int .i64 lo, .int .i64 hi] w (Picks lo hi w) := by
  have ht := tmod_lo a (hi - lo + 1) (by omega)
  go_enter Try.func15, Try.ntmps15
  go_wp2
  all_goals
    go_ret
    exact picks_mk h0 (by omega) (by omega)

#print axioms radd_any
#print axioms within_any
end Go.Proofs.Ytgbnclaflhoabaa.SumWalks
