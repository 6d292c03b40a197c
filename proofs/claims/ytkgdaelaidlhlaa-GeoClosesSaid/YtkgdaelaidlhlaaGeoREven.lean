/-
  The document's own answer to chapter 4, walked: Even.
-/
import Derived.Test.YtkgdaelaidlhlaaGeoMem
namespace Go.Proofs.Ytkgdaelaidlhlaa.Geo
open Go.ChangeShapes Go.WideShapes Go.ChangeAt Go.RowKit Go.Proofs.Ytkgdaelaidlhlaa.Mem Go.Proofs.Ytkgdaelaidlhlaa.MemI Go.Proofs.Ytkgdaelaidlhlaa.GeoMath

set_option maxRecDepth 100000 in
set_option maxHeartbeats 1000000 in
theorem reven_any (base b n : Nat) (l : List Int) (w : World) (h : MapAt w 60 base b n l) (hn : n ≤ 12) (hm : IsMap n l) :
    Calls Try.prog 22 #[.pointer (some ⟨b, 0, none⟩)] w (Quietly w (.bool (evenB n l))) := by
  obtain ⟨g0, cp, hb, hi, hcap⟩ := h.open_
  have z0 := hb.cell (i := 0) rfl
  have z1 := hb.cell (i := 1) rfl
  have HI := Lib.hid hi
  have HM := Lib.hid hm
  clear h hb hi hm
  go_enter Try.func22, Try.ntmps22
  go_wp2
  go_loopw [3] (fun i wr => ∃ (x d : Nat), x ≤ n ∧ i = .int .i64 x ∧ wr = w.drewN d ∧ Hid (Held n l x 0 0)) (fun i _ => n - (intOf i).toNat)
  case atStart => exact ⟨0, 0, Nat.zero_le _, rfl, rfl, Held.start n l⟩
  case round =>
    obtain ⟨x, d, hx, rfl, rfl, HX⟩ := hrel
    by_cases hlt : x < n
    · go_wp2
      go_loopw [4] (fun i wr => ∃ (y d : Nat), y ≤ n ∧ i = .int .i64 y ∧ wr = w.drewN d ∧ Hid (Held n l x y 0)) (fun i _ => n - (intOf i).toNat)
      case atStart => exact ⟨0, d, Nat.zero_le _, rfl, rfl, HX⟩
      case round =>
        clear HX
        obtain ⟨y, d, hy, rfl, rfl, HY⟩ := hrel
        by_cases hlt2 : y < n
        · go_wp2
          go_loopw [5] (fun i wr => ∃ (z d : Nat), z ≤ n ∧ i = .int .i64 z ∧ wr = w.drewN d ∧ Hid (Held n l x y z)) (fun i _ => n - (intOf i).toNat)
          case atStart => exact ⟨0, d, Nat.zero_le _, rfl, rfl, HY⟩
          case round =>
            clear HY
            obtain ⟨z, d, hz, rfl, rfl, HZ⟩ := hrel
            by_cases hlt3 : z < n
            · obtain ⟨q, r, i, j, k, f1, f2, f3, f4, f5, ⟨b1, b2, b3, b4, b5⟩, ⟨u1, u2, u3⟩, ⟨c1, c2, c3⟩, hidx⟩ := tri_facts hn hlt hlt2 hlt3 HI.out
              clear hidx
              have l1 := HM.out.T_lo hlt hlt3
              have l2 := HM.out.T_hi hlt hlt3
              have l3 := HM.out.T_lo hlt hlt2
              have l4 := HM.out.T_hi hlt hlt2
              have l5 := HM.out.T_lo hlt2 hlt3
              have l6 := HM.out.T_hi hlt2 hlt3
              by_cases hgt : T n l x y + T n l y z < T n l x z
              · have HN : Hid (evenB n l = false) := not_even hlt hlt2 hlt3 hgt
                obtain ⟨t1, ht1⟩ : ∃ t, T n l x z = t := ⟨_, rfl⟩
                obtain ⟨t2, ht2⟩ : ∃ t, T n l x y = t := ⟨_, rfl⟩
                obtain ⟨t3, ht3⟩ : ∃ t, T n l y z = t := ⟨_, rfl⟩
                rw [ht1] at l1 l2 c1 hgt
                rw [ht2] at l3 l4 c2 hgt
                rw [ht3] at l5 l6 c3 hgt
                clear ht1 ht2 ht3
                go_wp2
                go_quiet (fail)
                go_wp2
                go_ret
                exact ⟨ret_bool HN.out.symm, _, World.drewN_drewN _ _ _⟩
              · have HN : Hid (Held n l x y (z + 1)) := HZ.out.more (by omega)
                obtain ⟨t1, ht1⟩ : ∃ t, T n l x z = t := ⟨_, rfl⟩
                obtain ⟨t2, ht2⟩ : ∃ t, T n l x y = t := ⟨_, rfl⟩
                obtain ⟨t3, ht3⟩ : ∃ t, T n l y z = t := ⟨_, rfl⟩
                rw [ht1] at l1 l2 c1 hgt
                rw [ht2] at l3 l4 c2 hgt
                rw [ht3] at l5 l6 c3 hgt
                clear ht1 ht2 ht3
                go_wp2
                go_quiet (fail)
                go_wp2
                go_roundw
                case rel => exact ⟨z + 1, _, by omega, by go_num, rfl, HN⟩
                case measure => simp [intOf]; omega
            · have HN : Hid (Held n l x (y + 1) 0) := by
                have e : z = n := by omega
                subst e
                exact HZ.out.next
              go_wp2
              go_roundw
              case rel => exact ⟨y + 1, _, by omega, by go_num, rfl, HN⟩
              case measure => simp [intOf]; omega
        · have HN : Hid (Held n l (x + 1) 0 0) := by
            have e : y = n := by omega
            subst e
            exact HY.out.row
          go_wp2
          go_roundw
          case rel => exact ⟨x + 1, _, by omega, by go_num, rfl, HN⟩
          case measure => simp [intOf]; omega
    · have HN : Hid (evenB n l = true) := by
        have e : x = n := by omega
        subst e
        exact HX.out.even
      go_wp2
      go_ret
      exact ⟨ret_bool HN.out.symm, _, rfl⟩

#print axioms reven_any
end Go.Proofs.Ytkgdaelaidlhlaa.Geo
