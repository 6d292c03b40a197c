import Derived.Test.YtkpnmpjnpcjohaaGreatWords
import Derived.RegionTactic
import Derived.Deep.QuietTactic
import Derived.BigQuiet
namespace Go.Proofs.YtkpnmpjnpcjohaaGreat.Rec
open Go.ChangeShapes Go.WideShapes Go.ChangeAt Go.RowKit Mem FleetMath
set_option linter.unusedVariables false
theorem takeS_more {xs ys : List Stp} {k : Nat} {u : Stp} (h : xs.take k = ys.take k) (hx : xs[k]? = some u) (hy : ys[k]? = some u) : xs.take (k + 1) = ys.take (k + 1) := by
  rw [List.take_add_one, List.take_add_one, h, hx, hy]
theorem differS {xs ys : List Stp} {k : Nat} {u v : Stp} (h : u ≠ v) (hx : xs[k]? = some u) (hy : ys[k]? = some v) : decide (xs = ys) = false := by
  rw [decide_eq_false_iff_not]
  rintro rfl
  rw [hx] at hy
  exact h (Option.some.inj hy)
set_option maxRecDepth 100000 in
set_option maxHeartbeats 1000000 in
theorem sameStp_any (A A' : Option Addr) (n c n' c' : Nat) (xs ys : List Stp) (B B' : Nat) (w : World) (h : Stps w B A n xs) (h' : Stps w B' A' n' ys) :
    Calls Tryz.prog 13 #[.slice A n c, .slice A' n' c'] w (Quietly w (.bool (decide (xs = ys)))) := by
  have hm := Recs.le h
  have H := Lib.hid h
  have H' := Lib.hid h'
  have HL := Lib.hid (Stps.length h)
  have HL' := Lib.hid (Stps.length h')
  clear h h'
  by_cases hn : n = n'
  · subst hn
    go_enter Tryz.func13, Tryz.ntmps13
    go_wp2
    go_loopw [5] (fun i wr => ∃ (k d : Nat), k ≤ n ∧ i = .int .i64 k ∧ wr = w.drewN d ∧ Hid (xs.take k = ys.take k)) (fun i _ => n - (intOf i).toNat)
    case atStart => exact ⟨0, 0, Nat.zero_le _, rfl, rfl, rfl⟩
    case round =>
      obtain ⟨k, d, hk, rfl, rfl, HT⟩ := hrel
      by_cases hlt : k < n
      · obtain ⟨b, off, x, rfl, _, hx, _, c0, c1⟩ := Stps.at_ H.out hlt
        obtain ⟨b', off', y, rfl, _, hy, _, d0, d1⟩ := Stps.at_ H'.out hlt
        have HU := Lib.hid hx
        have HV := Lib.hid hy
        clear hx hy
        by_cases h1 : x.ord = y.ord
        · by_cases h2 : x.drop = y.drop
          · have hxy : x = y := by cases x; cases y; simp only at h1 h2; subst h1; subst h2; rfl
            subst hxy
            have HN : Hid (xs.take (k + 1) = ys.take (k + 1)) := takeS_more HT.out HU.out HV.out
            clear h1 h2
            go_wp2
            go_quiet (fail)
            go_wp2
            go_roundw
            case rel => exact ⟨k + 1, _, by omega, by go_num, rfl, HN⟩
            case measure => simp [intOf]; omega
          · have HN : Hid (decide (xs = ys) = false) := differS (fun e => h2 (by rw [e])) HU.out HV.out
            have z2 : (x.drop == y.drop) = false := by simpa using h2
            rw [← h1] at d0
            clear h1 h2
            go_wp2
            go_quiet (fail)
            go_wp2
            go_ret
            exact ⟨ret_bool HN.out.symm, _, World.drewN_drewN _ _ _⟩
        · have HN : Hid (decide (xs = ys) = false) := differS (fun e => h1 (by rw [e])) HU.out HV.out
          have z1 : (x.ord == y.ord) = false := by simpa using h1
          clear h1
          go_wp2
          go_quiet (fail)
          go_wp2
          go_ret
          exact ⟨ret_bool HN.out.symm, _, World.drewN_drewN _ _ _⟩
      · have HN : Hid (decide (xs = ys) = true) := by
          have := HT.out
          rw [List.take_of_length_le (by have := HL.out; omega), List.take_of_length_le (by have := HL'.out; omega)] at this
          simp [this, Hid]
        go_wp2
        go_ret
        exact ⟨ret_bool HN.out.symm, _, rfl⟩
  · have HN : Hid (decide (xs = ys) = false) := by
      have h1 := HL.out
      have h2 := HL'.out
      simp only [Hid, decide_eq_false_iff_not]
      rintro rfl
      omega
    have hne2 : ((n : Int) == (n' : Int)) = false := by simp; omega
    have hne3 : ((n : Int) != (n' : Int)) = true := by simp; omega
    clear hn
    go_enter Tryz.func13, Tryz.ntmps13
    go_wp2
    go_ret
    exact ⟨ret_bool HN.out.symm, 0, rfl⟩
end Go.Proofs.YtkpnmpjnpcjohaaGreat.Rec
