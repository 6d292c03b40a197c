import Derived.Test.YtilggpkmdmelmaaGreatWords
import Derived.RegionTactic
import Derived.Deep.QuietTactic
import Derived.BigQuiet
namespace Go.Proofs.YtilggpkmdmelmaaGreat.Rec
open Go.ChangeShapes Go.WideShapes Go.ChangeAt Go.RowKit Go.Proofs.YtilggpkmdmelmaaGreat.Mem Go.Proofs.YtilggpkmdmelmaaGreat.FleetMath
set_option maxRecDepth 100000 in
set_option maxHeartbeats 1000000 in
theorem sameStp (A A' : Option Addr) (n c c' : Nat) (xs : List Stp) (B B' : Nat) (w : World) (h : Stps w B A n xs) (h' : Stps w B' A' n xs) :
    Calls Tryz.prog 12 #[.slice A n c, .slice A' n c'] w (Quietly w (.bool true)) := by
  have hm := Recs.le h
  have H := Lib.hid h
  have H' := Lib.hid h'
  clear h h'
  go_enter Tryz.func12, Tryz.ntmps12
  go_wp2
  go_loopw [5] (fun i wr => ∃ (k d : Nat), k ≤ n ∧ i = .int .i64 k ∧ wr = w.drewN d) (fun i _ => n - (intOf i).toNat)
  case atStart => exact ⟨0, 0, Nat.zero_le _, rfl, rfl⟩
  case round =>
    obtain ⟨k, d, hk, rfl, rfl⟩ := hrel
    by_cases hlt : k < n
    · obtain ⟨b, off, x, rfl, _, hx, _, c0, c1⟩ := Stps.at_ H.out hlt
      obtain ⟨b', off', y, rfl, _, hy, _, d0, d1⟩ := Stps.at_ H'.out hlt
      rw [hx] at hy
      injection hy with hy
      subst hy
      clear hx
      go_wp2
      go_quiet (fail)
      go_wp2
      go_roundw
      case rel => exact ⟨k + 1, _, by omega, by go_num, rfl⟩
      case measure => simp [intOf]; omega
    · go_wp2
      go_ret
      exact ⟨rfl, _, rfl⟩
end Go.Proofs.YtilggpkmdmelmaaGreat.Rec
