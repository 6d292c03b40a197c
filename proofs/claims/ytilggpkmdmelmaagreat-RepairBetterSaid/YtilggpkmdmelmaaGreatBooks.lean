/-
  IntsSame, QuietIn: one text.
-/
import Derived.Test.YtilggpkmdmelmaaGreatLibRows
import Derived.RegionTactic
import Derived.Deep.QuietTactic
import Derived.BigQuiet
namespace Go.Proofs.YtilggpkmdmelmaaGreat.MemI
open Go.ChangeShapes Go.WideShapes Go.ChangeAt Go.RowKit Go.Proofs.YtilggpkmdmelmaaGreat.Mem
def sameB (xs ys : List Int) : Bool := decide (xs = ys)
theorem take_more {xs ys : List Int} {k : Nat} {u : Int} (h : xs.take k = ys.take k) (hx : xs[k]? = some u) (hy : ys[k]? = some u) : xs.take (k + 1) = ys.take (k + 1) := by
  rw [List.take_add_one, List.take_add_one, h, hx, hy]
theorem differ {xs ys : List Int} {k : Nat} {u v : Int} (h : u ≠ v) (hx : xs[k]? = some u) (hy : ys[k]? = some v) : sameB xs ys = false := by
  simp only [sameB, decide_eq_false_iff_not]
  rintro rfl
  rw [hx] at hy
  exact h (Option.some.inj hy)
set_option maxHeartbeats 400000 in
theorem same_any (A A' : Option Addr) (n c n' c' : Nat) (xs ys : List Int) (B B' : Nat) (w : World) (h : Ints w B A n xs) (h' : Ints w B' A' n' ys) :
    Calls Tryz.prog 20 #[.slice A n c, .slice A' n' c'] w (Quietly w (.bool (sameB xs ys))) := by
  have hm := h.le
  have H := Lib.hid h
  have H' := Lib.hid h'
  have HL := Lib.hid h.length
  have HL' := Lib.hid h'.length
  clear h h'
  by_cases hn : n = n'
  · subst hn
    go_enter Tryz.func20, Tryz.ntmps20
    go_wp2
    go_loopw [5] (fun i wr => ∃ (k d : Nat), k ≤ n ∧ i = .int .i64 k ∧ wr = w.drewN d ∧ Hid (xs.take k = ys.take k)) (fun i _ => n - (intOf i).toNat)
    case atStart => exact ⟨0, 0, Nat.zero_le _, rfl, rfl, rfl⟩
    case round =>
      obtain ⟨k, d, hk, rfl, rfl, HT⟩ := hrel
      by_cases hlt : k < n
      · obtain ⟨b, off, u, rfl, hu, hc, _, _⟩ := H.out.at_ hlt
        obtain ⟨b', off', v, rfl, hv, hc', _, _⟩ := H'.out.at_ hlt
        have HU := Lib.hid hu
        have HV := Lib.hid hv
        clear hu hv
        by_cases huv : u = v
        · subst huv
          have HN : Hid (xs.take (k + 1) = ys.take (k + 1)) := take_more HT.out HU.out HV.out
          go_wp2
          go_quiet (fail)
          go_wp2
          go_roundw
          case rel => exact ⟨k + 1, _, by omega, by go_num, rfl, HN⟩
          case measure => simp [intOf]; omega
        · have HN : Hid (sameB xs ys = false) := differ huv HU.out HV.out
          have hne : (u == v) = false := by simpa using huv
          have hne' : (u != v) = true := by simpa using huv
          clear huv
          go_wp2
          go_quiet (fail)
          go_wp2
          go_ret
          exact ⟨ret_bool HN.out.symm, _, World.drewN_drewN _ _ _⟩
      · have HN : Hid (sameB xs ys = true) := by
          have := HT.out
          rw [List.take_of_length_le (by have := HL.out; omega), List.take_of_length_le (by have := HL'.out; omega)] at this
          simp [sameB, this, Hid]
        go_wp2
        go_ret
        exact ⟨ret_bool HN.out.symm, _, rfl⟩
  · have HN : Hid (sameB xs ys = false) := by
      have h1 := HL.out
      have h2 := HL'.out
      simp only [Hid, sameB, decide_eq_false_iff_not]
      rintro rfl
      omega
    have hne : (n == n') = false := by simpa using hn
    have hne2 : ((n : Int) == (n' : Int)) = false := by simp; omega
    have hne3 : ((n : Int) != (n' : Int)) = true := by simp; omega
    clear hn
    go_enter Tryz.func20, Tryz.ntmps20
    go_wp2
    go_ret
    exact ⟨ret_bool HN.out.symm, 0, rfl⟩
theorem same_val (A A' : Option Addr) (n c n' c' : Nat) (xs ys : List Int) (B B' : Nat) (w : World) (r : Bool) (h : Ints w B A n xs) (h' : Ints w B' A' n' ys) (hr : sameB xs ys = r) :
    Calls Tryz.prog 20 #[.slice A n c, .slice A' n' c'] w (Quietly w (.bool r)) := by
  rw [← hr]; exact same_any A A' n c n' c' xs ys B B' w h h'
theorem same_yes (A A' : Option Addr) (n c n' c' : Nat) (xs : List Int) (B B' : Nat) (w : World) (h : Ints w B A n xs) (h' : Ints w B' A' n' xs) :
    Calls Tryz.prog 20 #[.slice A n c, .slice A' n' c'] w (Quietly w (.bool true)) :=
  same_val A A' n c n' c' xs xs B B' w true h h' (by simp [sameB])
end Go.Proofs.YtilggpkmdmelmaaGreat.MemI

namespace Go.Proofs.YtilggpkmdmelmaaGreat.Mem
open Go.ChangeShapes Go.WideShapes Go.ChangeAt Go.RowKit
theorem quiet_in {f : FuncId} {args : Array Value} {w : World} {n : Nat} {v : Value} (h : Calls Tryz.prog f args (w.drewN n) (Quietly (w.drewN n) v)) :
    Calls Tryz.prog f args (w.drewN n) fun e w'' => e = .returned v ∧ ∃ m, w'' = w.drewN m := Calls.quiet_of h
end Go.Proofs.YtilggpkmdmelmaaGreat.Mem
