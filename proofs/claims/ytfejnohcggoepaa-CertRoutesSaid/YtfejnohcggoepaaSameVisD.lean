/-
  draybook's Same over lists of api.Visit, whatever they are: its contract.
-/
import Derived.Test.YtfejnohcggoepaaRecAll
namespace Go.Proofs.Ytfejnohcggoepaa.Rec
open Go.ChangeShapes Go.WideShapes Go.ChangeAt Go.RowKit Go.Proofs.Ytfejnohcggoepaa.Mem Go.Proofs.Ytfejnohcggoepaa.FleetMath
set_option linter.unusedVariables false
set_option linter.unusedSimpArgs false

deriving instance DecidableEq for Go.Proofs.Ytfejnohcggoepaa.FleetMath.Vis
theorem vis_eq {x y : Vis} (e0 : x.stop.ord = y.stop.ord) (e1 : x.stop.drop = y.stop.drop) (e2 : x.arrive = y.arrive) (e3 : x.start = y.start) (e4 : x.leave = y.leave) (e5 : x.load = y.load) : x = y := by
  obtain ⟨⟨a, b⟩, c, d, e, f⟩ := x
  obtain ⟨⟨a', b'⟩, c', d', e', f'⟩ := y
  simp only at *
  subst e0 e1 e2 e3 e4 e5
  rfl
theorem end_bool {a b : Bool} (h : a = b) : Ending.returned (.bool a) = .returned (.bool b) := by rw [h]
theorem take_eq {α : Type} {l m : List α} {k : Nat} {x y : α} (h : l.take k = m.take k) (hx : l[k]? = some x) (hy : m[k]? = some y) (he : x = y) : l.take (k + 1) = m.take (k + 1) := by
  rw [List.take_add_one, List.take_add_one, h, hx, hy, he]
theorem same_end {α : Type} [DecidableEq α] {l m : List α} {n : Nat} {r : Bool} (hr : decide (l = m) = r) (hl : l.length = n) (hm : m.length = n) (h : l.take n = m.take n) : true = r := by
  rw [← hr, List.take_of_length_le (by omega), List.take_of_length_le (by omega)] at *
  simp [h]
theorem same_not {α : Type} [DecidableEq α] {l m : List α} {k : Nat} {r : Bool} {x y : α} (hr : decide (l = m) = r) (hx : l[k]? = some x) (hy : m[k]? = some y) (he : x ≠ y) : false = r := by
  rw [← hr]
  refine (decide_eq_false fun h => he ?_).symm
  subst h
  rw [hx] at hy
  exact Option.some.inj hy
theorem same_len {α : Type} [DecidableEq α] {l m : List α} {r : Bool} (hr : decide (l = m) = r) (h : l.length ≠ m.length) : false = r := by
  rw [← hr]
  exact (decide_eq_false fun e => h (by rw [e])).symm

set_option maxRecDepth 100000 in
set_option maxHeartbeats 4000000 in
theorem sameVisD (A A' : Option Addr) (n n' c c' : Nat) (xs ys : List Vis) (r : Bool) (B B' : Nat) (w : World) (h : Viss w B A n xs) (h' : Viss w B' A' n' ys) (hr : decide (xs = ys) = r) :
    Calls Try.prog 22 #[.slice A n c, .slice A' n' c'] w (Quietly w (.bool r)) := by
  have hm := Recs.le h
  have hm' := Recs.le h'
  have H := Lib.hid h
  have H' := Lib.hid h'
  have HR := Lib.hid hr
  have L := Lib.hid h.length
  have L' := Lib.hid h'.length
  clear h h' hr
  by_cases hn : n = n'
  · subst hn
    go_enter Try.func22, Try.ntmps22
    go_wp2
    go_loopw [5] (fun i wr => ∃ (k d : Nat), k ≤ n ∧ i = .int .i64 k ∧ wr = w.drewN d ∧ Hid (xs.take k = ys.take k)) (fun i _ => n - (intOf i).toNat)
    case atStart => exact ⟨0, 0, Nat.zero_le _, rfl, rfl, rfl⟩
    case round =>
      obtain ⟨k, d, hk, rfl, rfl, HK⟩ := hrel
      by_cases hlt : k < n
      · obtain ⟨b, off, x, rfl, _, hx, _, c0, c1, c2, c3, c4, c5⟩ := Viss.at_ H.out hlt
        obtain ⟨b', off', y, rfl, _, hy, _, d0, d1, d2, d3, d4, d5⟩ := Viss.at_ H'.out hlt
        by_cases he : x = y
        · have HN : Hid (xs.take (k + 1) = ys.take (k + 1)) := take_eq HK.out hx hy he
          subst he
          clear hx hy HK
          go_wp2
          go_quiet (fail)
          go_wp2
          go_roundw
          case rel => exact ⟨k + 1, _, by omega, by go_num, rfl, HN⟩
          case measure => simp [intOf]; omega
        · have HF : Hid (false = r) := same_not HR.out hx hy he
          clear hx hy HK
          by_cases e0 : x.stop.ord = y.stop.ord
          case neg =>
            have z0 : (x.stop.ord == y.stop.ord) = false := by simpa using e0
            clear he e0
            go_wp2
            go_quiet (fail)
            go_wp2
            go_ret
            exact ⟨end_bool HF.out, _, by first | rfl | exact World.drewN_drewN ..⟩
          by_cases e1 : x.stop.drop = y.stop.drop
          case neg =>
            have z1 : (x.stop.drop == y.stop.drop) = false := by simpa using e1
            rw [e0] at c0
            clear he e1 e0
            go_wp2
            go_quiet (fail)
            go_wp2
            go_ret
            exact ⟨end_bool HF.out, _, by first | rfl | exact World.drewN_drewN ..⟩
          by_cases e2 : x.arrive = y.arrive
          case neg =>
            have z2 : (x.arrive == y.arrive) = false := by simpa using e2
            rw [e0] at c0
            rw [e1] at c1
            clear he e2 e0 e1
            go_wp2
            go_quiet (fail)
            go_wp2
            go_ret
            exact ⟨end_bool HF.out, _, by first | rfl | exact World.drewN_drewN ..⟩
          by_cases e3 : x.start = y.start
          case neg =>
            have z3 : (x.start == y.start) = false := by simpa using e3
            rw [e0] at c0
            rw [e1] at c1
            rw [e2] at c2
            clear he e3 e0 e1 e2
            go_wp2
            go_quiet (fail)
            go_wp2
            go_ret
            exact ⟨end_bool HF.out, _, by first | rfl | exact World.drewN_drewN ..⟩
          by_cases e4 : x.leave = y.leave
          case neg =>
            have z4 : (x.leave == y.leave) = false := by simpa using e4
            rw [e0] at c0
            rw [e1] at c1
            rw [e2] at c2
            rw [e3] at c3
            clear he e4 e0 e1 e2 e3
            go_wp2
            go_quiet (fail)
            go_wp2
            go_ret
            exact ⟨end_bool HF.out, _, by first | rfl | exact World.drewN_drewN ..⟩
          by_cases e5 : x.load = y.load
          case neg =>
            have z5 : (x.load == y.load) = false := by simpa using e5
            rw [e0] at c0
            rw [e1] at c1
            rw [e2] at c2
            rw [e3] at c3
            rw [e4] at c4
            clear he e5 e0 e1 e2 e3 e4
            go_wp2
            go_quiet (fail)
            go_wp2
            go_ret
            exact ⟨end_bool HF.out, _, by first | rfl | exact World.drewN_drewN ..⟩
          exact absurd (vis_eq e0 e1 e2 e3 e4 e5) he
      · have HF : Hid (true = r) := by
          obtain rfl : k = n := by omega
          exact same_end HR.out L.out L'.out HK.out
        clear HK
        go_wp2
        go_ret
        exact ⟨end_bool HF.out, _, by first | rfl | exact World.drewN_drewN ..⟩
  · have HF : Hid (false = r) := same_len HR.out (by rw [L.out, L'.out]; exact hn)
    have e1 : ((n : Int) != (n' : Int)) = true := by simp only [bne_iff_ne, ne_eq]; omega
    go_enter Try.func22, Try.ntmps22
    go_wp2
    go_ret
    exact ⟨end_bool HF.out, 0, rfl⟩

#print axioms sameVisD
end Go.Proofs.Ytfejnohcggoepaa.Rec
