/-
  SumTells and SumOpens walked.
-/
import Derived.Test.YtgbnclaflhoabaaSumRuns
import Derived.Test.YtgbnclaflhoabaaSumROpen
namespace Go.Proofs.Ytgbnclaflhoabaa.SumWalks
open Go.ChangeShapes Go.WideShapes Go.ChangeAt Go.RowKit Go.Proofs.Ytgbnclaflhoabaa.SumMath Go.Proofs.Ytgbnclaflhoabaa.Mem

theorem add_val (x : Int) (c : BitVec 32) (hx : x = c.toNat) (A : Option Addr) (n cap : Nat) (xs : List UInt8) (B : Nat) (w : World) (y : Int) (h : Bytes w B A n xs) (hy : ((crc c xs).toNat : Int) = y) :
    Calls Try.prog 14 #[.int .u32 x, .slice A n cap] w fun e w' => e = .returned (.int .u32 y) ∧ w = w' := by rw [← hy]; exact add_any x c hx A n cap xs B w h
theorem radd_val (x : Int) (c : BitVec 32) (hx : x = c.toNat) (A : Option Addr) (n cap : Nat) (xs : List UInt8) (B : Nat) (w : World) (y : Int) (h : Bytes w B A n xs) (hy : ((crc c xs).toNat : Int) = y) :
    Calls Try.prog 13 #[.int .u32 x, .slice A n cap] w fun e w' => e = .returned (.int .u32 y) ∧ w = w' := by rw [← hy]; exact radd_any x c hx A n cap xs B w h
theorem u32_of {x : Int} (h : (Lit.int .u32 x).wf = true) : ∃ c : BitVec 32, x = c.toNat := by
  have hb : 0 ≤ x ∧ x ≤ 4294967295 := by
    have h' := h
    simp [Lit.wf, IntKind.min, IntKind.max, IntKind.signed, IntKind.bits] at h'
    omega
  refine ⟨BitVec.ofNat 32 x.toNat, ?_⟩
  rw [BitVec.toNat_ofNat]
  omega

set_option maxHeartbeats 1000000 in
theorem sumTells_walk (x : Int) (A : Option Addr) (n c : Nat) (ps : List UInt8) (A' : Option Addr) (n' c' : Nat) (qs : List UInt8) (W : World) (hw : (Lit.int .u32 x).wf = true) (_ : n ≤ c) (_ : c ≤ 140737488351232) (h : Bytes W W.heap.size A n ps)
    (_ : n' ≤ c') (_ : c' ≤ 140737488351232) (h' : Bytes W W.heap.size A' n' qs) :
    Calls Try.prog 4 #[.int .u32 x, .slice A n c, .slice A' n' c'] W fun e w' => e = .returned (.bool true) ∧ Below W.heap.size W w' := by
  obtain ⟨cb, hx⟩ := u32_of hw
  obtain ⟨y1, hy1⟩ : ∃ y : Int, ((crc 0#32 ps).toNat : Int) = y := ⟨_, rfl⟩
  obtain ⟨y2, hy2⟩ : ∃ y : Int, ((crc cb ps).toNat : Int) = y := ⟨_, rfl⟩
  obtain ⟨y3, hy3⟩ : ∃ y : Int, ((crc 0#32 (ps ++ qs)).toNat : Int) = y := ⟨_, rfl⟩
  have hy3' : ((crc (crc 0#32 ps) qs).toNat : Int) = y3 := by rw [← crc_append]; exact hy3
  have HX := Lib.hid hx
  have HY1 := Lib.hid hy1
  have HY1' : Hid (y1 = ((crc 0#32 ps).toNat : Int)) := hy1.symm
  have HY2 := Lib.hid hy2
  have HY3 := Lib.hid hy3
  have HY3' := Lib.hid hy3'
  have H := Lib.hid h
  have H' := Lib.hid h'
  clear hx hy1 hy2 hy3 hy3' h h' hw
  go_enter Try.func4, Try.ntmps4
  go_wp2_with fail
  refine (radd_val 0 0#32 rfl A n c ps _ W y1 H.out HY1.out).mono ?_
  rintro e w' ⟨rfl, rfl⟩
  go_wp2_with fail
  refine (add_val x cb HX.out A n c ps _ W y2 H.out HY2.out).mono ?_
  rintro e w' ⟨rfl, rfl⟩
  go_wp2_with fail
  refine (radd_val x cb HX.out A n c ps _ W y2 H.out HY2.out).mono ?_
  rintro e w' ⟨rfl, rfl⟩
  go_wp2_with fail
  refine (of1 _ _ A n c ps W.heap.size y1 (by go_simp) (by exact H.out.alloc (Nat.le_refl _) _) HY1.out).mono ?_
  rintro e w' ⟨rfl, rfl⟩
  go_wp2_with fail
  refine (of2 _ _ A A' n c n' c' ps qs W.heap.size y3 (by go_simp) (by go_simp) (by exact (H.out.alloc (Nat.le_refl _) _).alloc (by simp) _) (by exact (H'.out.alloc (Nat.le_refl _) _).alloc (by simp) _) HY3.out).mono ?_
  rintro e w' ⟨rfl, rfl⟩
  go_wp2_with fail
  refine (radd_val y1 (crc 0#32 ps) HY1'.out A' n' c' qs W.heap.size _ y3 (by exact (H'.out.alloc (Nat.le_refl _) _).alloc (by simp) _) HY3'.out).mono ?_
  rintro e w' ⟨rfl, rfl⟩
  go_wp2_with fail
  refine (runs_any _).mono ?_
  rintro e w' ⟨rfl, hb⟩
  go_wp2_with fail
  go_ret
  exact ⟨rfl, (((Below.refl _ _).alloc (Nat.le_refl _) _).alloc (by simp) _).trans (hb.mono (by simp; omega))⟩

set_option maxHeartbeats 1000000 in
theorem sumOpens_walk (A : Option Addr) (n c : Nat) (xs : List UInt8) (W : World) (hc : n ≤ c) (hr : c ≤ 140737488351232) (h : Bytes W W.heap.size A n xs) :
    Calls Try.prog 7 #[.slice A n c] W fun e w' => e = .returned (.bool true) ∧ Below W.heap.size W w' := by
  have H := Lib.hid h
  clear h
  go_enter Try.func7, Try.ntmps7
  go_wp2_with fail
  refine (open_any A n c xs W H.out hc (by omega)).mono ?_
  rintro e w1 ⟨v1, rfl, hb1, ho1⟩
  obtain ⟨A1, c1, rfl, _, hr1⟩ := ho1.read
  have HB1 := Lib.hid hb1
  have HR1 := Lib.hid hr1
  clear hb1 ho1 hr1
  go_wp2_with fail
  refine (ropen_any A n c xs w1 ((H.out.keep HB1.out).more HB1.out.size) hc (by omega)).mono ?_
  rintro e w2 ⟨v2, rfl, hb2, ho2⟩
  obtain ⟨A2, c2, rfl, _, hr2⟩ := ho2.read
  have HB2 := Lib.hid hb2
  have HR2 := Lib.hid hr2
  clear hb2 ho2 hr2
  have HR1' : Hid (Bytes w2 w1.heap.size A1 (opened xs).length (opened xs)) := HR1.out.keep HB2.out
  generalize isSealed xs = b at *
  have hbb : (b == b) = true := by cases b <;> rfl
  go_wp2_with fail
  refine (same_yes _ _ _ _ _ _ (opened xs) _ _ _ HR1'.out HR2.out).mono ?_
  rintro e w' ⟨rfl, d, rfl⟩
  go_wp2_with fail
  refine (runs_any _).mono ?_
  rintro e w3 ⟨rfl, hb3⟩
  go_wp2_with fail
  go_ret
  exact ⟨rfl, (below_drewN (HB1.out.trans (HB2.out.mono HB1.out.size)) d).trans (hb3.mono (Nat.le_trans HB1.out.size HB2.out.size))⟩

#print axioms sumTells_walk
#print axioms sumOpens_walk
end Go.Proofs.Ytgbnclaflhoabaa.SumWalks
