/-
  The walks of the statements of chapter 1 that append lists: NumGrows, NumParts, NumBounds.
-/
import Derived.Test.YtpecenjdnapfbaaNumLists
import Derived.Test.YtpecenjdnapfbaaNumApp
namespace Go.Proofs.Ytpecenjdnapfbaa.NumWalks
open Go.ChangeShapes Go.WideShapes Go.ChangeAt Go.RowKit Go.Proofs.Ytpecenjdnapfbaa.NumMath
set_option linter.unusedVariables false

def Picks (hi : Int) (w : World) (e : Ending) (w' : World) : Prop := ∃ k : Nat, (k : Int) ≤ hi ∧ e = .returned (.int .i64 k) ∧ w = w'
theorem picks_mk {hi x : Int} {w : World} (h0 : 0 ≤ x) (h1 : x ≤ hi) : Picks hi w (.returned (.int .i64 x)) w := ⟨x.toNat, by omega, by rw [Int.toNat_of_nonneg h0], rfl⟩

theorem tmod_lo (a b : Int) (h : 0 < b) : -b < a.tmod b ∧ a.tmod b < b := by
  have h1 := Int.tmod_lt_of_pos a h
  have h2 := Int.lt_tmod_of_pos a h
  omega

theorem within_any (a hi : Int) (w : World) (h : 0 ≤ hi) (h' : hi ≤ 1125899906842624) : Calls Try.prog 23 #[.int .i64 a, .int .i64 0, .int .i64 hi] w (Picks hi w) := by
  have ht := tmod_lo a (hi + 1) (by omega)
  go_enter Try.func23, Try.ntmps23
  go_wp2
  all_goals
    go_ret
    exact picks_mk (by omega) (by omega)

theorem sum_val (A : Option Addr) (n c : Nat) (xs : List Int) (B : Nat) (w : World) (v : Int) (b : Bool) (h : Ints w B A n xs) (hv : sumV xs = v ∧ sumB xs = b) :
    Calls Try.prog 11 #[.slice A n c] w fun e w' => e = .returned (.tuple #[.int .i64 v, .bool b]) ∧ w = w' := by
  rw [← hv.1, ← hv.2]; exact sum_any A n c xs B w h
theorem sat_val (A : Option Addr) (n c : Nat) (xs : List Int) (B : Nat) (w : World) (v : Int) (h : Ints w B A n xs) (hv : satV xs = v) :
    Calls Try.prog 13 #[.slice A n c] w fun e w' => e = .returned (.int .i64 v) ∧ w = w' := by
  rw [← hv]; exact sat_any A n c xs B w h

/-- a row of the call's own that is not empty: its cells may be read and written -/
theorem OwnInts.cells {w : World} {base : Nat} {v : Value} {n k : Nat} {xs : List Int} (h : OwnInts w base v n xs) (hk : k < n) :
    ∃ g cap u, v = .slice (some ⟨g, 0, none⟩) n cap ∧ base ≤ g ∧ xs[k]? = some u ∧ w.cell? ⟨g, k, none⟩ = some (.int .i64 u) ∧ w.frozen? ⟨g, k, none⟩ = false ∧
      ∀ x, (Lit.int .i64 x).wf = true → OwnInts (w.setCell ⟨g, k, none⟩ (.int .i64 x)) base v n (xs.set k x) := by
  obtain ⟨⟨hl, h⟩, hw, hm⟩ := h
  have hl' : xs.length = n := by simpa [intsV] using hl
  rcases h with ⟨rfl, rfl⟩ | ⟨g, cap, cur, rfl, hg, hh, hnc, hcm, hcs, htk⟩
  · omega
  · have hx : xs[k]? = some xs[k] := List.getElem?_eq_getElem (by omega)
    refine ⟨g, cap, xs[k], rfl, hg, hx, ?_, by simp [World.frozen?, hh], fun x hx' => ⟨⟨?_, .inr ⟨g, cap, cur.setIfInBounds k (.int .i64 x), rfl, hg, ?_, hnc, hcm, ?_, ?_⟩⟩, ?_, hm⟩⟩
    · have e := cell_of_row w g k cur 3 (0, 0) hh
      rw [e]
      have hj := intsV_at hx
      rw [← htk, List.getElem?_take] at hj
      split at hj
      · simpa using hj
      · cases hj
    · simpa [intsV] using hl'
    · simp [World.setCell, Array.getElem?_modify, hh]
    · simpa using hcs
    · rw [Array.toList_setIfInBounds]
      rw [show intsV (xs.set k x) = (intsV xs).set k (.int .i64 x) from by simp [intsV, List.map_set], ← htk]
      rw [List.take_set]
    · intro y hy
      rcases List.mem_or_eq_of_mem_set hy with hy | rfl
      · exact hw y hy
      · exact hx'

theorem Ints.alloc {w : World} {B : Nat} {A : Option Addr} {n : Nat} {xs : List Int} (h : Ints w B A n xs) (hB : B ≤ w.heap.size) (o : Obj) : Ints (w.alloc o) B A n xs :=
  h.keep ((Below.refl _ _).alloc hB o)

theorem sat_set {xs : List Int} {k : Nat} {u o : Int} (hu : xs[k]? = some u) (h : u < o) : satV xs ≤ satV (xs.set k o) :=
  satGo_set_mono 0 xs k o fun n hn => by rw [hu] at hn; have := Option.some.inj hn; omega

/-- behind 'append([]int{}, l...)': the new row, what may be stored into it, and what was there before -/
theorem grown_row {w w1 : World} {A : Option Addr} {v1 : Value} {n k : Nat} {xs : List Int} {u o : Int} (hu : xs[k]? = some u) (ho : (Lit.int .i64 o).wf = true)
    (HV : OwnInts w1 w.heap.size v1 (0 + n) ([] ++ xs)) (HG : (w.alloc (.cells #[] 3)).grownBy w1 (Value.slice (some ⟨w.heap.size, 0, none⟩) 0 0).ownBlock) (hk : k < n) (hI : Ints w w.heap.size A n xs) :
    ∃ g cap, v1 = .slice (some ⟨g, 0, none⟩) n cap ∧ w.heap.size ≤ g ∧ w1.cell? ⟨g, k, none⟩ = some (.int .i64 u) ∧ w1.frozen? ⟨g, k, none⟩ = false ∧
      Hid (Ints (w1.setCell ⟨g, k, none⟩ (.int .i64 o)) w1.heap.size (some ⟨g, 0, none⟩) n (xs.set k o)) ∧ Hid (Below w.heap.size w w1) ∧ Hid (Ints w1 w.heap.size A n xs) ∧ Hid (Ints w1 w1.heap.size (some ⟨g, 0, none⟩) n xs) := by
  rw [Nat.zero_add, List.nil_append] at HV
  obtain ⟨g, cap, u', rfl, hg, hu', hcell, hfr, hset⟩ := HV.cells hk
  obtain rfl : u' = u := Option.some.inj (hu'.symm.trans hu)
  have hb : Below w.heap.size w w1 := OwnInts.below ((Below.refl _ _).alloc (Nat.le_refl _) _) (OwnInts.empty w w.heap.size (Nat.le_refl _)) HG (by simp) (Nat.le_refl _)
  obtain ⟨A', c', e, hr⟩ := (hset o ho).read
  injection e with e1 e2 e3
  subst e1
  have es : (w1.setCell ⟨g, k, none⟩ (.int .i64 o)).heap.size = w1.heap.size := by simp [World.setCell]
  rw [es] at hr
  obtain ⟨A', c', e, hr'⟩ := HV.read
  injection e with e1 e2 e3
  subst e1
  exact ⟨g, cap, rfl, hg, hcell, hfr, hr, hb, hI.keep hb, hr'⟩
theorem wf_at {w : World} {B : Nat} {A : Option Addr} {n k : Nat} {xs : List Int} {u : Int} (hu : xs[k]? = some u) (h : Ints w B A n xs) : (Lit.int .i64 u).wf = true :=
  h.2.2.1 u (List.mem_of_getElem? hu)

/-- what is left of NumGrows behind the copy: the store, the two Sats -/
theorem grows_walk (A : Option Addr) (n c : Nat) (xs : List Int) (a o : Int) (w : World) (hn : 0 < n) (hr : n * 8 ≤ 140737488351232) (ho : (Lit.int .i64 o).wf = true) (h : Ints w w.heap.size A n xs) :
    Calls Try.prog 9 #[.slice A n c, .int .i64 a, .int .i64 o] w fun e w' => e = .returned (.bool true) ∧ Below w.heap.size w w' := by
  have H := Lib.hid h
  have HO := Lib.hid ho
  have hne : (n == 0) = false := by simp; omega
  have hne' : ((n : Int) == 0) = false := by simp; omega
  clear h ho
  go_enter Try.func9, Try.ntmps9
  go_wp2_with fail
  refine (within_any _ _ _ (by omega) (by omega)).mono ?_
  rintro e w' ⟨k, hk, rfl, rfl⟩
  have hkn : k < n := by omega
  have HI0 : Hid (Ints (w.alloc (.cells #[] 3)) w.heap.size A n xs) := H.out.alloc (Nat.le_refl _) _
  obtain ⟨u, hu⟩ : ∃ u, xs[k]? = some u := ⟨_, List.getElem?_eq_getElem (by rw [H.out.1]; exact hkn)⟩
  have HU := Lib.hid hu
  clear hu
  obtain ⟨s, hs⟩ : ∃ s, satV xs = s := ⟨_, rfl⟩
  have HS := Lib.hid hs
  clear hs
  by_cases hlt : u < o
  · obtain ⟨t, ht⟩ : ∃ t, satV (xs.set k o) = t := ⟨_, rfl⟩
    have HT := Lib.hid ht
    have hst : s ≤ t := by rw [← ht, ← HS.out]; exact sat_set HU.out hlt
    clear ht
    go_wp2_with (at_builtin; refine wpList_append_ints (o := ⟨some 25, _, _, _, _, _⟩) rfl (.tmp 23) (.tmp 24) rfl rfl (OwnInts.empty w w.heap.size (Nat.le_refl _)) rfl HI0.out (by omega) (by simp) ?_; intro v1 w1 HV HG; obtain ⟨g, cap, rfl, hg, hcell, hfr, HW, HB, HR, HP⟩ := grown_row (o := o) HU.out HO.out HV.out HG.out hkn H.out)
    refine (sat_val _ _ _ (xs.set k o) _ _ t HW.out HT.out).mono ?_
    rintro e w' ⟨rfl, rfl⟩
    go_wp2_with fail
    refine (sat_val _ _ _ xs _ _ s (HR.out.keep ((Below.refl _ _).setCell hg _)) HS.out).mono ?_
    rintro e w' ⟨rfl, rfl⟩
    go_wp2_with fail
    refine (runs_any _).mono ?_
    rintro e w' ⟨rfl, hb2⟩
    go_wp2_with fail
    go_ret
    exact ⟨rfl, (HB.out.setCell hg _).trans (hb2.mono (by simpa [World.setCell] using HB.out.size))⟩
  · go_wp2_with (at_builtin; refine wpList_append_ints (o := ⟨some 25, _, _, _, _, _⟩) rfl (.tmp 23) (.tmp 24) rfl rfl (OwnInts.empty w w.heap.size (Nat.le_refl _)) rfl HI0.out (by omega) (by simp) ?_; intro v1 w1 HV HG; obtain ⟨g, cap, rfl, hg, hcell, hfr, HW, HB, HR, HP⟩ := grown_row (o := u) HU.out (wf_at HU.out H.out) HV.out HG.out hkn H.out)
    refine (sat_val _ _ _ xs _ _ s HP.out HS.out).mono ?_
    rintro e w' ⟨rfl, rfl⟩
    go_wp2_with fail
    refine (sat_val _ _ _ xs _ _ s HR.out HS.out).mono ?_
    rintro e w' ⟨rfl, rfl⟩
    go_wp2_with fail
    refine (runs_any _).mono ?_
    rintro e w' ⟨rfl, hb2⟩
    go_wp2_with fail
    go_ret
    exact ⟨rfl, HB.out.trans (hb2.mono HB.out.size)⟩

theorem numGrows_walk (A : Option Addr) (n c : Nat) (xs : List Int) (a o : Int) (w : World) (hl : n ≤ c) (hr : c * 8 ≤ 140737488351232) (h : Ints w w.heap.size A n xs) (_ : (Lit.int .i64 a).wf = true) (ho : (Lit.int .i64 o).wf = true) :
    Calls Try.prog 9 #[.slice A n c, .int .i64 a, .int .i64 o] w fun e w' => e = .returned (.bool true) ∧ Below w.heap.size w w' := by
  by_cases hn : 0 < n
  · exact grows_walk A n c xs a o w hn (by omega) ho h
  · obtain rfl : n = 0 := by omega
    obtain rfl : xs = [] := List.eq_nil_of_length_eq_zero h.1
    have H := Lib.hid h
    clear h hl hr ho hn
    go_enter Try.func9, Try.ntmps9
    go_wp2_with fail
    refine (sat_val _ _ _ [] _ _ 0 H.out rfl).mono ?_
    rintro e w' ⟨rfl, rfl⟩
    go_wp2_with fail
    refine (runs_any _).mono ?_
    rintro e w' ⟨rfl, hb2⟩
    go_wp2_with fail
    go_ret
    exact ⟨rfl, hb2⟩

#print axioms numGrows_walk
end Go.Proofs.Ytpecenjdnapfbaa.NumWalks
