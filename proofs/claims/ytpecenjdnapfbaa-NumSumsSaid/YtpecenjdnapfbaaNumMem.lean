/-
  Memory that a call makes, for lists of ints: Roomy (a copy with room behind it), Same, Intact: the contracts.
-/
import Derived.Test.YtpecenjdnapfbaaNumWalks
import Derived.RegionTactic
import Derived.Deep.QuietTactic
import Derived.BigQuiet
import Derived.Laws.CopyOwn
import Derived.Laws.MakeOwn
import Derived.OwnWalk
namespace Go.Proofs.Ytpecenjdnapfbaa.NumWalks
open Go.ChangeShapes Go.WideShapes Go.ChangeAt Go.RowKit Go.Proofs.Ytpecenjdnapfbaa.NumMath

theorem infoInt : (Try.prog.info? 3).map (fun i => (i.zero, i.size, i.bytes)) = some (some (.int .i64 0), 1, 8) := by kernel_rfl

/-- block g holds just these values, each may be written -/
def Row (w : World) (g : Nat) (vs : List Value) : Prop := w.heap[g]? = some (.cells vs.toArray 3 (0, 0))
theorem Row.lt {w : World} {g : Nat} {vs : List Value} (h : Row w g vs) : g < w.heap.size := by
  rcases Nat.lt_or_ge g w.heap.size with hlt | hge
  · exact hlt
  · unfold Row at h; rw [Array.getElem?_eq_none hge] at h; cases h
theorem Row.cell {w : World} {g : Nat} {vs : List Value} (h : Row w g vs) {i : Nat} {u : Value} (hu : vs[i]? = some u) : w.cell? ⟨g, i, none⟩ = some u := by
  have := cell_of_row w g i vs.toArray 3 (0, 0) h
  rw [this]; simpa using hu
theorem Row.free {w : World} {g : Nat} {vs : List Value} (h : Row w g vs) (i : Nat) : w.frozen? ⟨g, i, none⟩ = false := by
  unfold Row at h
  simp [World.frozen?, h]
theorem Row.put {w : World} {g : Nat} {vs : List Value} (h : Row w g vs) (i : Nat) (u : Value) : Row (w.setCell ⟨g, i, none⟩ u) g (vs.set i u) := by
  unfold Row at h ⊢
  simp [World.setCell, Array.getElem?_modify, h]
theorem Row.below {w w' : World} {B g : Nat} {vs : List Value} (h : Row w g vs) (hb : Below B w w') (hg : g < B) : Row w' g vs := (hb.block g hg).trans h

def intsV (xs : List Int) : List Value := xs.map (Value.int .i64 ·)
theorem intsV_at {xs : List Int} {j : Nat} {u : Int} (h : xs[j]? = some u) : (intsV xs)[j]? = some (.int .i64 u) := by simp [intsV, h]
theorem Row.ints {w : World} {g : Nat} {xs : List Int} (h : Row w g (intsV xs)) {n : Nat} (hn : n ≤ xs.length) (hm : n ≤ maxLen) (hw : ∀ x ∈ xs, (Lit.int .i64 x).wf = true) : Ints w w.heap.size (some ⟨g, 0, none⟩) n (xs.take n) := by
  refine ⟨by rw [List.length_take]; omega, hm, fun x hx => hw x (List.mem_of_mem_take hx), fun _ => ⟨g, 0, rfl, h.lt, fun j u hu => ?_⟩⟩
  have hj : xs[j]? = some u := by
    rw [List.getElem?_take] at hu
    split at hu
    · exact hu
    · cases hu
  rw [Nat.zero_add]
  exact h.cell (intsV_at hj)

theorem Ints.keep {w w' : World} {B : Nat} {A : Option Addr} {n : Nat} {xs : List Int} (h : Ints w B A n xs) (hb : Below B w w') : Ints w' B A n xs := by
  obtain ⟨h1, h2, h3, h4⟩ := h
  refine ⟨h1, h2, h3, fun hn => ?_⟩
  obtain ⟨b, off, e, hlt, hc⟩ := h4 hn
  exact ⟨b, off, e, hlt, fun j u hu => (hb.cell (p := ⟨b, off + j, none⟩) hlt).trans (hc j u hu)⟩
theorem Ints.more {w : World} {B B' : Nat} {A : Option Addr} {n : Nat} {xs : List Int} (h : Ints w B A n xs) (hB : B ≤ B') : Ints w B' A n xs := by
  obtain ⟨h1, h2, h3, h4⟩ := h
  refine ⟨h1, h2, h3, fun hn => ?_⟩
  obtain ⟨b, off, e, hlt, hc⟩ := h4 hn
  exact ⟨b, off, e, by omega, hc⟩

/-- Roomy's row when the marks stand up to k -/
def roomAt (xs : List Int) (m : Int) (k : Nat) : List Value := intsV (xs ++ (List.replicate (k - xs.length) m ++ List.replicate (xs.length + 80 - k) 0))
theorem roomAt_len (xs : List Int) (m : Int) (k : Nat) (h : xs.length ≤ k) (h' : k ≤ xs.length + 80) : (roomAt xs m k).length = xs.length + 80 := by
  simp [roomAt, intsV]; omega
theorem roomAt_set (xs : List Int) (m : Int) (k : Nat) (h : xs.length ≤ k) (h' : k < xs.length + 80) : (roomAt xs m k).set k (.int .i64 m) = roomAt xs m (k + 1) := by
  obtain ⟨d, rfl⟩ : ∃ d, k = xs.length + d := ⟨k - xs.length, by omega⟩
  obtain ⟨c, hc⟩ : ∃ c, 80 - d = c + 1 := ⟨80 - d - 1, by omega⟩
  have e1 : xs.length + 80 - (xs.length + d) = c + 1 := by omega
  have e2 : xs.length + 80 - (xs.length + d + 1) = c := by omega
  have e3 : xs.length + d - xs.length = d := by omega
  have e4 : xs.length + d + 1 - xs.length = d + 1 := by omega
  simp only [roomAt, intsV, e1, e2, e3, e4, List.map_append, List.map_replicate]
  rw [List.set_append_right _ _ (by simp)]
  congr 1
  rw [List.length_map, e3, List.set_append_right _ _ (by simp), List.length_replicate, Nat.sub_self, List.replicate_succ, List.set_cons_zero, List.replicate_succ' (n := d), List.append_assoc]
  rfl
theorem roomAt_end (xs : List Int) (m : Int) : roomAt xs m (xs.length + 80) = intsV (xs ++ List.replicate 80 m) := by
  simp [roomAt, Nat.add_sub_cancel_left]
theorem roomAt_start (xs : List Int) (m : Int) : splice (madeCells #[.int .i64 0] (xs.length + 80)).toList 0 (intsV xs) = roomAt xs m xs.length := by
  have e : (madeCells #[Value.int .i64 0] (xs.length + 80)).toList = List.replicate (xs.length + 80) (Value.int .i64 0) := by
    apply List.ext_getElem?
    intro i
    simp only [madeCells, Array.toList_map, Array.toList_range, List.getElem?_map, List.getElem?_replicate]
    by_cases h : i < xs.length + 80 <;> simp [h, Nat.mod_one]
  rw [e]
  simp [splice, roomAt, intsV]

theorem intsV_one (xs : List Int) : ∀ v ∈ intsV xs, v.oneCell' = true := by
  intro v hv
  simp only [intsV, List.mem_map] at hv
  obtain ⟨x, _, rfl⟩ := hv
  rfl

theorem room_round {wr : World} {g k n : Nat} {xs : List Int} {m : Int} (hx : xs.length = n) (h : Row wr g (roomAt xs m k)) (h1 : n ≤ k) (h2 : k < n + 80) :
    ∃ u, wr.cell? ⟨g, k, none⟩ = some u ∧ wr.frozen? ⟨g, k, none⟩ = false ∧ Hid (Row (wr.setCell ⟨g, k, none⟩ (.int .i64 m)) g (roomAt xs m (k + 1))) := by
  subst hx
  have hl := roomAt_len xs m k h1 (by omega)
  have hk : k < (roomAt xs m k).length := by omega
  refine ⟨_, h.cell (List.getElem?_eq_getElem hk), h.free k, ?_⟩
  have := h.put k (.int .i64 m)
  rw [roomAt_set xs m k h1 h2] at this
  exact this

theorem sizeInt : (Try.prog.info? 3).map (·.size) = some 1 := by kernel_rfl
theorem copy_src {w : World} {A : Option Addr} {n : Nat} {xs : List Int} {o : Obj} (h : Ints w w.heap.size A n xs) (hp : 0 < (intsV xs).length) :
    ∃ ad, A = some ad ∧ ∀ j v, (intsV xs)[j]? = some v → (w.alloc o).cell? (ad.add j) = some v := by
  obtain ⟨h1, _, _, h4⟩ := h
  obtain ⟨b, off, e, hlt, hc⟩ := h4 (by simp [intsV] at hp; omega)
  refine ⟨_, e, fun j v hv => ?_⟩
  simp only [intsV, List.getElem?_map, Option.map_eq_some_iff] at hv
  obtain ⟨u, hu, rfl⟩ := hv
  have e' : (Addr.mk b off none).add j = ⟨b, off + j, none⟩ := by
    by_cases h0 : j = 0
    · subst h0; simp [Addr.add]
    · simp [Addr.add, h0]
  rw [e', World.cell?_alloc_lt _ _ _ hlt]
  exact hc j u hu

set_option maxHeartbeats 400000 in
theorem roomy_any (A : Option Addr) (n c : Nat) (xs : List Int) (w : World) (m : Int) (h : Ints w w.heap.size A n xs) (hr : n * 8 ≤ 140737488351232) :
    Calls Try.prog 18 #[.slice A n c, .int .i64 m] w fun e w' => e = .returned (.slice (some ⟨w.heap.size, 0, none⟩) (n + 80) (n + 80)) ∧ Below w.heap.size w w' ∧ Row w' w.heap.size (intsV (xs ++ List.replicate 80 m)) := by
  obtain ⟨i0, hi, hz0, hz1, hz2⟩ := info_parts infoInt
  have hmk : ∀ u : World, (Instr.makeSlice 30 (.int .i64 ((n : Int) + 80)) (.int .i64 ((n : Int) + 80))).run Try.prog u =
      .ok (.slice (some ⟨u.heap.size, 0, none⟩) (n + 80) (n + 80)) (u.alloc (.cells (madeCells #[.int .i64 0] (n + 80)) 3)) := fun u => by
    have h := run_make (P := Try.prog) u 30 3 i0 (.int .i64 0) Try.underlying30 hi hz0 .i64 .i64 ((n : Int) + 80) ((n : Int) + 80) (by omega) (Int.le_refl _) (by rw [hz2]; omega) (by omega)
    have e : ((n : Int) + 80).toNat = n + 80 := by omega
    rw [e] at h
    simpa [hz1, Value.cells] using h
  have H := Lib.hid h
  have HX : Hid (xs.length = n) := h.1
  have HS := Lib.hid (copy_src (o := .cells (madeCells #[.int .i64 0] (n + 80)) 3) h)
  clear h hi hz0 hz1 hz2
  go_enter Try.func18, Try.ntmps18
  go_wp2_with (with_reducible refine wpList_copy_splice (o := ⟨some 13, _, _, _, _, _⟩) rfl (.tmp 11) (.tmp 12) 30 30 rfl 3 Try.underlying30 sizeInt _ _ _ _ _ _ rfl rfl w.heap.size 0 (madeCells #[.int .i64 0] (n + 80)).toList 3 (by rw [Array.toArray_toList]; exact heap_alloc_new w _) (intsV xs) (by simp [intsV, HX.out]) (fun h => ⟨rfl, HS.out h⟩) (by simp [size_madeCells, intsV, HX.out]) (intsV_one xs) w.heap.size w ((Below.refl _ _).alloc (Nat.le_refl _) _) (Nat.le_refl _) ?_; intro w1 HR hB)
  have HR1 : Hid (Row w1 w.heap.size (roomAt xs m n)) := by
    have e := roomAt_start xs m
    rw [HX.out] at e
    have := HR.out
    rw [e] at this
    exact this
  clear HR HS hmk
  go_loopw [6] (fun i wr => ∃ k : Nat, n ≤ k ∧ k ≤ n + 80 ∧ i = .int .i64 k ∧ Below w.heap.size w wr ∧ Hid (Row wr w.heap.size (roomAt xs m k))) (fun i _ => n + 80 - (intOf i).toNat)
  case atStart => exact ⟨n, Nat.le_refl _, by omega, rfl, hB, HR1⟩
  case round =>
    clear hB HR1
    obtain ⟨k, hk1, hk2, rfl, hbel, HRk⟩ := hrel
    by_cases hlt : k < n + 80
    · obtain ⟨u, hc, hf, HN⟩ := room_round HX.out HRk.out hk1 hlt
      go_wp2
      go_roundw
      case rel => exact ⟨k + 1, by omega, by omega, by go_num, hbel.setCell (Nat.le_refl _) _, HN⟩
      case measure => simp [intOf]; omega
    · obtain rfl : k = n + 80 := by omega
      go_wp2
      go_ret
      refine ⟨rfl, hbel, ?_⟩
      have := HRk.out
      rw [← HX.out, roomAt_end] at this
      exact this

def sameB (xs ys : List Int) : Bool := decide (xs = ys)
/-- it answers v, and does nothing but read -/
def Quietly (w : World) (v : Value) (e : Ending) (w' : World) : Prop := e = .returned v ∧ ∃ d, w' = w.drewN d
theorem ret_bool {a b : Bool} (h : a = b) : Ending.returned (.bool a) = .returned (.bool b) := by rw [h]
theorem take_more {xs ys : List Int} {k : Nat} {u : Int} (h : xs.take k = ys.take k) (hx : xs[k]? = some u) (hy : ys[k]? = some u) : xs.take (k + 1) = ys.take (k + 1) := by
  rw [List.take_add_one, List.take_add_one, h, hx, hy]
theorem differ {xs ys : List Int} {k : Nat} {u v : Int} (h : u ≠ v) (hx : xs[k]? = some u) (hy : ys[k]? = some v) : sameB xs ys = false := by
  simp only [sameB, decide_eq_false_iff_not]
  rintro rfl
  rw [hx] at hy
  exact h (Option.some.inj hy)

set_option maxHeartbeats 400000 in
theorem same_any (A A' : Option Addr) (n c n' c' : Nat) (xs ys : List Int) (B B' : Nat) (w : World) (h : Ints w B A n xs) (h' : Ints w B' A' n' ys) :
    Calls Try.prog 26 #[.slice A n c, .slice A' n' c'] w (Quietly w (.bool (sameB xs ys))) := by
  have hm : n ≤ 9223372036854775807 := by have := h.2.1; unfold maxLen at this; omega
  have H := Lib.hid h
  have H' := Lib.hid h'
  have HL := Lib.hid h.1
  have HL' := Lib.hid h'.1
  clear h h'
  by_cases hn : n = n'
  · subst hn
    go_enter Try.func26, Try.ntmps26
    go_wp2
    go_loopw [5] (fun i wr => ∃ (k d : Nat), k ≤ n ∧ i = .int .i64 k ∧ wr = w.drewN d ∧ Hid (xs.take k = ys.take k)) (fun i _ => n - (intOf i).toNat)
    case atStart => exact ⟨0, 0, Nat.zero_le _, rfl, rfl, rfl⟩
    case round =>
      obtain ⟨k, d, hk, rfl, rfl, HT⟩ := hrel
      by_cases hlt : k < n
      · obtain ⟨b, off, u, rfl, hu, hc, _, _⟩ := H.out.at_ hlt
        obtain ⟨b', off', v, rfl, hv, hc', _, _⟩ := H'.out.at_ hlt
        have HU := Lib.hid hu
        have HV := Lib.hid hv
        clear hu hv
        by_cases huv : u = v
        · subst huv
          have HN : Hid (xs.take (k + 1) = ys.take (k + 1)) := take_more HT.out HU.out HV.out
          go_wp2
          go_quiet (fail)
          go_wp2
          go_roundw
          case rel => exact ⟨k + 1, _, by omega, by go_num, rfl, HN⟩
          case measure => simp [intOf]; omega
        · have HN : Hid (sameB xs ys = false) := differ huv HU.out HV.out
          have hne : (u == v) = false := by simpa using huv
          have hne' : (u != v) = true := by simpa using huv
          clear huv
          go_wp2
          go_quiet (fail)
          go_wp2
          go_ret
          exact ⟨ret_bool HN.out.symm, _, World.drewN_drewN _ _ _⟩
      · have HN : Hid (sameB xs ys = true) := by
          have := HT.out
          rw [List.take_of_length_le (by have := HL.out; omega), List.take_of_length_le (by have := HL'.out; omega)] at this
          simp [sameB, this, Hid]
        go_wp2
        go_ret
        exact ⟨ret_bool HN.out.symm, _, rfl⟩
  · have HN : Hid (sameB xs ys = false) := by
      have h1 := HL.out
      have h2 := HL'.out
      simp only [Hid, sameB, decide_eq_false_iff_not]
      rintro rfl
      omega
    have hne : (n == n') = false := by simpa using hn
    have hne2 : ((n : Int) == (n' : Int)) = false := by simp; omega
    have hne3 : ((n : Int) != (n' : Int)) = true := by simp; omega
    clear hn
    go_enter Try.func26, Try.ntmps26
    go_wp2
    go_ret
    exact ⟨ret_bool HN.out.symm, 0, rfl⟩

theorem same_yes (A A' : Option Addr) (n c n' c' : Nat) (xs : List Int) (B B' : Nat) (w : World) (h : Ints w B A n xs) (h' : Ints w B' A' n' xs) :
    Calls Try.prog 26 #[.slice A n c, .slice A' n' c'] w (Quietly w (.bool true)) := by
  have := same_any A A' n c n' c' xs xs B B' w h h'
  rw [show sameB xs xs = true from by simp [sameB]] at this
  exact this

theorem mark_at {xs : List Int} {m : Int} {k n : Nat} (hx : xs.length = n) (h1 : n ≤ k) (h2 : k < n + 80) : (intsV (xs ++ List.replicate 80 m))[k]? = some (.int .i64 m) := by
  subst hx
  apply intsV_at
  rw [List.getElem?_append_right h1, List.getElem?_replicate, if_pos (by omega)]

set_option maxHeartbeats 400000 in
theorem intact_yes (A : Option Addr) (g n c : Nat) (xs : List Int) (B : Nat) (m : Int) (w : World) (h : Ints w B A n xs) (hn : n * 8 ≤ 140737488351232) (hw : (Lit.int .i64 m).wf = true) (hr : Row w g (intsV (xs ++ List.replicate 80 m))) :
    Calls Try.prog 21 #[.slice (some ⟨g, 0, none⟩) (n + 80) (n + 80), .slice A n c, .int .i64 m] w (Quietly w (.bool true)) := by
  have HO : Hid (Ints w w.heap.size (some ⟨g, 0, none⟩) n xs) := by
    have e := hr.ints (n := n) (by simp [h.1]) (by unfold maxLen; omega) (by
      intro x hx
      rcases List.mem_append.1 hx with hx | hx
      · exact h.2.2.1 x hx
      · rw [(List.mem_replicate.1 hx).2]; exact hw)
    rw [List.take_append_of_le_length (by have := h.1; omega), List.take_of_length_le (by have := h.1; omega)] at e
    exact e
  have H := Lib.hid h
  have HL := Lib.hid h.1
  have HR := Lib.hid hr
  clear h hr hw
  go_enter Try.func21, Try.ntmps21
  go_wp2_with (go_at_call 26; refine (same_yes _ _ _ _ _ _ xs _ _ _ HO.out H.out).mono ?_; rintro e w' ⟨rfl, d, rfl⟩)
  go_loop [7] (fun i => ∃ k : Nat, n ≤ k ∧ k ≤ n + 80 ∧ i = .int .i64 k) (fun i => n + 80 - (intOf i).toNat)
  case atStart => exact ⟨n, Nat.le_refl _, by omega, rfl⟩
  case round =>
    obtain ⟨k, hk1, hk2, rfl⟩ := hrel
    by_cases hlt : k < n + 80
    · have hc : w.cell? ⟨g, k, none⟩ = some (.int .i64 m) := HR.out.cell (mark_at HL.out hk1 hlt)
      go_wp2
      go_round
      case rel => exact ⟨k + 1, by omega, by omega, by go_num⟩
      case measure => simp [intOf]; omega
    · go_wp2
      go_ret
      exact ⟨rfl, d, rfl⟩

#print axioms intact_yes
end Go.Proofs.Ytpecenjdnapfbaa.NumWalks
