/-
  draykeep's Spoil: a plan that was made is written over; what lay there before it was made stays.
-/
import Derived.Test.YtbnhbbjmocclmaaPlanNew
import Derived.Test.YtbnhbbjmocclmaaLibRows
namespace Go.Proofs.Ytbnhbbjmocclmaa.Plan
open Go.ChangeShapes Go.WideShapes Go.ChangeAt Go.RowKit Go.Proofs.Ytbnhbbjmocclmaa.Mem Go.Proofs.Ytbnhbbjmocclmaa.FleetMath Go.Proofs.Ytbnhbbjmocclmaa.PlanMath Go.Proofs.Ytbnhbbjmocclmaa.Rec
set_option linter.unusedVariables false

/-- an own row, whatever it holds by now -/
def RowX (w : World) (base hi : Nat) (e : TypeId) (k : Nat) (A : Option Addr) (n c : Nat) : Prop := (A = none ∧ n = 0 ∧ c = 0) ∨ ∃ g vs, A = some ⟨g, 0, none⟩ ∧ base ≤ g ∧ g < hi ∧ Blk w g e vs ∧ n ≤ c ∧ vs.length = c * k ∧ c ≤ maxLen
theorem OwnK.rowX {w w' : World} {base k n c : Nat} {e : TypeId} {A : Option Addr} {vs : List Value} (h : OwnK w base e k (.slice A n c) n vs) (hb : Below w.heap.size w w') : RowX w' base w.heap.size e k A n c := by
  rcases h.1.2 with ⟨h1, h2⟩ | ⟨g, cap, cur, e1, hg, hh, h1, h2, h3, h4⟩
  · injection h1 with e1 e2 e3
    exact .inl ⟨e1, e2, e3⟩
  · injection e1 with e1 _ e3
    subst e3
    have hB : Blk w g e cur.toList := hh
    exact .inr ⟨g, cur.toList, e1, hg, hB.lt, hB.below hb hB.lt, h1, by simpa using h3, h2⟩
theorem RowX.set {w : World} {base hi k n c g i : Nat} {e : TypeId} {A : Option Addr} (h : RowX w base hi e k A n c) (u : Value) : RowX (w.setCell ⟨g, i, none⟩ u) base hi e k A n c := by
  rcases h with h | ⟨g', vs, e1, hg, hgh, hb, h1, h2, h3⟩
  · exact .inl h
  · by_cases hq : g' = g
    · subst hq
      exact .inr ⟨g', vs.set i u, e1, hg, hgh, hb.put i u, h1, by rw [List.length_set]; exact h2, h3⟩
    · exact .inr ⟨g', vs, e1, hg, hgh, (Below.heap_setCell w _ _ _ (by show g' ≠ g; exact hq)).trans hb, h1, h2, h3⟩
/-- the plan's routes from k on still stand; w0: before it was made; hi: its blocks lie below; w: when the writing began -/
structure SP (w0 w wr : World) (hi : Nat) (A : Option Addr) (n : Nat) (l : List RM) (k : Nat) : Prop where
  old : Below w0.heap.size w0 wr
  size : wr.heap.size = w.heap.size
  far : ∀ h, hi ≤ h → wr.heap[h]? = w.heap[h]?
  len : l.length = n
  row : 0 < n → ∃ g vs, A = some ⟨g, 0, none⟩ ∧ w0.heap.size ≤ g ∧ g < hi ∧ Blk wr g 26 vs ∧ n * 3 ≤ vs.length ∧ (∀ j x, k ≤ j → l[j]? = some x → vs[j * 3 + 2]? = some (.slice x.a x.n x.c)) ∧ ∀ r ∈ l, r.v.ownBlock ≠ some g
  each : ∀ r ∈ l, RowX wr w0.heap.size hi 23 2 r.a r.n r.c
theorem SP.start {w0 w3 w : World} {A : Option Addr} {c : Nat} {l : List RM} (h : NewP w0 w3 (.slice A l.length c) l) (hb : Below w3.heap.size w3 w) : SP w0 w w w3.heap.size A l.length l 0 := by
  refine ⟨h.old.trans (hb.mono h.old.size), rfl, fun _ _ => rfl, rfl, fun hn => ?_, fun r hr => OwnK.rowX (h.each r hr).1 hb⟩
  rcases h.own.blk with ⟨_, h0⟩ | ⟨g, cap, cur, e1, hg, hB, hnc, hl, ht⟩
  · omega
  · injection e1 with e1 _ _
    refine ⟨g, cur, e1, hg, hB.lt, hB.below hb hB.lt, by rw [hl]; exact Nat.mul_le_mul_right _ hnc, fun j x _ hx => ?_, fun r hr hq => ?_⟩
    · have h2 := (rmsV_at hx).2.2
      rw [← ht, List.getElem?_take] at h2
      split at h2
      · exact h2
      · cases h2
    · exact (h.each r hr).2 g hq (by rw [e1]; simp [Value.ownBlock])
section
variable {w0 w wr : World} {hi : Nat} {A : Option Addr} {n k : Nat} {l : List RM} {x : RM}
theorem SP.at_ (h : SP w0 w wr hi A n l k) (hk : k < n) : ∃ g x, A = some ⟨g, 0, none⟩ ∧ l[k]? = some x ∧ wr.cell? ⟨g, k * 3 + 2, none⟩ = some (.slice x.a x.n x.c) ∧ x.n ≤ x.c ∧ x.c ≤ maxLen := by
  obtain ⟨g, vs, e1, _, _, hB, _, hc, _⟩ := h.row (by omega)
  have hlt : k < l.length := by rw [h.len]; exact hk
  have hx := List.getElem?_eq_getElem hlt
  refine ⟨g, l[k], e1, hx, hB.cell (hc k _ (Nat.le_refl _) hx), ?_⟩
  rcases h.each _ (List.getElem_mem hlt) with ⟨_, h1, h2⟩ | ⟨_, _, _, _, _, _, h1, _, h2⟩
  · rw [h1, h2]; exact ⟨Nat.le_refl _, Nat.zero_le _⟩
  · exact ⟨h1, h2⟩
theorem SP.drew (h : SP w0 w wr hi A n l k) : SP w0 w wr.drew hi A n l k := ⟨h.old.drew, h.size, h.far, h.len, h.row, h.each⟩
theorem far_set {w wr : World} {g i hi : Nat} {u : Value} (h : ∀ q, hi ≤ q → wr.heap[q]? = w.heap[q]?) (hg : g < hi) (q : Nat) (hq : hi ≤ q) : (wr.setCell ⟨g, i, none⟩ u).heap[q]? = w.heap[q]? :=
  (Below.heap_setCell wr _ _ _ (by show q ≠ g; omega)).trans (h q hq)
theorem size_set {wr : World} {p : Addr} {u : Value} : (wr.setCell p u).heap.size = wr.heap.size := by simp [World.setCell]
/-- a stop is written over -/
theorem SP.stop {j : Nat} (h : SP w0 w wr hi A n l k) (hx : l[k]? = some x) (hj : j < x.c) (u v : Value) : ∃ g, x.a = some ⟨g, 0, none⟩ ∧ (∃ y, wr.cell? ⟨g, j * 2, none⟩ = some y) ∧ wr.frozen? ⟨g, j * 2, none⟩ = false ∧ (∃ y, wr.cell? ⟨g, j * 2 + 1, none⟩ = some y) ∧ wr.frozen? ⟨g, j * 2 + 1, none⟩ = false ∧
    SP w0 w ((wr.setCell ⟨g, j * 2, none⟩ u).setCell ⟨g, j * 2 + 1, none⟩ v) hi A n l k := by
  have hm := List.mem_of_getElem? hx
  rcases h.each x hm with ⟨_, _, h2⟩ | ⟨g, vs, e1, hg, hgh, hB, h1, h2, h3⟩
  · omega
  · refine ⟨g, e1, ⟨_, hB.cell (List.getElem?_eq_getElem (show j * 2 < vs.length by omega))⟩, hB.free _, ⟨_, hB.cell (List.getElem?_eq_getElem (show j * 2 + 1 < vs.length by omega))⟩, hB.free _, (h.old.setCell hg _).setCell hg _, by rw [size_set, size_set, h.size], far_set (far_set h.far hgh) hgh, h.len, fun hn => ?_, fun r hr => ((h.each r hr).set u).set v⟩
    obtain ⟨g', ws, d1, d2, d2', d3, d4, d5, d6⟩ := h.row hn
    have hne : g' ≠ g := by
      rintro rfl
      exact d6 x hm (by show (Value.slice x.a x.n x.c).ownBlock = _; rw [e1]; simp [Value.ownBlock])
    exact ⟨g', ws, d1, d2, d2', (Below.heap_setCell _ _ _ _ (by show g' ≠ g; exact hne)).trans ((Below.heap_setCell _ _ _ _ (by show g' ≠ g; exact hne)).trans d3), d4, d5, d6⟩
/-- a route is written over -/
theorem SP.route {g : Nat} (h : SP w0 w wr hi (some ⟨g, 0, none⟩) n l k) (hk : k < n) (a b c : Value) : (∃ y, wr.cell? ⟨g, k * 3, none⟩ = some y) ∧ wr.frozen? ⟨g, k * 3, none⟩ = false ∧ (∃ y, wr.cell? ⟨g, k * 3 + 1, none⟩ = some y) ∧ wr.frozen? ⟨g, k * 3 + 1, none⟩ = false ∧ (∃ y, wr.cell? ⟨g, k * 3 + 2, none⟩ = some y) ∧ wr.frozen? ⟨g, k * 3 + 2, none⟩ = false ∧
    SP w0 w (((wr.setCell ⟨g, k * 3, none⟩ a).setCell ⟨g, k * 3 + 1, none⟩ b).setCell ⟨g, k * 3 + 2, none⟩ c) hi (some ⟨g, 0, none⟩) n l (k + 1) := by
  obtain ⟨g', vs, d1, d2, d2', d3, d4, d5, d6⟩ := h.row (by omega)
  injection d1 with d1
  injection d1 with d1
  subst d1
  have hc : ∀ i, i < 3 → ∃ y, wr.cell? ⟨g, k * 3 + i, none⟩ = some y := fun i hi => ⟨_, d3.cell (List.getElem?_eq_getElem (show k * 3 + i < vs.length by omega))⟩
  refine ⟨hc 0 (by omega), d3.free _, hc 1 (by omega), d3.free _, hc 2 (by omega), d3.free _, ((h.old.setCell d2 _).setCell d2 _).setCell d2 _, by rw [size_set, size_set, size_set, h.size], far_set (far_set (far_set h.far d2') d2') d2', h.len, fun hn => ?_, fun r hr => (((h.each r hr).set a).set b).set c⟩
  refine ⟨g, _, rfl, d2, d2', ((d3.put _ a).put _ b).put _ c, by simpa using d4, fun j x hj hx => ?_, d6⟩
  rw [List.getElem?_set_ne (by omega), List.getElem?_set_ne (by omega), List.getElem?_set_ne (by omega)]
  exact d5 j x (by omega) hx
end
/-- a made plan in a later world, in which its own blocks stand as they were -/
theorem NewP.after {w0 w w' : World} {v : Value} {l : List RM} (h : NewP w0 w v l) (hb : ∀ r ∈ l, r.n * 16 ≤ 140737488351232) (hk : ∀ g, w0.heap.size ≤ g → g < w.heap.size → w'.heap[g]? = w.heap[g]?) : ∃ A c, v = .slice A l.length c ∧ Plns w' w'.heap.size A l.length l := by
  obtain ⟨A, c, e, hc, hr⟩ := (h.own.same hk).read
  refine ⟨A, c, e, hr, fun r hm => ?_⟩
  obtain ⟨A', c', e', hc', hr'⟩ := ((h.each r hm).1.same hk).read
  injection e' with e1 _ e2
  rw [e1, e2]
  exact ⟨hr', hc', hb r hm⟩

set_option maxRecDepth 100000 in
set_option maxHeartbeats 4000000 in
theorem spoil_any (w0 w3 w : World) (A : Option Addr) (n c : Nat) (l : List RM) (hn : l.length = n) (h : NewP w0 w3 (.slice A n c) l) (hb : Below w3.heap.size w3 w) :
    Calls Try.prog 29 #[.slice A n c] w (fun e w' => e = .returned (.tuple #[]) ∧ Below w0.heap.size w0 w' ∧ w'.heap.size = w.heap.size ∧ ∀ h, w3.heap.size ≤ h → w'.heap[h]? = w.heap[h]?) := by
  subst hn
  have hm : l.length ≤ maxLen := h.own.2
  unfold maxLen at hm
  have HP := Lib.hid (SP.start h hb)
  clear h hb
  obtain ⟨hi, hhi⟩ : ∃ hi, w3.heap.size = hi := ⟨_, rfl⟩
  rw [hhi] at HP ⊢
  clear hhi
  obtain ⟨n, hn⟩ : ∃ n, l.length = n := ⟨_, rfl⟩
  rw [hn] at HP hm ⊢
  clear hn
  go_enter Try.func29, Try.ntmps29
  go_wp2
  go_loopw [2] (fun i wr => ∃ k : Nat, k ≤ n ∧ i = .int .i64 k ∧ Hid (SP w0 w wr hi A n l k)) (fun i _ => n - (intOf i).toNat)
  case atStart => exact ⟨0, Nat.zero_le _, rfl, HP⟩
  case round =>
    clear HP
    obtain ⟨k, hk, rfl, HK⟩ := hrel
    by_cases hlt : k < n
    · obtain ⟨g, x, rfl, hx, c2, hnc, hcm⟩ := HK.out.at_ hlt
      unfold maxLen at hcm
      have HX := Lib.hid hx
      clear hx
      obtain ⟨xa, hxa⟩ : ∃ a, x.a = a := ⟨_, rfl⟩
      obtain ⟨xn, hxn⟩ : ∃ a, x.n = a := ⟨_, rfl⟩
      obtain ⟨xc, hxc⟩ : ∃ a, x.c = a := ⟨_, rfl⟩
      rw [hxa, hxn, hxc] at c2
      rw [hxn, hxc] at hnc
      rw [hxc] at hcm
      have HXA := Lib.hid hxa
      have HXC := Lib.hid hxc
      clear hxa hxn hxc
      go_wp2
      go_region
      go_wp2
      go_loopw [4] (fun i wr => ∃ j : Nat, j ≤ xc ∧ i = .int .i64 j ∧ Hid (SP w0 w wr hi (some ⟨g, 0, none⟩) n l k)) (fun i _ => xc - (intOf i).toNat)
      case atStart => exact ⟨0, Nat.zero_le _, rfl, HK.out.drew⟩
      case round =>
        clear HK c2
        obtain ⟨j, hj, rfl, HK⟩ := hrel
        by_cases hlt2 : j < xc
        · obtain ⟨g2, hga, ⟨u0, c0⟩, f0, ⟨u1, c1⟩, f1, hnx⟩ := HK.out.stop HX.out (j := j) (by rw [HXC.out]; exact hlt2) (.int .i64 (-7)) (.bool true)
          rw [HXA.out] at hga
          subst hga
          have HN := Lib.hid hnx
          clear hnx
          go_wp2
          go_roundw
          case rel => exact ⟨j + 1, by omega, by go_num, HN⟩
          case measure => simp [intOf]; omega
        · obtain ⟨⟨u0, c0⟩, f0, ⟨u1, c1⟩, f1, ⟨u2, c2⟩, f2, hnx⟩ := HK.out.route hlt (.int .i64 (-9)) (.int .i64 (-9)) (.slice none 0 0)
          have HN := Lib.hid hnx
          clear hnx
          go_wp2
          go_roundw
          case rel => exact ⟨k + 1, by omega, by go_num, HN⟩
          case measure => simp [intOf]; omega
    · go_wp2
      go_end0
      exact ⟨rfl, HK.out.old, HK.out.size, HK.out.far⟩

#print axioms spoil_any
end Go.Proofs.Ytbnhbbjmocclmaa.Plan
