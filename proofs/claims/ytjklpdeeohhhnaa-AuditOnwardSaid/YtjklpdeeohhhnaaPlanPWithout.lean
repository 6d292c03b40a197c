/-
  The program's plan.Without, walked: with its set of numbers.
-/
import Derived.Test.YtjklpdeeohhhnaaPlanPExcept
import Derived.Test.YtjklpdeeohhhnaaPlanPSmalls
import Derived.Test.YtjklpdeeohhhnaaLibRows
namespace Go.Proofs.Ytjklpdeeohhhnaa.Plan
open Go.ChangeShapes Go.WideShapes Go.ChangeAt Go.RowKit Go.Proofs.Ytjklpdeeohhhnaa.Mem Go.Proofs.Ytjklpdeeohhhnaa.FleetMath Go.Proofs.Ytjklpdeeohhhnaa.PlanMath Go.Proofs.Ytjklpdeeohhhnaa.Rec
set_option linter.unusedVariables false

/-- what a plan that was made is: all of it is the call's own -/
def Made (w w' : World) (v : Value) (p : List Rte) : Prop := ∃ l', NewP w w' v l' ∧ l'.map (·.rt) = p ∧ ∀ r ∈ l', r.n * 16 ≤ 140737488351232
theorem infoRte' : (Try.prog.info? 40).map (fun i => (i.zero, i.size, i.bytes)) = some (some (.agg #[.int .i64 0, .int .i64 0, .slice none 0 0]), 3, 40) := by kernel_rfl
def zeroR : RM := ⟨⟨0, 0, []⟩, none, 0, 0⟩
theorem madeRts (n : Nat) : (madeCells #[.int .i64 0, .int .i64 0, .slice none 0 0] (n * 3)).toList = rmsV (List.replicate n zeroR) := by
  induction n with
  | zero => simp [madeCells, rmsV]
  | succ n ih =>
    rw [show (n + 1) * 3 = n * 3 + 1 + 1 + 1 by omega]
    have e : madeCells #[.int .i64 0, .int .i64 0, .slice none 0 0] (n * 3 + 1 + 1 + 1) = (((madeCells #[.int .i64 0, .int .i64 0, .slice none 0 0] (n * 3)).push (.int .i64 0)).push (.int .i64 0)).push (.slice none 0 0) := by
      unfold madeCells
      rw [Array.range_succ, Array.range_succ, Array.range_succ]
      have e0 : (n * 3) % 3 = 0 := by omega
      have e1 : (n * 3 + 1) % 3 = 1 := by omega
      have e2 : (n * 3 + 1 + 1) % 3 = 2 := by omega
      simp [e0, e1, e2]
    rw [e, Array.toList_push, Array.toList_push, Array.toList_push, ih, List.replicate_succ', rmsV_append, List.append_assoc, List.append_assoc]
    rfl
/-- a plan that is filled route by route, in a block made whole -/
structure Fill (w0 w : World) (g n : Nat) (l : List RM) : Prop where
  old : Below w0.heap.size w0 w
  ge : w0.heap.size ≤ g
  le : l.length ≤ n
  blk : Blk w g 40 (rmsV (l ++ List.replicate (n - l.length) zeroR))
  each : ∀ r ∈ l, OwnK w w0.heap.size 36 2 r.v r.n (stpsV r.rt.stops) ∧ Two r.v (.slice (some ⟨g, 0, none⟩) n n)
theorem own_of_blk {w : World} {base g k n : Nat} {e : TypeId} {vs : List Value} (h : Blk w g e vs) (hg : base ≤ g) (hl : vs.length = n * k) (hm : n ≤ maxLen) : OwnK w base e k (.slice (some ⟨g, 0, none⟩) n n) n vs :=
  ⟨⟨by rw [hl], .inr ⟨g, n, vs.toArray, rfl, hg, h, Nat.le_refl _, hm, by simp [hl], by simp [← hl]⟩⟩, hm⟩
theorem Fill.start {w0 w : World} {n : Nat} (hb : Below w0.heap.size w0 w) : Fill w0 (w.alloc (.cells (madeCells #[.int .i64 0, .int .i64 0, .slice none 0 0] (n * 3)) 40)) w.heap.size n [] := by
  refine ⟨hb.alloc hb.size _, hb.size, Nat.zero_le _, ?_, fun r h => by cases h⟩
  rw [List.nil_append, List.length_nil, Nat.sub_zero, ← madeRts]
  unfold Blk
  rw [Array.toArray_toList]
  exact heap_alloc_new w _
theorem Fill.keep {w0 w w' : World} {g n : Nat} {l : List RM} (h : Fill w0 w g n l) (hb : Below w.heap.size w w') : Fill w0 w' g n l :=
  ⟨h.old.trans (hb.mono h.old.size), h.ge, h.le, h.blk.below hb h.blk.lt, fun r hr => ⟨(h.each r hr).1.keep hb (Nat.le_refl _), (h.each r hr).2⟩⟩
theorem Fill.done {w0 w : World} {g n : Nat} {l : List RM} (h : Fill w0 w g n l) (hn : l.length = n) (hm : n ≤ maxLen) : NewP w0 w (.slice (some ⟨g, 0, none⟩) n n) l := by
  have hb := h.blk
  rw [hn, Nat.sub_self, List.replicate_zero, List.append_nil] at hb
  refine ⟨h.old, ?_, h.each⟩
  rw [hn]
  exact own_of_blk hb h.ge (by rw [rmsV_len, hn]) hm
/-- the cells of the route that is next -/
theorem Fill.next {w0 w : World} {g n : Nat} {l : List RM} (h : Fill w0 w g n l) (hn : l.length < n) : ∀ j, j < 3 → (∃ u, w.cell? ⟨g, l.length * 3 + j, none⟩ = some u) ∧ w.frozen? ⟨g, l.length * 3 + j, none⟩ = false := by
  intro j hj
  refine ⟨?_, h.blk.free _⟩
  have hlt : l.length * 3 + j < (rmsV (l ++ List.replicate (n - l.length) zeroR)).length := by
    rw [rmsV_len, List.length_append, List.length_replicate]
    omega
  exact ⟨_, h.blk.cell (List.getElem?_eq_getElem hlt)⟩
/-- a route is written -/
abbrev put3 (w : World) (g o : Nat) (r : RM) : World := ((w.setCell ⟨g, o, none⟩ (.int .i64 r.rt.drv)).setCell ⟨g, o + 1, none⟩ (.int .i64 r.rt.served)).setCell ⟨g, o + 2, none⟩ r.v
theorem rmsV_put (l : List RM) (z r : RM) (t : List RM) : (((rmsV (l ++ z :: t)).set (l.length * 3) (.int .i64 r.rt.drv)).set (l.length * 3 + 1) (.int .i64 r.rt.served)).set (l.length * 3 + 2) r.v = rmsV (l ++ r :: t) := by
  rw [rmsV_append, rmsV_append]
  have e : (rmsV l).length = l.length * 3 := rmsV_len l
  have e1 : rmsV (z :: t) = .int .i64 z.rt.drv :: .int .i64 z.rt.served :: .slice z.a z.n z.c :: rmsV t := rfl
  have e2 : rmsV (r :: t) = .int .i64 r.rt.drv :: .int .i64 r.rt.served :: .slice r.a r.n r.c :: rmsV t := rfl
  rw [e1, e2, ← e, List.set_append_right _ _ (Nat.le_refl _), Nat.sub_self, List.set_append_right _ _ (by omega), List.set_append_right _ _ (by omega), Nat.add_sub_cancel_left, Nat.add_sub_cancel_left]
  rfl
theorem Fill.put {w0 w : World} {g n : Nat} {l : List RM} {r : RM} (h : Fill w0 w g n l) (hn : l.length < n) (ho : OwnK w w0.heap.size 36 2 r.v r.n (stpsV r.rt.stops)) (ht : Two r.v (.slice (some ⟨g, 0, none⟩) n n)) :
    Fill w0 (put3 w g (l.length * 3) r) g n (l ++ [r]) := by
  have hne : ∀ (r : RM), Two r.v (.slice (some ⟨g, 0, none⟩) n n) → ∀ q, r.v.ownBlock = some q → q ≠ g := fun r h2 q hq e => by
    subst e
    exact h2 q hq rfl
  have hoth : ∀ q, q ≠ g → (put3 w g (l.length * 3) r).heap[q]? = w.heap[q]? := fun q hq =>
    (Below.heap_setCell _ _ _ _ hq).trans ((Below.heap_setCell _ _ _ _ hq).trans (Below.heap_setCell _ _ _ _ hq))
  have hown : ∀ (x : RM), OwnK w w0.heap.size 36 2 x.v x.n (stpsV x.rt.stops) → Two x.v (.slice (some ⟨g, 0, none⟩) n n) → OwnK (put3 w g (l.length * 3) r) w0.heap.size 36 2 x.v x.n (stpsV x.rt.stops) := by
    rintro x ⟨⟨h1, h2⟩, h3⟩ h4
    refine ⟨⟨h1, ?_⟩, h3⟩
    rcases h2 with h2 | ⟨q, cap, cur, e, hq, hh, hr⟩
    · exact .inl h2
    · exact .inr ⟨q, cap, cur, e, hq, (hoth q (hne x h4 q (by rw [e]; rfl))).trans hh, hr⟩
  refine ⟨((h.old.setCell h.ge _).setCell h.ge _).setCell h.ge _, h.ge, by rw [List.length_append]; exact hn, ?_, fun x hx => ?_⟩
  · have hb := ((h.blk.put (l.length * 3) (.int .i64 r.rt.drv)).put (l.length * 3 + 1) (.int .i64 r.rt.served)).put (l.length * 3 + 2) r.v
    have e : List.replicate (n - l.length) zeroR = zeroR :: List.replicate (n - (l ++ [r]).length) zeroR := by
      rw [List.length_append, List.length_singleton, show n - l.length = (n - (l.length + 1)) + 1 by omega, List.replicate_succ]
    rw [e, rmsV_put] at hb
    rw [List.append_assoc]
    exact hb
  · rcases List.mem_append.1 hx with hx | hx
    · exact ⟨hown x (h.each x hx).1 (h.each x hx).2, (h.each x hx).2⟩
    · obtain rfl : x = r := by simpa using hx
      exact ⟨hown x ho ht, ht⟩
#print axioms Fill.put

/-! ### the walk -/
theorem set_ext {w : World} {b n : Nat} {p q : Int → Bool} (h : SetI w b n p) (e : ∀ z, p z = q z) : SetI w b n q := by
  have : p = q := funext e
  rwa [← this]
/-- which numbers are out, ahead of route k's stop j -/
def outP (os : List Int) (p : List Rte) (s : List Stp) (z : Int) : Bool := decide (z ∈ os) && !(begunP p z || s.any fun t => decide (t.ord = z))
theorem outP_stop {os : List Int} {p : List Rte} {s : List Stp} {t : Stp} (z : Int) : (outP os p s z && !decide (z = t.ord)) = outP os p (s ++ [t]) z := by
  unfold outP
  rw [List.any_append]
  simp only [List.any_cons, List.any_nil, Bool.or_false]
  have e : decide (t.ord = z) = decide (z = t.ord) := by simp [eq_comm]
  rw [e]
  cases decide (z ∈ os) <;> cases begunP p z <;> cases (s.any fun t => decide (t.ord = z)) <;> cases decide (z = t.ord) <;> rfl
theorem outP_route {os : List Int} {p : List Rte} {x : Rte} (z : Int) : outP os p (doneR x) z = outP os (p ++ [x]) [] z := by
  unfold outP begunP
  rw [List.any_append]
  simp
/-- the set beside what is made -/
structure WI (w wr : World) (m : Nat) (p : Int → Bool) : Prop where
  old : Below w.heap.size w wr
  set : SetI wr w.heap.size m p
theorem WI.below {w wr w' : World} {m : Nat} {p : Int → Bool} (h : WI w wr m p) (hb : Below wr.heap.size wr w') : WI w w' m p := ⟨h.old.trans (hb.mono h.old.size), h.set.below hb h.set.lt⟩
theorem WI.turn {w wr w' : World} {m m' : Nat} {p q : Int → Bool} (h : WI w wr m p) (hs : SetI w' w.heap.size m' q) (ht : wr.mapTurned w' w.heap.size) : WI w w' m' q := ⟨h.old.trans (turned_below ht (Nat.le_refl _) h.old.size), hs⟩

def exR (p : Int → Bool) (r : Rte) : Rte := ⟨r.drv, r.served, r.stops.filter fun s => !p s.ord⟩
/-- the state ahead of route k3's copy -/
structure FS (w wr : World) (g n m : Nat) (p : Int → Bool) (l : List RM) (k : Nat) (l' : List RM) : Prop where
  wi : WI w wr m p
  fill : Fill w wr g n l'
  rts : l'.map (·.rt) = (l.take k).map fun r => exR p r.rt
  fits : ∀ r ∈ l', r.n * 16 ≤ 140737488351232
  far : w.heap.size < g
  len : l'.length = k
theorem FS.keep {w wr w' : World} {g n m k : Nat} {p : Int → Bool} {l l' : List RM} (h : FS w wr g n m p l k l') (hb : Below wr.heap.size wr w') : FS w w' g n m p l k l' := ⟨h.wi.below hb, h.fill.keep hb, h.rts, h.fits, h.far, h.len⟩
theorem FS.next {w wr w1 w' : World} {g n m k : Nat} {p : Int → Bool} {l l' : List RM} {x : RM} {v : Value} {A : Option Addr} {c : Nat} (h : FS w wr g n m p l k l') (hk : k < n) (hx : l[k]? = some x) (hb : Below wr.heap.size wr w1)
    (he : ES w1 w' v (x.rt.stops.filter fun s => !p s.ord)) (hv : v = .slice A (x.rt.stops.filter fun s => !p s.ord).length c) (hm : (x.rt.stops.filter fun s => !p s.ord).length * 16 ≤ 140737488351232) :
    FS w (put3 w' g (k * 3) ⟨exR p x.rt, A, (x.rt.stops.filter fun s => !p s.ord).length, c⟩) g n m p l (k + 1) (l' ++ [⟨exR p x.rt, A, (x.rt.stops.filter fun s => !p s.ord).length, c⟩]) := by
  have hs := h.wi.old.size
  have hs1 := hb.size
  have hb' : Below wr.heap.size wr w' := hb.trans (he.old.mono hs1)
  have h1 := h.keep hb'
  have ho : OwnK w' w.heap.size 36 2 (.slice A (x.rt.stops.filter fun s => !p s.ord).length c) (x.rt.stops.filter fun s => !p s.ord).length (stpsV (x.rt.stops.filter fun s => !p s.ord)) := by
    rw [← hv]
    exact he.own.lower (by omega)
  have hgl : g < w1.heap.size := Nat.lt_of_lt_of_le h.fill.blk.lt hs1
  have ht : Two (.slice A (x.rt.stops.filter fun s => !p s.ord).length c) (.slice (some ⟨g, 0, none⟩) n n) := by
    intro q hq e
    rw [← hv] at hq
    have := (own_blk he.own hq).1
    have e' : g = q := by simpa [Value.ownBlock] using e
    omega
  have hf := h1.fill.put (r := ⟨exR p x.rt, A, (x.rt.stops.filter fun s => !p s.ord).length, c⟩) (by rw [h.len]; exact hk) ho ht
  rw [h.len] at hf
  have hne : w.heap.size ≠ g := Nat.ne_of_lt h.far
  refine ⟨⟨hf.old, h1.wi.set.block ?_⟩, hf, ?_, fun r hr => ?_, h.far, by rw [List.length_append, h.len]; rfl⟩
  · exact (Below.heap_setCell _ _ _ _ hne).trans ((Below.heap_setCell _ _ _ _ hne).trans (Below.heap_setCell _ _ _ _ hne))
  · rw [List.map_append, h.rts, List.take_add_one, hx, List.map_append]
    rfl
  · rcases List.mem_append.1 hr with hr | hr
    · exact h.fits r hr
    · obtain rfl : r = _ := by simpa using hr
      exact hm
theorem FS.cells {w wr : World} {g n m k : Nat} {p : Int → Bool} {l l' : List RM} (h : FS w wr g n m p l k l') (hk : k < n) : (∃ u, wr.cell? ⟨g, k * 3, none⟩ = some u) ∧ wr.frozen? ⟨g, k * 3, none⟩ = false ∧ (∃ u, wr.cell? ⟨g, k * 3 + 1, none⟩ = some u) ∧ wr.frozen? ⟨g, k * 3 + 1, none⟩ = false ∧ (∃ u, wr.cell? ⟨g, k * 3 + 2, none⟩ = some u) ∧ wr.frozen? ⟨g, k * 3 + 2, none⟩ = false := by
  have := h.fill.next (by rw [h.len]; exact hk)
  rw [h.len] at this
  obtain ⟨a0, b0⟩ := this 0 (by omega)
  obtain ⟨a1, b1⟩ := this 1 (by omega)
  obtain ⟨a2, b2⟩ := this 2 (by omega)
  exact ⟨a0, b0, a1, b1, a2, b2⟩
theorem with_eq (l : List RM) (os : List Int) : (l.map fun r => exR (outP os (l.map (·.rt)) []) r.rt) = withoutP (l.map (·.rt)) os := by
  unfold withoutP
  rw [List.map_map]
  refine List.map_congr_left fun r _ => ?_
  simp only [Function.comp_apply, exR, Rte.mk.injEq, true_and]
  refine List.filter_congr fun s _ => ?_
  simp only [outP, List.any_nil, Bool.or_false]
  cases decide (s.ord ∈ os) <;> cases begunP (l.map (·.rt)) s.ord <;> rfl
theorem filter_len (p : Stp → Bool) (l : List Stp) {n : Nat} (h : l.length = n) : (l.filter p).length ≤ n := by rw [← h]; exact List.length_filter_le _ _

set_option maxRecDepth 100000 in
set_option maxHeartbeats 4000000 in
theorem pwithout_any (A : Option Addr) (n c : Nat) (l : List RM) (A2 : Option Addr) (m c2 : Nat) (os : List Int) (w : World) (hl : Plns w w.heap.size A n l) (hn40 : n * 40 ≤ 140737488351232) (ho : Ints w w.heap.size A2 m os)
    (hw1 : ∀ r ∈ l, ∀ s ∈ r.rt.stops, (Lit.int .i64 s.ord).wf = true) (hw2 : ∀ z ∈ os, (Lit.int .i64 z).wf = true) :
    Calls Try.prog 24 #[.slice A n c, .slice A2 m c2] w (fun e w' => ∃ v, e = .returned v ∧ Made w w' v (withoutP (l.map (·.rt)) os)) := by
  have hm := Recs.le hl.rows
  have hm2 := Reads.le ho
  have HL := Lib.hid hl.length
  have HL2 := Lib.hid ho.length
  have HI := Lib.hid hl
  have HO := Lib.hid ho
  have HW1 := Lib.hid hw1
  have HW2 := Lib.hid hw2
  have hmm := @run_makeMap Try.prog
  have hmk : ∀ u : World, (Instr.makeSlice 42 (.int .i64 (n : Int)) (.int .i64 (n : Int))).run Try.prog u = .ok (.slice (some ⟨u.heap.size, 0, none⟩) n n) (u.alloc (.cells (madeCells #[.int .i64 0, .int .i64 0, .slice none 0 0] (n * 3)) 40)) := fun u => by
    obtain ⟨i0, hi, hz0, hz1, hz2⟩ := info_parts infoRte'
    have h := run_make (P := Try.prog) u 42 40 i0 (.agg #[.int .i64 0, .int .i64 0, .slice none 0 0]) Try.underlying42 hi hz0 .i64 .i64 (n : Int) (n : Int) (by omega) (Int.le_refl _) (by rw [hz2]; omega) (by omega)
    rw [Int.toNat_natCast, hz1] at h
    exact h
  have HS0 : Hid (WI w (w.alloc (.map #[] 0)) 0 (fun z => decide (z ∈ os.take 0))) := ⟨(Below.refl _ _).alloc (Nat.le_refl _) _, set_ext (SetI.made w) (fun z => by simp)⟩
  clear hl ho hw1 hw2
  go_enter Try.func24, Try.ntmps24
  go_wp2
  go_loopw [18] (fun i wr => ∃ (k : Nat), k ≤ m ∧ i = .int .i64 k ∧ Hid (WI w wr k (fun z => decide (z ∈ os.take k)))) (fun i _ => m - (intOf i).toNat)
  case atStart => exact ⟨0, Nat.zero_le _, rfl, HS0⟩
  case round =>
    clear HS0
    obtain ⟨k, hk, rfl, HS⟩ := hrel
    by_cases hlt : k < m
    · obtain ⟨b, off, u, rfl, hu, c0, hbb, hdr⟩ := Ints.at_ (Reads.keep HO.out HS.out.old) hlt
      have HSW : Hid ((Lit.int .i64 u).wf = true) := HW2.out u (List.mem_of_getElem? hu)
      have HT : Hid (os.take (k + 1) = os.take k ++ [u]) := Lib.hid (by rw [List.take_add_one, hu]; rfl)
      clear hu hdr hbb
      go_wp2_with (at_mapUpdate; refine put_num rfl _ _ _ rfl u HS.out.set (by unfold maxLen; omega) HSW.out rfl rfl rfl ?_; intro w2 hs2 ht2; (try simp only [Act.put]))
      have HS3 : Hid (WI w w2 (k + 1) (fun z => decide (z ∈ os.take (k + 1)))) := HS.out.turn (set_ext hs2 (fun z => by rw [HT.out]; simp)) ht2
      clear hs2 ht2 HS
      go_roundw
      case rel => exact ⟨k + 1, by omega, by go_num, HS3⟩
      case measure => simp [intOf]; omega
    · have hke : k = m := by omega
      subst hke
      have HS1 : Hid (WI w wr k (outP os ((l.map (·.rt)).take 0) [])) := ⟨HS.out.old, set_ext HS.out.set (fun z => by rw [List.take_of_length_le (by rw [HL2.out]; exact Nat.le_refl _)]; simp [outP, begunP])⟩
      clear HS
      go_wp2
      go_loopw [28] (fun i wr => ∃ (k2 : Nat), k2 ≤ n ∧ i = .int .i64 k2 ∧ Hid (WI w wr k (outP os ((l.map (·.rt)).take k2) []))) (fun i _ => n - (intOf i).toNat)
      case atStart => exact ⟨0, Nat.zero_le _, rfl, HS1⟩
      case round =>
        clear HS1
        obtain ⟨k2, hk2, rfl, HS⟩ := hrel
        obtain ⟨wo, rfl⟩ : ∃ z, z = wr := ⟨_, rfl⟩
        by_cases hlt : k2 < n
        · obtain ⟨b, off, x, rfl, hbb, hx, hdr, c0, c1, c2', hst, hxc⟩ := (HI.out.keep HS.out.old).at_ hlt
          have HX := Lib.hid hx
          have hxm := Recs.le hst
          have HXL := Lib.hid hst.length
          have HXW : Hid (∀ s ∈ x.rt.stops, (Lit.int .i64 s.ord).wf = true) := Lib.hid (HW1.out x (List.mem_of_getElem? hx))
          have HS1 : Hid (WI w (wo.alloc (.cells #[.int .i64 x.rt.drv, .int .i64 x.rt.served, .slice x.a x.n x.c] 40)) k (outP os ((l.map (·.rt)).take k2) [])) := HS.out.below ((Below.refl _ _).alloc (Nat.le_refl _) _)
          clear hx hdr hst HS
          go_wp2_with fail
          refine (pdone_any _ _ _ x.rt _ (by exact hxc) (by exact hxm)).mono ?_
          rintro e w1 ⟨⟨A', rfl, hA'⟩, hb1⟩
          have HS2 : Hid (WI w w1 k (outP os ((l.map (·.rt)).take k2) (x.rt.stops.take 0))) := by rw [List.take_zero]; exact HS1.out.below hb1
          have hdl := doneN_le x.rt x.n
          have HDT := Lib.hid (doneR_take x.rt HXL.out)
          obtain ⟨d, hd⟩ : ∃ d, doneN x.rt x.n = d := ⟨_, rfl⟩
          rw [hd] at hdl HDT hA' ⊢
          have HA := Lib.hid hA'
          clear hd hA' hb1 HS1 c0 c1 c2'
          go_wp2
          go_loopw [35] (fun i wi => ∃ (j : Nat), j ≤ d ∧ i = .int .i64 j ∧ Hid (WI w wi k (outP os ((l.map (·.rt)).take k2) (x.rt.stops.take j)))) (fun i _ => d - (intOf i).toNat)
          case atStart => exact ⟨0, Nat.zero_le _, rfl, HS2⟩
          case round =>
            clear HS2
            obtain ⟨j, hj, rfl, HSI⟩ := hrel
            by_cases hlt2 : j < d
            · obtain ⟨_, _, y, _, _, hy, _, _, _, _, hst, _⟩ := (HI.out.keep HSI.out.old).at_ hlt
              obtain rfl : y = x := by have h := HX.out; rw [h] at hy; injection hy with h; exact h.symm
              obtain ⟨b2, off2, s, hxa, hbb2, hs, hdr2, s0, s1⟩ := Stps.at_ hst (i := j) (by omega)
              have hAA := HA.out (by omega)
              rw [hxa] at hAA
              subst hAA
              have HSW : Hid ((Lit.int .i64 s.ord).wf = true) := HXW.out s (List.mem_of_getElem? hs)
              have HT : Hid (y.rt.stops.take (j + 1) = y.rt.stops.take j ++ [s]) := Lib.hid (by rw [List.take_add_one, hs]; rfl)
              have HS2 : Hid (WI w (wr.alloc (.cells #[.int .i64 s.ord, .bool s.drop] 36)) k (outP os ((l.map (·.rt)).take k2) (y.rt.stops.take j))) := HSI.out.below ((Below.refl _ _).alloc (Nat.le_refl _) _)
              clear hst hy hs hdr2 hbb2 hxa HSI
              go_wp2_with (at_delete; refine del_num rfl _ _ rfl s.ord HS2.out.set HSW.out rfl rfl ?_; intro w2 hs2 ht2; (try simp only [Act.put]))
              have HS3 : Hid (WI w w2 k (outP os ((l.map (·.rt)).take k2) (y.rt.stops.take (j + 1)))) := HS2.out.turn (set_ext hs2 (fun z => by rw [HT.out]; exact outP_stop z)) ht2
              clear hs2 ht2 HS2
              go_roundw
              case rel => exact ⟨j + 1, by omega, by go_num, HS3⟩
              case measure => simp [intOf]; omega
            · have hje : j = d := by omega
              subst hje
              have HS3 : Hid (WI w wr k (outP os ((l.map (·.rt)).take (k2 + 1)) [])) := by
                have h := HSI.out
                refine ⟨h.old, set_ext h.set fun z => ?_⟩
                have e : (l.map (·.rt)).take (k2 + 1) = (l.map (·.rt)).take k2 ++ [x.rt] := by rw [List.take_add_one, List.getElem?_map, HX.out]; rfl
                rw [e, ← HDT.out]
                exact outP_route z
              clear HSI
              go_wp2
              go_roundw
              case rel => exact ⟨k2 + 1, by omega, by go_num, HS3⟩
              case measure => simp [intOf]; omega
        · have hke : k2 = n := by omega
          subst hke
          have HS1 : Hid (WI w wo k (outP os (l.map (·.rt)) [])) := by
            have h := HS.out
            rw [List.take_of_length_le (by rw [List.length_map, HL.out]; exact Nat.le_refl _)] at h
            exact h
          obtain ⟨p, hp⟩ : ∃ p, outP os (l.map (·.rt)) [] = p := ⟨_, rfl⟩
          rw [hp] at HS1
          have HP := Lib.hid hp
          clear hp HS
          have HS2 : Hid (WI w (wo.alloc (.cells (madeCells #[.int .i64 0, .int .i64 0, .slice none 0 0] (k2 * 3)) 40)) k p) := HS1.out.below ((Below.refl _ _).alloc (Nat.le_refl _) _)
          have HF0 : Hid (Fill w (wo.alloc (.cells (madeCells #[.int .i64 0, .int .i64 0, .slice none 0 0] (k2 * 3)) 40)) wo.heap.size k2 []) := Fill.start HS1.out.old
          have HFS : Hid (FS w (wo.alloc (.cells (madeCells #[.int .i64 0, .int .i64 0, .slice none 0 0] (k2 * 3)) 40)) wo.heap.size k2 k p l 0 []) := ⟨HS2.out, HF0.out, rfl, (fun r h => by cases h), HS1.out.set.lt, rfl⟩
          clear HS1 HS2 HF0
          go_wp2
          clear hmk
          go_loopw [49] (fun i wr => ∃ (k3 : Nat) (l' : List RM), k3 ≤ k2 ∧ i = .int .i64 k3 ∧ Hid (FS w wr wo.heap.size k2 k p l k3 l')) (fun i _ => k2 - (intOf i).toNat)
          case atStart => exact ⟨0, [], Nat.zero_le _, rfl, HFS⟩
          case round =>
            clear HFS
            obtain ⟨k3, l', hk3, rfl, HS⟩ := hrel
            by_cases hlt : k3 < k2
            · obtain ⟨b, off, x, rfl, hbb, hx, hdr, c0, c1, c2', hst, hxc⟩ := (HI.out.keep HS.out.wi.old).at_ hlt
              have HX := Lib.hid hx
              have HXT := Lib.hid hst
              have hfit : x.n * 16 ≤ 140737488351232 := (HI.out.each x (List.mem_of_getElem? hx)).2.2
              have hfl := filter_len (fun s => !p s.ord) x.rt.stops hst.length
              have HXW : Hid (∀ s ∈ x.rt.stops, (Lit.int .i64 s.ord).wf = true) := Lib.hid (HW1.out x (List.mem_of_getElem? hx))
              have HB1 : Hid (Below wr.heap.size wr (wr.alloc (.cells #[.int .i64 x.rt.drv, .int .i64 x.rt.served, .slice x.a x.n x.c] 40)).drew) := ((Below.refl _ _).alloc (Nat.le_refl _) _).drew
              have HQ1 : Hid (Blk (wr.alloc (.cells #[.int .i64 x.rt.drv, .int .i64 x.rt.served, .slice x.a x.n x.c] 40)).drew wr.heap.size 40 [.int .i64 x.rt.drv, .int .i64 x.rt.served, .slice x.a x.n x.c]) := Blk.new _ _ _
              have q0 := HQ1.out.cell (i := 0) rfl
              have q1 := HQ1.out.cell (i := 1) rfl
              have q2 := HQ1.out.cell (i := 2) rfl
              have HST : Hid (Stps (wr.alloc (.cells #[.int .i64 x.rt.drv, .int .i64 x.rt.served, .slice x.a x.n x.c] 40)).drew (wr.alloc (.cells #[.int .i64 x.rt.drv, .int .i64 x.rt.served, .slice x.a x.n x.c] 40)).drew.heap.size x.a x.n x.rt.stops) := Recs.more (Recs.keep HXT.out (HB1.out.mono HS.out.wi.old.size)) (Nat.le_trans HS.out.wi.old.size HB1.out.size)
              have HSE : Hid (SetI (wr.alloc (.cells #[.int .i64 x.rt.drv, .int .i64 x.rt.served, .slice x.a x.n x.c] 40)).drew w.heap.size k p) := (HS.out.wi.below HB1.out).set
              clear hx hdr hst HXT
              go_wp2
              go_region_law (go_simp; go_at_call 50; refine (pexcept_any _ _ _ x.rt.stops _ _ p _ HST.out HSE.out HXW.out hfit).mono ?_; rintro e w2 ⟨v, rfl, hes⟩; obtain ⟨A9, c9, hv, _, _⟩ := hes.own.read; subst hv; have HQ2 := Lib.hid (HQ1.out.below hes.old HQ1.out.lt); have d0 := HQ2.out.cell (i := 0) rfl; have d1 := HQ2.out.cell (i := 1) rfl; have d2 := HQ2.out.cell (i := 2) rfl; obtain ⟨⟨z0, g0⟩, f0, ⟨z1, g1⟩, f1, ⟨z2, g2⟩, f2⟩ := ((HS.out.keep HB1.out).keep hes.old).cells hlt; have HN := Lib.hid (HS.out.next hlt HX.out HB1.out hes rfl (by omega)); clear hes HQ2)
              all_goals
                go_wp2
                go_roundw
                case rel => exact ⟨k3 + 1, _, by omega, by go_num, HN⟩
                case measure => simp [intOf]; omega
            · have hke : k3 = k2 := by omega
              subst hke
              go_wp2
              go_ret
              refine ⟨_, rfl, l', HS.out.fill.done HS.out.len (by unfold maxLen; omega), ?_, HS.out.fits⟩
              rw [HS.out.rts, List.take_of_length_le (by rw [HL.out]; exact Nat.le_refl _), ← HP.out]
              exact with_eq l os
#print axioms pwithout_any
end Go.Proofs.Ytjklpdeeohhhnaa.Plan
