/-
  RepairRuns, RepairUse: one text.
-/
import Derived.Test.YtilggpkmdmelmaaGreatRepairCs
import Derived.Test.YtilggpkmdmelmaaGreatRepairAs
import Derived.Test.YtilggpkmdmelmaaGreatRepairMaths
import Derived.Test.YtilggpkmdmelmaaGreatRouteKeep
import Derived.Test.YtilggpkmdmelmaaGreatKeepMaps
import Derived.Test.YtilggpkmdmelmaaGreatCertUseP
import Derived.Test.YtilggpkmdmelmaaGreatPlanKs
import Derived.Deep.DeepCutAuto
import Derived.Test.YtilggpkmdmelmaaGreatCertKeep
namespace Go.Proofs.YtilggpkmdmelmaaGreat.RepairW
open Go.ChangeShapes Go.WideShapes Go.ChangeAt Go.RowKit Go.Proofs.YtilggpkmdmelmaaGreat.Mem Go.Proofs.YtilggpkmdmelmaaGreat.GeoMath Go.Proofs.YtilggpkmdmelmaaGreat.FleetMath Go.Proofs.YtilggpkmdmelmaaGreat.PlanMath Go.Proofs.YtilggpkmdmelmaaGreat.CertMath Go.Proofs.YtilggpkmdmelmaaGreat.AuditMath Go.Proofs.YtilggpkmdmelmaaGreat.InsertMath Go.Proofs.YtilggpkmdmelmaaGreat.RepairMath Go.Proofs.YtilggpkmdmelmaaGreat.Rec Go.Proofs.YtilggpkmdmelmaaGreat.Geo Go.Proofs.YtilggpkmdmelmaaGreat.Span Go.Proofs.YtilggpkmdmelmaaGreat.Deal Go.Proofs.YtilggpkmdmelmaaGreat.Keep Go.Proofs.YtilggpkmdmelmaaGreat.Route Go.Proofs.YtilggpkmdmelmaaGreat.Plan Go.Proofs.YtilggpkmdmelmaaGreat.Cert
set_option linter.unusedVariables false
set_option linter.unusedSimpArgs false
def litRF (slots : List Nat) (vals : List Value) (lits : List (Nat × Nat × TypeId × List Value)) : RF :=
  ⟨fun k => slots.getD k 0, fun k => (lits.find? fun x => x.1 == k).map (·.2.1), fun k v D u => match lits.find? (fun x => x.1 == k || x.2.1 == k) with
    | some x => blkF (fun g => .slice (some ⟨g, 0, none⟩) 2 2) x.2.2.1 x.2.2.2 v D u
    | none => pureF (fun v => v = vals.getD k undef) v D⟩
theorem litRF.mon {slots : List Nat} {vals : List Value} {lits : List (Nat × Nat × TypeId × List Value)} (k : Nat) (v : Value) (D : Nat → Prop) (u u' : World) (h : (litRF slots vals lits).fact k v D u) (hk : ∀ b, D b → u'.heap[b]? = u.heap[b]?) : (litRF slots vals lits).fact k v D u' := by
  revert h
  simp only [litRF]
  split
  · exact fun h => h.mon hk
  · exact fun h => h
section
variable {P : Program} {ops : Array Oper} {Q : Exit → Act → World → Prop} {w0 : World} {a0 : Act} {i : Nat} {o : Oper} {listed : Array Bool} {a : Act} {u : World} {D : Nat → Nat → Prop} {slots : List Nat} {vals : List Value} {lits : List (Nat × Nat × TypeId × List Value)}
theorem litRF.val (h : RInv ops (litRF slots vals lits) w0 a0 listed a u D) (hr : ∀ e ∈ o.after, Region.binds .any e = true → listed.getD e.on false = true) (hn : listed.getD i false = false) (j : Nat) (hj : depB o j = true) (h1 : lits.find? (fun x => x.1 == j) = none) (h2 : lits.find? (fun x => x.1 == j || x.2.1 == j) = none) {s : Nat} {v : Value} (hs : slots.getD j 0 = s) (hv : vals.getD j undef = v) : a.eval (.tmp s) = v := by
  have hg := (h.get hr hn j hj (.inl (by simp only [litRF]; rw [h1]; rfl))).1
  simp only [litRF] at hg
  rw [h2] at hg
  rw [← hs, ← hv]
  exact hg.1
theorem litRF.pureStep (hg : o.guard = none) (s : Nat) (hd : o.dst = some s) (hsl : slots.getD i 0 = s) (hin : s < a0.tmps.size) (h2 : lits.find? (fun x => x.1 == i || x.2.1 == i) = none) (v : Value) (hv : vals.getD i undef = v)
    (h : ∀ listed a u D, RInv ops (litRF slots vals lits) w0 a0 listed a u D → (∀ e ∈ o.after, Region.binds .any e = true → listed.getD e.on false = true) → listed.getD i false = false → (execOp a.eval o).run P u = .ok (.value v) u) : RStep P ops Q (litRF slots vals lits) w0 a0 i o :=
  RStep.pure hg s hd hsl hin fun listed a u D hI hr hn => ⟨v, h listed a u D hI hr hn, by
    simp only [litRF]
    rw [h2]
    exact pureF.new hv.symm⟩
theorem litRF.litStep (hg : o.guard = none) (s : Nat) (hd : o.dst = some s) (hsl : slots.getD i 0 = s) (hin : s < a0.tmps.size) {tt : Nat} {t : TypeId} {vs : List Value} (h2 : lits.find? (fun x => x.1 == i || x.2.1 == i) = some (i, tt, t, vs))
    (h : ∀ listed a u D, RInv ops (litRF slots vals lits) w0 a0 listed a u D → (∀ e ∈ o.after, Region.binds .any e = true → listed.getD e.on false = true) → listed.getD i false = false → (execOp a.eval o).run P u = .ok (.value (.slice (some ⟨u.heap.size, 0, none⟩) 2 2)) (u.alloc (.cells vs.toArray t))) : RStep P ops Q (litRF slots vals lits) w0 a0 i o :=
  RStep.val hg s hd hsl hin fun listed a u D hI hr hn => ⟨_, _, fun b => b = u.heap.size, h listed a u D hI hr hn, hI.old.alloc hI.old.size _, by simp, fun b hlt _ => Below.heap_alloc u _ b hlt, fun b hd => .inr (by subst hd; simp), by
    simp only [litRF]
    rw [h2]
    exact ⟨_, rfl, Blk.new u _ _, fun b => Iff.rfl⟩⟩
theorem litRF.takeStep (hg : o.guard = none) (s : Nat) (hd : o.dst = some s) (hsl : slots.getD i 0 = s) (hin : s < a0.tmps.size) (from_ : Nat) {t : TypeId} {vs : List Value} (h2 : lits.find? (fun x => x.1 == i || x.2.1 == i) = some (from_, i, t, vs)) (h1 : lits.find? (fun x => x.1 == from_) = some (from_, i, t, vs)) (h3 : lits.find? (fun x => x.1 == from_ || x.2.1 == from_) = some (from_, i, t, vs)) (hj : depB o from_ = true) {s' : Nat} (hs' : slots.getD from_ 0 = s') (ho : o.op = .move (.tmp s') ∨ o.op = .assign (.tmp s')) : RStep P ops Q (litRF slots vals lits) w0 a0 i o := by
  refine RStep.val hg s hd hsl hin fun listed a u D hI hr hn => ?_
  have he : (litRF slots vals lits).eater from_ = some i := by simp only [litRF]; rw [h1]; rfl
  have hg := (hI.get hr hn from_ hj (.inr he)).1
  simp only [litRF] at hg
  rw [h3, hs'] at hg
  refine ⟨a.tmps.getD s' undef, u, D from_, exec_move ho rfl, hI.old, Nat.le_refl _, fun _ _ _ => rfl, fun b hb => .inl ⟨from_, he, hb⟩, ?_⟩
  simp only [litRF]
  rw [h2]
  exact hg
theorem litRF.done {l : List Oper} (h : RInv l.toArray (litRF slots vals lits) w0 a0 listed a u D) (hall : ∀ i, i < l.length → listed.getD i false = true) (j : Nat) (hj : j < l.length) (h1 : lits.find? (fun x => x.1 == j) = none) {f tt : Nat} {t : TypeId} {vs : List Value} (h2 : lits.find? (fun x => x.1 == j || x.2.1 == j) = some (f, tt, t, vs)) {s : Nat} (hsl : slots.getD j 0 = s) : ∃ g, a.tmps.getD s undef = .slice (some ⟨g, 0, none⟩) 2 2 ∧ Blk u g t vs := by
  have h3 := h.fact j ⟨hall j hj, fun k hk => by simp only [litRF] at hk; rw [h1] at hk; cases hk⟩
  simp only [litRF] at h3
  rw [h2] at h3
  obtain ⟨g, e1, hb, _⟩ := h3
  rw [hsl] at e1
  exact ⟨g, e1, hb⟩
theorem litRF.free {n : Nat} (h : (lits.all fun b => decide (b.1 < n)) = true) (q : Nat) (hq : n ≤ q) : (litRF slots vals lits).eater q = none := by
  have : lits.find? (fun x => x.1 == q) = none := by
    rw [List.find?_eq_none]
    intro b hb
    have := List.all_eq_true.1 h b hb
    simp at this ⊢
    omega
  simp only [litRF]
  rw [this]
  rfl
end
theorem exec_two_d {p0 p1 : Operand} {o : Oper} {a : Act} {u : World} (h : o.op = .buildSlice 34 2 #[(0, p0), (1, p1)]) (h0 : a.eval p0 = .agg #[.int .i64 4, .int .i64 4, .int .i64 1, .int .i64 1, .int .i64 30, .bool false]) (h1 : a.eval p1 = .agg #[.int .i64 5, .int .i64 4, .int .i64 0, .int .i64 1, .int .i64 30, .bool false]) :
    (execOp a.eval o).run Tryz.prog u = .ok (.value (.slice (some ⟨u.heap.size, 0, none⟩) 2 2)) (u.alloc (.cells #[.int .i64 4, .int .i64 4, .int .i64 1, .int .i64 1, .int .i64 30, .bool false, .int .i64 5, .int .i64 4, .int .i64 0, .int .i64 1, .int .i64 30, .bool false] 33)) := by
  obtain ⟨ρ, hρ⟩ : ∃ ρ, a.eval = ρ := ⟨_, rfl⟩
  rw [hρ] at h0 h1 ⊢
  unfold execOp
  rw [h]
  simp [go_sem, h0, h1]
theorem exec_two_o {p0 p1 : Operand} {o : Oper} {a : Act} {u : World} (h : o.op = .buildSlice 35 2 #[(0, p0), (1, p1)]) (h0 : a.eval p0 = .agg #[.int .i64 1, .int .i64 3, .int .i64 0, .int .i64 2, .int .i64 9, .int .i64 1, .int .i64 1, .int .i64 0, .int .i64 20, .int .i64 2]) (h1 : a.eval p1 = .agg #[.int .i64 2, .int .i64 1, .int .i64 0, .int .i64 0, .int .i64 100, .int .i64 1, .int .i64 1, .int .i64 0, .int .i64 100, .int .i64 2]) :
    (execOp a.eval o).run Tryz.prog u = .ok (.value (.slice (some ⟨u.heap.size, 0, none⟩) 2 2)) (u.alloc (.cells #[.int .i64 1, .int .i64 3, .int .i64 0, .int .i64 2, .int .i64 9, .int .i64 1, .int .i64 1, .int .i64 0, .int .i64 20, .int .i64 2, .int .i64 2, .int .i64 1, .int .i64 0, .int .i64 0, .int .i64 100, .int .i64 1, .int .i64 1, .int .i64 0, .int .i64 100, .int .i64 2] 31)) := by
  obtain ⟨ρ, hρ⟩ : ∃ ρ, a.eval = ρ := ⟨_, rfl⟩
  rw [hρ] at h0 h1 ⊢
  unfold execOp
  rw [h]
  simp [go_sem, h0, h1]
theorem rr_load_d {u : World} {g : Nat} {a b c d e : Int} {f : Bool} (h : Blk u g 33 [.int .i64 a, .int .i64 b, .int .i64 c, .int .i64 d, .int .i64 e, .bool f]) : (Instr.loadAt 33 (.pointer (some ⟨g, 0, none⟩))).run Tryz.prog u = .ok (.agg #[.int .i64 a, .int .i64 b, .int .i64 c, .int .i64 d, .int .i64 e, .bool f]) u := by
  have h0 := Blk.cell (i := 0) h rfl
  have h1 := Blk.cell (i := 1) h rfl
  have h2 := Blk.cell (i := 2) h rfl
  have h3 := Blk.cell (i := 3) h rfl
  have h4 := Blk.cell (i := 4) h rfl
  have h5 := Blk.cell (i := 5) h rfl
  simp [go_sem, h0, h1, h2, h3, h4, h5]
theorem rr_load_o {u : World} {g : Nat} {a b c d e f a' b' c' d' : Int} (h : Blk u g 31 [.int .i64 a, .int .i64 b, .int .i64 c, .int .i64 d, .int .i64 e, .int .i64 f, .int .i64 a', .int .i64 b', .int .i64 c', .int .i64 d']) : (Instr.loadAt 31 (.pointer (some ⟨g, 0, none⟩))).run Tryz.prog u = .ok (.agg #[.int .i64 a, .int .i64 b, .int .i64 c, .int .i64 d, .int .i64 e, .int .i64 f, .int .i64 a', .int .i64 b', .int .i64 c', .int .i64 d']) u := by
  have h0 := Blk.cell (i := 0) h rfl
  have h1 := Blk.cell (i := 1) h rfl
  have h2 := Blk.cell (i := 2) h rfl
  have h3 := Blk.cell (i := 3) h rfl
  have h4 := Blk.cell (i := 4) h rfl
  have h5 := Blk.cell (i := 5) h rfl
  have h6 := Blk.cell (i := 6) h rfl
  have h7 := Blk.cell (i := 7) h rfl
  have h8 := Blk.cell (i := 8) h rfl
  have h9 := Blk.cell (i := 9) h rfl
  simp [go_sem, h0, h1, h2, h3, h4, h5, h6, h7, h8, h9]
theorem rr_recs {u : World} {g n k : Nat} {t : TypeId} {vs : List Value} (h : Blk u g t vs) (hl : vs.length = n * k) (hn : n ≤ 64) : Recs u u.heap.size (some ⟨g, 0, none⟩) n k vs :=
  ⟨hl, by unfold maxLen; omega, fun _ => ⟨g, 0, rfl, h.lt, fun j u hu => by rw [Nat.zero_add]; exact h.cell hu⟩⟩
theorem rr_tail {W u : World} {z : Option Addr} {bx : List (Nat × TypeId × List Value)} (h : RB W z bx u) : RB W z [] u := ⟨h.1, h.2.1, by simp⟩
theorem rr_cons {W u : World} {z : Option Addr} {bx : List (Nat × TypeId × List Value)} {g : Nat} {t : TypeId} {vs : List Value} (h : RB W z bx u) (hb : Blk u g t vs) : RB W z ((g, t, vs) :: bx) u := ⟨h.1, h.2.1, fun p hp => by
  rcases List.mem_cons.1 hp with rfl | hp
  · exact hb
  · exact h.2.2 p hp⟩
theorem rr_drew {w u' : World} (hb : Below w.drew.heap.size w.drew u') : Below w.heap.size w u' := (Below.refl w.heap.size w).drew.trans hb
abbrev rrP (g : Nat) : List RM := [⟨⟨4, 0, [⟨1, false⟩, ⟨1, true⟩]⟩, some ⟨g, 0, none⟩, 2, 2⟩, ⟨⟨5, 0, [⟨2, false⟩, ⟨2, true⟩]⟩, some ⟨g + 1, 0, none⟩, 2, 2⟩]
abbrev rrB (g g1 g2 : Nat) : List (Nat × TypeId × List Value) := [(g + 1 + 1, 40, [.int .i64 4, .int .i64 0, .slice (some ⟨g, 0, none⟩) 2 2, .int .i64 5, .int .i64 0, .slice (some ⟨g + 1, 0, none⟩) 2 2]), (g + 1, 37, [.int .i64 2, .bool false, .int .i64 2, .bool true]), (g, 37, [.int .i64 1, .bool false, .int .i64 1, .bool true]), (g1, 33, [.int .i64 4, .int .i64 4, .int .i64 1, .int .i64 1, .int .i64 30, .bool false, .int .i64 5, .int .i64 4, .int .i64 0, .int .i64 1, .int .i64 30, .bool false]), (g2, 31, [.int .i64 1, .int .i64 3, .int .i64 0, .int .i64 2, .int .i64 9, .int .i64 1, .int .i64 1, .int .i64 0, .int .i64 20, .int .i64 2, .int .i64 2, .int .i64 1, .int .i64 0, .int .i64 0, .int .i64 100, .int .i64 1, .int .i64 1, .int .i64 0, .int .i64 100, .int .i64 2])]
section
variable {W u : World} {z : Option Addr} {g g1 g2 : Nat}
theorem rr_drvs (h : RB W z (rrB g g1 g2) u) : Drvs u u.heap.size (some ⟨g1, 0, none⟩) 2 eDs := rr_recs (vs := drvsV eDs) (h.at_ (g := g1) (t := 33) (vs := [.int .i64 4, .int .i64 4, .int .i64 1, .int .i64 1, .int .i64 30, .bool false, .int .i64 5, .int .i64 4, .int .i64 0, .int .i64 1, .int .i64 30, .bool false]) (by simp)) rfl (by decide)
theorem rr_ords (h : RB W z (rrB g g1 g2) u) : Ords u u.heap.size (some ⟨g2, 0, none⟩) 2 eOs := rr_recs (vs := ordsV eOs) (h.at_ (g := g2) (t := 31) (vs := [.int .i64 1, .int .i64 3, .int .i64 0, .int .i64 2, .int .i64 9, .int .i64 1, .int .i64 1, .int .i64 0, .int .i64 20, .int .i64 2, .int .i64 2, .int .i64 1, .int .i64 0, .int .i64 0, .int .i64 100, .int .i64 1, .int .i64 1, .int .i64 0, .int .i64 100, .int .i64 2]) (by simp)) rfl (by decide)
theorem rr_plns (h : RB W z (rrB g g1 g2) u) : Plns u u.heap.size (some ⟨g + 1 + 1, 0, none⟩) 2 (rrP g) := by
  refine ⟨rr_recs (vs := rmsV (rrP g)) (h.at_ (g := g + 1 + 1) (t := 40) (vs := [.int .i64 4, .int .i64 0, .slice (some ⟨g, 0, none⟩) 2 2, .int .i64 5, .int .i64 0, .slice (some ⟨g + 1, 0, none⟩) 2 2]) (by simp)) rfl (by decide), fun r hr => ?_⟩
  simp only [List.mem_cons, List.not_mem_nil, or_false] at hr
  rcases hr with rfl | rfl
  · exact ⟨rr_recs (vs := stpsV [⟨1, false⟩, ⟨1, true⟩]) (h.at_ (g := g) (t := 37) (vs := [.int .i64 1, .bool false, .int .i64 1, .bool true]) (by simp)) rfl (by show 2 ≤ 64; decide), Nat.le_refl _, by show 2 * 16 ≤ _; decide⟩
  · exact ⟨rr_recs (vs := stpsV [⟨2, false⟩, ⟨2, true⟩]) (h.at_ (g := g + 1) (t := 37) (vs := [.int .i64 2, .bool false, .int .i64 2, .bool true]) (by simp)) rfl (by show 2 ≤ 64; decide), Nat.le_refl _, by show 2 * 16 ≤ _; decide⟩
def Two (u' : World) (B : Option Addr) (p : List Rte) : Prop := ∃ l, Plns u' u'.heap.size B 2 l ∧ l.map (·.rt) = p
theorem Two.keep {u' u'' : World} {B : Option Addr} {p : List Rte} (h : Two u' B p) (hb : Below u'.heap.size u' u'') : Two u'' B p := by
  obtain ⟨l, h1, h2⟩ := h
  exact ⟨l, (h1.keep hb).more hb.size, h2⟩
theorem Two.cells {u' : World} {B : Option Addr} {x y : Rte} (h : Two u' B [x, y]) : ∃ b o A0 n0 c0 A1 n1 c1, B = some ⟨b, o, none⟩ ∧ u'.cell? ⟨b, o + 2, none⟩ = some (.slice A0 n0 c0) ∧ n0 = x.stops.length ∧ u'.cell? ⟨b, o + 5, none⟩ = some (.slice A1 n1 c1) ∧ Stps u' u'.heap.size A1 n1 y.stops := by
  obtain ⟨l, h1, h2⟩ := h
  obtain ⟨b, o, r0, rfl, _, e0, _, _, _, h3, h4, _⟩ := h1.at_ (i := 0) (by decide)
  obtain ⟨b', o', r1, e, _, e1, _, _, _, h5, h6, _⟩ := h1.at_ (i := 1) (by decide)
  obtain ⟨rfl, rfl⟩ : b = b' ∧ o = o' := by simpa using e
  have k0 : r0.rt = x := by have := congrArg (·[0]?) h2; simp only [List.getElem?_map, e0] at this; simpa using this
  have k1 : r1.rt = y := by have := congrArg (·[1]?) h2; simp only [List.getElem?_map, e1] at this; simpa using this
  rw [k0] at h4
  rw [k1] at h6
  have hn : r0.n = x.stops.length := by have := h4.1; rw [stpsV_len] at this; omega
  exact ⟨b, o, _, _, _, _, _, _, rfl, h3, hn, h5, h6⟩
theorem rr_total (h : RB W z (rrB g g1 g2) u) :
    Calls Tryz.prog 9 #[.pointer z, .slice (some ⟨g1, 0, none⟩) 2 2, .slice (some ⟨g2, 0, none⟩) 2 2, .slice (some ⟨g + 1 + 1, 0, none⟩) 2 2] u fun en u' => en = .returned (.tuple #[.int .i64 17, .bool true]) ∧ RB W z (rrB g g1 g2) u' := by
  have h1 : Calls Tryz.prog 9 #[.pointer z, .slice (some ⟨g1, 0, none⟩) 2 2, .slice (some ⟨g2, 0, none⟩) 2 2, .slice (some ⟨g + 1 + 1, 0, none⟩) 2 2] u (Gives u (optV (totalM eM eDs eOs eP))) := ptotal_any W.heap.size (.pointer z) (some runM) (some ⟨g1, 0, none⟩) 2 2 eDs (some ⟨g2, 0, none⟩) 2 2 eOs (some ⟨g + 1 + 1, 0, none⟩) 2 2 (rrP g) u (Nat.le_refl _) (Nat.le_refl _) h.2.1 (rr_drvs h) (rr_ords h) (rr_plns h)
  rw [e_total] at h1
  refine h1.mono ?_
  rintro en u' ⟨rfl, hb⟩
  exact ⟨rfl, h.below hb⟩
theorem rr_pass (h : RB W z (rrB g g1 g2) u) :
    Calls Tryz.prog 10 #[.pointer z, .slice (some ⟨g1, 0, none⟩) 2 2, .slice (some ⟨g2, 0, none⟩) 2 2, .slice (some ⟨g + 1 + 1, 0, none⟩) 2 2, .int .i64 100] u fun en u' => ∃ B c, en = .returned (.tuple #[.slice B 2 c, .int .i64 14, .int .i64 0]) ∧ RB W z (rrB g g1 g2) u' ∧ Two u' B eQ := by
  have h1 : Calls Tryz.prog 10 #[.pointer z, .slice (some ⟨g1, 0, none⟩) 2 2, .slice (some ⟨g2, 0, none⟩) 2 2, .slice (some ⟨g + 1 + 1, 0, none⟩) 2 2, .int .i64 100] u (PassOk u (passM eM eDs eOs eP 100)) := ppass_any W.heap.size (.pointer z) (some runM) (some ⟨g1, 0, none⟩) 2 2 eDs (some ⟨g2, 0, none⟩) 2 2 eOs (some ⟨g + 1 + 1, 0, none⟩) 2 2 (rrP g) 100 u (Nat.le_refl _) (Nat.le_refl _) h.2.1 (rr_drvs h) (rr_ords h) (rr_plns h) (by decide) (Nat.le_refl _)
  rw [e_pass] at h1
  refine h1.mono ?_
  rintro en u' ⟨B, c, l, rfl, hb, hp, he, _⟩
  exact ⟨B, c, rfl, h.below hb, l, hp, he⟩
theorem rr_bad (h : RB W z (rrB g g1 g2) u) :
    Calls Tryz.prog 10 #[.pointer z, .slice (some ⟨g1, 0, none⟩) 2 2, .slice (some ⟨g2, 0, none⟩) 2 2, .slice (some ⟨g + 1 + 1, 0, none⟩) 2 2, .int .i64 (-1)] u fun en u' => en = .returned (.tuple #[.slice none 0 0, .int .i64 0, .int .i64 1]) ∧ RB W z (rrB g g1 g2) u' ∧ Below u.heap.size u u' := by
  have h1 : Calls Tryz.prog 10 #[.pointer z, .slice (some ⟨g1, 0, none⟩) 2 2, .slice (some ⟨g2, 0, none⟩) 2 2, .slice (some ⟨g + 1 + 1, 0, none⟩) 2 2, .int .i64 (-1)] u (PassOk u (passM eM eDs eOs eP (-1))) := ppass_any W.heap.size (.pointer z) (some runM) (some ⟨g1, 0, none⟩) 2 2 eDs (some ⟨g2, 0, none⟩) 2 2 eOs (some ⟨g + 1 + 1, 0, none⟩) 2 2 (rrP g) (-1) u (Nat.le_refl _) (Nat.le_refl _) h.2.1 (rr_drvs h) (rr_ords h) (rr_plns h) (by decide) (Nat.le_refl _)
  rw [e_bad] at h1
  refine h1.mono ?_
  rintro en u' ⟨rfl, hb⟩
  exact ⟨rfl, h.below hb, hb⟩
theorem rr_repair (h : RB W z (rrB g g1 g2) u) :
    Calls Tryz.prog 11 #[.pointer z, .slice (some ⟨g1, 0, none⟩) 2 2, .slice (some ⟨g2, 0, none⟩) 2 2, .slice (some ⟨g + 1 + 1, 0, none⟩) 2 2, .int .i64 100] u fun en u' => ∃ B c, en = .returned (.tuple #[.slice B 2 c, .int .i64 28, .int .i64 2, .int .i64 0]) ∧ RB W z (rrB g g1 g2) u' ∧ Two u' B eQ ∧ Below u.heap.size u u' := by
  have h1 : Calls Tryz.prog 11 #[.pointer z, .slice (some ⟨g1, 0, none⟩) 2 2, .slice (some ⟨g2, 0, none⟩) 2 2, .slice (some ⟨g + 1 + 1, 0, none⟩) 2 2, .int .i64 100] u (RepairOk u (repairM eM eDs eOs eP 100)) := prepair_any W.heap.size (.pointer z) (some runM) (some ⟨g1, 0, none⟩) 2 2 eDs (some ⟨g2, 0, none⟩) 2 2 eOs (some ⟨g + 1 + 1, 0, none⟩) 2 2 (rrP g) 100 u (Nat.le_refl _) (Nat.le_refl _) h.2.1 (rr_drvs h) (rr_ords h) (rr_plns h) (by decide)
  rw [e_repair] at h1
  refine h1.mono ?_
  rintro en u' ⟨B, c, l, rfl, hb, hp, he, _⟩
  exact ⟨B, c, rfl, h.below hb, ⟨l, hp, he⟩, hb⟩
theorem rr_repair0 (h : RB W z (rrB g g1 g2) u) :
    Calls Tryz.prog 11 #[.pointer z, .slice (some ⟨g1, 0, none⟩) 2 2, .slice (some ⟨g2, 0, none⟩) 2 2, .slice (some ⟨g + 1 + 1, 0, none⟩) 2 2, .int .i64 0] u fun en u' => ∃ B c, en = .returned (.tuple #[.slice B 2 c, .int .i64 0, .int .i64 0, .int .i64 0]) ∧ RB W z (rrB g g1 g2) u' ∧ Two u' B eP ∧ Below u.heap.size u u' := by
  have h1 : Calls Tryz.prog 11 #[.pointer z, .slice (some ⟨g1, 0, none⟩) 2 2, .slice (some ⟨g2, 0, none⟩) 2 2, .slice (some ⟨g + 1 + 1, 0, none⟩) 2 2, .int .i64 0] u (RepairOk u (repairM eM eDs eOs eP 0)) := prepair_any W.heap.size (.pointer z) (some runM) (some ⟨g1, 0, none⟩) 2 2 eDs (some ⟨g2, 0, none⟩) 2 2 eOs (some ⟨g + 1 + 1, 0, none⟩) 2 2 (rrP g) 0 u (Nat.le_refl _) (Nat.le_refl _) h.2.1 (rr_drvs h) (rr_ords h) (rr_plns h) (by decide)
  rw [e_repair0] at h1
  refine h1.mono ?_
  rintro en u' ⟨B, c, l, rfl, hb, hp, he, _⟩
  exact ⟨B, c, rfl, h.below hb, ⟨l, hp, he⟩, hb⟩
theorem rr_same {B B' : Option Addr} {c c' : Nat} {p : List Rte} (h : Two u B p) (h' : Two u B' p) :
    Calls Tryz.prog 13 #[.slice B 2 c, .slice B' 2 c'] u fun en u' => en = .returned (.bool true) ∧ Below u.heap.size u u' := by
  obtain ⟨l, h1, h2⟩ := h
  obtain ⟨m, h3, h4⟩ := h'
  exact use_routes h1 h3 (h2.trans h4.symm)
end
set_option maxRecDepth 100000 in
set_option maxHeartbeats 8000000 in
theorem truns_any (u : World) : Calls Tryz.prog 3 #[] u (Gives u (.bool true)) := by
  have HB0 : Hid (Below u.heap.size u (u.alloc (.cells #[.int .i64 0, .int .i64 5, .int .i64 7, .int .i64 0] 3))) := (Below.refl _ _).alloc (Nat.le_refl _) _
  have HI0 : Hid (Ints (u.alloc (.cells #[.int .i64 0, .int .i64 5, .int .i64 7, .int .i64 0] 3)) (u.heap.size + 1) (some ⟨u.heap.size, 0, none⟩) 4 [0, 5, 7, 0]) := by
    have hb := Blk.new u 3 [.int .i64 0, .int .i64 5, .int .i64 7, .int .i64 0]
    exact ⟨rfl, by decide, fun _ => ⟨u.heap.size, 0, rfl, by simp, fun j x hx => by rw [Nat.zero_add]; exact hb.cell hx⟩⟩
  go_enter Tryz.func3, Tryz.ntmps3
  go_wp2_with fail
  refine (kgnew 2 0 _ 4 4 [0, 5, 7, 0] _ (by exact Reads.more HI0.out (by simp)) (by decide)).mono ?_
  rintro e w1 ⟨q, rfl, hq, hb1, hm1⟩
  obtain ⟨z, rfl⟩ : ∃ z, q = some z := by cases q with
    | none => cases hq
    | some z => exact ⟨z, rfl⟩
  have R1 : Hid (RB u (some z) [] w1) := ⟨HB0.out.trans (hb1.mono HB0.out.size), MapP.lower hm1 HB0.out.size, by simp⟩
  clear hb1 hm1 hq HB0 HI0
  have R2 := Lib.hid (R1.out.alloc 31 [.int .i64 1, .int .i64 3, .int .i64 0, .int .i64 2, .int .i64 9, .int .i64 1, .int .i64 1, .int .i64 0, .int .i64 20, .int .i64 2])
  have R3 := Lib.hid (R2.out.alloc 31 [.int .i64 2, .int .i64 1, .int .i64 0, .int .i64 0, .int .i64 100, .int .i64 1, .int .i64 1, .int .i64 0, .int .i64 100, .int .i64 2])
  have R4 := Lib.hid (R3.out.alloc 33 [.int .i64 4, .int .i64 4, .int .i64 1, .int .i64 1, .int .i64 30, .bool false])
  have R5 := Lib.hid (R4.out.alloc 33 [.int .i64 5, .int .i64 4, .int .i64 0, .int .i64 1, .int .i64 30, .bool false])
  simp only [World.size_alloc] at R2 R3 R4 R5
  clear R1 R2 R3 R4
  have RX : Hid (RB u (some z) [(w1.heap.size + 1 + 1 + 1, 33, [.int .i64 5, .int .i64 4, .int .i64 0, .int .i64 1, .int .i64 30, .bool false]), (w1.heap.size + 1 + 1, 33, [.int .i64 4, .int .i64 4, .int .i64 1, .int .i64 1, .int .i64 30, .bool false]), (w1.heap.size + 1, 31, [.int .i64 2, .int .i64 1, .int .i64 0, .int .i64 0, .int .i64 100, .int .i64 1, .int .i64 1, .int .i64 0, .int .i64 100, .int .i64 2]), (w1.heap.size, 31, [.int .i64 1, .int .i64 3, .int .i64 0, .int .i64 2, .int .i64 9, .int .i64 1, .int .i64 1, .int .i64 0, .int .i64 20, .int .i64 2])] ((((w1.alloc (.cells #[.int .i64 1, .int .i64 3, .int .i64 0, .int .i64 2, .int .i64 9, .int .i64 1, .int .i64 1, .int .i64 0, .int .i64 20, .int .i64 2] 31)).alloc (.cells #[.int .i64 2, .int .i64 1, .int .i64 0, .int .i64 0, .int .i64 100, .int .i64 1, .int .i64 1, .int .i64 0, .int .i64 100, .int .i64 2] 31)).alloc (.cells #[.int .i64 4, .int .i64 4, .int .i64 1, .int .i64 1, .int .i64 30, .bool false] 33)).alloc (.cells #[.int .i64 5, .int .i64 4, .int .i64 0, .int .i64 1, .int .i64 30, .bool false] 33))) := R5.out
  clear R5
  go_upto_region 12 with fail
  obtain ⟨w2, hw2⟩ : ∃ u, ((((w1.alloc (.cells #[.int .i64 1, .int .i64 3, .int .i64 0, .int .i64 2, .int .i64 9, .int .i64 1, .int .i64 1, .int .i64 0, .int .i64 20, .int .i64 2] 31)).alloc (.cells #[.int .i64 2, .int .i64 1, .int .i64 0, .int .i64 0, .int .i64 100, .int .i64 1, .int .i64 1, .int .i64 0, .int .i64 100, .int .i64 2] 31)).alloc (.cells #[.int .i64 4, .int .i64 4, .int .i64 1, .int .i64 1, .int .i64 30, .bool false] 33)).alloc (.cells #[.int .i64 5, .int .i64 4, .int .i64 0, .int .i64 1, .int .i64 30, .bool false] 33)) = u := ⟨_, rfl⟩
  rw [hw2] at RX
  (try rw [hw2])
  clear hw2
  obtain ⟨g, hg⟩ : ∃ g, w1.heap.size = g := ⟨_, rfl⟩
  rw [hg] at RX
  (try rw [hg])
  clear hg
  have HO : Hid (∀ v, Below w2.heap.size w2 v → Blk v g 31 [.int .i64 1, .int .i64 3, .int .i64 0, .int .i64 2, .int .i64 9, .int .i64 1, .int .i64 1, .int .i64 0, .int .i64 20, .int .i64 2]) := fun v hv => Blk.below (RX.out.at_ (g := g) (t := 31) (vs := [.int .i64 1, .int .i64 3, .int .i64 0, .int .i64 2, .int .i64 9, .int .i64 1, .int .i64 1, .int .i64 0, .int .i64 20, .int .i64 2]) (by simp)) hv (Blk.lt (RX.out.at_ (g := g) (t := 31) (vs := [.int .i64 1, .int .i64 3, .int .i64 0, .int .i64 2, .int .i64 9, .int .i64 1, .int .i64 1, .int .i64 0, .int .i64 20, .int .i64 2]) (by simp)))
  have HR : Hid (∀ v, Below w2.heap.size w2 v → Blk v (g + 1) 31 [.int .i64 2, .int .i64 1, .int .i64 0, .int .i64 0, .int .i64 100, .int .i64 1, .int .i64 1, .int .i64 0, .int .i64 100, .int .i64 2]) := fun v hv => Blk.below (RX.out.at_ (g := g + 1) (t := 31) (vs := [.int .i64 2, .int .i64 1, .int .i64 0, .int .i64 0, .int .i64 100, .int .i64 1, .int .i64 1, .int .i64 0, .int .i64 100, .int .i64 2]) (by simp)) hv (Blk.lt (RX.out.at_ (g := g + 1) (t := 31) (vs := [.int .i64 2, .int .i64 1, .int .i64 0, .int .i64 0, .int .i64 100, .int .i64 1, .int .i64 1, .int .i64 0, .int .i64 100, .int .i64 2]) (by simp)))
  have HD : Hid (∀ v, Below w2.heap.size w2 v → Blk v (g + 1 + 1) 33 [.int .i64 4, .int .i64 4, .int .i64 1, .int .i64 1, .int .i64 30, .bool false]) := fun v hv => Blk.below (RX.out.at_ (g := g + 1 + 1) (t := 33) (vs := [.int .i64 4, .int .i64 4, .int .i64 1, .int .i64 1, .int .i64 30, .bool false]) (by simp)) hv (Blk.lt (RX.out.at_ (g := g + 1 + 1) (t := 33) (vs := [.int .i64 4, .int .i64 4, .int .i64 1, .int .i64 1, .int .i64 30, .bool false]) (by simp)))
  have HX : Hid (∀ v, Below w2.heap.size w2 v → Blk v (g + 1 + 1 + 1) 33 [.int .i64 5, .int .i64 4, .int .i64 0, .int .i64 1, .int .i64 30, .bool false]) := fun v hv => Blk.below (RX.out.at_ (g := g + 1 + 1 + 1) (t := 33) (vs := [.int .i64 5, .int .i64 4, .int .i64 0, .int .i64 1, .int .i64 30, .bool false]) (by simp)) hv (Blk.lt (RX.out.at_ (g := g + 1 + 1 + 1) (t := 33) (vs := [.int .i64 5, .int .i64 4, .int .i64 0, .int .i64 1, .int .i64 30, .bool false]) (by simp)))
  go_cut [7, 8] (fun pv qv wx => ∃ g1 g2, pv = .slice (some ⟨g1, 0, none⟩) 2 2 ∧ qv = .slice (some ⟨g2, 0, none⟩) 2 2 ∧ Hid (Below w2.heap.size w2 wx) ∧ Hid (Blk wx g1 33 [.int .i64 4, .int .i64 4, .int .i64 1, .int .i64 1, .int .i64 30, .bool false, .int .i64 5, .int .i64 4, .int .i64 0, .int .i64 1, .int .i64 30, .bool false]) ∧ Hid (Blk wx g2 31 [.int .i64 1, .int .i64 3, .int .i64 0, .int .i64 2, .int .i64 9, .int .i64 1, .int .i64 1, .int .i64 0, .int .i64 20, .int .i64 2, .int .i64 2, .int .i64 1, .int .i64 0, .int .i64 0, .int .i64 100, .int .i64 1, .int .i64 1, .int .i64 0, .int .i64 100, .int .i64 2]))
  case first =>
    refine wp_region_steps (litRF [56, 57, 58, 59, 60, 61, 7, 8] [.agg #[.int .i64 4, .int .i64 4, .int .i64 1, .int .i64 1, .int .i64 30, .bool false], .agg #[.int .i64 5, .int .i64 4, .int .i64 0, .int .i64 1, .int .i64 30, .bool false], undef, .agg #[.int .i64 1, .int .i64 3, .int .i64 0, .int .i64 2, .int .i64 9, .int .i64 1, .int .i64 1, .int .i64 0, .int .i64 20, .int .i64 2], .agg #[.int .i64 2, .int .i64 1, .int .i64 0, .int .i64 0, .int .i64 100, .int .i64 1, .int .i64 1, .int .i64 0, .int .i64 100, .int .i64 2], undef, undef, undef] [(2, 6, 33, [.int .i64 4, .int .i64 4, .int .i64 1, .int .i64 1, .int .i64 30, .bool false, .int .i64 5, .int .i64 4, .int .i64 0, .int .i64 1, .int .i64 30, .bool false]), (5, 7, 31, [.int .i64 1, .int .i64 3, .int .i64 0, .int .i64 2, .int .i64 9, .int .i64 1, .int .i64 1, .int .i64 0, .int .i64 20, .int .i64 2, .int .i64 2, .int .i64 1, .int .i64 0, .int .i64 0, .int .i64 100, .int .i64 1, .int .i64 1, .int .i64 0, .int .i64 100, .int .i64 2])]) (by kernel_rfl) (by kernel_rfl) (by kernel_rfl) (fun q hq => litRF.free (by kernel_rfl) q hq) (by kernel_rfl) litRF.mon ?_ ?_
    · refine ⟨?_, ?_, ?_, ?_, ?_, ?_, ?_, ?_, trivial⟩
      · exact litRF.pureStep rfl 56 rfl rfl (by simp) (by kernel_rfl) _ rfl fun listed a u D hI hr hn => exec_load rfl (hI.out 5 (by kernel_rfl)) (rr_load_d (HD.out _ (rr_drew hI.old)))
      · exact litRF.pureStep rfl 57 rfl rfl (by simp) (by kernel_rfl) _ rfl fun listed a u D hI hr hn => exec_load rfl (hI.out 6 (by kernel_rfl)) (rr_load_d (HX.out _ (rr_drew hI.old)))
      · exact litRF.litStep (tt := 6) (t := 33) (vs := [.int .i64 4, .int .i64 4, .int .i64 1, .int .i64 1, .int .i64 30, .bool false, .int .i64 5, .int .i64 4, .int .i64 0, .int .i64 1, .int .i64 30, .bool false]) rfl 58 rfl rfl (by simp) (by kernel_rfl) fun listed a u D hI hr hn => exec_two_d rfl (litRF.val hI hr hn 0 (by kernel_rfl) (by kernel_rfl) (by kernel_rfl) rfl rfl) (litRF.val hI hr hn 1 (by kernel_rfl) (by kernel_rfl) (by kernel_rfl) rfl rfl)
      · exact litRF.pureStep rfl 59 rfl rfl (by simp) (by kernel_rfl) _ rfl fun listed a u D hI hr hn => exec_load rfl (hI.out 3 (by kernel_rfl)) (rr_load_o (HO.out _ (rr_drew hI.old)))
      · exact litRF.pureStep rfl 60 rfl rfl (by simp) (by kernel_rfl) _ rfl fun listed a u D hI hr hn => exec_load rfl (hI.out 4 (by kernel_rfl)) (rr_load_o (HR.out _ (rr_drew hI.old)))
      · exact litRF.litStep (tt := 7) (t := 31) (vs := [.int .i64 1, .int .i64 3, .int .i64 0, .int .i64 2, .int .i64 9, .int .i64 1, .int .i64 1, .int .i64 0, .int .i64 20, .int .i64 2, .int .i64 2, .int .i64 1, .int .i64 0, .int .i64 0, .int .i64 100, .int .i64 1, .int .i64 1, .int .i64 0, .int .i64 100, .int .i64 2]) rfl 61 rfl rfl (by simp) (by kernel_rfl) fun listed a u D hI hr hn => exec_two_o rfl (litRF.val hI hr hn 3 (by kernel_rfl) (by kernel_rfl) (by kernel_rfl) rfl rfl) (litRF.val hI hr hn 4 (by kernel_rfl) (by kernel_rfl) (by kernel_rfl) rfl rfl)
      · exact litRF.takeStep (t := 33) (vs := [.int .i64 4, .int .i64 4, .int .i64 1, .int .i64 1, .int .i64 30, .bool false, .int .i64 5, .int .i64 4, .int .i64 0, .int .i64 1, .int .i64 30, .bool false]) rfl 7 rfl rfl (by simp) 2 (by kernel_rfl) (by kernel_rfl) (by kernel_rfl) (by kernel_rfl) rfl (.inr rfl)
      · exact litRF.takeStep (t := 31) (vs := [.int .i64 1, .int .i64 3, .int .i64 0, .int .i64 2, .int .i64 9, .int .i64 1, .int .i64 1, .int .i64 0, .int .i64 20, .int .i64 2, .int .i64 2, .int .i64 1, .int .i64 0, .int .i64 0, .int .i64 100, .int .i64 1, .int .i64 1, .int .i64 0, .int .i64 100, .int .i64 2]) rfl 8 rfl rfl (by simp) 5 (by kernel_rfl) (by kernel_rfl) (by kernel_rfl) (by kernel_rfl) rfl (.inr rfl)
    · intro listed a v D hI hall
      obtain ⟨g1, eB, hb1⟩ := litRF.done hI hall 6 (by decide) (by kernel_rfl) (f := 2) (tt := 6) (t := 33) (vs := [.int .i64 4, .int .i64 4, .int .i64 1, .int .i64 1, .int .i64 30, .bool false, .int .i64 5, .int .i64 4, .int .i64 0, .int .i64 1, .int .i64 30, .bool false]) (by kernel_rfl) (s := 7) rfl
      obtain ⟨g2, eC, hb2⟩ := litRF.done hI hall 7 (by decide) (by kernel_rfl) (f := 5) (tt := 7) (t := 31) (vs := [.int .i64 1, .int .i64 3, .int .i64 0, .int .i64 2, .int .i64 9, .int .i64 1, .int .i64 1, .int .i64 0, .int .i64 20, .int .i64 2, .int .i64 2, .int .i64 1, .int .i64 0, .int .i64 0, .int .i64 100, .int .i64 1, .int .i64 1, .int .i64 0, .int .i64 100, .int .i64 2]) (by kernel_rfl) (s := 8) rfl
      have hold := rr_drew hI.old
      have hl := hI.fill [56, 57, 58, 59, 60, 61, 7, 8] (by kernel_rfl)
      clear hI hall
      obtain ⟨σ, hσ⟩ : ∃ σ : Nat → Value, ∀ t, a.tmps.getD t undef = σ t := ⟨_, fun _ => rfl⟩
      simp only [hσ] at hl eB eC
      clear hσ
      simp only [List.foldl_cons, List.foldl_nil, List.setIfInBounds_toArray, List.set_cons_zero, List.set_cons_succ, eB, eC] at hl
      subst hl
      go_wp2_with fail
      go_meet
      exact ⟨g1, g2, rfl, rfl, hold, hb1, hb2⟩
  case rest =>
  obtain ⟨g1, g2, rfl, rfl, hb3, D1, D2⟩ := hcut
  obtain ⟨w3, rfl⟩ : ∃ u, u = wc := ⟨_, rfl⟩
  have R3 : Hid (RB u (some z) [(g1, 33, [.int .i64 4, .int .i64 4, .int .i64 1, .int .i64 1, .int .i64 30, .bool false, .int .i64 5, .int .i64 4, .int .i64 0, .int .i64 1, .int .i64 30, .bool false]), (g2, 31, [.int .i64 1, .int .i64 3, .int .i64 0, .int .i64 2, .int .i64 9, .int .i64 1, .int .i64 1, .int .i64 0, .int .i64 20, .int .i64 2, .int .i64 2, .int .i64 1, .int .i64 0, .int .i64 0, .int .i64 100, .int .i64 1, .int .i64 1, .int .i64 0, .int .i64 100, .int .i64 2])] w3) := rr_cons (rr_cons (rr_tail (RX.out.below hb3.out)) D2.out) D1.out
  clear RX HO HR HD HX hb3 D1 D2
  have R4 := Lib.hid (R3.out.alloc 37 [.int .i64 1, .bool false, .int .i64 1, .bool true])
  have R5 := Lib.hid (R4.out.alloc 37 [.int .i64 2, .bool false, .int .i64 2, .bool true])
  have R6 := Lib.hid (R5.out.alloc 40 [.int .i64 4, .int .i64 0, .slice (some ⟨w3.heap.size, 0, none⟩) 2 2, .int .i64 5, .int .i64 0, .slice (some ⟨w3.heap.size + 1, 0, none⟩) 2 2])
  simp only [World.size_alloc] at R4 R5 R6
  clear R3 R4 R5
  have R7 : Hid (RB u (some z) (rrB w3.heap.size g1 g2) (((w3.alloc (.cells #[.int .i64 1, .bool false, .int .i64 1, .bool true] 37)).alloc (.cells #[.int .i64 2, .bool false, .int .i64 2, .bool true] 37)).alloc (.cells #[.int .i64 4, .int .i64 0, .slice (some ⟨w3.heap.size, 0, none⟩) 2 2, .int .i64 5, .int .i64 0, .slice (some ⟨w3.heap.size + 1, 0, none⟩) 2 2] 40))) := R6.out
  clear R6
  go_upto_region 14 with fail
  obtain ⟨w4, hw4⟩ : ∃ u, (((w3.alloc (.cells #[.int .i64 1, .bool false, .int .i64 1, .bool true] 37)).alloc (.cells #[.int .i64 2, .bool false, .int .i64 2, .bool true] 37)).alloc (.cells #[.int .i64 4, .int .i64 0, .slice (some ⟨w3.heap.size, 0, none⟩) 2 2, .int .i64 5, .int .i64 0, .slice (some ⟨w3.heap.size + 1, 0, none⟩) 2 2] 40)) = u := ⟨_, rfl⟩
  rw [hw4] at R7
  (try rw [hw4])
  clear hw4
  obtain ⟨g4, hg4⟩ : ∃ g, w3.heap.size = g := ⟨_, rfl⟩
  rw [hg4] at R7
  (try rw [hg4])
  clear hg4
  go_wp2_with fail
  refine (rr_total R7.out).mono ?_
  rintro e w5 ⟨rfl, hr⟩
  have R8 := Lib.hid hr
  clear hr R7
  go_wp2_with fail
  refine (rr_pass R8.out).mono ?_
  rintro e w6 ⟨Ba, ca, rfl, hr, ht⟩
  have R9 := Lib.hid hr
  have TA := Lib.hid ht
  clear hr ht R8
  go_wp2_with fail
  refine (rr_repair R9.out).mono ?_
  rintro e w7 ⟨Bb, cb, rfl, hr, ht, hb⟩
  have R10 := Lib.hid hr
  have TB := Lib.hid ht
  have TA7 := Lib.hid (TA.out.keep hb)
  clear hr ht hb R9 TA
  go_wp2_with fail
  refine (rr_repair0 R10.out).mono ?_
  rintro e w8 ⟨Bc, cc, rfl, hr, ht, hb⟩
  have R11 := Lib.hid hr
  have TC := Lib.hid ht
  have TA8 := Lib.hid (TA7.out.keep hb)
  have TB8 := Lib.hid (TB.out.keep hb)
  clear hr ht hb R10 TA7 TB
  go_wp2_with fail
  refine (rr_bad R11.out).mono ?_
  rintro e w9 ⟨rfl, hr, hb⟩
  have R12 := Lib.hid hr
  have TA9 := Lib.hid (TA8.out.keep hb)
  have TB9 := Lib.hid (TB8.out.keep hb)
  have TC9 := Lib.hid (TC.out.keep hb)
  clear hr hb R11 TA8 TB8 TC
  obtain ⟨b, o, A0, n0, c0, A1, n1, c1, rfl, k0, rfl, k1, hst⟩ := Two.cells TA9.out
  have HST := Lib.hid hst
  have R13 := Lib.hid (R12.out.alloc 37 [.int .i64 1, .bool false, .int .i64 2, .bool false, .int .i64 1, .bool true, .int .i64 2, .bool true])
  clear hst
  go_wp2_with fail
  have hbl : Below w9.heap.size w9 (w9.alloc (.cells #[.int .i64 1, .bool false, .int .i64 2, .bool false, .int .i64 1, .bool true, .int .i64 2, .bool true] 37)) := (Below.refl _ _).alloc (Nat.le_refl _) _
  have TA10 := Lib.hid (TA9.out.keep hbl)
  have TB10 := Lib.hid (TB9.out.keep hbl)
  have TC10 := Lib.hid (TC9.out.keep hbl)
  have HS10 : Hid (Stps (w9.alloc (.cells #[.int .i64 1, .bool false, .int .i64 2, .bool false, .int .i64 1, .bool true, .int .i64 2, .bool true] 37)) (w9.alloc (.cells #[.int .i64 1, .bool false, .int .i64 2, .bool false, .int .i64 1, .bool true, .int .i64 2, .bool true] 37)).heap.size A1 n1 [⟨1, false⟩, ⟨2, false⟩, ⟨1, true⟩, ⟨2, true⟩]) := Recs.more (Recs.keep HST.out hbl) hbl.size
  have HL10 : Hid (Stps (w9.alloc (.cells #[.int .i64 1, .bool false, .int .i64 2, .bool false, .int .i64 1, .bool true, .int .i64 2, .bool true] 37)) (w9.alloc (.cells #[.int .i64 1, .bool false, .int .i64 2, .bool false, .int .i64 1, .bool true, .int .i64 2, .bool true] 37)).heap.size (some ⟨w9.heap.size, 0, none⟩) 4 [⟨1, false⟩, ⟨2, false⟩, ⟨1, true⟩, ⟨2, true⟩]) := rr_recs (vs := stpsV [⟨1, false⟩, ⟨2, false⟩, ⟨1, true⟩, ⟨2, true⟩]) (Blk.new w9 37 [.int .i64 1, .bool false, .int .i64 2, .bool false, .int .i64 1, .bool true, .int .i64 2, .bool true]) rfl (by decide)
  clear hbl TA9 TB9 TC9 HST R12
  refine (sameStp_any A1 (some ⟨w9.heap.size, 0, none⟩) n1 c1 4 4 [⟨1, false⟩, ⟨2, false⟩, ⟨1, true⟩, ⟨2, true⟩] [⟨1, false⟩, ⟨2, false⟩, ⟨1, true⟩, ⟨2, true⟩] _ _ _ (by exact HS10.out) (by exact HL10.out)).mono ?_
  rintro e w11 ⟨rfl, d, hd⟩
  have hb11 := drewN_below hd
  have R14 := Lib.hid (R13.out.below hb11)
  have TA11 := Lib.hid (TA10.out.keep hb11)
  have TB11 := Lib.hid (TB10.out.keep hb11)
  have TC11 := Lib.hid (TC10.out.keep hb11)
  clear hb11 hd R13 TA10 TB10 TC10 HS10 HL10 k0 k1
  go_wp2_with fail
  refine (rr_same TB11.out TA11.out).mono ?_
  rintro e w12 ⟨rfl, hb⟩
  have R15 := Lib.hid (R14.out.below hb)
  have TC12 := Lib.hid (TC11.out.keep hb)
  clear hb R14 TA11 TB11 TC11
  go_wp2_with fail
  have TP : Hid (Two w12 (some ⟨g4 + 1 + 1, 0, none⟩) eP) := ⟨_, rr_plns (u := w12) (z := some z) (g := g4) (g1 := g1) (g2 := g2) (W := u) ⟨R15.out.1, R15.out.2.1, fun p hp => R15.out.2.2 p (List.mem_cons_of_mem _ hp)⟩, rfl⟩
  refine (rr_same TC12.out TP.out).mono ?_
  rintro e w13 ⟨rfl, hb⟩
  have R16 := Lib.hid (R15.out.below hb)
  clear hb R15 TC12 TP
  go_wp2_with fail
  go_ret
  exact ⟨by first | rfl | simp, R16.out.1⟩
end Go.Proofs.YtilggpkmdmelmaaGreat.RepairW

namespace Go.Proofs.YtilggpkmdmelmaaGreat.RepairW
open Go.ChangeShapes Go.WideShapes Go.ChangeAt Go.RowKit Go.Proofs.YtilggpkmdmelmaaGreat.Mem Go.Proofs.YtilggpkmdmelmaaGreat.GeoMath Go.Proofs.YtilggpkmdmelmaaGreat.FleetMath Go.Proofs.YtilggpkmdmelmaaGreat.PlanMath Go.Proofs.YtilggpkmdmelmaaGreat.CertMath Go.Proofs.YtilggpkmdmelmaaGreat.AuditMath Go.Proofs.YtilggpkmdmelmaaGreat.InsertMath Go.Proofs.YtilggpkmdmelmaaGreat.RepairMath Go.Proofs.YtilggpkmdmelmaaGreat.Rec Go.Proofs.YtilggpkmdmelmaaGreat.Geo Go.Proofs.YtilggpkmdmelmaaGreat.Span Go.Proofs.YtilggpkmdmelmaaGreat.Deal Go.Proofs.YtilggpkmdmelmaaGreat.Keep Go.Proofs.YtilggpkmdmelmaaGreat.Route Go.Proofs.YtilggpkmdmelmaaGreat.Plan Go.Proofs.YtilggpkmdmelmaaGreat.Cert
set_option linter.unusedVariables false
section
variable {W u u' : World} {q r : Option Addr} {m : Option Mp} {x : Wd} {ds : List Drv} {os : List FleetMath.Ord} {ps : List RM}
theorem use_total {T : Option Int} (h : CR W q r m x ds os ps u) (hT : totalM m ds os (ps.map (·.rt)) = T) :
    Calls Tryz.prog 9 #[.pointer q, x.ds.v, x.os.v, x.pl.v] u (Gives u (optV T)) := by
  have := ptotal_any W.heap.size (.pointer q) m x.ds.a x.ds.n x.ds.c ds x.os.a x.os.n x.os.c os x.pl.a x.pl.n x.pl.c ps u x.ds.h x.os.h h.map h.drvs h.ords h.plns
  rw [hT] at this
  exact this
theorem use_make3 (h : CR W q r m x ds os ps u) {cs : List (List Vis)} {k : Nat} {e : Int} (hr : makeC m ds os (ps.map (·.rt)) = (cs, k, e)) :
    Calls Tryz.prog 17 #[.pointer q, x.ds.v, x.os.v, x.pl.v] u fun en u' => ∃ B n c, en = .returned (.tuple #[.slice B n c, faultV k e]) ∧ Below u.heap.size u u' := by
  refine (pmake_any W.heap.size _ m _ _ _ ds _ _ _ os _ _ _ ps u x.ds.h x.os.h h.map h.drvs h.ords h.plns).mono ?_
  rintro en u' ⟨v, l, rfl, hm⟩
  rw [hr] at hm ⊢
  obtain ⟨B, c, rfl⟩ := hm.new.own.slice
  exact ⟨B, _, c, rfl, hm.new.old⟩
theorem use_repair {b : Int} {R : Option RSt} (h : CR W q r m x ds os ps u) (h80 : x.os.n * 80 ≤ 140737488351232) (hR : repairM m ds os (ps.map (·.rt)) b = R) :
    Calls Tryz.prog 11 #[.pointer q, x.ds.v, x.os.v, x.pl.v, .int .i64 b] u (RepairOk u R) := by
  have := prepair_any W.heap.size (.pointer q) m x.ds.a x.ds.n x.ds.c ds x.os.a x.os.n x.os.c os x.pl.a x.pl.n x.pl.c ps b u x.ds.h x.os.h h.map h.drvs h.ords h.plns h80
  rw [hR] at this
  exact this
theorem use_repair2 {b : Int} {R : Option RSt} {B : Option Addr} {n c : Nat} {l : List RM} {p : List Rte} (h : CR W q r m x ds os ps u) (hl : Plns u u.heap.size B n l) (he : l.map (·.rt) = p) (h80 : x.os.n * 80 ≤ 140737488351232) (hR : repairM m ds os p b = R) :
    Calls Tryz.prog 11 #[.pointer q, x.ds.v, x.os.v, .slice B n c, .int .i64 b] u (RepairOk u R) := by
  have := prepair_any W.heap.size (.pointer q) m x.ds.a x.ds.n x.ds.c ds x.os.a x.os.n x.os.c os B n c l b u x.ds.h x.os.h h.map h.drvs h.ords hl h80
  rw [he, hR] at this
  exact this
theorem use_pass {b : Int} {R : Option (List Rte × Nat)} {B : Option Addr} {n c : Nat} {l : List RM} {p : List Rte} (h : CR W q r m x ds os ps u) (hl : Plns u u.heap.size B n l) (he : l.map (·.rt) = p) (h80 : x.os.n * 80 ≤ 140737488351232) (hnc : n ≤ c) (hR : passM m ds os p b = R) :
    Calls Tryz.prog 10 #[.pointer q, x.ds.v, x.os.v, .slice B n c, .int .i64 b] u (PassOk u R) := by
  have := ppass_any W.heap.size (.pointer q) m x.ds.a x.ds.n x.ds.c ds x.os.a x.os.n x.os.c os B n c l b u x.ds.h x.os.h h.map h.drvs h.ords hl h80 hnc
  rw [he, hR] at this
  exact this
end
end Go.Proofs.YtilggpkmdmelmaaGreat.RepairW
