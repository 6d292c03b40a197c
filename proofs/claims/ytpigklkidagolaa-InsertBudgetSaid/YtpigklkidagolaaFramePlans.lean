/-
  FramePlan, FrameSpot: one text.
-/
import Derived.Test.YtpigklkidagolaaFrames
import Derived.Test.YtpigklkidagolaaWordsRte
/-
  A plan that came in, opened: its routes, each with its stops; how long they may be.
-/
namespace Go.Proofs.Ytpigklkidagolaa.Frames
open Go.ChangeShapes Go.WideShapes Go.ChangeAt Go.RowKit Go.Deep Go.Proofs.Ytpigklkidagolaa.Mem Go.Proofs.Ytpigklkidagolaa.Rec Go.Proofs.Ytpigklkidagolaa.FleetMath Go.Proofs.Ytpigklkidagolaa.PlanMath

set_option maxRecDepth 100000
theorem cellsRte : Try.prog.cellsOf 39 = 3 := by kernel_rfl
theorem bytesRte : Try.prog.bytesOf 39 = 40 := by kernel_rfl
theorem cellsStps : Try.prog.cellsOf 37 = 1 := by kernel_rfl
/-- no slice within is longer than the form's reach, or all of it is of small bulk -/
def Lite {H : Type} (t : TypeId) (d : DataW H) : Prop := Light t d ∨ Rows.uptoBulk d ≤ 1048576
theorem bulk_mem {H : Type} {l : List (DataW H)} {d : DataW H} (hd : d ∈ l) : Rows.uptoBulk d ≤ Rows.uptoBulkAll l := by
  induction l with
  | nil => cases hd
  | cons x r ih =>
    simp only [Rows.uptoBulkAll]
    rcases List.mem_cons.1 hd with rfl | hd
    · omega
    · have := ih hd
      omega
theorem Lite.elem {H : Type} {t e : TypeId} {l m : List (DataW H)} (h : Lite t (.slice l m)) (hu : Try.prog.underlying t = some (.slice e)) {d : DataW H} (hd : d ∈ l) : Lite e d := by
  rcases h with h | h
  · exact .inl (h.elem hu hd)
  · have := bulk_mem hd
    simp only [Rows.uptoBulk] at h
    exact .inr (by omega)
theorem Lite.field {H : Type} {t T : TypeId} {fs : Array Field} {parts : List (DataW H)} {d : DataW H} {i : Nat} (h : Lite t (.agg parts)) (hu : Try.prog.underlying t = some (.struct fs)) (hT : (fs[i]?).map (·.type) = some T) (hd : parts[i]? = some d) : Lite T d := by
  rcases h with h | h
  · exact .inl (h.field hu hT hd)
  · have := bulk_mem (List.mem_of_getElem? hd)
    simp only [Rows.uptoBulk] at h
    exact .inr (by omega)
theorem Lite.size {H : Type} {t e : TypeId} {d : DataW H} {cap k : Nat} (h : Lite t d) (hu : Try.prog.underlying t = some (.slice e)) (hi : SlData d cap) (hk : Try.prog.bytesOf e = k) (hk1 : k ≤ 1000) : cap * k ≤ 140737488351232 := by
  rcases h with h | h
  · rw [← hk]; exact h.size hu hi
  · have h1 : cap ≤ 1048576 := by
      rcases hi with ⟨_, rfl⟩ | ⟨l, m, rfl, e1⟩
      · omega
      · have b1 := length_le l
        have b2 := length_le m
        simp only [Rows.uptoBulk] at h
        omega
    have h2 : cap * k ≤ 1048576 * 1000 := Nat.mul_le_mul h1 hk1
    omega
/-- what is known of a route that came in -/
structure RteOk (W : World) (r : RM) : Prop where
  drv : wfI r.rt.drv
  served : wfI r.rt.served
  ords : ∀ s ∈ r.rt.stops, wfI s.ord
  stops : Stps W W.heap.size r.a r.n r.rt.stops
  le : r.n ≤ r.c
  few : r.n * 16 ≤ 140737488351232
/-- .. of a plan -/
structure PlnOk (W : World) (a : Option Addr) (n c : Nat) (l : List RM) : Prop where
  plns : Plns W W.heap.size a n l
  le : n ≤ c
  few : c * 40 ≤ 140737488351232
  each : ∀ r ∈ l, RteOk W r
section
variable {H : Type} {enc : TypeId × Value → H} {W : World}
theorem rte_in {n : Nat} {cs : List Value} {y : DataW H × List MemPlace} (h : DataW.trod enc Try.prog W 0 (fun _ => true) true n 39 cs = some y) (hl : Lite 39 y.1) :
    ∃ r : RM, cs = rmL r ∧ RteOk W r ∧ ∃ d0 d1 d2, y.1 = .agg [d0, d1, d2] ∧ SlData d2 r.c := by
  obtain ⟨xs, k, hx, hlen, hn, hf⟩ := fields_of Try.underlying39 h
  rw [cellsRte] at hlen
  match cs, hlen with
  | [c0, c1, c2], _ =>
    obtain ⟨z0, x0, h0⟩ := hf 0 3 0 rfl
    obtain ⟨z1, x1, h1⟩ := hf 1 3 1 rfl
    obtain ⟨z2, x2, h2⟩ := hf 2 37 2 rfl
    simp only [cellsInt, cellsStps] at h0 h1 h2
    obtain ⟨v0, e0, w0⟩ := int_in h0
    obtain ⟨v1, e1, w1⟩ := int_in h1
    obtain ⟨a, len, cap, e2, i1, i2, i3, l, i4, i5, i6⟩ := list_in (k := 2) (fun x : Stp => [.int .i64 x.ord, .bool x.drop]) (fun x => wfI x.ord) (fun _ => rfl) (by omega) Try.underlying37 cellsStp (fun n cs y h => stp_in h) h2
    simp at e0 e1 e2
    subst e0 e1 e2
    rw [hx] at hl
    have hlen3 : xs.length = 3 := hn
    have hb := (hl.field (i := 2) (T := 37) (d := z2.1) Try.underlying39 rfl (by rw [List.getElem?_map, x2]; rfl)).size Try.underlying37 i3 bytesStp (by omega)
    refine ⟨⟨⟨v0, v1, l⟩, a, len, cap⟩, rfl, ⟨w0, w1, i6, i4, i1, by simp only; omega⟩, z0.1, z1.1, z2.1, ?_, i3⟩
    rw [hx]
    match xs, hlen3, x0, x1, x2 with
    | [y0, y1, y2], _, e0, e1, e2 =>
      simp at e0 e1 e2
      rw [e0, e1, e2]
      rfl
theorem plan_in {n : Nat} {cs : List Value} {y : DataW H × List MemPlace} (h : DataW.trod enc Try.prog W 0 (fun _ => true) true n 47 cs = some y) (hl : Lite 47 y.1) :
    ∃ (a : Option Addr) (len cap : Nat), cs = [.slice a len cap] ∧ ∃ l : List RM, PlnOk W a len cap l ∧ (allS (l.map (·.rt))).length ≤ Rows.uptoBulk y.1 := by
  obtain ⟨a', len', cap', e, h1, h2, h3, l, ds, ms, h4, h5, h6, h7, h8⟩ := list_inG (Lite 39) (fun l m e d hd => by
    rw [e] at hl
    exact hl.elem Try.underlying47 hd) (k := 3) rmL (fun r d => RteOk W r ∧ ∃ d0 d1 d2, d = .agg [d0, d1, d2] ∧ SlData d2 r.c) (fun _ => rfl) (by omega) Try.underlying47 cellsRte (fun n cs y h hl => rte_in h hl) h
  have hcap := hl.size Try.underlying47 h3 bytesRte (by omega)
  have each : ∀ r ∈ l, RteOk W r := by
    intro r hr
    obtain ⟨i, hi⟩ := List.mem_iff_getElem?.1 hr
    have hlt : i < ds.length := by rw [h7, ← h5]; exact (List.getElem?_eq_some_iff.1 hi).1
    exact (h8 i r _ hi (List.getElem?_eq_getElem hlt)).1
  refine ⟨a', len', cap', e, l, ⟨⟨h4, fun r hr => ⟨(each r hr).stops, (each r hr).le, (each r hr).few⟩⟩, h1, hcap, each⟩, ?_⟩
  have key : ∀ (l : List RM) (ds : List (DataW H)), ds.length = l.length → (∀ (i : Nat) x d, l[i]? = some x → ds[i]? = some d → RteOk W x ∧ ∃ d0 d1 d2, d = .agg [d0, d1, d2] ∧ SlData d2 x.c) → (allS (l.map (·.rt))).length ≤ Rows.uptoBulkAll ds := by
    intro l
    induction l with
    | nil => intro ds _ _; simp [allS]
    | cons x r ih =>
      intro ds hlen hg
      match ds, hlen with
      | d :: dr, hlen =>
        obtain ⟨ok, d0, d1, d2, e, hs⟩ := hg 0 x d rfl rfl
        have h1 := ih dr (by simpa using hlen) (fun i x d hx hd => hg (i + 1) x d (by simpa using hx) (by simpa using hd))
        have h2 : x.rt.stops.length ≤ Rows.uptoBulk d := by
          have hle := ok.le
          have hlen2 := Stps.length ok.stops
          subst e
          simp only [Rows.uptoBulk, Rows.uptoBulkAll]
          rcases hs with ⟨_, h0⟩ | ⟨u, v, rfl, huv⟩
          · omega
          · have b1 := length_le u
            have b2 := length_le v
            simp only [Rows.uptoBulk]
            omega
        have e3 : (allS ((x :: r).map (·.rt))).length = x.rt.stops.length + (allS (r.map (·.rt))).length := by simp [allS]
        rw [e3]
        simp only [Rows.uptoBulkAll]
        omega
  have hk := key l ds (by rw [h7, h5]) h8
  rcases h6 with ⟨e, e2⟩ | e
  · subst e2
    simp only [Rows.uptoBulkAll] at hk
    omega
  · rw [e]
    simp only [Rows.uptoBulk]
    omega
theorem plan_open {a : Option Addr} {len cap : Nat} {d : DataW H} {p : List MemPlace} (h : DataW.Trod enc Try.prog W 0 (fun _ => true) true 47 (.slice a len cap) d p) (hl : Lite 47 d) :
    ∃ l : List RM, PlnOk W a len cap l ∧ (allS (l.map (·.rt))).length ≤ Rows.uptoBulk d := by
  obtain ⟨fuel, hf⟩ := h
  obtain ⟨a', len', cap', e, l, h1, h2⟩ := plan_in hf hl
  simp [Value.cells] at e
  obtain ⟨rfl, rfl, rfl⟩ := e
  exact ⟨l, h1, h2⟩
end
#print axioms plan_open
end Go.Proofs.Ytpigklkidagolaa.Frames

/-
  A spot that came in, opened.
-/
namespace Go.Proofs.Ytpigklkidagolaa.Frames
open Go.ChangeShapes Go.WideShapes Go.ChangeAt Go.RowKit Go.Deep Go.Proofs.Ytpigklkidagolaa.Mem Go.Proofs.Ytpigklkidagolaa.Rec Go.Proofs.Ytpigklkidagolaa.FleetMath Go.Proofs.Ytpigklkidagolaa.PlanMath

set_option maxRecDepth 100000
theorem cellsSpot : Try.prog.cellsOf 42 = 4 := by kernel_rfl
section
variable {H : Type} {enc : TypeId × Value → H} {W : World}
theorem spot_open {r : Reach} {b0 : Nat} {v : Value} {d : DataW H} {p : List MemPlace} (hv : Value.okWide Try.prog W r b0 42 v) (h : DataW.Trod enc Try.prog W 0 (fun _ => true) true 42 v d p) :
    ∃ x : Spt × Int, v = .agg #[.int .i64 x.1.drv, .int .i64 x.1.pick, .int .i64 x.1.drop, .int .i64 x.2] ∧ wfI x.1.drv ∧ wfI x.1.pick ∧ wfI x.1.drop ∧ wfI x.2 := by
  obtain ⟨cs, rfl, _⟩ := okWide_struct Try.underlying42 hv
  obtain ⟨l⟩ := cs
  obtain ⟨fuel, hf⟩ := h
  obtain ⟨xs, k, _, hl, _, hfs⟩ := fields_of Try.underlying42 hf
  rw [cellsSpot] at hl
  simp only [Value.cells] at hl hfs
  match l, hl with
  | [c0, c1, c2, c3], _ =>
    obtain ⟨z0, _, h0⟩ := hfs 0 3 0 rfl
    obtain ⟨z1, _, h1⟩ := hfs 1 3 1 rfl
    obtain ⟨z2, _, h2⟩ := hfs 2 3 2 rfl
    obtain ⟨z3, _, h3⟩ := hfs 3 3 3 rfl
    simp only [cellsInt] at h0 h1 h2 h3
    obtain ⟨v0, e0, w0⟩ := int_in h0
    obtain ⟨v1, e1, w1⟩ := int_in h1
    obtain ⟨v2, e2, w2⟩ := int_in h2
    obtain ⟨v3, e3, w3⟩ := int_in h3
    simp at e0 e1 e2 e3
    subst e0 e1 e2 e3
    exact ⟨⟨⟨v0, v1, v2⟩, v3⟩, rfl, w0, w1, w2, w3⟩
end
#print axioms spot_open
end Go.Proofs.Ytpigklkidagolaa.Frames
