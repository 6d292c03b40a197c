import Derived.Test.YtilggpkmdmelmaaGreatFrames
import Derived.Test.YtilggpkmdmelmaaGreatWordsRte
namespace Go.Proofs.YtilggpkmdmelmaaGreat.Frames
open Go.ChangeShapes Go.WideShapes Go.ChangeAt Go.RowKit Go.Deep Go.Proofs.YtilggpkmdmelmaaGreat.Mem Go.Proofs.YtilggpkmdmelmaaGreat.Rec Go.Proofs.YtilggpkmdmelmaaGreat.FleetMath Go.Proofs.YtilggpkmdmelmaaGreat.PlanMath
set_option maxRecDepth 100000
theorem cellsRte : Tryz.prog.cellsOf 40 = 3 := by kernel_rfl
theorem bytesRte : Tryz.prog.bytesOf 40 = 40 := by kernel_rfl
theorem cellsStps : Tryz.prog.cellsOf 38 = 1 := by kernel_rfl
def Lite {H : Type} (t : TypeId) (d : DataW H) : Prop := Light t d ∨ Rows.uptoBulk d ≤ 1048576
theorem bulk_mem {H : Type} {l : List (DataW H)} {d : DataW H} (hd : d ∈ l) : Rows.uptoBulk d ≤ Rows.uptoBulkAll l := by
  induction l with
  | nil => cases hd
  | cons x r ih =>
    simp only [Rows.uptoBulkAll]
    rcases List.mem_cons.1 hd with rfl | hd
    · omega
    · have := ih hd
      omega
theorem Lite.elem {H : Type} {t e : TypeId} {l m : List (DataW H)} (h : Lite t (.slice l m)) (hu : Tryz.prog.underlying t = some (.slice e)) {d : DataW H} (hd : d ∈ l) : Lite e d := by
  rcases h with h | h
  · exact .inl (h.elem hu hd)
  · have := bulk_mem hd
    simp only [Rows.uptoBulk] at h
    exact .inr (by omega)
theorem Lite.field {H : Type} {t T : TypeId} {fs : Array Field} {parts : List (DataW H)} {d : DataW H} {i : Nat} (h : Lite t (.agg parts)) (hu : Tryz.prog.underlying t = some (.struct fs)) (hT : (fs[i]?).map (·.type) = some T) (hd : parts[i]? = some d) : Lite T d := by
  rcases h with h | h
  · exact .inl (h.field hu hT hd)
  · have := bulk_mem (List.mem_of_getElem? hd)
    simp only [Rows.uptoBulk] at h
    exact .inr (by omega)
theorem Lite.size {H : Type} {t e : TypeId} {d : DataW H} {cap k : Nat} (h : Lite t d) (hu : Tryz.prog.underlying t = some (.slice e)) (hi : SlData d cap) (hk : Tryz.prog.bytesOf e = k) (hk1 : k ≤ 1000) : cap * k ≤ 140737488351232 := by
  rcases h with h | h
  · rw [← hk]; exact h.size hu hi
  · have h1 : cap ≤ 1048576 := by
      rcases hi with ⟨_, rfl⟩ | ⟨l, m, rfl, e1⟩
      · omega
      · have b1 := length_le l
        have b2 := length_le m
        simp only [Rows.uptoBulk] at h
        omega
    have h2 : cap * k ≤ 1048576 * 1000 := Nat.mul_le_mul h1 hk1
    omega
structure RteOk (W : World) (r : RM) : Prop where
  drv : wfI r.rt.drv
  served : wfI r.rt.served
  ords : ∀ s ∈ r.rt.stops, wfI s.ord
  stops : Stps W W.heap.size r.a r.n r.rt.stops
  le : r.n ≤ r.c
  few : r.n * 16 ≤ 140737488351232
structure PlnOk (W : World) (a : Option Addr) (n c : Nat) (l : List RM) : Prop where
  plns : Plns W W.heap.size a n l
  le : n ≤ c
  few : c * 40 ≤ 140737488351232
  each : ∀ r ∈ l, RteOk W r
section
variable {H : Type} {enc : TypeId × Value → H} {W : World}
theorem rte_in {n : Nat} {cs : List Value} {y : DataW H × List MemPlace} (h : DataW.trod enc Tryz.prog W 0 (fun _ => true) true n 40 cs = some y) (hl : Lite 40 y.1) :
    ∃ r : RM, cs = rmL r ∧ RteOk W r ∧ ∃ d0 d1 d2, y.1 = .agg [d0, d1, d2] ∧ SlData d2 r.c := by
  obtain ⟨xs, k, hx, hlen, hn, hf⟩ := fields_of Tryz.underlying40 h
  rw [cellsRte] at hlen
  match cs, hlen with
  | [c0, c1, c2], _ =>
    obtain ⟨z0, x0, h0⟩ := hf 0 3 0 rfl
    obtain ⟨z1, x1, h1⟩ := hf 1 3 1 rfl
    obtain ⟨z2, x2, h2⟩ := hf 2 38 2 rfl
    simp only [cellsInt, cellsStps] at h0 h1 h2
    obtain ⟨v0, e0, w0⟩ := int_in h0
    obtain ⟨v1, e1, w1⟩ := int_in h1
    obtain ⟨a, len, cap, e2, i1, i2, i3, l, i4, i5, i6⟩ := list_in (k := 2) (fun x : Stp => [.int .i64 x.ord, .bool x.drop]) (fun x => wfI x.ord) (fun _ => rfl) (by omega) Tryz.underlying38 cellsStp (fun n cs y h => stp_in h) h2
    simp at e0 e1 e2
    subst e0 e1 e2
    rw [hx] at hl
    have hlen3 : xs.length = 3 := hn
    have hb := (hl.field (i := 2) (T := 38) (d := z2.1) Tryz.underlying40 rfl (by rw [List.getElem?_map, x2]; rfl)).size Tryz.underlying38 i3 bytesStp (by omega)
    refine ⟨⟨⟨v0, v1, l⟩, a, len, cap⟩, rfl, ⟨w0, w1, i6, i4, i1, by simp only; omega⟩, z0.1, z1.1, z2.1, ?_, i3⟩
    rw [hx]
    match xs, hlen3, x0, x1, x2 with
    | [y0, y1, y2], _, e0, e1, e2 =>
      simp at e0 e1 e2
      rw [e0, e1, e2]
      rfl
theorem plan_in {n : Nat} {cs : List Value} {y : DataW H × List MemPlace} (h : DataW.trod enc Tryz.prog W 0 (fun _ => true) true n 42 cs = some y) (hl : Lite 42 y.1) :
    ∃ (a : Option Addr) (len cap : Nat), cs = [.slice a len cap] ∧ ∃ l : List RM, PlnOk W a len cap l ∧ (allS (l.map (·.rt))).length ≤ Rows.uptoBulk y.1 := by
  obtain ⟨a', len', cap', e, h1, h2, h3, l, ds, ms, h4, h5, h6, h7, h8⟩ := list_inG (Lite 40) (fun l m e d hd => by
    rw [e] at hl
    exact hl.elem Tryz.underlying42 hd) (k := 3) rmL (fun r d => RteOk W r ∧ ∃ d0 d1 d2, d = .agg [d0, d1, d2] ∧ SlData d2 r.c) (fun _ => rfl) (by omega) Tryz.underlying42 cellsRte (fun n cs y h hl => rte_in h hl) h
  have hcap := hl.size Tryz.underlying42 h3 bytesRte (by omega)
  have each : ∀ r ∈ l, RteOk W r := by
    intro r hr
    obtain ⟨i, hi⟩ := List.mem_iff_getElem?.1 hr
    have hlt : i < ds.length := by rw [h7, ← h5]; exact (List.getElem?_eq_some_iff.1 hi).1
    exact (h8 i r _ hi (List.getElem?_eq_getElem hlt)).1
  refine ⟨a', len', cap', e, l, ⟨⟨h4, fun r hr => ⟨(each r hr).stops, (each r hr).le, (each r hr).few⟩⟩, h1, hcap, each⟩, ?_⟩
  have key : ∀ (l : List RM) (ds : List (DataW H)), ds.length = l.length → (∀ (i : Nat) x d, l[i]? = some x → ds[i]? = some d → RteOk W x ∧ ∃ d0 d1 d2, d = .agg [d0, d1, d2] ∧ SlData d2 x.c) → (allS (l.map (·.rt))).length ≤ Rows.uptoBulkAll ds := by
    intro l
    induction l with
    | nil => intro ds _ _; simp [allS]
    | cons x r ih =>
      intro ds hlen hg
      match ds, hlen with
      | d :: dr, hlen =>
        obtain ⟨ok, d0, d1, d2, e, hs⟩ := hg 0 x d rfl rfl
        have h1 := ih dr (by simpa using hlen) (fun i x d hx hd => hg (i + 1) x d (by simpa using hx) (by simpa using hd))
        have h2 : x.rt.stops.length ≤ Rows.uptoBulk d := by
          have hle := ok.le
          have hlen2 := Stps.length ok.stops
          subst e
          simp only [Rows.uptoBulk, Rows.uptoBulkAll]
          rcases hs with ⟨_, h0⟩ | ⟨u, v, rfl, huv⟩
          · omega
          · have b1 := length_le u
            have b2 := length_le v
            simp only [Rows.uptoBulk]
            omega
        have e3 : (allS ((x :: r).map (·.rt))).length = x.rt.stops.length + (allS (r.map (·.rt))).length := by simp [allS]
        rw [e3]
        simp only [Rows.uptoBulkAll]
        omega
  have hk := key l ds (by rw [h7, h5]) h8
  rcases h6 with ⟨e, e2⟩ | e
  · subst e2
    simp only [Rows.uptoBulkAll] at hk
    omega
  · rw [e]
    simp only [Rows.uptoBulk]
    omega
end
end Go.Proofs.YtilggpkmdmelmaaGreat.Frames
