/-
  A world that came in by value (draykeep.World), opened: its cells, the lists behind them, how long they may be.
-/
import Derived.Test.YtjkahookgoecpaaFrameKeep
namespace Go.Proofs.Ytjkahookgoecpaa.Frames
open Go.ChangeShapes Go.WideShapes Go.ChangeAt Go.RowKit Go.Deep Go.Proofs.Ytjkahookgoecpaa.Mem Go.Proofs.Ytjkahookgoecpaa.Rec Go.Proofs.Ytjkahookgoecpaa.FleetMath Go.Proofs.Ytjkahookgoecpaa.Keep

/-- what is known of a world that came in -/
structure WdOk (W : World) (x : Wd) (zs : List Int) (vs : List Drv) (rs : List FleetMath.Ord) : Prop where
  ts : Ints W W.heap.size x.ts.a x.ts.n zs
  ds : Drvs W W.heap.size x.ds.a x.ds.n vs
  os : Ords W W.heap.size x.os.a x.os.n rs
  tsn : x.ts.n * 8 ≤ 140737488351232
  dsn : x.ds.n * 48 ≤ 140737488351232
  osn : x.os.n * 80 ≤ 140737488351232
  good : (∀ z ∈ zs, wfI z) ∧ (∀ d ∈ vs, goodDrv d) ∧ (∀ o ∈ rs, goodOrd o) ∧ wfI x.n
set_option maxRecDepth 100000
section
variable {H : Type} {enc : TypeId × Value → H} {W : World}
theorem ints_in {n : Nat} {cs : List Value} {y : DataW H × List MemPlace} (h : DataW.trod enc Try.prog W 0 (fun _ => true) true n 47 cs = some y) :
    ∃ (a : Option Addr) (len cap : Nat), cs = [.slice a len cap] ∧ len ≤ cap ∧ SlData y.1 cap ∧ ∃ zs : List Int, Ints W W.heap.size a len zs ∧ ∀ z ∈ zs, wfI z := by
  obtain ⟨a, len, cap, rfl, h1, h2, h3, l, h4, h5, h6⟩ := list_in (k := 1) (fun v : Int => [Value.int .i64 v]) wfI (fun _ => rfl) (by omega) Try.underlying47 cellsInt (fun n cs y h => int_in h) h
  refine ⟨a, len, cap, rfl, h1, h3, l, ?_, h6⟩
  have e : l.flatMap (fun v : Int => [Value.int .i64 v]) = intsV l := List.map_eq_flatMap.symm
  rw [e] at h4
  obtain ⟨g1, g2, g3⟩ := h4
  exact ⟨by rw [g1, Nat.mul_one], g2, g3⟩
theorem ord_open {r : Reach} {b0 : Nat} {v : Value} {d : DataW H} {p : List MemPlace} (hv : Value.okWide Try.prog W r b0 31 v) (h : DataW.Trod enc Try.prog W 0 (fun _ => true) true 31 v d p) : ∃ x : FleetMath.Ord, v = ordV x ∧ goodOrd x := by
  obtain ⟨cs, rfl, _⟩ := okWide_struct Try.underlying31 hv
  obtain ⟨l⟩ := cs
  obtain ⟨fuel, hf⟩ := h
  obtain ⟨x, hx, hg⟩ := ord_in hf
  simp only [Value.cells] at hx
  subst hx
  exact ⟨x, rfl, hg⟩
theorem drv_open {r : Reach} {b0 : Nat} {v : Value} {d : DataW H} {p : List MemPlace} (hv : Value.okWide Try.prog W r b0 33 v) (h : DataW.Trod enc Try.prog W 0 (fun _ => true) true 33 v d p) : ∃ x : Drv, v = drvV x ∧ goodDrv x := by
  obtain ⟨cs, rfl, _⟩ := okWide_struct Try.underlying33 hv
  obtain ⟨l⟩ := cs
  obtain ⟨fuel, hf⟩ := h
  obtain ⟨x, hx, hg⟩ := drv_in hf
  simp only [Value.cells] at hx
  subst hx
  exact ⟨x, rfl, hg⟩
theorem world_open {r : Reach} {b0 : Nat} {v : Value} {d : DataW H} {p : List MemPlace} (hv : Value.okWide Try.prog W r b0 52 v) (h : DataW.Trod enc Try.prog W 0 (fun _ => true) true 52 v d p)
    {ts : List TypeId} {ds : List (DataW H)} (hsz : (DataW.weightsEach Try.prog ts ds).all (· ≤ reachBytes) = true) {j : Nat} (ht : ts[j]? = some 52) (hd : ds[j]? = some d) :
    ∃ x : Wd, v = wdV x ∧ ∃ ts ds os, WdOk W x ts ds os := by
  obtain ⟨cs, rfl, _⟩ := okWide_struct Try.underlying52 hv
  obtain ⟨l⟩ := cs
  obtain ⟨fuel, hf⟩ := h
  obtain ⟨xs, k, hx, hl, hlen, hfs⟩ := fields_of Try.underlying52 hf
  rw [cellsWorld] at hl
  simp only at hx
  subst hx
  have hs := sized_agg hsz ht hd Try.underlying52
  simp only [Value.cells] at hl hfs
  match l, hl with
  | [c0, c1, c2, c3, c4], _ =>
    obtain ⟨z0, _, h0⟩ := hfs 0 3 0 rfl
    obtain ⟨z1, x1, h1⟩ := hfs 1 47 1 rfl
    obtain ⟨z2, x2, h2⟩ := hfs 2 48 2 rfl
    obtain ⟨z3, x3, h3⟩ := hfs 3 36 3 rfl
    obtain ⟨z4, _, h4⟩ := hfs 4 50 4 rfl
    simp only [cellsInt, show Try.prog.cellsOf 47 = 1 by kernel_rfl, show Try.prog.cellsOf 48 = 1 by kernel_rfl, show Try.prog.cellsOf 36 = 1 by kernel_rfl, show Try.prog.cellsOf 50 = 1 by kernel_rfl] at h0 h1 h2 h3 h4
    obtain ⟨v0, e0, w0⟩ := int_in h0
    obtain ⟨a1, n1, p1, e1, le1, s1, l1, i1, g1⟩ := ints_in h1
    obtain ⟨a2, n2, p2, e2, le2, _, s2, l2, i2, _, g2⟩ := list_in (k := 6) (fun d : Drv => [.int .i64 d.id, .int .i64 d.room, .int .i64 d.home, .int .i64 d.win.fr, .int .i64 d.win.to, .bool d.retired]) goodDrv (fun _ => rfl) (by omega) Try.underlying48 cellsDrv (fun n cs y h => drv_in h) h2
    obtain ⟨a3, n3, p3, e3, le3, _, s3, l3, i3, _, g3⟩ := list_in (k := 10) (fun o : FleetMath.Ord => [.int .i64 o.id, .int .i64 o.size, .int .i64 o.pick.place, .int .i64 o.pick.win.fr, .int .i64 o.pick.win.to, .int .i64 o.pick.serv, .int .i64 o.drop.place, .int .i64 o.drop.win.fr, .int .i64 o.drop.win.to, .int .i64 o.drop.serv]) goodOrd (fun _ => rfl) (by omega) Try.underlying36 cellsOrd (fun n cs y h => ord_in h) h3
    have e4 : ∃ a n c, c4 = .slice a n c ∧ n ≤ c := by
      rcases open_slice Try.underlying50 h4 with ⟨e, _⟩ | ⟨a, n, c, _, _, _, _, e, _, hl, _⟩
      · simp at e; exact ⟨_, _, _, e, Nat.le_refl _⟩
      · simp at e; exact ⟨_, _, _, e, hl⟩
    obtain ⟨a4, n4, p4, rfl, le4⟩ := e4
    simp at e0 e1 e2 e3
    subst e0 e1 e2 e3
    have b1 := sl_reach (j := 1) (d := z1.1) hs rfl (by simp [x1]) Try.underlying47 s1
    have b2 := sl_reach (j := 2) (d := z2.1) hs rfl (by simp [x2]) Try.underlying48 s2
    have b3 := sl_reach (j := 3) (d := z3.1) hs rfl (by simp [x3]) Try.underlying36 s3
    rw [bytesInt] at b1
    rw [bytesDrv] at b2
    rw [bytesOrd] at b3
    exact ⟨⟨v0, ⟨a1, n1, p1, le1⟩, ⟨a2, n2, p2, le2⟩, ⟨a3, n3, p3, le3⟩, ⟨a4, n4, p4, le4⟩⟩, rfl, l1, l2, l3, i1, i2, i3, by simp only; omega, by simp only; omega, by simp only; omega, g1, g2, g3, w0⟩
end

#print axioms world_open
end Go.Proofs.Ytjkahookgoecpaa.Frames
