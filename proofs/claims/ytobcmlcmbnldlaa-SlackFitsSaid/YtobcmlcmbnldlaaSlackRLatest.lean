/-
  The document's own answer to chapter 8, walked: Latest.
-/
import Derived.Test.YtobcmlcmbnldlaaSlackMath
import Derived.Test.YtobcmlcmbnldlaaRouteKeep
import Derived.Test.YtobcmlcmbnldlaaSpanAll
import Derived.Laws.OwnMore
import Derived.Test.YtobcmlcmbnldlaaLibRows
namespace Go.Proofs.Ytobcmlcmbnldlaa.Slack
open Go.ChangeShapes Go.WideShapes Go.ChangeAt Go.RowKit Go.Proofs.Ytobcmlcmbnldlaa.Mem Go.Proofs.Ytobcmlcmbnldlaa.GeoMath Go.Proofs.Ytobcmlcmbnldlaa.FleetMath Go.Proofs.Ytobcmlcmbnldlaa.Rec Go.Proofs.Ytobcmlcmbnldlaa.Geo Go.Proofs.Ytobcmlcmbnldlaa.Span Go.Proofs.Ytobcmlcmbnldlaa.Deal Go.Proofs.Ytobcmlcmbnldlaa.Route
set_option linter.unusedVariables false

/-- a list of ints in new memory, and whether there is one -/
def LatestOk (w : World) (r : Option (List Int)) (e : Ending) (w' : World) : Prop :=
  Below w.heap.size w w' ∧ ∃ v, e = .returned (.tuple #[v, .bool r.isSome]) ∧ Own w' w.heap.size 3 v (r.getD []).length (intsV (r.getD []))
theorem make_ints (n : Nat) (hn : n ≤ 80) (u : World) : (Instr.makeSlice 37 (.int .i64 (n : Int)) (.int .i64 (n : Int))).run Try.prog u =
    .ok (.slice (some ⟨u.heap.size, 0, none⟩) n n) (u.alloc (.cells (intsV (List.replicate n 0)).toArray 3)) := by
  obtain ⟨i0, hi, hz0, hz1, hz2⟩ := info_parts infoInt
  have h := run_make (P := Try.prog) u 37 3 i0 (.int .i64 0) Try.underlying37 hi hz0 .i64 .i64 (n : Int) (n : Int) (by omega) (by omega) (by rw [hz2]; omega) (by omega)
  have e : madeCells (Value.cells (.int .i64 0)) (n * 1) = (intsV (List.replicate n 0)).toArray := by
    have := toList_madeCells_one (.int .i64 0) n
    rw [Nat.mul_one, show Value.cells (.int .i64 0) = #[.int .i64 0] from rfl]
    apply Array.ext'
    rw [this]
    simp [intsV]
  simp only [hz1, Int.toNat_natCast] at h
  rw [h, e]
/-- what stays through the loop: the driver, the list -/
structure LS (w : World) (d : Drv) (g n : Nat) (xs : List Int) (u : World) : Prop where
  old : Below w.heap.size w u
  drv : DBox u w.heap.size d
  own : Own u (w.heap.size + 1) 3 (.slice (some ⟨g, 0, none⟩) n n) n (intsV xs)
section
variable {w u u' : World} {d : Drv} {g n : Nat} {xs : List Int}
theorem LS.below (h : LS w d g n xs u) (hb : Below u.heap.size u u') : LS w d g n xs u' := ⟨h.old.trans (hb.mono h.old.size), h.drv.below hb, h.own.keep hb (Nat.le_refl _)⟩
theorem LS.at_ {k : Nat} (h : LS w d g n xs u) (hk : k < n) : ∃ x, xs[k]? = some x ∧ u.cell? ⟨g, k, none⟩ = some (.int .i64 x) ∧ u.frozen? ⟨g, k, none⟩ = false ∧ ∀ y : Int, LS w d g n (xs.set k y) (u.setCell ⟨g, k, none⟩ (.int .i64 y)) := by
  obtain ⟨v, hv, hc, hf, hs⟩ := h.own.at_ hk
  obtain ⟨x, hx, rfl⟩ := intsV_get hv
  have hg := (h.own.range g rfl).1
  refine ⟨x, hx, hc, hf, fun y => ⟨h.old.setCell (by show _ ≤ g; omega) _, (Below.heap_setCell u _ _ _ (by show w.heap.size ≠ g; omega)).trans h.drv, ?_⟩⟩
  rw [← intsV_set]
  exact hs _
end
theorem putS_below {B g : Nat} {a u : World} (h : Below B a u) (hg : B ≤ g) (si : Site) : Below B a (putS u g si) := (((h.setCell hg _).setCell hg _).setCell hg _).setCell hg _
theorem sbox_kept {w u' : World} (hb : Below (w.alloc (.cells #[.int .i64 0, .int .i64 0, .int .i64 0, .int .i64 0] 29)).drew.heap.size (w.alloc (.cells #[.int .i64 0, .int .i64 0, .int .i64 0, .int .i64 0] 29)).drew u') : SBox u' w.heap.size ⟨0, ⟨0, 0⟩, 0⟩ :=
  box_kept (v := [.int .i64 0, .int .i64 0, .int .i64 0, .int .i64 0]) hb
theorem below_new {w u' : World} {o : Obj} (hb : Below (w.alloc o).drew.heap.size (w.alloc o).drew u') : Below w.heap.size w u' := by
  have h1 : Below w.heap.size w (w.alloc o).drew := ((Below.refl _ _).alloc (Nat.le_refl _) _).drew
  exact h1.trans (hb.mono h1.size)
theorem below_drew {w u' : World} (hb : Below w.drew.heap.size w.drew u') : Below w.heap.size w u' := (Below.refl w.heap.size w).drew.trans hb
/-- a site in a box behind a world -/
structure SB (w : World) (g : Nat) (si : Site) (u : World) : Prop where
  on : Below w.heap.size w u
  box : SBox u g si
theorem SB.behind {w u : World} {si : Site} (h : Below w.heap.size w u) : SB w u.heap.size si (u.alloc (.cells #[.int .i64 si.place, .int .i64 si.win.fr, .int .i64 si.win.to, .int .i64 si.serv] 29)) := ⟨h.alloc h.size _, Blk.new u _ _⟩
theorem SB.ahead {w u : World} {x si : Site} (h : Below w.heap.size w u) (hx : SBox u w.heap.size x) : SB w w.heap.size si (putS u w.heap.size si) := ⟨putS_below h (Nat.le_refl _) _, putS_box hx si⟩
/-- the document's Find and Site, at any world behind another -/
theorem rfind_on {w u : World} {B n c : Nat} {A : Option Addr} {os : List FleetMath.Ord} {id : Int} {i : Nat} (h : Ords w B A n os) (hf : findI os id = some i) (hb : Below w.heap.size w u) (hB : B ≤ w.heap.size) :
    Calls Try.prog 36 #[.slice A n c, .int .i64 id] u fun e w' => e = .returned (.int .i64 (i : Int)) ∧ u = w' := by
  have := rfind_any A n c os id u B (Recs.keep h (hb.mono hB))
  rw [hf] at this
  exact this
theorem rsite_on {o : FleetMath.Ord} {s : Stp} {si : Site} (h : siteOf o s = si) (u : World) : Calls Try.prog 35 #[ordV o, stpV s] u (Gives u (siteV si)) := by rw [← h]; exact rsite_any o s u
theorem rsite_in {o : FleetMath.Ord} {s : Stp} {si : Site} {w u : World} (h : siteOf o s = si) (hb : Below w.heap.size w u) : Calls Try.prog 35 #[ordV o, stpV s] u fun e w' => e = .returned (siteV si) ∧ Below w.heap.size w w' ∧ Below u.heap.size u w' :=
  (rsite_on h u).mono fun _ _ ⟨h1, h2⟩ => ⟨h1, hb.trans (h2.mono hb.size), h2⟩
theorem rlast_on (x : Win) (s til : Int) (u : World) (h : til ≤ 9223372036854775807) : ∃ v b, (lastT x s til).getD 0 = v ∧ Calls Try.prog 38 #[winV x, .int .i64 s, .int .i64 til] u (Gives u (.tuple #[.int .i64 v, .bool b])) := by
  have := rlast_any x s til u h
  cases ho : lastT x s til with
  | none => rw [ho] at this; exact ⟨0, false, rfl, this⟩
  | some v => rw [ho] at this; exact ⟨v, true, rfl, this⟩
theorem stp_on {w : World} {B n k b off : Nat} {l : List Stp} {s : Stp} (h : Stps w B (some ⟨b, off, none⟩) n l) (hs : l[k]? = some s) :
    w.cell? ⟨b, off + k * 2, none⟩ = some (.int .i64 s.ord) ∧ w.cell? ⟨b, off + k * 2 + 1, none⟩ = some (.bool s.drop) := by
  have hk : k < n := by have := (List.getElem?_eq_some_iff.1 hs).1; have := h.length; omega
  obtain ⟨b', off', s', e, _, hs', _, c0, c1⟩ := Stps.at_ h hk
  injection e with e
  injection e with e1 e2
  subst e1; subst e2
  rw [hs] at hs'
  injection hs' with hs'
  subst hs'
  exact ⟨c0, c1⟩
theorem ords_addr {w : World} {B n i : Nat} {A : Option Addr} {os : List FleetMath.Ord} {o : FleetMath.Ord} (h : Ords w B A n os) (ho : os[i]? = some o) : ∃ b off, A = some ⟨b, off, none⟩ := by
  have hk : i < n := by have := (List.getElem?_eq_some_iff.1 ho).1; have := h.length; omega
  obtain ⟨b, off, _, e, _⟩ := Ords.at_ h hk
  exact ⟨b, off, e⟩
theorem ord_on {w : World} {B n i b off : Nat} {os : List FleetMath.Ord} {o : FleetMath.Ord} (h : Ords w B (some ⟨b, off, none⟩) n os) (ho : os[i]? = some o) : w.cell? ⟨b, off + i * 10, none⟩ = some (.int .i64 o.id) ∧ w.cell? ⟨b, off + i * 10 + 1, none⟩ = some (.int .i64 o.size) ∧ w.cell? ⟨b, off + i * 10 + 2, none⟩ = some (.int .i64 o.pick.place) ∧ w.cell? ⟨b, off + i * 10 + 3, none⟩ = some (.int .i64 o.pick.win.fr) ∧ w.cell? ⟨b, off + i * 10 + 4, none⟩ = some (.int .i64 o.pick.win.to) ∧ w.cell? ⟨b, off + i * 10 + 5, none⟩ = some (.int .i64 o.pick.serv) ∧ w.cell? ⟨b, off + i * 10 + 6, none⟩ = some (.int .i64 o.drop.place) ∧ w.cell? ⟨b, off + i * 10 + 7, none⟩ = some (.int .i64 o.drop.win.fr) ∧ w.cell? ⟨b, off + i * 10 + 8, none⟩ = some (.int .i64 o.drop.win.to) ∧ w.cell? ⟨b, off + i * 10 + 9, none⟩ = some (.int .i64 o.drop.serv) := by
  have hk : i < n := by have := (List.getElem?_eq_some_iff.1 ho).1; have := h.length; omega
  obtain ⟨b', off', o', e, _, ho', _, c0, c1, c2, c3, c4, c5, c6, c7, c8, c9⟩ := Ords.at_ h hk
  injection e with e
  injection e with e1 e2
  subst e1; subst e2
  rw [ho] at ho'
  injection ho' with ho'
  subst ho'
  exact ⟨c0, c1, c2, c3, c4, c5, c6, c7, c8, c9⟩
theorem exec_index_stp {o : Oper} {a : Act} {u : World} {x y : Operand} {b off n c k : Nat} (h : o.op = .indexAddr 41 x y) (hx : a.eval x = .slice (some ⟨b, off, none⟩) n c) (hy : a.eval y = .int .i64 k) (hk : k < n) (hn : n ≤ 9223372036854775807) :
    (execOp a.eval o).run Try.prog u = .ok (.value (.pointer (some ⟨b, off + k * 2, none⟩))) u := by
  obtain ⟨ρ, hρ⟩ : ∃ ρ, a.eval = ρ := ⟨_, rfl⟩
  rw [hρ] at hx hy ⊢
  have hk1 : (k : Int) < (n : Int) := by omega
  unfold execOp
  rw [h]
  simp [go_sem, hx, hy, hk1]
theorem exec_index_ord {o : Oper} {a : Act} {u : World} {x y : Operand} {b off n c k : Nat} (h : o.op = .indexAddr 36 x y) (hx : a.eval x = .slice (some ⟨b, off, none⟩) n c) (hy : a.eval y = .int .i64 k) (hk : k < n) (hn : n ≤ 9223372036854775807) :
    (execOp a.eval o).run Try.prog u = .ok (.value (.pointer (some ⟨b, off + k * 10, none⟩))) u := by
  obtain ⟨ρ, hρ⟩ : ∃ ρ, a.eval = ρ := ⟨_, rfl⟩
  rw [hρ] at hx hy ⊢
  have hk1 : (k : Int) < (n : Int) := by omega
  unfold execOp
  rw [h]
  simp [go_sem, hx, hy, hk1]
theorem exec_sord {o : Oper} {a : Act} {u : World} {x : Operand} {g i : Nat} (h : o.op = .fieldAddr 35 x 0) (hp : a.eval x = .pointer (some ⟨g, i, none⟩)) : (execOp a.eval o).run Try.prog u = .ok (.value (.pointer (some ⟨g, i, none⟩))) u := by
  unfold execOp
  rw [h]
  simp only [hp]
  simp [go_sem]
theorem run_load_i {u : World} {p : Addr} {v : Int} (h : u.cell? p = some (.int .i64 v)) : (Instr.loadAt 3 (.pointer (some p))).run Try.prog u = .ok (.int .i64 v) u := by
  simp [go_sem, h]
theorem run_load_stp {u : World} {b i : Nat} {s : Stp} (h : u.cell? ⟨b, i, none⟩ = some (.int .i64 s.ord) ∧ u.cell? ⟨b, i + 1, none⟩ = some (.bool s.drop)) : (Instr.loadAt 35 (.pointer (some ⟨b, i, none⟩))).run Try.prog u = .ok (stpV s) u := by
  obtain ⟨h0, h1⟩ := h
  simp [go_sem, h0, h1]
theorem run_load_o {u : World} {b off i : Nat} {o : FleetMath.Ord} {n B : Nat} {os : List FleetMath.Ord} (h : Ords u B (some ⟨b, off, none⟩) n os) (ho : os[i]? = some o) : (Instr.loadAt 31 (.pointer (some ⟨b, off + i * 10, none⟩))).run Try.prog u = .ok (ordV o) u := by
  obtain ⟨g0, g1, g2, g3, g4, g5, g6, g7, g8, g9⟩ := ord_on h ho
  simp [go_sem, g0, g1, g2, g3, g4, g5, g6, g7, g8, g9]
theorem exec_add1 {o : Oper} {a : Act} {u : World} {x : Operand} {k k1 : Nat} {T : TypeId} (h : o.op = .binOp .add 3 x (.const (.int .i64 1)) T) (hx : a.eval x = .int .i64 k) (hk : k + 1 = k1) (hk1 : k1 ≤ 9223372036854775807) : (execOp a.eval o).run Try.prog u = .ok (.value (.int .i64 (k1 : Int))) u := by
  obtain ⟨ρ, hρ⟩ : ∃ ρ, a.eval = ρ := ⟨_, rfl⟩
  have hc : a.eval (.const (.int .i64 1)) = .int .i64 1 := rfl
  rw [hρ] at hx hc ⊢
  have hk3 : (k : Int) + 1 = (k1 : Int) := by omega
  have hk4 : IntKind.i64.wrap (k1 : Int) = (k1 : Int) := IntWalk.i64_in _ (by omega)
  unfold execOp
  rw [h]
  simp [go_sem, hx, hc, hk3, hk4]
theorem exec_find {o : Oper} {a : Act} {u : World} {x y : Operand} {v1 v2 : Value} (h : o.op = .call { callee := .value (.func 36), args := #[x, y], argTypes := #[36, 3] }) (h1 : a.eval x = v1) (h2 : a.eval y = v2) :
    (execOp a.eval o).run Try.prog u = .ok (.enter 36 #[v1, v2]) u := by
  have hf : a.eval (.func 36) = .func (.func 36) #[] #[] := rfl
  obtain ⟨ρ, hρ⟩ : ∃ ρ, a.eval = ρ := ⟨_, rfl⟩
  rw [hρ] at h1 h2 hf ⊢
  unfold execOp
  rw [h]
  simp [go_sem, hf, h1, h2]
theorem exec_sitec {o : Oper} {a : Act} {u : World} {x y : Operand} {v1 v2 : Value} (h : o.op = .call { callee := .value (.func 35), args := #[x, y], argTypes := #[31, 35] }) (h1 : a.eval x = v1) (h2 : a.eval y = v2) :
    (execOp a.eval o).run Try.prog u = .ok (.enter 35 #[v1, v2]) u := by
  have hf : a.eval (.func 35) = .func (.func 35) #[] #[] := rfl
  obtain ⟨ρ, hρ⟩ : ∃ ρ, a.eval = ρ := ⟨_, rfl⟩
  rw [hρ] at h1 h2 hf ⊢
  unfold execOp
  rw [h]
  simp [go_sem, hf, h1, h2]
theorem exec_asite {o : Oper} {a : Act} {u : World} (h : o.op = .alloc 29) : (execOp a.eval o).run Try.prog u = .ok (.value (.pointer (some ⟨u.heap.size, 0, none⟩))) (u.alloc (.cells #[.int .i64 0, .int .i64 0, .int .i64 0, .int .i64 0] 29)) := by
  unfold execOp
  rw [h]
  simp [go_sem]
theorem run_store_site {u : World} {g : Nat} {x si : Site} (h : SBox u g x) : (Instr.storeAt 29 (.pointer (some ⟨g, 0, none⟩)) (siteV si)).run Try.prog u = .ok () (putS u g si) := by
  obtain ⟨c0, c1, c2, c3⟩ := h.cells
  have hf := Blk.free h
  have hcs := cell_apart g
  have hfs := frozen_set
  simp [go_sem, c0, c1, c2, c3, hf, hcs, hfs]

set_option maxRecDepth 100000 in
set_option maxHeartbeats 4000000 in
theorem rlatest_any (base : Nat) (pv : Value) (m : Option Mp) (d : Drv) (A : Option Addr) (n c : Nat) (os : List FleetMath.Ord) (A' : Option Addr) (n' c' : Nat) (stops : List Stp) (w : World) (h : MapP w 106 base pv m) (ho : Ords w w.heap.size A n os) (hs : Stps w w.heap.size A' n' stops) (hcc : n' ≤ c') :
    Calls Try.prog 17 #[pv, drvV d, .slice A n c, .slice A' n' c'] w (LatestOk w (latestR m d os stops)) := by
  have b0 : Below w.heap.size w (w.alloc (.cells #[.int .i64 d.id, .int .i64 d.room, .int .i64 d.home, .int .i64 d.win.fr, .int .i64 d.win.to, .bool d.retired] 33)) := (Below.refl _ _).alloc (Nat.le_refl _) _
  have HB0 := Lib.hid b0
  have HD0 : Hid (DBox (w.alloc (.cells #[.int .i64 d.id, .int .i64 d.room, .int .i64 d.home, .int .i64 d.win.fr, .int .i64 d.win.to, .bool d.retired] 33)) w.heap.size d) := Blk.new w _ _
  have HM := Lib.hid h
  have HOS := Lib.hid ho
  have HST := Lib.hid hs
  have HLO := Lib.hid ho.length
  have HLS := Lib.hid hs.length
  have hnm := Recs.le ho
  have hnm' := Recs.le hs
  obtain ⟨q, hq⟩ : ∃ q, pv = .pointer q := by
    rcases h with ⟨rfl, _⟩ | ⟨b, _, _, rfl, _⟩
    · exact ⟨_, rfl⟩
    · exact ⟨_, rfl⟩
  subst hq
  obtain ⟨r, hr⟩ : ∃ r, drive m d os stops = r := ⟨_, rfl⟩
  have HR := Lib.hid hr
  clear h ho hs b0 hr
  have HDRV := Lib.hid (rdrive_any base (.pointer q) m d A n c os A' n' c' stops _ (HM.out.keep HB0.out) (Recs.more (Recs.keep HOS.out HB0.out) HB0.out.size) (Recs.more (Recs.keep HST.out HB0.out) HB0.out.size) hcc)
  go_enter Try.func17, Try.ntmps17
  go_wp2_with fail
  refine HDRV.out.mono ?_
  rintro e w1 ⟨hb1, v, rfl, hv⟩
  have HR' := HR.out
  rw [HR'] at hv ⊢
  obtain ⟨A1, c1, rfl, _⟩ := hv.read
  have HB1 : Hid (Below w.heap.size w (w1.alloc (.cells #[.int .i64 (r.2.1 : Int), .int .i64 r.2.2] 64))) := by
    have := HB0.out.trans (hb1.mono HB0.out.size)
    exact this.alloc this.size _
  have HD1 : Hid (DBox (w1.alloc (.cells #[.int .i64 (r.2.1 : Int), .int .i64 r.2.2] 64)) w.heap.size d) := (HD0.out.below hb1).below ((Below.refl _ _).alloc (Nat.le_refl _) _)
  have hw1 : w.heap.size + 1 ≤ w1.heap.size := by have := hb1.size; simpa using this
  have HW1 := Lib.hid hw1
  clear hb1 hv HR' HB0 HD0 HDRV hw1
  obtain ⟨ff, hff⟩ : ∃ x, r.2.2 = x := ⟨_, rfl⟩
  rw [hff] at HB1 HD1 ⊢
  by_cases h0 : ff = 0
  case neg =>
    have HC : Hid (latestR m d os stops = none) := latestR_none (by rw [HR.out, hff]; exact h0)
    obtain ⟨n1, n2⟩ : (ff == 0) = false ∧ (ff != 0) = true := by simp [h0]
    clear h0 hff
    go_wp2_with fail
    refine bodyPost_ret (v := .tuple #[.slice none 0 0, .bool false]) ?_ rfl (by rw [HC.out]; exact ⟨HB1.out, _, rfl, Own.nil _ _ _⟩)
    simp [results, Try.results17, go_sem]
  subst h0
  have hfine : (drive m d os stops).2.2 = 0 := by rw [HR.out]; exact hff
  obtain ⟨m', st, hm', _, h80, hkn, hdv⟩ := drive_fine hfine
  subst hm'
  obtain ⟨mn, ml⟩ := m'
  have HC : Hid (latestR (some ⟨mn, ml⟩) d os stops = some (latestOf ⟨mn, ml⟩ d os stops)) := latestR_some hfine
  have HOK := Lib.hid (known_ok hkn)
  have HFIN : Hid (∀ (k : Nat) (s : Stp), stops[k]? = some s → ∃ o i, find os s.ord = some o ∧ findI os s.ord = some i ∧ os[i]? = some o) := fun k s hk => by
    obtain ⟨o, hfo⟩ := drive_finds hfine hk
    obtain ⟨i, h1, h2⟩ := find_idx hfo
    exact ⟨o, i, hfo, h1, h2⟩
  have hn80 : n' ≤ 80 := by have := HLS.out; omega
  have HSO : Hid (∀ s ∈ stops.map (siteAt os), SiteOk s) := fun x hx => by
    obtain ⟨s, hs, rfl⟩ := List.mem_map.1 hx
    obtain ⟨k, hk⟩ := List.getElem?_of_mem hs
    obtain ⟨o, i, hfo, _, _⟩ := HFIN.out k s hk
    exact siteAt_ok HOK.out hfo
  have HDW : Hid (d.win.to ≤ 1000000) := by
    obtain ⟨m2, e2, hdk⟩ := drvE_ok.1 hdv
    exact (right_iff.1 hdk.win).2.2
  clear hfine hff hkn h80 hdv
  obtain ⟨bm, hbm⟩ := map_ptr HM.out
  subst hbm
  have HTB : Hid (∀ a b, 0 ≤ time ⟨mn, ml⟩ a b ∧ time ⟨mn, ml⟩ a b ≤ 1000000) := fun a b => time_bounds (map_at HM.out).2.2 a b
  have hmk := make_ints n' hn80
  obtain ⟨g, hg⟩ : ∃ x, w1.heap.size + 1 = x := ⟨_, rfl⟩
  have S2 : Hid (LS w d g n' (List.replicate n' 0) ((w1.alloc (.cells #[.int .i64 (r.2.1 : Int), .int .i64 0] 64)).alloc (.cells (intsV (List.replicate n' 0)).toArray 3))) := by
    have o := Own.new (w1.alloc (.cells #[.int .i64 (r.2.1 : Int), .int .i64 0] 64)) (w.heap.size + 1) 3 (intsV (List.replicate n' 0)) (by have := HW1.out; simp; omega) (by rw [intsV_len, List.length_replicate]; unfold maxLen; omega)
    rw [intsV_len, List.length_replicate, World.size_alloc, hg] at o
    exact ⟨HB1.out.alloc HB1.out.size _, HD1.out.below ((Below.refl _ _).alloc (Nat.le_refl _) _), o⟩
  have L2 : Hid (LatTo ⟨mn, ml⟩ d os stops n' (List.replicate n' 0)) := by
    have := LatTo.start ⟨mn, ml⟩ d os stops (xs := List.replicate n' 0) (by rw [List.length_replicate]; exact HLS.out.symm)
    rw [HLS.out] at this
    exact this
  go_wp2_with fail
  clear HB1 HD1 hmk hg HW1
  go_loopw [13] (fun iv wr => ∃ (j : Nat) (jj : Int) (xs : List Int), j ≤ n' ∧ jj + 1 = (j : Int) ∧ iv = .int .i64 jj ∧ Hid (LS w d g n' xs wr) ∧ Hid (LatTo ⟨mn, ml⟩ d os stops j xs)) (fun iv _ => (intOf iv + 1).toNat)
  case atStart => exact ⟨n', (n' : Int) - 1, _, Nat.le_refl _, by omega, by go_num, S2, L2⟩
  case round =>
    clear S2 L2
    obtain ⟨j, jj, xs, hj, hjj, rfl, HS, HL⟩ := hrel
    rcases Nat.eq_zero_or_pos j with rfl | hjp
    · have e1 : jj = -1 := by omega
      subst e1
      have HZ : Hid (LatestOk w (latestR (some ⟨mn, ml⟩) d os stops) (.returned (.tuple #[.slice (some ⟨g, 0, none⟩) n' n', .bool true])) wr) := by
        show LatestOk _ _ _ _
        rw [HC.out]
        have hl := HS.out.own.len
        rw [intsV_len] at hl
        refine ⟨HS.out.old, _, rfl, ?_⟩
        simp only [Option.getD_some]
        rw [← HL.out.end_, hl]
        exact HS.out.own.lower (Nat.le_succ _)
      clear HS HL HC
      go_wp2_with fail
      go_ret2
      exact HZ.out
    obtain ⟨k, rfl⟩ : ∃ k, j = k + 1 := ⟨j - 1, by omega⟩
    have e1 : jj = (k : Int) := by omega
    subst e1
    have hlt : k < n' := by omega
    clear hj hjj hjp
    obtain ⟨b, off, s, hA, hbw, hs, hdr, k0, k1⟩ := Stps.at_ (Recs.keep HST.out HS.out.old) hlt
    subst hA
    obtain ⟨o, i, hfo, hfi, hoi⟩ := HFIN.out k s hs
    have hin : i < n := by have := (List.getElem?_eq_some_iff.1 hoi).1; have := HLO.out; omega
    have HSK := Lib.hid hs
    obtain ⟨si, hsi⟩ : ∃ si, siteOf o s = si := ⟨_, rfl⟩
    have HSI := Lib.hid hsi
    have HSA : Hid (siteAt os s = si) := by show _ = _; rw [siteAt_of hfo, hsi]
    have HSIB : Hid (SiteOk si) := by
      show SiteOk _
      rw [← HSA.out]
      exact HSO.out _ (List.mem_map_of_mem (List.mem_of_getElem? hs))
    have HFI := Lib.hid hfi
    have HOI := Lib.hid hoi
    clear hs hdr hfo hfi hoi hsi k0 k1
    have hki : (k : Int) < (n' : Int) := by omega
    have hii : (i : Int) < (n : Int) := by omega
    have hk0 : (0 : Int) ≤ (k : Int) := by omega
    have hi0 : (0 : Int) ≤ (i : Int) := by omega
    go_upto_region 8 with fail
    go_cut [14] (fun pv wx => ∃ gs, pv = .pointer (some ⟨gs, 0, none⟩) ∧ Hid (SB wr gs si wx))
    case first =>
      obtain ⟨bo, oo, hA2⟩ := ords_addr HOS.out HOI.out
      subst hA2
      refine wp_region_steps (boxRF [40, 41, 42, 43, 44, 45, 46, 47, 48, 49, 50, 51, 52, 53, 54, 14, 14] [.slice (some ⟨bo, oo, none⟩) n c, .slice (some ⟨bo, oo, none⟩) n c, .slice (some ⟨b, off, none⟩) n' c', .int .i64 (((k : Nat) : Int) : Int), .pointer (some ⟨b, off + k * 2, none⟩), .pointer (some ⟨b, off + k * 2, none⟩), .int .i64 s.ord, .int .i64 ((i : Nat) : Int), .pointer (some ⟨bo, oo + i * 10, none⟩), ordV o, .slice (some ⟨b, off, none⟩) n' c', .int .i64 (((k : Nat) : Int) : Int), .pointer (some ⟨b, off + k * 2, none⟩), stpV s, siteV si, undef, undef] 15 16 29 [.int .i64 0, .int .i64 0, .int .i64 0, .int .i64 0] [.int .i64 si.place, .int .i64 si.win.fr, .int .i64 si.win.to, .int .i64 si.serv]) (by kernel_rfl) (by kernel_rfl) (by kernel_rfl) (fun q hq => ?_) (by kernel_rfl) boxRF.mon ?_ ?_
      · simp only [List.length_cons, List.length_nil] at hq
        simp only [boxRF]
        rw [if_neg (by omega)]
      · refine ⟨?_, ?_, ?_, ?_, ?_, ?_, ?_, ?_, ?_, ?_, ?_, ?_, ?_, ?_, ?_, ?_, ?_, trivial⟩
        · exact boxRF.pureStep rfl 40 rfl rfl (by simp) (by decide) (by decide) _ rfl fun listed a u D hI hr hn => exec_move (.inl rfl) (hI.out 2 (by kernel_rfl))
        · exact boxRF.pureStep rfl 41 rfl rfl (by simp) (by decide) (by decide) _ rfl fun listed a u D hI hr hn => exec_move (.inl rfl) (hI.out 2 (by kernel_rfl))
        · exact boxRF.pureStep rfl 42 rfl rfl (by simp) (by decide) (by decide) _ rfl fun listed a u D hI hr hn => exec_move (.inl rfl) (hI.out 3 (by kernel_rfl))
        · exact boxRF.pureStep rfl 43 rfl rfl (by simp) (by decide) (by decide) _ rfl fun listed a u D hI hr hn => exec_move (.inl rfl) (hI.out 13 (by kernel_rfl))
        · exact boxRF.pureStep rfl 44 rfl rfl (by simp) (by decide) (by decide) _ rfl fun listed a u D hI hr hn => exec_index_stp rfl (boxRF.val hI hr hn 2 (by kernel_rfl) (by decide) (by decide) rfl rfl) (boxRF.val hI hr hn 3 (by kernel_rfl) (by decide) (by decide) rfl rfl) (by omega) hnm'
        · exact boxRF.pureStep rfl 45 rfl rfl (by simp) (by decide) (by decide) _ rfl fun listed a u D hI hr hn => exec_sord rfl (boxRF.val hI hr hn 4 (by kernel_rfl) (by decide) (by decide) rfl rfl)
        · exact boxRF.pureStep rfl 46 rfl rfl (by simp) (by decide) (by decide) _ rfl fun listed a u D hI hr hn => exec_load rfl (boxRF.val hI hr hn 5 (by kernel_rfl) (by decide) (by decide) rfl rfl) (run_load_i (stp_on (Recs.keep HST.out (HS.out.below (below_drew hI.old)).old) HSK.out).1)
        · exact boxRF.callStep rfl 47 rfl rfl (by simp) (by decide) (by decide) _ rfl fun listed a u D hI hr hn => ⟨_, _, exec_find rfl (boxRF.val hI hr hn 1 (by kernel_rfl) (by decide) (by decide) rfl rfl) (boxRF.val hI hr hn 6 (by kernel_rfl) (by decide) (by decide) rfl rfl), (rfind_on (Recs.more (Recs.keep HOS.out HS.out.old) HS.out.old.size) HFI.out (below_drew hI.old) (Nat.le_refl _)).mono fun e w2 h => ⟨h.1, by rw [← h.2]; exact Below.refl _ _⟩⟩
        · exact boxRF.pureStep rfl 48 rfl rfl (by simp) (by decide) (by decide) _ rfl fun listed a u D hI hr hn => exec_index_ord rfl (boxRF.val hI hr hn 0 (by kernel_rfl) (by decide) (by decide) rfl rfl) (boxRF.val hI hr hn 7 (by kernel_rfl) (by decide) (by decide) rfl rfl) (by omega) hnm
        · exact boxRF.pureStep rfl 49 rfl rfl (by simp) (by decide) (by decide) _ rfl fun listed a u D hI hr hn => exec_load rfl (boxRF.val hI hr hn 8 (by kernel_rfl) (by decide) (by decide) rfl rfl) (run_load_o (Recs.keep HOS.out (HS.out.below (below_drew hI.old)).old) HOI.out)
        · exact boxRF.pureStep rfl 50 rfl rfl (by simp) (by decide) (by decide) _ rfl fun listed a u D hI hr hn => exec_move (.inl rfl) (hI.out 3 (by kernel_rfl))
        · exact boxRF.pureStep rfl 51 rfl rfl (by simp) (by decide) (by decide) _ rfl fun listed a u D hI hr hn => exec_move (.inl rfl) (hI.out 13 (by kernel_rfl))
        · exact boxRF.pureStep rfl 52 rfl rfl (by simp) (by decide) (by decide) _ rfl fun listed a u D hI hr hn => exec_index_stp rfl (boxRF.val hI hr hn 10 (by kernel_rfl) (by decide) (by decide) rfl rfl) (boxRF.val hI hr hn 11 (by kernel_rfl) (by decide) (by decide) rfl rfl) (by omega) hnm'
        · exact boxRF.pureStep rfl 53 rfl rfl (by simp) (by decide) (by decide) _ rfl fun listed a u D hI hr hn => exec_load rfl (boxRF.val hI hr hn 12 (by kernel_rfl) (by decide) (by decide) rfl rfl) (run_load_stp (stp_on (Recs.keep HST.out (HS.out.below (below_drew hI.old)).old) HSK.out))
        · exact boxRF.callStep rfl 54 rfl rfl (by simp) (by decide) (by decide) _ rfl fun listed a u D hI hr hn => ⟨_, _, exec_sitec rfl (boxRF.val hI hr hn 9 (by kernel_rfl) (by decide) (by decide) rfl rfl) (boxRF.val hI hr hn 13 (by kernel_rfl) (by decide) (by decide) rfl rfl), rsite_on HSI.out u⟩
        · exact boxRF.allocStep rfl 14 rfl rfl (by simp) fun a u => exec_asite rfl
        · exact boxRF.storeStep rfl rfl rfl rfl (by decide) (by kernel_rfl) fun listed a u D hI hr hn g e1 hb => ⟨_, exec_store rfl e1 (boxRF.val hI hr hn 14 (by kernel_rfl) (by decide) (by decide) rfl rfl) (run_store_site (x := ⟨0, ⟨0, 0⟩, 0⟩) hb), ((((Only.refl _ _).set _ _).set _ _).set _ _).set _ _, putS_box (x := ⟨0, ⟨0, 0⟩, 0⟩) hb si⟩
      · intro listed a u D hI hall
        obtain ⟨gt, e20, hb20⟩ := boxRF.box hI hall (by decide) (by decide) (s := 14) rfl
        have hold := below_drew hI.old
        have hl := hI.fill [40, 41, 42, 43, 44, 45, 46, 47, 48, 49, 50, 51, 52, 53, 54, 14] (by kernel_rfl)
        clear hI hall
        obtain ⟨σ, hσ⟩ : ∃ σ : Nat → Value, ∀ t, a.tmps.getD t undef = σ t := ⟨_, fun _ => rfl⟩
        simp only [hσ] at hl e20
        clear hσ
        simp only [List.foldl_cons, List.foldl_nil, List.setIfInBounds_toArray, List.set_cons_zero, List.set_cons_succ, e20] at hl
        subst hl
        go_wp2_with fail
        go_meet
        exact ⟨gt, rfl, hold, hb20⟩
    case rest =>
    obtain ⟨gs, rfl, HB⟩ := hcut
    obtain ⟨w5, rfl⟩ : ∃ u, u = wc := ⟨_, rfl⟩
    have HS5 := Lib.hid (HS.out.below HB.out.on)
    have HX5 := Lib.hid HB.out.box
    clear HB HS
    have HUL : Hid (k + 1 = n' → untilOf ⟨mn, ml⟩ d.win.to si ((stops.map (siteAt os)).drop (k + 1)) (latest ⟨mn, ml⟩ d.win.to ((stops.map (siteAt os)).drop (k + 1))) = d.win.to) := fun h => until_last (by rw [List.length_map]; have := HLS.out; omega)
    obtain ⟨d0, d1, d2, d3, d4, d5⟩ := HS5.out.drv.cells
    have hkw : IntKind.i64.wrap ((k : Int) + 1) = (k : Int) + 1 := IntWalk.i64_in _ (by omega)
    go_upto_if 62 with fail
    go_cut [15] (fun uv wx => ∃ til : Int, uv = .int .i64 til ∧ Hid (til ≤ d.win.to) ∧ Hid (untilOf ⟨mn, ml⟩ d.win.to si ((stops.map (siteAt os)).drop (k + 1)) (latest ⟨mn, ml⟩ d.win.to ((stops.map (siteAt os)).drop (k + 1))) = til) ∧ Hid (LS w d g n' xs wx) ∧ Hid (SBox wx gs si))
    case first =>
      by_cases hlast : k + 1 = n'
      · have hl1 : ¬ (k : Int) + 1 < (n' : Int) := by omega
        have HUE := Lib.hid (HUL.out hlast)
        clear hlast HUL
        go_wp2_with fail
        go_meet
        exact ⟨_, rfl, Int.le_refl _, HUE, HS5, HX5⟩
      · obtain ⟨k1, hk1⟩ : ∃ x, k + 1 = x := ⟨_, rfl⟩
        have hl1 : (k : Int) + 1 = (k1 : Int) := by omega
        have hl2 : IntKind.i64.wrap (k1 : Int) = (k1 : Int) := IntWalk.i64_in _ (by omega)
        have hl3 : (k1 : Int) < (n' : Int) := by omega
        have hl4 : (0 : Int) ≤ (k1 : Int) := by omega
        have hlt1 : k1 < n' := by omega
        have HK1 := Lib.hid hk1
        obtain ⟨_, _, s2, e2, _, hs2, _, _, _⟩ := Stps.at_ (Recs.keep HST.out HS5.out.old) hlt1
        obtain ⟨o2, i2, hfo2, hfi2, hoi2⟩ := HFIN.out k1 s2 hs2
        have hin2 : i2 < n := by have := (List.getElem?_eq_some_iff.1 hoi2).1; have := HLO.out; omega
        have hii2 : (i2 : Int) < (n : Int) := by omega
        have hi02 : (0 : Int) ≤ (i2 : Int) := by omega
        have HSK2 := Lib.hid hs2
        obtain ⟨si2, hsi2⟩ : ∃ si, siteOf o2 s2 = si := ⟨_, rfl⟩
        have HSI2 := Lib.hid hsi2
        have HSA2 : Hid (siteAt os s2 = si2) := by show _ = _; rw [siteAt_of hfo2, hsi2]
        have HFI2 := Lib.hid hfi2
        have HOI2 := Lib.hid hoi2
        clear hs2 e2 hfo2 hfi2 hoi2 hsi2 hk1 hlast HUL hkw d0 d1 d2 d3 d5
        go_upto_region 11 with fail
        go_cut [16] (fun pv wx => ∃ gt, pv = .pointer (some ⟨gt, 0, none⟩) ∧ Hid (SB w5 gt si2 wx))
        case first =>
          obtain ⟨bo, oo, hA2⟩ := ords_addr HOS.out HOI2.out
          subst hA2
          refine wp_region_steps (boxRF [63, 64, 65, 66, 67, 68, 69, 70, 71, 72, 73, 74, 75, 76, 77, 78, 79, 16, 16] [.slice (some ⟨bo, oo, none⟩) n c, .slice (some ⟨bo, oo, none⟩) n c, .slice (some ⟨b, off, none⟩) n' c', .int .i64 ((k : Nat) : Int), .int .i64 ((k1 : Nat) : Int), .pointer (some ⟨b, off + k1 * 2, none⟩), .pointer (some ⟨b, off + k1 * 2, none⟩), .int .i64 s2.ord, .int .i64 ((i2 : Nat) : Int), .pointer (some ⟨bo, oo + i2 * 10, none⟩), ordV o2, .slice (some ⟨b, off, none⟩) n' c', .int .i64 ((k : Nat) : Int), .int .i64 ((k1 : Nat) : Int), .pointer (some ⟨b, off + k1 * 2, none⟩), stpV s2, siteV si2, undef, undef] 17 18 29 [.int .i64 0, .int .i64 0, .int .i64 0, .int .i64 0] [.int .i64 si2.place, .int .i64 si2.win.fr, .int .i64 si2.win.to, .int .i64 si2.serv]) (by kernel_rfl) (by kernel_rfl) (by kernel_rfl) (fun q hq => ?_) (by kernel_rfl) boxRF.mon ?_ ?_
          · simp only [List.length_cons, List.length_nil] at hq
            simp only [boxRF]
            rw [if_neg (by omega)]
          · refine ⟨?_, ?_, ?_, ?_, ?_, ?_, ?_, ?_, ?_, ?_, ?_, ?_, ?_, ?_, ?_, ?_, ?_, ?_, ?_, trivial⟩
            · exact boxRF.pureStep rfl 63 rfl rfl (by simp) (by decide) (by decide) _ rfl fun listed a u D hI hr hn => exec_move (.inl rfl) (hI.out 2 (by kernel_rfl))
            · exact boxRF.pureStep rfl 64 rfl rfl (by simp) (by decide) (by decide) _ rfl fun listed a u D hI hr hn => exec_move (.inl rfl) (hI.out 2 (by kernel_rfl))
            · exact boxRF.pureStep rfl 65 rfl rfl (by simp) (by decide) (by decide) _ rfl fun listed a u D hI hr hn => exec_move (.inl rfl) (hI.out 3 (by kernel_rfl))
            · exact boxRF.pureStep rfl 66 rfl rfl (by simp) (by decide) (by decide) _ rfl fun listed a u D hI hr hn => exec_move (.inl rfl) (hI.out 13 (by kernel_rfl))
            · exact boxRF.pureStep rfl 67 rfl rfl (by simp) (by decide) (by decide) _ rfl fun listed a u D hI hr hn => exec_add1 rfl (boxRF.val hI hr hn 3 (by kernel_rfl) (by decide) (by decide) rfl rfl) HK1.out (by omega)
            · exact boxRF.pureStep rfl 68 rfl rfl (by simp) (by decide) (by decide) _ rfl fun listed a u D hI hr hn => exec_index_stp rfl (boxRF.val hI hr hn 2 (by kernel_rfl) (by decide) (by decide) rfl rfl) (boxRF.val hI hr hn 4 (by kernel_rfl) (by decide) (by decide) rfl rfl) (by omega) hnm'
            · exact boxRF.pureStep rfl 69 rfl rfl (by simp) (by decide) (by decide) _ rfl fun listed a u D hI hr hn => exec_sord rfl (boxRF.val hI hr hn 5 (by kernel_rfl) (by decide) (by decide) rfl rfl)
            · exact boxRF.pureStep rfl 70 rfl rfl (by simp) (by decide) (by decide) _ rfl fun listed a u D hI hr hn => exec_load rfl (boxRF.val hI hr hn 6 (by kernel_rfl) (by decide) (by decide) rfl rfl) (run_load_i (stp_on (Recs.keep HST.out (HS5.out.below (below_drew hI.old)).old) HSK2.out).1)
            · exact boxRF.callStep rfl 71 rfl rfl (by simp) (by decide) (by decide) _ rfl fun listed a u D hI hr hn => ⟨_, _, exec_find rfl (boxRF.val hI hr hn 1 (by kernel_rfl) (by decide) (by decide) rfl rfl) (boxRF.val hI hr hn 7 (by kernel_rfl) (by decide) (by decide) rfl rfl), (rfind_on (Recs.more (Recs.keep HOS.out HS5.out.old) HS5.out.old.size) HFI2.out (below_drew hI.old) (Nat.le_refl _)).mono fun e w2 h => ⟨h.1, by rw [← h.2]; exact Below.refl _ _⟩⟩
            · exact boxRF.pureStep rfl 72 rfl rfl (by simp) (by decide) (by decide) _ rfl fun listed a u D hI hr hn => exec_index_ord rfl (boxRF.val hI hr hn 0 (by kernel_rfl) (by decide) (by decide) rfl rfl) (boxRF.val hI hr hn 8 (by kernel_rfl) (by decide) (by decide) rfl rfl) (by omega) hnm
            · exact boxRF.pureStep rfl 73 rfl rfl (by simp) (by decide) (by decide) _ rfl fun listed a u D hI hr hn => exec_load rfl (boxRF.val hI hr hn 9 (by kernel_rfl) (by decide) (by decide) rfl rfl) (run_load_o (Recs.keep HOS.out (HS5.out.below (below_drew hI.old)).old) HOI2.out)
            · exact boxRF.pureStep rfl 74 rfl rfl (by simp) (by decide) (by decide) _ rfl fun listed a u D hI hr hn => exec_move (.inl rfl) (hI.out 3 (by kernel_rfl))
            · exact boxRF.pureStep rfl 75 rfl rfl (by simp) (by decide) (by decide) _ rfl fun listed a u D hI hr hn => exec_move (.inl rfl) (hI.out 13 (by kernel_rfl))
            · exact boxRF.pureStep rfl 76 rfl rfl (by simp) (by decide) (by decide) _ rfl fun listed a u D hI hr hn => exec_add1 rfl (boxRF.val hI hr hn 12 (by kernel_rfl) (by decide) (by decide) rfl rfl) HK1.out (by omega)
            · exact boxRF.pureStep rfl 77 rfl rfl (by simp) (by decide) (by decide) _ rfl fun listed a u D hI hr hn => exec_index_stp rfl (boxRF.val hI hr hn 11 (by kernel_rfl) (by decide) (by decide) rfl rfl) (boxRF.val hI hr hn 13 (by kernel_rfl) (by decide) (by decide) rfl rfl) (by omega) hnm'
            · exact boxRF.pureStep rfl 78 rfl rfl (by simp) (by decide) (by decide) _ rfl fun listed a u D hI hr hn => exec_load rfl (boxRF.val hI hr hn 14 (by kernel_rfl) (by decide) (by decide) rfl rfl) (run_load_stp (stp_on (Recs.keep HST.out (HS5.out.below (below_drew hI.old)).old) HSK2.out))
            · exact boxRF.callStep rfl 79 rfl rfl (by simp) (by decide) (by decide) _ rfl fun listed a u D hI hr hn => ⟨_, _, exec_sitec rfl (boxRF.val hI hr hn 10 (by kernel_rfl) (by decide) (by decide) rfl rfl) (boxRF.val hI hr hn 15 (by kernel_rfl) (by decide) (by decide) rfl rfl), rsite_on HSI2.out u⟩
            · exact boxRF.allocStep rfl 16 rfl rfl (by simp) fun a u => exec_asite rfl
            · exact boxRF.storeStep rfl rfl rfl rfl (by decide) (by kernel_rfl) fun listed a u D hI hr hn g e1 hb => ⟨_, exec_store rfl e1 (boxRF.val hI hr hn 16 (by kernel_rfl) (by decide) (by decide) rfl rfl) (run_store_site (x := ⟨0, ⟨0, 0⟩, 0⟩) hb), ((((Only.refl _ _).set _ _).set _ _).set _ _).set _ _, putS_box (x := ⟨0, ⟨0, 0⟩, 0⟩) hb si2⟩
          · intro listed a u D hI hall
            obtain ⟨gt, e20, hb20⟩ := boxRF.box hI hall (by decide) (by decide) (s := 16) rfl
            have hold := below_drew hI.old
            have hl := hI.fill [63, 64, 65, 66, 67, 68, 69, 70, 71, 72, 73, 74, 75, 76, 77, 78, 79, 16] (by kernel_rfl)
            clear hI hall
            obtain ⟨σ, hσ⟩ : ∃ σ : Nat → Value, ∀ t, a.tmps.getD t undef = σ t := ⟨_, fun _ => rfl⟩
            simp only [hσ] at hl e20
            clear hσ
            simp only [List.foldl_cons, List.foldl_nil, List.setIfInBounds_toArray, List.set_cons_zero, List.set_cons_succ, e20] at hl
            subst hl
            go_wp2_with fail
            go_meet
            exact ⟨gt, rfl, hold, hb20⟩
        case rest =>
        obtain ⟨gt, rfl, HB6⟩ := hcut
        obtain ⟨w6, rfl⟩ : ∃ u, u = wc := ⟨_, rfl⟩
        have HS6 := Lib.hid (HS5.out.below HB6.out.on)
        have HX6 := Lib.hid (HX5.out.below HB6.out.on)
        have HY6 := Lib.hid HB6.out.box
        clear HB6 HS5 HX5 d4
        obtain ⟨tt, htt⟩ : ∃ t, time ⟨mn, ml⟩ si.place si2.place = t := ⟨_, rfl⟩
        have HTT := Lib.hid htt
        obtain ⟨tb1, tb2⟩ := HTB.out si.place si2.place
        rw [htt] at tb1 tb2
        obtain ⟨x0, x1, x2, x3⟩ := HX6.out.cells
        obtain ⟨y0, y1, y2, y3⟩ := HY6.out.cells
        clear htt
        go_wp2_with fail
        refine (rtime_val' base bm mn ml si.place si2.place tt _ (by exact (map_at (HM.out.keep HS6.out.old)).1) (map_at HM.out).2.1 HTT.out).mono ?_
        rintro e w7 ⟨rr, dd, rfl, hw7⟩
        have HS7 : Hid (LS w d g n' xs w7) := by rw [hw7]; exact HS6.out.below (below_drewN (Below.refl _ _) _)
        have HX7 : Hid (SBox w7 gs si) := by rw [hw7]; exact HX6.out.below (below_drewN (Below.refl _ _) _)
        clear hw7 HS6 HX6 HY6 x0 x1 x2 x3 y0 y1 y2 y3
        obtain ⟨v1, hv1, q1, q2, _⟩ := HS7.out.at_ hlt1
        have hv1b := latest_bound (m := ⟨mn, ml⟩) (til := d.win.to) (l := (stops.map (siteAt os)).drop (k + 1)) (fun x hx => HSO.out x (List.mem_of_mem_drop hx)) v1 (List.mem_of_getElem? (HL.out.at_ (by rw [HK1.out]; exact hv1)))
        have HUN : Hid (untilOf ⟨mn, ml⟩ d.win.to si ((stops.map (siteAt os)).drop (k + 1)) (latest ⟨mn, ml⟩ d.win.to ((stops.map (siteAt os)).drop (k + 1))) = if v1 - tt < d.win.to then v1 - tt else d.win.to) := by
          show _ = _
          rw [← HTT.out]
          refine until_next (s' := si2) ?_ (HL.out.at_ (by rw [HK1.out]; exact hv1))
          rw [HK1.out, List.getElem?_map, HSK2.out]
          show some _ = some _
          rw [HSA2.out]
        obtain ⟨hv10, hv11⟩ := hv1b
        clear hv1
        by_cases hle : v1 - tt < d.win.to
        · have HUE : Hid (untilOf ⟨mn, ml⟩ d.win.to si ((stops.map (siteAt os)).drop (k + 1)) (latest ⟨mn, ml⟩ d.win.to ((stops.map (siteAt os)).drop (k + 1))) = v1 - tt) := HUN.out.trans (if_pos hle)
          have HLE : Hid (v1 - tt ≤ d.win.to) := Int.le_of_lt hle
          clear HUN
          go_wp2_with fail
          go_meet
          exact ⟨_, rfl, HLE, HUE, HS7, HX7⟩
        · have HUE : Hid (untilOf ⟨mn, ml⟩ d.win.to si ((stops.map (siteAt os)).drop (k + 1)) (latest ⟨mn, ml⟩ d.win.to ((stops.map (siteAt os)).drop (k + 1))) = d.win.to) := HUN.out.trans (if_neg hle)
          clear HUN
          go_wp2_with fail
          go_meet
          exact ⟨_, rfl, Int.le_refl _, HUE, HS7, HX7⟩
    case rest =>
    obtain ⟨til, rfl, HTL, HUE, HS8, HX8⟩ := hcut
    obtain ⟨w8, rfl⟩ : ∃ u, u = wc := ⟨_, rfl⟩
    clear HS5 HX5 HUL d0 d1 d2 d3 d4 d5
    obtain ⟨x0, x1, x2, x3⟩ := HX8.out.cells
    have hdt := HDW.out
    obtain ⟨v, rb, hvv, hcall⟩ := rlast_on si.win si.serv til w8 (by have := HTL.out; omega)
    have HCALL := Lib.hid hcall
    have HVV := Lib.hid hvv
    clear hdt hcall hvv
    go_wp2_with fail
    refine HCALL.out.mono ?_
    rintro e w9 ⟨rfl, hb⟩
    have HS9 := Lib.hid (HS8.out.below hb)
    clear hb HS8 HX8 x0 x1 x2 x3 HCALL
    obtain ⟨v1, hv1, q1, q2, hset⟩ := HS9.out.at_ hlt
    have HSET := Lib.hid hset
    have HLN : Hid (LatTo ⟨mn, ml⟩ d os stops k (xs.set k v)) := HL.out.set (til := til) HSK.out (by rw [HSA.out]; exact HUE.out) (by rw [HSA.out]; exact HVV.out)
    clear hset hv1
    go_wp2_with fail
    go_roundw
    case rel => exact ⟨k, (k : Int) - 1, xs.set k v, by omega, by omega, by go_num, HSET.out v, HLN⟩
    case measure => simp [intOf] <;> omega

#print axioms rlatest_any
end Go.Proofs.Ytobcmlcmbnldlaa.Slack
