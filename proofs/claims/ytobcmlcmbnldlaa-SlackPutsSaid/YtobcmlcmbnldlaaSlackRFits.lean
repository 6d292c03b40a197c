/-
  The document's own answer to chapter 8, walked: Fits.
-/
import Derived.Test.YtobcmlcmbnldlaaSlackRLatest
import Derived.Test.YtobcmlcmbnldlaaSlackRPut
import Derived.Test.YtobcmlcmbnldlaaLibRows
namespace Go.Proofs.Ytobcmlcmbnldlaa.Slack
open Go.ChangeShapes Go.WideShapes Go.ChangeAt Go.RowKit Go.Proofs.Ytobcmlcmbnldlaa.Mem Go.Proofs.Ytobcmlcmbnldlaa.GeoMath Go.Proofs.Ytobcmlcmbnldlaa.FleetMath Go.Proofs.Ytobcmlcmbnldlaa.Rec Go.Proofs.Ytobcmlcmbnldlaa.Geo Go.Proofs.Ytobcmlcmbnldlaa.Span Go.Proofs.Ytobcmlcmbnldlaa.Deal Go.Proofs.Ytobcmlcmbnldlaa.Route
set_option linter.unusedVariables false

theorem fits_no {m : Option Mp} {d : Drv} {os : List FleetMath.Ord} {stops : List Stp} {o : FleetMath.Ord} {i j : Int} (h : ¬ (0 ≤ i ∧ i ≤ j ∧ j ≤ stops.length) ∨ find os o.id ≠ none) : fits m d os stops o i j = false := by
  unfold fits
  rcases h with h | h
  · rw [decide_eq_false h]; rfl
  · rw [decide_eq_false h]; simp
theorem fits_yes {m : Option Mp} {d : Drv} {os : List FleetMath.Ord} {stops : List Stp} {o : FleetMath.Ord} {i j : Nat} (h : i ≤ j ∧ j ≤ stops.length) (hf : find os o.id = none) :
    fits m d os stops o i j = (decide ((drive m d os stops).2.2 = 0) && decide ((drive m d (os ++ [o]) (putM stops o.id i j)).2.2 = 0)) := by
  unfold fits
  rw [decide_eq_true (by omega : 0 ≤ (i : Int) ∧ (i : Int) ≤ (j : Int) ∧ (j : Int) ≤ stops.length), decide_eq_true hf]
  rfl
theorem find_idxV {os : List FleetMath.Ord} {id : Int} : 0 ≤ idxV (findI os id) ↔ find os id ≠ none := by
  cases h : findI os id with
  | none => rw [findI_none h]; simp [idxV]
  | some i =>
    obtain ⟨o, _, _, hf⟩ := findI_some h
    rw [hf]
    simp [idxV]
/-- the boxes: the driver, the order -/
structure FK (w : World) (d : Drv) (o : FleetMath.Ord) (u : World) : Prop where
  old : Below w.heap.size w u
  drv : DBox u w.heap.size d
  ord : OBox u (w.heap.size + 1) o
theorem FK.below {w u u' : World} {d : Drv} {o : FleetMath.Ord} (h : FK w d o u) (hb : Below u.heap.size u u') : FK w d o u' := ⟨h.old.trans (hb.mono h.old.size), h.drv.below hb, h.ord.below hb⟩

theorem run_load_drv {u : World} {g : Nat} {d : Drv} (h : DBox u g d) : (Instr.loadAt 33 (.pointer (some ⟨g, 0, none⟩))).run Try.prog u = .ok (drvV d) u := by
  obtain ⟨d0, d1, d2, d3, d4, d5⟩ := h.cells
  simp [go_sem, d0, d1, d2, d3, d4, d5]
theorem run_load_ord {u : World} {g : Nat} {o : FleetMath.Ord} (h : OBox u g o) : (Instr.loadAt 31 (.pointer (some ⟨g, 0, none⟩))).run Try.prog u = .ok (ordV o) u := by
  obtain ⟨g0, g1, g2, g3, g4, g5, g6, g7, g8, g9⟩ := h.cells
  simp [go_sem, g0, g1, g2, g3, g4, g5, g6, g7, g8, g9]
theorem run_load_id {u : World} {g : Nat} {o : FleetMath.Ord} (h : OBox u g o) : (Instr.loadAt 3 (.pointer (some ⟨g, 0, none⟩))).run Try.prog u = .ok (.int .i64 o.id) u := by
  obtain ⟨g0, _⟩ := h.cells
  simp [go_sem, g0]
theorem exec_id {o : Oper} {a : Act} {u : World} {x : Operand} {g : Nat} (h : o.op = .fieldAddr 31 x 0) (hp : a.eval x = .pointer (some ⟨g, 0, none⟩)) : (execOp a.eval o).run Try.prog u = .ok (.value (.pointer (some ⟨g, 0, none⟩))) u := by
  unfold execOp
  rw [h]
  simp only [hp]
  simp [go_sem]
theorem exec_none {o : Oper} {a : Act} {u : World} (h : o.op = .buildSlice 36 0 #[]) : (execOp a.eval o).run Try.prog u = .ok (.value (.slice (some ⟨u.heap.size, 0, none⟩) 0 0)) (u.alloc (.cells #[] 31)) := by
  unfold execOp
  rw [h]
  simp [go_sem]
theorem exec_one {p : Operand} {o : Oper} {a : Act} {u : World} {x : FleetMath.Ord} (h : o.op = .buildSlice 36 1 #[(0, p)]) (hp : a.eval p = ordV x) : (execOp a.eval o).run Try.prog u = .ok (.value (.slice (some ⟨u.heap.size, 0, none⟩) 1 1)) (u.alloc (.cells (ordL x).toArray 31)) := by
  obtain ⟨ρ, hρ⟩ : ∃ ρ, a.eval = ρ := ⟨_, rfl⟩
  rw [hρ] at hp ⊢
  unfold execOp
  rw [h]
  simp [go_sem, hp]
theorem exec_alloc {o : Oper} {a : Act} {u : World} (h : o.op = .alloc 64) : (execOp a.eval o).run Try.prog u = .ok (.value (.pointer (some ⟨u.heap.size, 0, none⟩))) (u.alloc (.cells #[.int .i64 0, .int .i64 0] 64)) := by
  unfold execOp
  rw [h]
  simp [go_sem]
theorem run_store_fault {u : World} {g k : Nat} {e x y : Int} (h : Blk u g 64 [.int .i64 x, .int .i64 y]) : (Instr.storeAt 64 (.pointer (some ⟨g, 0, none⟩)) (faultV k e)).run Try.prog u = .ok () ((u.setCell ⟨g, 0, none⟩ (.int .i64 k)).setCell ⟨g, 1, none⟩ (.int .i64 e)) := by
  have c0 := h.cell (i := 0) rfl
  have c1 := h.cell (i := 1) rfl
  have f0 := h.free 0
  have f1 := h.free 1
  have hcs := cell_apart g
  have hfs := frozen_set
  simp [go_sem, c0, c1, f0, f1, hcs, hfs]
theorem exec_put {o : Oper} {a : Act} {u : World} {x y z t : Operand} {v1 v2 v3 v4 : Value} (h : o.op = .call { callee := .value (.func 19), args := #[x, y, z, t], argTypes := #[41, 3, 3, 3] }) (h1 : a.eval x = v1) (h2 : a.eval y = v2) (h3 : a.eval z = v3) (h4 : a.eval t = v4) :
    (execOp a.eval o).run Try.prog u = .ok (.enter 19 #[v1, v2, v3, v4]) u := by
  have hf : a.eval (.func 19) = .func (.func 19) #[] #[] := rfl
  obtain ⟨ρ, hρ⟩ : ∃ ρ, a.eval = ρ := ⟨_, rfl⟩
  rw [hρ] at h1 h2 h3 h4 hf ⊢
  unfold execOp
  rw [h]
  simp [go_sem, hf, h1, h2, h3, h4]
theorem exec_drive {o : Oper} {a : Act} {u : World} {x y z t : Operand} {v1 v2 v3 v4 : Value} (h : o.op = .call { callee := .value (.func 34), args := #[x, y, z, t], argTypes := #[51, 33, 36, 41] }) (h1 : a.eval x = v1) (h2 : a.eval y = v2) (h3 : a.eval z = v3) (h4 : a.eval t = v4) :
    (execOp a.eval o).run Try.prog u = .ok (.enter 34 #[v1, v2, v3, v4]) u := by
  have hf : a.eval (.func 34) = .func (.func 34) #[] #[] := rfl
  obtain ⟨ρ, hρ⟩ : ∃ ρ, a.eval = ρ := ⟨_, rfl⟩
  rw [hρ] at h1 h2 h3 h4 hf ⊢
  unfold execOp
  rw [h]
  simp [go_sem, hf, h1, h2, h3, h4]
theorem exec_extract {P : Program} {o : Oper} {a : Act} {u : World} {x : Operand} {k : Nat} {vs : Array Value} {v : Value} (h : o.op = .extract x k) (hp : a.eval x = .tuple vs) (hv : vs[k]? = some v) : (execOp a.eval o).run P u = .ok (.value v) u := by
  unfold execOp
  rw [h]
  simp only [hp]
  simp [go_sem, hv]
/-- what the operations of the region leave in which the second Drive stands -/
def fitsFact (base : Nat) (q : Option Addr) (d : Drv) (A : Option Addr) (n c : Nat) (os : List FleetMath.Ord) (A' : Option Addr) (n' c' : Nat) (stops : List Stp) (o : FleetMath.Ord) (i j go gk : Nat) (ge : Int) (k : Nat) (v : Value) (D : Nat → Prop) (u : World) : Prop :=
  match k with
  | 0 => pureF (fun v => v = .pointer q) v D
  | 1 => pureF (fun v => v = drvV d) v D
  | 2 => ownF base 10 31 0 [] v D u
  | 3 => pureF (fun v => v = .slice A n c) v D
  | 4 => ownF base 10 31 n (ordsV os) v D u
  | 5 => pureF (fun v => v = ordV o) v D
  | 6 => blkF (fun g => .slice (some ⟨g, 0, none⟩) 1 1) 31 (ordL o) v D u
  | 7 => ownF base 10 31 (n + 1) (ordsV (os ++ [o])) v D u
  | 8 => pureF (fun v => v = .slice A' n' c') v D
  | 9 => pureF (fun v => v = .pointer (some ⟨go, 0, none⟩)) v D
  | 10 => pureF (fun v => v = .int .i64 o.id) v D
  | 11 => pureF (fun v => v = .int .i64 i) v D
  | 12 => pureF (fun v => v = .int .i64 j) v D
  | 13 => ownF base 2 35 (n' + 2) (stpsV (putM stops o.id i j)) v D u
  | 14 => pureF (fun v => ∃ B m c, v = .tuple #[.slice B m c, faultV gk ge]) v D
  | 15 => pureF (fun v => ∃ B m c, v = .tuple #[.slice B m c, faultV gk ge]) v D
  | 17 => pureF (fun v => v = faultV gk ge) v D
  | 18 => blkF (fun g => .pointer (some ⟨g, 0, none⟩)) 64 [.int .i64 0, .int .i64 0] v D u
  | 20 => blkF (fun g => .pointer (some ⟨g, 0, none⟩)) 64 [.int .i64 gk, .int .i64 ge] v D u
  | _ => pureF (fun _ => True) v D
def fitsRF (base : Nat) (q : Option Addr) (d : Drv) (A : Option Addr) (n c : Nat) (os : List FleetMath.Ord) (A' : Option Addr) (n' c' : Nat) (stops : List Stp) (o : FleetMath.Ord) (i j go gk : Nat) (ge : Int) : RF :=
  ⟨fun k => [48, 49, 50, 51, 52, 53, 54, 55, 56, 57, 58, 59, 60, 61, 62, 47, 63, 64, 18, 17, 18].getD k 0, fun k => if k = 2 then some 4 else if k = 4 then some 7 else if k = 6 then some 7 else if k = 18 then some 20 else none, fitsFact base q d A n c os A' n' c' stops o i j go gk ge⟩
theorem fits_mon {base : Nat} {q : Option Addr} {d : Drv} {A : Option Addr} {n c : Nat} {os : List FleetMath.Ord} {A' : Option Addr} {n' c' : Nat} {stops : List Stp} {o : FleetMath.Ord} {i j go gk : Nat} {ge : Int} (k : Nat) (v : Value) (D : Nat → Prop) (u u' : World) (h : fitsFact base q d A n c os A' n' c' stops o i j go gk ge k v D u) (hk : ∀ b, D b → u'.heap[b]? = u.heap[b]?) :
    fitsFact base q d A n c os A' n' c' stops o i j go gk ge k v D u' := by
  revert h
  unfold fitsFact
  split <;> intro h <;> first | exact h | exact ownF.mon h hk | exact blkF.mon h hk
theorem own_eval {a : Act} {t : Nat} {v : Value} (h : a.tmps.getD t undef = v) : a.eval (.tmp t) = v := h
/-- a row of the call's own made anew behind u -/
theorem own_post {R : RF} {w0 u u' : World} {D : Nat → Nat → Prop} {k m i : Nat} {e : TypeId} {v : Value} {vs : List Value} (ho : Below w0.heap.size w0 u) (hb : Below u.heap.size u u') (hv : OwnK u' u.heap.size e k v m vs) (hf : R.fact i v (fun b => v.ownBlock = some b) u') : RPostV R w0 i u D v u' (fun b => v.ownBlock = some b) :=
  ⟨ho.trans (hb.mono ho.size), hb.size, fun b hlt _ => hb.block b hlt, fun b hd => .inr (own_lt hv hd), hf⟩
/-- one block made behind u -/
theorem new_post {R : RF} {w0 u : World} {D : Nat → Nat → Prop} {i : Nat} {v : Value} {ob : Obj} (ho : Below w0.heap.size w0 u) (hf : R.fact i v (fun b => b = u.heap.size) (u.alloc ob)) : RPostV R w0 i u D v (u.alloc ob) (fun b => b = u.heap.size) :=
  ⟨ho.alloc ho.size _, by simp, fun b hlt _ => Below.heap_alloc u ob b hlt, fun b hd => .inr (by subst hd; simp), hf⟩
/-- a row of the call's own that grows -/
theorem grow_post {R : RF} {w0 u u' : World} {D : Nat → Nat → Prop} {k m m' i j : Nat} {e : TypeId} {v v' : Value} {vs vs' : List Value} (ho : Below w0.heap.size w0 u) (hD : ∀ b, D j b ↔ v.ownBlock = some b) (hj : R.eater j = some i) (hv : OwnK u w0.heap.size e k v m vs) (hv' : OwnK u' w0.heap.size e k v' m' vs')
    (hg : u.grownBy u' v.ownBlock) (hor : v'.ownBlock = v.ownBlock ∨ v'.ownBlock = some u.heap.size) (hf : R.fact i v' (fun b => v'.ownBlock = some b) u') : RPostV R w0 i u D v' u' (fun b => v'.ownBlock = some b) := by
  refine ⟨hv.below ho hg ho.size (Nat.le_refl _), hg.size, fun b hlt hn => hg.block b hlt fun e => hn j hj ((hD b).2 e.symm), fun b hd => ?_, hf⟩
  rcases hor with h | h
  · exact .inl ⟨j, hj, (hD b).2 (by rw [← h]; exact hd)⟩
  · rw [h] at hd
    injection hd with hd
    subst hd
    have h6 := own_lt hv' h
    exact .inr ⟨Nat.le_refl _, h6.2⟩

set_option maxRecDepth 100000 in
set_option maxHeartbeats 4000000 in
theorem rfits_any (base : Nat) (pv : Value) (m : Option Mp) (d : Drv) (A : Option Addr) (n c : Nat) (os : List FleetMath.Ord) (A' : Option Addr) (n' c' : Nat) (stops : List Stp) (o : FleetMath.Ord) (i j : Int) (w : World) (h : MapP w 106 base pv m) (ho : Ords w w.heap.size A n os) (hs : Stps w w.heap.size A' n' stops) (hcc : n' ≤ c')
    (hr : n * 80 ≤ 140737488351232) (hr' : n' * 16 ≤ 140737488351232) :
    Calls Try.prog 20 #[pv, drvV d, .slice A n c, .slice A' n' c', ordV o, .int .i64 i, .int .i64 j] w (Gives w (.bool (fits m d os stops o i j))) := by
  have K0 : Hid (FK w d o ((w.alloc (.cells #[.int .i64 d.id, .int .i64 d.room, .int .i64 d.home, .int .i64 d.win.fr, .int .i64 d.win.to, .bool d.retired] 33)).alloc (.cells #[.int .i64 o.id, .int .i64 o.size, .int .i64 o.pick.place, .int .i64 o.pick.win.fr, .int .i64 o.pick.win.to, .int .i64 o.pick.serv, .int .i64 o.drop.place, .int .i64 o.drop.win.fr, .int .i64 o.drop.win.to, .int .i64 o.drop.serv] 31))) := by
    have h1 := Blk.new (w.alloc (.cells #[.int .i64 d.id, .int .i64 d.room, .int .i64 d.home, .int .i64 d.win.fr, .int .i64 d.win.to, .bool d.retired] 33)) 31 [.int .i64 o.id, .int .i64 o.size, .int .i64 o.pick.place, .int .i64 o.pick.win.fr, .int .i64 o.pick.win.to, .int .i64 o.pick.serv, .int .i64 o.drop.place, .int .i64 o.drop.win.fr, .int .i64 o.drop.win.to, .int .i64 o.drop.serv]
    rw [World.size_alloc] at h1
    exact ⟨((Below.refl _ _).alloc (Nat.le_refl _) _).alloc (by simp) _, DBox.below (d := d) (Blk.new w _ _) ((Below.refl _ _).alloc (Nat.le_refl _) _), h1⟩
  have HM := Lib.hid h
  have HOS := Lib.hid ho
  have HST := Lib.hid hs
  have HLO := Lib.hid ho.length
  have HLS := Lib.hid hs.length
  have hnm := Recs.le ho
  have hnm' := Recs.le hs
  obtain ⟨q, hq⟩ : ∃ q, pv = .pointer q := by
    rcases h with ⟨rfl, _⟩ | ⟨b, _, _, rfl, _⟩
    · exact ⟨_, rfl⟩
    · exact ⟨_, rfl⟩
  subst hq
  clear h ho hs
  obtain ⟨fi, hfi⟩ : ∃ x, idxV (findI os o.id) = x := ⟨_, rfl⟩
  have HFI := Lib.hid hfi
  have HFN : Hid (0 ≤ fi ↔ find os o.id ≠ none) := by show _ ↔ _; rw [← hfi]; exact find_idxV
  have HFD : Hid (∀ u, Below w.heap.size w u → Calls Try.prog 36 #[.slice A n c, .int .i64 o.id] u fun e w' => e = .returned (.int .i64 fi) ∧ u = w') := fun u hu => by
    have := rfind_any A n c os o.id u _ (Recs.keep HOS.out hu)
    rw [hfi] at this
    exact this
  clear hfi
  obtain ⟨g0, g1, g2, g3, g4, g5, g6, g7, g8, g9⟩ := K0.out.ord.cells
  go_enter Try.func20, Try.ntmps20
  go_upto_region 1 with fail
  go_cut [38] (fun b wx => wx = ((w.alloc (.cells #[.int .i64 d.id, .int .i64 d.room, .int .i64 d.home, .int .i64 d.win.fr, .int .i64 d.win.to, .bool d.retired] 33)).alloc (.cells #[.int .i64 o.id, .int .i64 o.size, .int .i64 o.pick.place, .int .i64 o.pick.win.fr, .int .i64 o.pick.win.to, .int .i64 o.pick.serv, .int .i64 o.drop.place, .int .i64 o.drop.win.fr, .int .i64 o.drop.win.to, .int .i64 o.drop.serv] 31)) ∧ ∃ tb : Bool, b = .bool tb ∧ Hid (tb = true → ¬ (0 ≤ i ∧ i ≤ j ∧ j ≤ (n' : Int)) ∨ find os o.id ≠ none) ∧ Hid (tb = false → (0 ≤ i ∧ i ≤ j ∧ j ≤ (n' : Int)) ∧ find os o.id = none))
  case first =>
    by_cases h1 : i < 0
    · have HZ : Hid (¬ (0 ≤ i ∧ i ≤ j ∧ j ≤ (n' : Int))) := by show ¬ _; omega
      go_wp2_with fail
      go_meet
      exact ⟨rfl, true, rfl, fun _ => .inl HZ.out, fun h => by cases h⟩
    by_cases h2 : j < i
    · have HZ : Hid (¬ (0 ≤ i ∧ i ≤ j ∧ j ≤ (n' : Int))) := by show ¬ _; omega
      go_wp2_with fail
      go_meet
      exact ⟨rfl, true, rfl, fun _ => .inl HZ.out, fun h => by cases h⟩
    by_cases h3 : (n' : Int) < j
    · have HZ : Hid (¬ (0 ≤ i ∧ i ≤ j ∧ j ≤ (n' : Int))) := by show ¬ _; omega
      go_wp2_with fail
      go_meet
      exact ⟨rfl, true, rfl, fun _ => .inl HZ.out, fun h => by cases h⟩
    have HZ : Hid (0 ≤ i ∧ i ≤ j ∧ j ≤ (n' : Int)) := by show _ ∧ _; omega
    go_wp2_with fail
    refine (HFD.out _ (by exact K0.out.old)).mono ?_
    rintro e w' ⟨rfl, rfl⟩
    by_cases h4 : 0 ≤ fi
    · have HN := Lib.hid (HFN.out.1 h4)
      have e1 : decide (0 ≤ fi) = true := decide_eq_true h4
      go_wp2_with fail
      go_meet
      exact ⟨rfl, true, rfl, fun _ => .inr HN.out, fun h => by cases h⟩
    · have HN : Hid (find os o.id = none) := by
        show _ = _
        exact Decidable.not_not.1 fun hx => h4 (HFN.out.2 hx)
      have e1 : decide (0 ≤ fi) = false := decide_eq_false h4
      go_wp2_with fail
      go_meet
      exact ⟨rfl, false, rfl, (fun h => by cases h), fun _ => ⟨HZ.out, HN.out⟩⟩
  case rest =>
  obtain ⟨rfl, tb, rfl, HT, HF⟩ := hcut
  clear HFD HFN HFI g0 g1 g2 g3 g4 g5 g6 g7 g8 g9
  cases tb with
  | true =>
    have HZ := Lib.hid (fits_no (m := m) (d := d) (by rw [HLS.out]; exact HT.out rfl))
    go_wp2_with fail
    go_ret
    exact ⟨ret_bool HZ.out.symm, K0.out.old⟩
  | false =>
  obtain ⟨⟨hk0, hk1, hk2⟩, hfn⟩ := HF.out rfl
  obtain ⟨i, rfl⟩ : ∃ x : Nat, i = x := ⟨i.toNat, by omega⟩
  obtain ⟨j, rfl⟩ : ∃ x : Nat, j = x := ⟨j.toNat, by omega⟩
  have hij : i ≤ j := by omega
  have hjn : j ≤ n' := by omega
  have HFIT := Lib.hid (fits_yes (m := m) (d := d) (os := os) (stops := stops) (o := o) (i := i) (j := j) ⟨hij, by rw [HLS.out]; exact hjn⟩ hfn)
  clear hfn HT HF hk0 hk1 hk2
  obtain ⟨d0, d1, d2, d3, d4, d5⟩ := K0.out.drv.cells
  obtain ⟨⟨vs, fk, fe⟩, hdr⟩ : ∃ r, drive m d os stops = r := ⟨_, rfl⟩
  have HDR := Lib.hid hdr
  clear hdr
  go_wp2_with fail
  refine (rdrive_any base (.pointer q) m d A n c os A' n' c' stops _ (by exact HM.out.keep K0.out.old) (by exact Recs.more (Recs.keep HOS.out K0.out.old) K0.out.old.size) (by exact Recs.more (Recs.keep HST.out K0.out.old) K0.out.old.size) hcc).mono ?_
  rintro e w3 ⟨hb3, v3, rfl, hv3⟩
  rw [HDR.out] at hv3 ⊢
  obtain ⟨B3, c3, rfl, _, _⟩ := hv3.read
  have K3 := Lib.hid ((K0.out.below hb3).below ((Below.refl _ _).alloc (Nat.le_refl _) (.cells #[.int .i64 fk, .int .i64 fe] 64)))
  have F3 : Hid (FBox (w3.alloc (.cells #[.int .i64 fk, .int .i64 fe] 64)) w3.heap.size fk fe) := Blk.new w3 _ _
  clear hb3 hv3 d0 d1 d2 d3 d4 d5 K0
  obtain ⟨g3, hg3⟩ : ∃ g, w3.heap.size = g := ⟨_, rfl⟩
  obtain ⟨w4, hw4⟩ : ∃ u, w3.alloc (.cells #[.int .i64 fk, .int .i64 fe] 64) = u := ⟨_, rfl⟩
  rw [hg3] at F3
  go_upto_region 4 with fail
  rw [hw4] at K3 F3
  clear hw4 hg3
  obtain ⟨⟨us, gk, ge⟩, hdr⟩ : ∃ r, drive m d (os ++ [o]) (putM stops o.id i j) = r := ⟨_, rfl⟩
  have HDG := Lib.hid hdr
  clear hdr
  go_cut [18] (fun pv wx => ∃ gt, pv = .pointer (some ⟨gt, 0, none⟩) ∧ Hid (Below w4.heap.size w4 wx) ∧ Hid (FBox wx gt gk ge))
  case first =>
    refine wp_region_steps (fitsRF w4.drew.heap.size q d A n c os A' n' c' stops o i j (w.heap.size + 1) gk ge) (by kernel_rfl) (by kernel_rfl) (by kernel_rfl) (fun k hk => ?_) (by kernel_rfl) fits_mon ?_ ?_
    · simp only [List.length_cons, List.length_nil] at hk
      simp only [fitsRF]
      rw [if_neg (by omega), if_neg (by omega), if_neg (by omega), if_neg (by omega)]
    · refine ⟨?_, ?_, ?_, ?_, ?_, ?_, ?_, ?_, ?_, ?_, ?_, ?_, ?_, ?_, ?_, ?_, ?_, ?_, ?_, ?_, ?_, trivial⟩
      · exact RStep.pure rfl 48 rfl rfl (by simp) fun listed a u D hI hr hn => ⟨_, exec_move (.inl rfl) (hI.out 0 (by kernel_rfl)), pureF.new rfl⟩
      · exact RStep.pure rfl 49 rfl rfl (by simp) fun listed a u D hI hr hn => ⟨_, exec_load rfl (hI.out 8 (by kernel_rfl)) (run_load_drv (K3.out.drv.below (below_drew hI.old))), pureF.new rfl⟩
      · exact RStep.val rfl 50 rfl rfl (by simp) fun listed a u D hI hr hn => ⟨_, _, _, exec_none rfl, new_post hI.old ⟨OwnK.new0 u _ _ _ hI.old.size, fun b => by simp [Value.ownBlock]; exact eq_comm⟩⟩
      · exact RStep.pure rfl 51 rfl rfl (by simp) fun listed a u D hI hr hn => ⟨_, exec_move (.inl rfl) (hI.out 2 (by kernel_rfl)), pureF.new rfl⟩
      · refine RStep.val rfl 52 rfl rfl (by simp) fun listed a u D hI hr hn => ?_
        have h2 := (hI.get hr hn 2 (by kernel_rfl) (.inr rfl)).1
        have h3 := (hI.get hr hn 3 (by kernel_rfl) (.inl rfl)).1
        obtain ⟨ho2, hd2⟩ : ownF _ _ _ _ _ _ _ _ := h2
        obtain ⟨e3, _⟩ : pureF _ _ _ := h3
        obtain ⟨v', u', hrun, hv', hg, hor⟩ := run_append_ks 36 Try.underlying36 infoOrd rfl (by omega) ho2 c (Recs.keep HOS.out (K3.out.old.trans ((below_drew hI.old).mono K3.out.old.size))) (ordsV_one _) (by unfold maxLen; omega) (by omega) hI.old.size
        rw [Nat.zero_add, List.nil_append] at hv'
        exact ⟨v', u', _, exec_append rfl (own_eval rfl) (own_eval e3) hrun, grow_post hI.old hd2 rfl ho2 hv' hg hor ⟨hv', fun b => Iff.rfl⟩⟩
      · exact RStep.pure rfl 53 rfl rfl (by simp) fun listed a u D hI hr hn => ⟨_, exec_load rfl (hI.out 11 (by kernel_rfl)) (run_load_ord (K3.out.ord.below (below_drew hI.old))), pureF.new rfl⟩
      · refine RStep.val rfl 54 rfl rfl (by simp) fun listed a u D hI hr hn => ?_
        obtain ⟨e5, _⟩ : pureF _ _ _ := (hI.get hr hn 5 (by kernel_rfl) (.inl rfl)).1
        exact ⟨_, _, _, exec_one rfl (own_eval e5), new_post hI.old ⟨_, rfl, Blk.new u _ _, fun b => Iff.rfl⟩⟩
      · refine RStep.val rfl 55 rfl rfl (by simp) fun listed a u D hI hr hn => ?_
        obtain ⟨ho4, hd4⟩ : ownF _ _ _ _ _ _ _ _ := (hI.get hr hn 4 (by kernel_rfl) (.inr rfl)).1
        obtain ⟨g6, e6, hb6, hd6⟩ : blkF _ _ _ _ _ _ := (hI.get hr hn 6 (by kernel_rfl) (.inr rfl)).1
        have hr6 : Recs u u.heap.size (some ⟨g6, 0, none⟩) 1 10 (ordL o) := ⟨rfl, by unfold maxLen; omega, fun _ => ⟨g6, 0, rfl, hb6.lt, fun p y hy => by rw [Nat.zero_add]; exact hb6.cell hy⟩⟩
        obtain ⟨v', u', hrun, hv', hg, hor⟩ := run_append_ks 36 Try.underlying36 infoOrd rfl (by omega) ho4 1 hr6 (ordL_one o) (by unfold maxLen; omega) (by omega) hI.old.size
        have hv2 : OwnK u' w4.drew.heap.size 31 10 v' (n + 1) (ordsV (os ++ [o])) := by rw [ordsV_append]; exact hv'
        exact ⟨v', u', _, exec_append rfl (own_eval rfl) (own_eval e6) hrun, grow_post hI.old hd4 rfl ho4 hv2 hg hor ⟨hv2, fun b => Iff.rfl⟩⟩
      · exact RStep.pure rfl 56 rfl rfl (by simp) fun listed a u D hI hr hn => ⟨_, exec_move (.inl rfl) (hI.out 3 (by kernel_rfl)), pureF.new rfl⟩
      · exact RStep.pure rfl 57 rfl rfl (by simp) fun listed a u D hI hr hn => ⟨_, exec_id rfl (hI.out 11 (by kernel_rfl)), pureF.new rfl⟩
      · refine RStep.pure rfl 58 rfl rfl (by simp) fun listed a u D hI hr hn => ?_
        obtain ⟨e9, _⟩ : pureF _ _ _ := (hI.get hr hn 9 (by kernel_rfl) (.inl rfl)).1
        exact ⟨_, exec_load rfl (own_eval e9) (run_load_id (K3.out.ord.below (below_drew hI.old))), pureF.new rfl⟩
      · exact RStep.pure rfl 59 rfl rfl (by simp) fun listed a u D hI hr hn => ⟨_, exec_move (.inl rfl) (hI.out 5 (by kernel_rfl)), pureF.new rfl⟩
      · exact RStep.pure rfl 60 rfl rfl (by simp) fun listed a u D hI hr hn => ⟨_, exec_move (.inl rfl) (hI.out 6 (by kernel_rfl)), pureF.new rfl⟩
      · refine RStep.call rfl 61 rfl rfl (by simp) fun listed a u D hI hr hn => ?_
        obtain ⟨e8, _⟩ : pureF _ _ _ := (hI.get hr hn 8 (by kernel_rfl) (.inl rfl)).1
        obtain ⟨e10, _⟩ : pureF _ _ _ := (hI.get hr hn 10 (by kernel_rfl) (.inl rfl)).1
        obtain ⟨e11, _⟩ : pureF _ _ _ := (hI.get hr hn 11 (by kernel_rfl) (.inl rfl)).1
        obtain ⟨e12, _⟩ : pureF _ _ _ := (hI.get hr hn 12 (by kernel_rfl) (.inl rfl)).1
        refine ⟨_, _, exec_put rfl (own_eval e8) (own_eval e10) (own_eval e11) (own_eval e12), ?_⟩
        have hold := K3.out.old.trans ((below_drew hI.old).mono K3.out.old.size)
        refine (rput_any A' n' c' stops o.id i j u (Recs.more (Recs.keep HST.out hold) hold.size) hij hjn hr').mono ?_
        rintro e u' ⟨v, rfl, hb, hv⟩
        exact ⟨v, _, rfl, own_post hI.old hb hv ⟨hv.lower hI.old.size, fun b => Iff.rfl⟩⟩
      · refine RStep.call rfl 62 rfl rfl (by simp) fun listed a u D hI hr hn => ?_
        obtain ⟨e0, _⟩ : pureF _ _ _ := (hI.get hr hn 0 (by kernel_rfl) (.inl rfl)).1
        obtain ⟨e1, _⟩ : pureF _ _ _ := (hI.get hr hn 1 (by kernel_rfl) (.inl rfl)).1
        obtain ⟨ho7, _⟩ : ownF _ _ _ _ _ _ _ _ := (hI.get hr hn 7 (by kernel_rfl) (.inl rfl)).1
        obtain ⟨ho13, _⟩ : ownF _ _ _ _ _ _ _ _ := (hI.get hr hn 13 (by kernel_rfl) (.inl rfl)).1
        obtain ⟨A7, c7, e7, hc7, hr7⟩ := ho7.read
        obtain ⟨A13, c13, e13, hc13, hr13⟩ := ho13.read
        refine ⟨_, _, exec_drive rfl (own_eval e0) (own_eval e1) (own_eval e7) (own_eval e13), ?_⟩
        have hold := K3.out.old.trans ((below_drew hI.old).mono K3.out.old.size)
        refine (rdrive_any base (.pointer q) m d A7 (n + 1) c7 (os ++ [o]) A13 (n' + 2) c13 (putM stops o.id i j) u (HM.out.keep hold) hr7 hr13 hc13).mono ?_
        rintro e u' ⟨hb, v, rfl, hv⟩
        rw [HDG.out] at hv ⊢
        obtain ⟨B, c2, rfl, _, _⟩ := hv.read
        exact ⟨_, fun _ => False, rfl, hI.old.trans (hb.mono hI.old.size), hb.size, fun b hlt _ => hb.block b hlt, fun b hd => hd.elim, pureF.new (p := (fun v => ∃ B m c, v = .tuple #[.slice B m c, faultV gk ge])) ⟨_, _, _, rfl⟩⟩
      · refine RStep.pure rfl 47 rfl rfl (by simp) fun listed a u D hI hr hn => ?_
        obtain ⟨e14, _⟩ : pureF (fun v => ∃ B m c, v = .tuple #[.slice B m c, faultV gk ge]) _ _ := (hI.get hr hn 14 (by kernel_rfl) (.inl rfl)).1
        exact ⟨_, exec_move (.inl rfl) (own_eval rfl), pureF.new (p := (fun v => ∃ B m c, v = .tuple #[.slice B m c, faultV gk ge])) e14⟩
      · refine RStep.pure rfl 63 rfl rfl (by simp) fun listed a u D hI hr hn => ?_
        obtain ⟨⟨B, k, c2, e15⟩, _⟩ : pureF (fun v => ∃ B m c, v = .tuple #[.slice B m c, faultV gk ge]) _ _ := (hI.get hr hn 15 (by kernel_rfl) (.inl rfl)).1
        exact ⟨.slice B k c2, exec_extract rfl (own_eval e15) rfl, pureF.new (p := fun _ => True) (v := .slice B k c2) trivial⟩
      · refine RStep.pure rfl 64 rfl rfl (by simp) fun listed a u D hI hr hn => ?_
        obtain ⟨⟨B, k, c2, e15⟩, _⟩ : pureF (fun v => ∃ B m c, v = .tuple #[.slice B m c, faultV gk ge]) _ _ := (hI.get hr hn 15 (by kernel_rfl) (.inl rfl)).1
        exact ⟨_, exec_extract rfl (own_eval e15) rfl, pureF.new rfl⟩
      · exact RStep.val rfl 18 rfl rfl (by simp) fun listed a u D hI hr hn => ⟨_, _, _, exec_alloc rfl, new_post hI.old ⟨_, rfl, Blk.new u _ _, fun b => Iff.rfl⟩⟩
      · exact RStep.pure rfl 17 rfl rfl (by simp) fun listed a u D hI hr hn => ⟨_, exec_move (.inr rfl) (own_eval rfl), pureF.new (p := fun _ => True) (v := a.tmps.getD 63 undef) trivial⟩
      · refine RStep.store rfl rfl fun listed a u D hI hr hn => ?_
        obtain ⟨g18, e18, hb18, hd18⟩ : blkF _ _ _ _ _ _ := (hI.get hr hn 18 (by kernel_rfl) (.inr rfl)).1
        have hin := (hI.get hr hn 18 (by kernel_rfl) (.inr rfl)).2 g18 ((hd18 g18).2 rfl)
        obtain ⟨e17, _⟩ : pureF _ _ _ := (hI.get hr hn 17 (by kernel_rfl) (.inl rfl)).1
        have hset : ∀ b, b ≠ g18 → ((u.setCell ⟨g18, 0, none⟩ (.int .i64 gk)).setCell ⟨g18, 1, none⟩ (.int .i64 ge)).heap[b]? = u.heap[b]? := fun b hne => (Below.heap_setCell _ _ _ b hne).trans (Below.heap_setCell _ _ _ b hne)
        refine ⟨_, fun b => b = g18, exec_store rfl (own_eval e18) (own_eval e17) (run_store_fault hb18), (hI.old.setCell hin.1 _).setCell hin.1 _, by simp [World.setCell], fun b _ hn2 => hset b fun e => hn2 18 rfl (by rw [e]; exact (hd18 g18).2 rfl), fun b hd => .inl ⟨18, rfl, by rw [hd]; exact (hd18 g18).2 rfl⟩, ?_⟩
        exact ⟨g18, e18, (hb18.put 0 _).put 1 _, fun b => Iff.rfl⟩
    · intro listed a u D hI hall
      obtain ⟨gt, e20, hb20, _⟩ : blkF _ _ _ _ _ _ := hI.fact 20 ⟨hall 20 (by simp), fun k hk => by cases hk⟩
      have hold := below_drew hI.old
      have hl := hI.fill [48, 49, 50, 51, 52, 53, 54, 55, 56, 57, 58, 59, 60, 61, 62, 47, 63, 64, 18, 17] (by kernel_rfl)
      replace e20 : a.tmps.getD 18 undef = .pointer (some ⟨gt, 0, none⟩) := e20
      clear hI hall
      obtain ⟨σ, hσ⟩ : ∃ σ : Nat → Value, ∀ t, a.tmps.getD t undef = σ t := ⟨_, fun _ => rfl⟩
      simp only [hσ] at hl e20
      clear hσ
      simp only [List.foldl_cons, List.foldl_nil, List.setIfInBounds_toArray, List.set_cons_zero, List.set_cons_succ, e20] at hl
      subst hl
      go_wp2_with fail
      go_meet
      exact ⟨gt, rfl, hold, hb20⟩
  case rest =>
  obtain ⟨gt, rfl, HB5, F5⟩ := hcut
  obtain ⟨w5, rfl⟩ : ∃ u, u = wc := ⟨_, rfl⟩
  have K5 := Lib.hid (K3.out.below HB5.out)
  have F35 := Lib.hid (F3.out.below HB5.out)
  obtain ⟨x0, x1⟩ := F5.out.cells
  obtain ⟨y0, y1⟩ := F35.out.cells
  have HFI2 : Hid (fits m d os stops o i j = (decide (fe = 0) && decide (ge = 0))) := by
    show _ = _
    rw [HFIT.out, HDR.out, HDG.out]
  clear HFIT F3 K3 HB5
  by_cases h1 : fe = 0
  · subst h1
    by_cases h2 : ge = 0
    · subst h2
      go_wp2_with fail
      go_ret
      exact ⟨ret_bool HFI2.out.symm, K5.out.old⟩
    · have e1 : (ge == 0) = false := by simpa using h2
      have HFI3 : Hid (fits m d os stops o i j = false) := by show _ = _; rw [HFI2.out]; simp [h2]
      clear h2
      go_wp2_with fail
      go_ret
      exact ⟨ret_bool HFI3.out.symm, K5.out.old⟩
  · have e1 : (fe == 0) = false := by simpa using h1
    have HFI3 : Hid (fits m d os stops o i j = false) := by show _ = _; rw [HFI2.out]; simp [h1]
    clear h1
    go_wp2_with fail
    go_ret
    exact ⟨ret_bool HFI3.out.symm, K5.out.old⟩

#print axioms rfits_any
end Go.Proofs.Ytobcmlcmbnldlaa.Slack
