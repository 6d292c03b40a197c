/-
  SlackAll walked.
-/
import Derived.Test.YtobcmlcmbnldlaaSlackFits
import Derived.Test.YtobcmlcmbnldlaaMaths
import Derived.Test.YtobcmlcmbnldlaaSlackExec
namespace Go.Proofs.Ytobcmlcmbnldlaa.Slack
open Go.ChangeShapes Go.WideShapes Go.ChangeAt Go.RowKit Go.Proofs.Ytobcmlcmbnldlaa.Mem Go.Proofs.Ytobcmlcmbnldlaa.GeoMath Go.Proofs.Ytobcmlcmbnldlaa.FleetMath Go.Proofs.Ytobcmlcmbnldlaa.Rec Go.Proofs.Ytobcmlcmbnldlaa.Geo Go.Proofs.Ytobcmlcmbnldlaa.Span Go.Proofs.Ytobcmlcmbnldlaa.Deal Go.Proofs.Ytobcmlcmbnldlaa.Keep Go.Proofs.Ytobcmlcmbnldlaa.Route
set_option linter.unusedVariables false

/-- what stays through SlackAll -/
structure AT (W : World) (q : Option Addr) (m : Option Mp) (x : Wd) (os : List FleetMath.Ord) (d : Drv) (A : Option Addr) (n : Nat) (stops : List Stp) (o : FleetMath.Ord) (u : World) : Prop where
  lr : LR W q m x os d A n stops u
  ob : OBox u (W.heap.size + 2) o
section
variable {W u u' : World} {q : Option Addr} {m : Option Mp} {x : Wd} {os : List FleetMath.Ord} {d : Drv} {A : Option Addr} {n c : Nat} {stops : List Stp} {o : FleetMath.Ord} {i j : Int}
theorem AT.below (h : AT W q m x os d A n stops o u) (hb : Below u.heap.size u u') : AT W q m x os d A n stops o u' := ⟨h.lr.below hb, h.ob.below hb⟩
theorem AT.cells (h : AT W q m x os d A n stops o u) : ((u.cell? ⟨W.heap.size + 1, 0, none⟩ = some (.int .i64 d.id) ∧ u.cell? ⟨W.heap.size + 1, 1, none⟩ = some (.int .i64 d.room) ∧ u.cell? ⟨W.heap.size + 1, 2, none⟩ = some (.int .i64 d.home) ∧ u.cell? ⟨W.heap.size + 1, 3, none⟩ = some (.int .i64 d.win.fr) ∧ u.cell? ⟨W.heap.size + 1, 4, none⟩ = some (.int .i64 d.win.to) ∧ u.cell? ⟨W.heap.size + 1, 5, none⟩ = some (.bool d.retired)) ∧ u.cell? ⟨W.heap.size, 3, none⟩ = some (.slice x.os.a x.os.n x.os.c)) ∧ (u.cell? ⟨W.heap.size + 2, 0, none⟩ = some (.int .i64 o.id) ∧ u.cell? ⟨W.heap.size + 2, 1, none⟩ = some (.int .i64 o.size) ∧ u.cell? ⟨W.heap.size + 2, 2, none⟩ = some (.int .i64 o.pick.place) ∧ u.cell? ⟨W.heap.size + 2, 3, none⟩ = some (.int .i64 o.pick.win.fr) ∧ u.cell? ⟨W.heap.size + 2, 4, none⟩ = some (.int .i64 o.pick.win.to) ∧ u.cell? ⟨W.heap.size + 2, 5, none⟩ = some (.int .i64 o.pick.serv) ∧ u.cell? ⟨W.heap.size + 2, 6, none⟩ = some (.int .i64 o.drop.place) ∧ u.cell? ⟨W.heap.size + 2, 7, none⟩ = some (.int .i64 o.drop.win.fr) ∧ u.cell? ⟨W.heap.size + 2, 8, none⟩ = some (.int .i64 o.drop.win.to) ∧ u.cell? ⟨W.heap.size + 2, 9, none⟩ = some (.int .i64 o.drop.serv)) := ⟨h.lr.cells, h.ob.cells⟩
theorem AT.front (h : AT W q m x os d A n stops o u) {k : Nat} (hk : k ≤ n) : AT W q m x os d A k (stops.take k) o u := ⟨⟨h.lr.old, h.lr.map, h.lr.wd, h.lr.drv, h.lr.os0, stps_front h.lr.stops0 hk⟩, h.ob⟩
theorem AT.fits (h : AT W q m x os d A n stops o u) (hc : n ≤ c) (hr : x.os.n * 80 ≤ 140737488351232) (hr' : n * 16 ≤ 140737488351232) (b : Bool) (hb : fits m d os stops o i j = b) :
    Calls Try.prog 14 #[.pointer q, drvV d, .slice x.os.a x.os.n x.os.c, .slice A n c, ordV o, .int .i64 i, .int .i64 j] u fun e u' => e = .returned (.bool b) ∧ Below u.heap.size u u' := by
  rw [← hb]
  exact gfits_any W.heap.size _ m d _ _ _ os A n c stops o i j u h.lr.map h.lr.ords h.lr.stps hc x.os.h hr hr'
end
theorem any_next {os : List FleetMath.Ord} {k : Nat} {p : FleetMath.Ord} {f : FleetMath.Ord → Bool} (h : os[k]? = some p) : (os.take (k + 1)).any f = ((os.take k).any f || f p) := by rw [List.take_add_one, h]; simp
theorem any_find {os : List FleetMath.Ord} {id : Int} : os.any (fun p => decide (p.id = id)) = false ↔ find os id = none := by
  unfold find
  rw [List.find?_eq_none, List.any_eq_false]
theorem fits_eq {m : Option Mp} {d : Drv} {os : List FleetMath.Ord} {l : List Stp} {o : FleetMath.Ord} {i j : Nat} {ub : Bool} (h : i ≤ j ∧ j ≤ l.length) (hub : ub = os.any (fun p => decide (p.id = o.id))) :
    fits m d os l o i j = (decide ((drive m d os l).2.2 = 0) && (!ub && decide ((drive m d (os ++ [o]) (putM l o.id i j)).2.2 = 0))) := by
  cases hb : os.any (fun p => decide (p.id = o.id)) with
  | true =>
    have hf : find os o.id ≠ none := fun e => by rw [any_find.2 e] at hb; cases hb
    rw [fits_no (.inr hf), hub, hb]
    simp
  | false =>
    rw [fits_yes h (any_find.1 hb), hub, hb]
    simp
theorem exec_wdos {o : Oper} {a : Act} {u : World} {x : Operand} {g : Nat} (h : o.op = .fieldAddr 50 x 3) (hp : a.eval x = .pointer (some ⟨g, 0, none⟩)) : (execOp a.eval o).run Try.prog u = .ok (.value (.pointer (some ⟨g, 3, none⟩))) u := by
  unfold execOp
  rw [h]
  simp only [hp]
  simp [go_sem]
theorem run_load_os {u : World} {g : Nat} {v : Value} (h : u.cell? ⟨g, 3, none⟩ = some v) : (Instr.loadAt 36 (.pointer (some ⟨g, 3, none⟩))).run Try.prog u = .ok v u := by
  simp [go_sem, h]
theorem exec_gput {o : Oper} {a : Act} {u : World} {x y z t : Operand} {v1 v2 v3 v4 : Value} (h : o.op = .call { callee := .value (.func 12), args := #[x, y, z, t], argTypes := #[41, 3, 3, 3] }) (h1 : a.eval x = v1) (h2 : a.eval y = v2) (h3 : a.eval z = v3) (h4 : a.eval t = v4) :
    (execOp a.eval o).run Try.prog u = .ok (.enter 12 #[v1, v2, v3, v4]) u := by
  have hf : a.eval (.func 12) = .func (.func 12) #[] #[] := rfl
  obtain ⟨ρ, hρ⟩ : ∃ ρ, a.eval = ρ := ⟨_, rfl⟩
  rw [hρ] at h1 h2 h3 h4 hf ⊢
  unfold execOp
  rw [h]
  simp [go_sem, hf, h1, h2, h3, h4]
theorem exec_gdrive {o : Oper} {a : Act} {u : World} {x y z t : Operand} {v1 v2 v3 v4 : Value} (h : o.op = .call { callee := .value (.func 21), args := #[x, y, z, t], argTypes := #[22, 33, 36, 41] }) (h1 : a.eval x = v1) (h2 : a.eval y = v2) (h3 : a.eval z = v3) (h4 : a.eval t = v4) :
    (execOp a.eval o).run Try.prog u = .ok (.enter 21 #[v1, v2, v3, v4]) u := by
  have hf : a.eval (.func 21) = .func (.func 21) #[] #[] := rfl
  obtain ⟨ρ, hρ⟩ : ∃ ρ, a.eval = ρ := ⟨_, rfl⟩
  rw [hρ] at h1 h2 h3 h4 hf ⊢
  unfold execOp
  rw [h]
  simp [go_sem, hf, h1, h2, h3, h4]
/-- what the operations leave where the orders with one more are made -/
def moreFact (base gw : Nat) (A : Option Addr) (n c : Nat) (os : List FleetMath.Ord) (o : FleetMath.Ord) (k : Nat) (v : Value) (D : Nat → Prop) (u : World) : Prop :=
  match k with
  | 0 => ownF base 10 31 0 [] v D u
  | 1 => pureF (fun v => v = .pointer (some ⟨gw, 3, none⟩)) v D
  | 2 => pureF (fun v => v = .slice A n c) v D
  | 3 => ownF base 10 31 n (ordsV os) v D u
  | 4 => pureF (fun v => v = ordV o) v D
  | 5 => blkF (fun g => .slice (some ⟨g, 0, none⟩) 1 1) 31 (ordL o) v D u
  | 6 => ownF base 10 31 (n + 1) (ordsV (os ++ [o])) v D u
  | 7 => ownF base 10 31 (n + 1) (ordsV (os ++ [o])) v D u
  | _ => pureF (fun _ => True) v D
def moreRF (base gw : Nat) (A : Option Addr) (n c : Nat) (os : List FleetMath.Ord) (o : FleetMath.Ord) : RF :=
  ⟨fun k => [62, 63, 64, 65, 66, 67, 68, 16].getD k 0, fun k => if k = 0 then some 3 else if k = 3 then some 6 else if k = 5 then some 6 else if k = 6 then some 7 else none, moreFact base gw A n c os o⟩
theorem more_mon {base gw : Nat} {A : Option Addr} {n c : Nat} {os : List FleetMath.Ord} {o : FleetMath.Ord} (k : Nat) (v : Value) (D : Nat → Prop) (u u' : World) (h : moreFact base gw A n c os o k v D u) (hk : ∀ b, D b → u'.heap[b]? = u.heap[b]?) : moreFact base gw A n c os o k v D u' := by
  revert h
  unfold moreFact
  split <;> intro h <;> first | exact h | exact ownF.mon h hk | exact blkF.mon h hk
/-- what the operations leave where the stops with the order's two are driven -/
def droveFact (base go : Nat) (q : Option Addr) (d : Drv) (A : Option Addr) (n c : Nat) (A' : Option Addr) (n' c' : Nat) (id : Int) (l : List Stp) (i j gk : Nat) (ge : Int) (k : Nat) (v : Value) (D : Nat → Prop) (u : World) : Prop :=
  match k with
  | 0 => pureF (fun v => v = .pointer q) v D
  | 1 => pureF (fun v => v = drvV d) v D
  | 2 => pureF (fun v => v = .slice A n c) v D
  | 3 => pureF (fun v => v = .slice A' n' c') v D
  | 4 => pureF (fun v => v = .pointer (some ⟨go, 0, none⟩)) v D
  | 5 => pureF (fun v => v = .int .i64 id) v D
  | 6 => pureF (fun v => v = .int .i64 i) v D
  | 7 => pureF (fun v => v = .int .i64 j) v D
  | 8 => ownF base 2 35 l.length (stpsV l) v D u
  | 9 => pureF (fun v => ∃ B m c, v = .tuple #[.slice B m c, faultV gk ge]) v D
  | 10 => pureF (fun v => ∃ B m c, v = .tuple #[.slice B m c, faultV gk ge]) v D
  | 12 => pureF (fun v => v = faultV gk ge) v D
  | 13 => blkF (fun g => .pointer (some ⟨g, 0, none⟩)) 64 [.int .i64 0, .int .i64 0] v D u
  | 15 => blkF (fun g => .pointer (some ⟨g, 0, none⟩)) 64 [.int .i64 gk, .int .i64 ge] v D u
  | _ => pureF (fun _ => True) v D
def droveRF (base go : Nat) (q : Option Addr) (d : Drv) (A : Option Addr) (n c : Nat) (A' : Option Addr) (n' c' : Nat) (id : Int) (l : List Stp) (i j gk : Nat) (ge : Int) : RF :=
  ⟨fun k => [83, 84, 85, 86, 87, 88, 89, 90, 91, 92, 82, 93, 94, 20, 19, 20].getD k 0, fun k => if k = 13 then some 15 else none, droveFact base go q d A n c A' n' c' id l i j gk ge⟩
theorem drove_mon {base go : Nat} {q : Option Addr} {d : Drv} {A : Option Addr} {n c : Nat} {A' : Option Addr} {n' c' : Nat} {id : Int} {l : List Stp} {i j gk : Nat} {ge : Int} (k : Nat) (v : Value) (D : Nat → Prop) (u u' : World) (h : droveFact base go q d A n c A' n' c' id l i j gk ge k v D u) (hk : ∀ b, D b → u'.heap[b]? = u.heap[b]?) : droveFact base go q d A n c A' n' c' id l i j gk ge k v D u' := by
  revert h
  unfold droveFact
  split <;> intro h <;> first | exact h | exact ownF.mon h hk | exact blkF.mon h hk

set_option maxRecDepth 100000 in
set_option maxHeartbeats 4000000 in
theorem slackAll_walk (x : Wd) (ts : List Int) (os : List FleetMath.Ord) (d : Drv) (A : Option Addr) (n c : Nat) (stops : List Stp) (o : FleetMath.Ord) (W : World) (hts : Ints W W.heap.size x.ts.a x.ts.n ts) (hos : Ords W W.heap.size x.os.a x.os.n os) (hst : Stps W W.heap.size A n stops) (hc : n ≤ c) (hro : x.os.n * 80 ≤ 140737488351232) (hrs : n * 16 ≤ 140737488351232) :
    Calls Try.prog 7 #[wdV x, drvV d, .slice A n c, ordV o] W fun e w' => e = .returned (.bool true) ∧ Below W.heap.size W w' := by
  have HTS := Lib.hid hts
  have HOS := Lib.hid hos
  have HST := Lib.hid hst
  clear hts hos hst
  obtain ⟨m, hm⟩ : ∃ m, mapOf x.n ts = m := ⟨_, rfl⟩
  have HM := Lib.hid hm
  clear hm
  have F0 : Hid (Below W.heap.size W (((W.alloc (.cells #[.int .i64 x.n, x.ts.v, x.ds.v, x.os.v, x.pl.v] 50)).alloc (.cells #[.int .i64 d.id, .int .i64 d.room, .int .i64 d.home, .int .i64 d.win.fr, .int .i64 d.win.to, .bool d.retired] 33)).alloc (.cells #[.int .i64 o.id, .int .i64 o.size, .int .i64 o.pick.place, .int .i64 o.pick.win.fr, .int .i64 o.pick.win.to, .int .i64 o.pick.serv, .int .i64 o.drop.place, .int .i64 o.drop.win.fr, .int .i64 o.drop.win.to, .int .i64 o.drop.serv] 31)) ∧ WBox (((W.alloc (.cells #[.int .i64 x.n, x.ts.v, x.ds.v, x.os.v, x.pl.v] 50)).alloc (.cells #[.int .i64 d.id, .int .i64 d.room, .int .i64 d.home, .int .i64 d.win.fr, .int .i64 d.win.to, .bool d.retired] 33)).alloc (.cells #[.int .i64 o.id, .int .i64 o.size, .int .i64 o.pick.place, .int .i64 o.pick.win.fr, .int .i64 o.pick.win.to, .int .i64 o.pick.serv, .int .i64 o.drop.place, .int .i64 o.drop.win.fr, .int .i64 o.drop.win.to, .int .i64 o.drop.serv] 31)) W.heap.size x ∧ DBox (((W.alloc (.cells #[.int .i64 x.n, x.ts.v, x.ds.v, x.os.v, x.pl.v] 50)).alloc (.cells #[.int .i64 d.id, .int .i64 d.room, .int .i64 d.home, .int .i64 d.win.fr, .int .i64 d.win.to, .bool d.retired] 33)).alloc (.cells #[.int .i64 o.id, .int .i64 o.size, .int .i64 o.pick.place, .int .i64 o.pick.win.fr, .int .i64 o.pick.win.to, .int .i64 o.pick.serv, .int .i64 o.drop.place, .int .i64 o.drop.win.fr, .int .i64 o.drop.win.to, .int .i64 o.drop.serv] 31)) (W.heap.size + 1) d ∧ OBox (((W.alloc (.cells #[.int .i64 x.n, x.ts.v, x.ds.v, x.os.v, x.pl.v] 50)).alloc (.cells #[.int .i64 d.id, .int .i64 d.room, .int .i64 d.home, .int .i64 d.win.fr, .int .i64 d.win.to, .bool d.retired] 33)).alloc (.cells #[.int .i64 o.id, .int .i64 o.size, .int .i64 o.pick.place, .int .i64 o.pick.win.fr, .int .i64 o.pick.win.to, .int .i64 o.pick.serv, .int .i64 o.drop.place, .int .i64 o.drop.win.fr, .int .i64 o.drop.win.to, .int .i64 o.drop.serv] 31)) (W.heap.size + 2) o) := by
    have b1 := WBox.new W x
    have b2 := Blk.new (W.alloc (.cells #[.int .i64 x.n, x.ts.v, x.ds.v, x.os.v, x.pl.v] 50)) 33 [.int .i64 d.id, .int .i64 d.room, .int .i64 d.home, .int .i64 d.win.fr, .int .i64 d.win.to, .bool d.retired]
    have b4 := Blk.new ((W.alloc (.cells #[.int .i64 x.n, x.ts.v, x.ds.v, x.os.v, x.pl.v] 50)).alloc (.cells #[.int .i64 d.id, .int .i64 d.room, .int .i64 d.home, .int .i64 d.win.fr, .int .i64 d.win.to, .bool d.retired] 33)) 31 (ordL o)
    simp only [World.size_alloc] at b2 b4
    exact ⟨(((Below.refl _ _).alloc (Nat.le_refl _) _).alloc (by simp) _).alloc (by simp; omega) _, (b1.below ((Below.refl _ _).alloc (Nat.le_refl _) _)).below ((Below.refl _ _).alloc (Nat.le_refl _) _), DBox.below (d := d) b2 ((Below.refl _ _).alloc (Nat.le_refl _) _), b4⟩
  have hnm2 : n ≤ 9223372036854775807 := by omega
  have hxm : x.os.n ≤ 9223372036854775807 := by omega
  go_enter Try.func7, Try.ntmps7
  go_wp2_with fail
  refine (kmaps_any x ts _ (by exact Reads.more (Reads.keep HTS.out F0.out.1) F0.out.1.size)).mono ?_
  rintro e w1 ⟨hb1, q, r, rfl, hq, _⟩
  have L1 : Hid (AT W q m x os d A n stops o w1) := by
    have HM' := HM.out
    rw [HM'] at hq
    obtain ⟨hb0, hw0, hd0, ho0⟩ := F0.out
    exact ⟨⟨hb0.trans (hb1.mono hb0.size), hq.lower hb0.size, hw0.below hb1, hd0.below hb1, HOS.out, HST.out⟩, ho0.below hb1⟩
  clear hb1 hq F0 HTS HOS HST HM
  go_upto_if 31 with fail
  go_cut [2] (fun sv wx => wx = w1 ∧ ∃ k : Nat, sv = .slice A k c ∧ Hid (k ≤ n ∧ k ≤ 12))
  case first =>
    by_cases hgt : 12 < n
    · obtain ⟨b2, off2, _, rfl, _⟩ := Stps.at_ L1.out.lr.stps (by omega : 0 < n)
      have hl0 : (12 : Int) < (n : Int) := by omega
      have hl1 : (12 : Int) ≤ (c : Int) := by omega
      go_wp2_with fail
      go_meet
      exact ⟨rfl, 12, rfl, by omega, Nat.le_refl _⟩
    · have hl0 : ¬ (12 : Int) < (n : Int) := by omega
      go_wp2_with fail
      go_meet
      exact ⟨rfl, n, rfl, Nat.le_refl _, by omega⟩
  case rest =>
  obtain ⟨rfl, k2, rfl, HK2⟩ := hcut
  obtain ⟨w1, rfl⟩ : ∃ u, u = wc := ⟨_, rfl⟩
  obtain ⟨l2, hl2⟩ : ∃ l, stops.take k2 = l := ⟨_, rfl⟩
  have L2 : Hid (AT W q m x os d A k2 l2 o w1) := by rw [← hl2]; exact L1.out.front HK2.out.1
  have hk12 : k2 ≤ 12 := HK2.out.2
  have hkc : k2 ≤ c := Nat.le_trans HK2.out.1 hc
  clear L1 hl2 HK2 hnm2
  obtain ⟨⟨vs, fk, fe⟩, hdr⟩ : ∃ r, drive m d os l2 = r := ⟨_, rfl⟩
  have HDR := Lib.hid hdr
  clear hdr
  obtain ⟨⟨⟨d0, d1, d2, d3, d4, d5⟩, e0⟩, _⟩ := L2.out.cells
  go_wp2_with fail
  refine (ldrive W q m x os d d A k2 c l2 vs fk fe _ (by exact L2.out.lr) hkc HDR.out).mono ?_
  rintro e w3 ⟨B, c5, rfl, hb, _⟩
  have L3 := Lib.hid ((L2.out.below hb).below ((Below.refl _ _).alloc (Nat.le_refl _) (.cells #[.int .i64 fk, .int .i64 fe] 64)))
  have F3 : Hid (FBox (w3.alloc (.cells #[.int .i64 fk, .int .i64 fe] 64)) w3.heap.size fk fe) := Blk.new w3 _ _
  clear hb L2 d0 d1 d2 d3 d4 d5 e0
  obtain ⟨g3, hg3⟩ : ∃ g, w3.heap.size = g := ⟨_, rfl⟩
  obtain ⟨w4, hw4⟩ : ∃ u, w3.alloc (.cells #[.int .i64 fk, .int .i64 fe] 64) = u := ⟨_, rfl⟩
  rw [hg3] at F3
  go_wp2_with fail
  rw [hw4] at L3 F3
  clear hw4 hg3
  go_loopw [14, 15] (fun kb kv wr => ∃ (k : Nat) (ub : Bool), k ≤ x.os.n ∧ kb = .bool ub ∧ kv = .int .i64 k ∧ Hid (ub = (os.take k).any (fun p => decide (p.id = o.id))) ∧ Hid (Below w4.heap.size w4 wr)) (fun _ kv _ => x.os.n - (intOf kv).toNat)
  case atStart => exact ⟨0, false, Nat.zero_le _, rfl, rfl, (rfl : false = _), Below.refl _ _⟩
  case round =>
    obtain ⟨k, ub, hk, rfl, rfl, HU, HB⟩ := hrel
    have LR4 := Lib.hid (L3.out.below HB.out)
    obtain ⟨⟨_, e0⟩, o0, _⟩ := LR4.out.cells
    by_cases hlt : k < x.os.n
    · obtain ⟨b, off, p, eA, hbW, hp, _, p0, _⟩ := Ords.at_ LR4.out.lr.ords hlt
      rw [eA] at e0
      have HEA := Lib.hid eA
      have HN : Hid (∀ f : FleetMath.Ord → Bool, (os.take (k + 1)).any f = ((os.take k).any f || f p)) := fun f => any_next hp
      clear eA hp hbW
      have hki : (k : Int) < (x.os.n : Int) := by omega
      have hki0 : (0 : Int) ≤ (k : Int) := by omega
      cases ub with
      | true =>
        go_wp2_with fail
        go_quiet (fail)
        go_wp2_with fail
        go_roundw
        case rel => exact ⟨k + 1, true, by omega, rfl, by go_num, (by show true = _; rw [HN.out, ← HU.out]; rfl), below_drewN HB.out _⟩
        case measure => simp [intOf]; omega
      | false =>
        obtain ⟨tb, htb⟩ : ∃ tb, (p.id == o.id) = tb := ⟨_, rfl⟩
        have HTB : Hid (tb = (os.take (k + 1)).any (fun p => decide (p.id = o.id))) := by
          show tb = _
          rw [HN.out, ← HU.out, ← htb]
          by_cases h : p.id = o.id <;> simp [h]
        go_wp2_with fail
        go_quiet (fail)
        go_wp2_with fail
        go_roundw
        case rel => exact ⟨k + 1, tb, by omega, rfl, by go_num, HTB, below_drewN HB.out _⟩
        case measure => simp [intOf]; omega
    have e : k = x.os.n := by omega
    subst e
    have HKN : Hid (ub = os.any (fun p => decide (p.id = o.id))) := by
      have h1 := HU.out
      rw [List.take_of_length_le (by have := LR4.out.lr.os0.length; omega)] at h1
      exact h1
    have F4 := Lib.hid (F3.out.below HB.out)
    clear HU HB L3 F3
    go_upto_region 12 with fail
    clear e0 o0
    obtain ⟨w5, rfl⟩ : ∃ u, u = wr := ⟨_, rfl⟩
    go_cut [16] (fun mv wx => ∃ A3 c3, mv = .slice A3 (x.os.n + 1) c3 ∧ Hid (Below w5.heap.size w5 wx) ∧ Hid (OwnK wx w5.heap.size 31 10 (.slice A3 (x.os.n + 1) c3) (x.os.n + 1) (ordsV (os ++ [o]))))
    case first =>
      refine wp_region_steps (moreRF w5.drew.heap.size W.heap.size x.os.a x.os.n x.os.c os o) (by kernel_rfl) (by kernel_rfl) (by kernel_rfl) (fun k hk => ?_) (by kernel_rfl) more_mon ?_ ?_
      · simp only [List.length_cons, List.length_nil] at hk
        simp only [moreRF]
        rw [if_neg (by omega), if_neg (by omega), if_neg (by omega), if_neg (by omega)]
      · refine ⟨?_, ?_, ?_, ?_, ?_, ?_, ?_, ?_, trivial⟩
        · exact RStep.val rfl 62 rfl rfl (by simp) fun listed a u D hI hr hn => ⟨_, _, _, exec_none rfl, new_post hI.old ⟨OwnK.new0 u _ _ _ hI.old.size, fun b => by simp [Value.ownBlock]; exact eq_comm⟩⟩
        · exact RStep.pure rfl 63 rfl rfl (by simp) fun listed a u D hI hr hn => ⟨_, exec_wdos rfl (hI.out 4 (by kernel_rfl)), pureF.new rfl⟩
        · refine RStep.pure rfl 64 rfl rfl (by simp) fun listed a u D hI hr hn => ?_
          obtain ⟨e1, _⟩ : pureF (fun v => v = .pointer (some ⟨W.heap.size, 3, none⟩)) _ _ := (hI.get hr hn 1 (by kernel_rfl) (.inl rfl)).1
          exact ⟨_, exec_load rfl (own_eval e1) (run_load_os (LR4.out.below (below_drew hI.old)).cells.1.2), pureF.new rfl⟩
        · refine RStep.val rfl 65 rfl rfl (by simp) fun listed a u D hI hr hn => ?_
          obtain ⟨ho2, hd2⟩ : ownF _ _ _ _ _ _ _ _ := (hI.get hr hn 0 (by kernel_rfl) (.inr rfl)).1
          obtain ⟨e3, _⟩ : pureF (fun v => v = .slice x.os.a x.os.n x.os.c) _ _ := (hI.get hr hn 2 (by kernel_rfl) (.inl rfl)).1
          obtain ⟨v', u', hrun, hv', hg, hor⟩ := run_append_ks 36 Try.underlying36 infoOrd rfl (by omega) ho2 x.os.c (LR4.out.below (below_drew hI.old)).lr.ords (ordsV_one _) (by unfold maxLen; omega) (by omega) hI.old.size
          rw [Nat.zero_add, List.nil_append] at hv'
          exact ⟨v', u', _, exec_append rfl (own_eval rfl) (own_eval e3) hrun, grow_post hI.old hd2 rfl ho2 hv' hg hor ⟨hv', fun b => Iff.rfl⟩⟩
        · exact RStep.pure rfl 66 rfl rfl (by simp) fun listed a u D hI hr hn => ⟨_, exec_load rfl (hI.out 7 (by kernel_rfl)) (run_load_ord (LR4.out.below (below_drew hI.old)).ob), pureF.new rfl⟩
        · refine RStep.val rfl 67 rfl rfl (by simp) fun listed a u D hI hr hn => ?_
          obtain ⟨e5, _⟩ : pureF (fun v => v = ordV o) _ _ := (hI.get hr hn 4 (by kernel_rfl) (.inl rfl)).1
          exact ⟨_, _, _, exec_one rfl (own_eval e5), new_post hI.old ⟨_, rfl, Blk.new u _ _, fun b => Iff.rfl⟩⟩
        · refine RStep.val rfl 68 rfl rfl (by simp) fun listed a u D hI hr hn => ?_
          obtain ⟨ho4, hd4⟩ : ownF _ _ _ _ _ _ _ _ := (hI.get hr hn 3 (by kernel_rfl) (.inr rfl)).1
          obtain ⟨g6, e6, hb6, hd6⟩ : blkF _ _ _ _ _ _ := (hI.get hr hn 5 (by kernel_rfl) (.inr rfl)).1
          have hr6 : Recs u u.heap.size (some ⟨g6, 0, none⟩) 1 10 (ordL o) := ⟨rfl, by unfold maxLen; omega, fun _ => ⟨g6, 0, rfl, hb6.lt, fun p y hy => by rw [Nat.zero_add]; exact hb6.cell hy⟩⟩
          obtain ⟨v', u', hrun, hv', hg, hor⟩ := run_append_ks 36 Try.underlying36 infoOrd rfl (by omega) ho4 1 hr6 (ordL_one o) (by unfold maxLen; omega) (by omega) hI.old.size
          have hv2 : OwnK u' w5.drew.heap.size 31 10 v' (x.os.n + 1) (ordsV (os ++ [o])) := by rw [ordsV_append]; exact hv'
          exact ⟨v', u', _, exec_append rfl (own_eval rfl) (own_eval e6) hrun, grow_post hI.old hd4 rfl ho4 hv2 hg hor ⟨hv2, fun b => Iff.rfl⟩⟩
        · refine RStep.val rfl 16 rfl rfl (by simp) fun listed a u D hI hr hn => ?_
          have h6 := (hI.get hr hn 6 (by kernel_rfl) (.inr rfl)).1
          exact ⟨_, u, D 6, exec_move (.inr rfl) (own_eval rfl), hI.old, Nat.le_refl _, fun _ _ _ => rfl, fun b hb => .inl ⟨6, rfl, hb⟩, h6⟩
      · intro listed a u D hI hall
        obtain ⟨ho7, _⟩ : ownF _ _ _ _ _ _ _ _ := hI.fact 7 ⟨hall 7 (by simp), fun k hk => by cases hk⟩
        have hold := below_drew hI.old
        have hl := hI.fill [62, 63, 64, 65, 66, 67, 68, 16] (by kernel_rfl)
        replace ho7 : OwnK u w5.heap.size 31 10 (a.tmps.getD 16 undef) (x.os.n + 1) (ordsV (os ++ [o])) := ho7
        obtain ⟨A3, c3, e16⟩ := ho7.slice
        rw [e16] at ho7
        clear hI hall
        obtain ⟨σ, hσ⟩ : ∃ σ : Nat → Value, ∀ t, a.tmps.getD t undef = σ t := ⟨_, fun _ => rfl⟩
        simp only [hσ] at hl e16
        clear hσ
        simp only [List.foldl_cons, List.foldl_nil, List.setIfInBounds_toArray, List.set_cons_zero, List.set_cons_succ, e16] at hl
        subst hl
        go_wp2_with fail
        go_meet
        exact ⟨A3, c3, rfl, hold, ho7⟩
    case rest =>
    obtain ⟨A3, c3, rfl, HB6, HM6⟩ := hcut
    obtain ⟨w6, rfl⟩ : ∃ u, u = wc := ⟨_, rfl⟩
    have L6 := Lib.hid (LR4.out.below HB6.out)
    have F6 := Lib.hid (F4.out.below HB6.out)
    have HM6' := Lib.hid (HM6.out.lower (Nat.zero_le _))
    clear LR4 F4 HB6 HM6
    have HL2 : Hid (l2.length = k2) := Stps.length L6.out.lr.stops0
    have hkr : k2 * 16 ≤ 140737488351232 := by omega
    go_wp2_with fail
    go_loopw [17] (fun iv wi => ∃ i : Nat, i ≤ k2 + 1 ∧ iv = .int .i64 i ∧ Hid (Below w6.heap.size w6 wi)) (fun iv _ => k2 + 1 - (intOf iv).toNat)
    case atStart => exact ⟨0, by omega, rfl, Below.refl _ _⟩
    case round =>
      obtain ⟨i, hi, rfl, HBI⟩ := hrel
      by_cases hik : i ≤ k2
      case neg =>
        have LZ6 := Lib.hid (L6.out.below HBI.out)
        have HFF : Hid (fits m d os l2 o (k2 : Int) ((k2 : Int) + 1) = false) := fits_no (.inl (by rw [HL2.out]; omega))
        obtain ⟨⟨⟨d0, d1, d2, d3, d4, d5⟩, e0⟩, o0, o1, o2, o3, o4, o5, o6, o7, o8, o9⟩ := LZ6.out.cells
        have hik2 : ¬ (i : Int) ≤ (k2 : Int) := by omega
        clear hik
        go_wp2_with fail
        refine (AT.fits (i := (k2 : Int)) (j := (k2 : Int) + 1) (by exact LZ6.out) hkc hro hkr false HFF.out).mono ?_
        rintro e w8 ⟨rfl, hb8⟩
        have LZ8 : Hid (Below W.heap.size W w8) := LZ6.out.lr.old.trans (hb8.mono LZ6.out.lr.old.size)
        clear hb8 LZ6 d0 d1 d2 d3 d4 d5 e0 o0 o1 o2 o3 o4 o5 o6 o7 o8 o9
        go_wp2_with fail
        refine (runs_any _).mono ?_
        rintro e w9 ⟨rfl, hb⟩
        have LZ9 : Hid (Below W.heap.size W w9) := LZ8.out.trans (hb.mono LZ8.out.size)
        clear hb
        go_wp2_with fail
        go_ret
        exact ⟨rfl, LZ9.out⟩
      have hik2 : (i : Int) ≤ (k2 : Int) := by omega
      go_wp2_with fail
      go_loopw [18] (fun jv wk => ∃ j : Nat, i ≤ j ∧ j ≤ k2 + 1 ∧ jv = .int .i64 j ∧ Hid (Below w6.heap.size w6 wk)) (fun jv _ => k2 + 1 - (intOf jv).toNat)
      case atStart => exact ⟨i, Nat.le_refl _, hi, rfl, HBI⟩
      case round =>
        clear HBI
        obtain ⟨j, hij, hj, rfl, HBJ⟩ := hrel
        by_cases hjk : j ≤ k2
        case neg =>
          have hjk2 : ¬ (j : Int) ≤ (k2 : Int) := by omega
          go_wp2_with fail
          go_roundw
          case rel => exact ⟨i + 1, by omega, by go_num, HBJ⟩
          case measure => simp [intOf]; omega
        have hjk2 : (j : Int) ≤ (k2 : Int) := by omega
        have LK := Lib.hid (L6.out.below HBJ.out)
        have HMK := Lib.hid (HM6'.out.keep HBJ.out (Nat.le_refl _))
        obtain ⟨⟨us, gk, ge⟩, hdg⟩ : ∃ r, drive m d (os ++ [o]) (putM l2 o.id i j) = r := ⟨_, rfl⟩
        have HDG := Lib.hid hdg
        clear hdg
        go_upto_region 19 with fail
        go_cut [20] (fun pv wx => ∃ gt, pv = .pointer (some ⟨gt, 0, none⟩) ∧ Hid (Below wr.heap.size wr wx) ∧ Hid (FBox wx gt gk ge))
        case first =>
          refine wp_region_steps (droveRF wr.drew.heap.size (W.heap.size + 1 + 1) q d A3 (x.os.n + 1) c3 A k2 c o.id (putM l2 o.id i j) i j gk ge) (by kernel_rfl) (by kernel_rfl) (by kernel_rfl) (fun k hk => ?_) (by kernel_rfl) drove_mon ?_ ?_
          · simp only [List.length_cons, List.length_nil] at hk
            simp only [droveRF]
            rw [if_neg (by omega)]
          · refine ⟨?_, ?_, ?_, ?_, ?_, ?_, ?_, ?_, ?_, ?_, ?_, ?_, ?_, ?_, ?_, ?_, trivial⟩
            · exact RStep.pure rfl 83 rfl rfl (by simp) fun listed a u D hI hr hn => ⟨_, exec_move (.inl rfl) (hI.out 9 (by kernel_rfl)), pureF.new (p := fun v => v = .pointer q) rfl⟩
            · exact RStep.pure rfl 84 rfl rfl (by simp) fun listed a u D hI hr hn => ⟨_, exec_load rfl (hI.out 5 (by kernel_rfl)) (run_load_drv (LK.out.below (below_drew hI.old)).lr.drv), pureF.new rfl⟩
            · exact RStep.pure rfl 85 rfl rfl (by simp) fun listed a u D hI hr hn => ⟨_, exec_move (.inl rfl) (hI.out 16 (by kernel_rfl)), pureF.new (p := fun v => v = .slice A3 (x.os.n + 1) c3) rfl⟩
            · exact RStep.pure rfl 86 rfl rfl (by simp) fun listed a u D hI hr hn => ⟨_, exec_move (.inl rfl) (hI.out 2 (by kernel_rfl)), pureF.new (p := fun v => v = .slice A k2 c) rfl⟩
            · exact RStep.pure rfl 87 rfl rfl (by simp) fun listed a u D hI hr hn => ⟨_, exec_id rfl (hI.out 7 (by kernel_rfl)), pureF.new rfl⟩
            · refine RStep.pure rfl 88 rfl rfl (by simp) fun listed a u D hI hr hn => ?_
              obtain ⟨e9, _⟩ : pureF (fun v => v = .pointer (some ⟨W.heap.size + 1 + 1, 0, none⟩)) _ _ := (hI.get hr hn 4 (by kernel_rfl) (.inl rfl)).1
              exact ⟨_, exec_load rfl (own_eval e9) (run_load_id (LK.out.below (below_drew hI.old)).ob), pureF.new rfl⟩
            · exact RStep.pure rfl 89 rfl rfl (by simp) fun listed a u D hI hr hn => ⟨_, exec_move (.inl rfl) (hI.out 17 (by kernel_rfl)), pureF.new (p := fun v => v = .int .i64 i) rfl⟩
            · exact RStep.pure rfl 90 rfl rfl (by simp) fun listed a u D hI hr hn => ⟨_, exec_move (.inl rfl) (hI.out 18 (by kernel_rfl)), pureF.new (p := fun v => v = .int .i64 j) rfl⟩
            · refine RStep.call rfl 91 rfl rfl (by simp) fun listed a u D hI hr hn => ?_
              obtain ⟨e8, _⟩ : pureF (fun v => v = .slice A k2 c) _ _ := (hI.get hr hn 3 (by kernel_rfl) (.inl rfl)).1
              obtain ⟨e10, _⟩ : pureF (fun v => v = .int .i64 o.id) _ _ := (hI.get hr hn 5 (by kernel_rfl) (.inl rfl)).1
              obtain ⟨e11, _⟩ : pureF (fun v => v = .int .i64 i) _ _ := (hI.get hr hn 6 (by kernel_rfl) (.inl rfl)).1
              obtain ⟨e12, _⟩ : pureF (fun v => v = .int .i64 j) _ _ := (hI.get hr hn 7 (by kernel_rfl) (.inl rfl)).1
              refine ⟨_, _, exec_gput rfl (own_eval e8) (own_eval e10) (own_eval e11) (own_eval e12), ?_⟩
              refine (gput_any A k2 c l2 o.id i j u (LK.out.below (below_drew hI.old)).lr.stps hkc (by omega)).mono ?_
              rintro e u' ⟨v, rfl, hb, hv⟩
              rw [putR_nat hij (by rw [HL2.out]; exact hjk)] at hv
              exact ⟨v, _, rfl, own_post hI.old hb hv ⟨hv.lower hI.old.size, fun b => Iff.rfl⟩⟩
            · refine RStep.call rfl 92 rfl rfl (by simp) fun listed a u D hI hr hn => ?_
              obtain ⟨e0, _⟩ : pureF (fun v => v = .pointer q) _ _ := (hI.get hr hn 0 (by kernel_rfl) (.inl rfl)).1
              obtain ⟨e1, _⟩ : pureF (fun v => v = drvV d) _ _ := (hI.get hr hn 1 (by kernel_rfl) (.inl rfl)).1
              obtain ⟨e7, _⟩ : pureF (fun v => v = .slice A3 (x.os.n + 1) c3) _ _ := (hI.get hr hn 2 (by kernel_rfl) (.inl rfl)).1
              obtain ⟨ho13, _⟩ : ownF _ _ _ _ _ _ _ _ := (hI.get hr hn 8 (by kernel_rfl) (.inl rfl)).1
              obtain ⟨A13, c13, e13, hc13, hr13⟩ := ho13.read
              refine ⟨_, _, exec_gdrive rfl (own_eval e0) (own_eval e1) (own_eval e7) (own_eval e13), ?_⟩
              have hmu := HMK.out.keep (below_drew hI.old) (Nat.le_refl _)
              refine (gdrive_any W.heap.size (.pointer q) m d A3 (x.os.n + 1) c3 (os ++ [o]) A13 _ c13 (putM l2 o.id i j) u (LK.out.below (below_drew hI.old)).lr.map (hmu.read' rfl) hr13 hc13 hmu.cap).mono ?_
              rintro e u' ⟨hb, v, rfl, hv⟩
              rw [HDG.out] at hv ⊢
              obtain ⟨B, c2, rfl, _, _⟩ := hv.read
              exact ⟨_, fun _ => False, rfl, hI.old.trans (hb.mono hI.old.size), hb.size, fun b hlt _ => hb.block b hlt, fun b hd => hd.elim, pureF.new (p := (fun v => ∃ B m c, v = .tuple #[.slice B m c, faultV gk ge])) ⟨_, _, _, rfl⟩⟩
            · refine RStep.pure rfl 82 rfl rfl (by simp) fun listed a u D hI hr hn => ?_
              obtain ⟨e14, _⟩ : pureF (fun v => ∃ B m c, v = .tuple #[.slice B m c, faultV gk ge]) _ _ := (hI.get hr hn 9 (by kernel_rfl) (.inl rfl)).1
              exact ⟨_, exec_move (.inl rfl) (own_eval rfl), pureF.new (p := (fun v => ∃ B m c, v = .tuple #[.slice B m c, faultV gk ge])) e14⟩
            · refine RStep.pure rfl 93 rfl rfl (by simp) fun listed a u D hI hr hn => ?_
              obtain ⟨⟨B, k, c2, e15⟩, _⟩ : pureF (fun v => ∃ B m c, v = .tuple #[.slice B m c, faultV gk ge]) _ _ := (hI.get hr hn 10 (by kernel_rfl) (.inl rfl)).1
              exact ⟨.slice B k c2, exec_extract rfl (own_eval e15) rfl, pureF.new (p := fun _ => True) (v := .slice B k c2) trivial⟩
            · refine RStep.pure rfl 94 rfl rfl (by simp) fun listed a u D hI hr hn => ?_
              obtain ⟨⟨B, k, c2, e15⟩, _⟩ : pureF (fun v => ∃ B m c, v = .tuple #[.slice B m c, faultV gk ge]) _ _ := (hI.get hr hn 10 (by kernel_rfl) (.inl rfl)).1
              exact ⟨faultV gk ge, exec_extract rfl (own_eval e15) rfl, pureF.new (p := fun v => v = faultV gk ge) rfl⟩
            · exact RStep.val rfl 20 rfl rfl (by simp) fun listed a u D hI hr hn => ⟨_, _, _, exec_alloc rfl, new_post hI.old ⟨_, rfl, Blk.new u _ _, fun b => Iff.rfl⟩⟩
            · exact RStep.pure rfl 19 rfl rfl (by simp) fun listed a u D hI hr hn => ⟨_, exec_move (.inr rfl) (own_eval rfl), pureF.new (p := fun _ => True) (v := a.tmps.getD 93 undef) trivial⟩
            · refine RStep.store rfl rfl fun listed a u D hI hr hn => ?_
              obtain ⟨g18, e18, hb18, hd18⟩ : blkF (fun g => .pointer (some ⟨g, 0, none⟩)) 64 [.int .i64 0, .int .i64 0] _ _ _ := (hI.get hr hn 13 (by kernel_rfl) (.inr rfl)).1
              have hin := (hI.get hr hn 13 (by kernel_rfl) (.inr rfl)).2 g18 ((hd18 g18).2 rfl)
              obtain ⟨e17, _⟩ : pureF (fun v => v = faultV gk ge) _ _ := (hI.get hr hn 12 (by kernel_rfl) (.inl rfl)).1
              have hset : ∀ b, b ≠ g18 → ((u.setCell ⟨g18, 0, none⟩ (.int .i64 gk)).setCell ⟨g18, 1, none⟩ (.int .i64 ge)).heap[b]? = u.heap[b]? := fun b hne => (Below.heap_setCell _ _ _ b hne).trans (Below.heap_setCell _ _ _ b hne)
              refine ⟨_, fun b => b = g18, exec_store rfl (own_eval e18) (own_eval e17) (run_store_fault hb18), (hI.old.setCell hin.1 _).setCell hin.1 _, by simp [World.setCell], fun b _ hn2 => hset b fun e => hn2 13 rfl (by rw [e]; exact (hd18 g18).2 rfl), fun b hd => .inl ⟨13, rfl, by rw [hd]; exact (hd18 g18).2 rfl⟩, ?_⟩
              exact ⟨g18, e18, (hb18.put 0 _).put 1 _, fun b => Iff.rfl⟩
          · intro listed a u D hI hall
            obtain ⟨gt, e20, hb20, _⟩ : blkF (fun g => .pointer (some ⟨g, 0, none⟩)) 64 [.int .i64 gk, .int .i64 ge] _ _ _ := hI.fact 15 ⟨hall 15 (by simp), fun k hk => by cases hk⟩
            have hold := below_drew hI.old
            have hl := hI.fill [83, 84, 85, 86, 87, 88, 89, 90, 91, 92, 82, 93, 94, 20, 19] (by kernel_rfl)
            replace e20 : a.tmps.getD 20 undef = .pointer (some ⟨gt, 0, none⟩) := e20
            clear hI hall
            obtain ⟨σ, hσ⟩ : ∃ σ : Nat → Value, ∀ t, a.tmps.getD t undef = σ t := ⟨_, fun _ => rfl⟩
            simp only [hσ] at hl e20
            clear hσ
            simp only [List.foldl_cons, List.foldl_nil, List.setIfInBounds_toArray, List.set_cons_zero, List.set_cons_succ, e20] at hl
            subst hl
            go_wp2_with fail
            go_meet
            exact ⟨gt, rfl, hold, hb20⟩
        case rest =>
        obtain ⟨gt, rfl, HBX, GX⟩ := hcut
        obtain ⟨w7, rfl⟩ : ∃ u, u = wc := ⟨_, rfl⟩
        have L7 := Lib.hid (LK.out.below HBX.out)
        have F7 := Lib.hid ((F6.out.below HBJ.out).below HBX.out)
        have HB7 : Hid (Below w6.heap.size w6 w7) := HBJ.out.trans (HBX.out.mono HBJ.out.size)
        have G7 := GX
        have HFE : Hid (fits m d os l2 o i j = (decide (fe = 0) && (!ub && decide (ge = 0)))) := by
          show _ = _
          rw [fits_eq ⟨hij, by rw [HL2.out]; exact hjk⟩ HKN.out, HDR.out, HDG.out]
        clear LK HMK HDG HBX GX HBJ
        go_upto_region 20 with fail
        obtain ⟨bf, hbf⟩ : ∃ b, (fe == 0) = b := ⟨_, rfl⟩
        obtain ⟨bg, hbg⟩ : ∃ b, (ge == 0) = b := ⟨_, rfl⟩
        have HFB : Hid (fits m d os l2 o i j = (bf && (!ub && bg))) := by
          show _ = _
          rw [HFE.out, ← hbf, ← hbg]
          by_cases h1 : fe = 0 <;> by_cases h2 : ge = 0 <;> simp [h1, h2]
        have HBF := Lib.hid hbf
        have HBG := Lib.hid hbg
        clear HFE hbf hbg
        go_cut [114] from 95 to 113 (fun bv wx => bv = .bool false ∧ Hid (Below w7.heap.size w7 wx))
        case first =>
          refine wp_region_steps (valRF [95, 96, 97, 98, 99, 100, 101, 102, 103, 104, 105, 106, 107, 108, 109, 110, 111, 112, 113, 114] [.pointer q, drvV d, .pointer (some ⟨W.heap.size, 3, none⟩), .slice x.os.a x.os.n x.os.c, .slice A k2 c, ordV o, .int .i64 ((i : Nat) : Int), .int .i64 ((j : Nat) : Int), .bool (bf && (!ub && bg)), faultV fk fe, .bool bf, .bool bf, if bf then .bool ub else undef, if bf then .bool (!ub) else undef, .bool (bf && !ub), .bool (bf && !ub), if (bf && !ub) then faultV gk ge else undef, if (bf && !ub) then .bool bg else undef, .bool ((bf && !ub) && bg), .bool false]) (by kernel_rfl) (by kernel_rfl) (by kernel_rfl) (fun _ _ => rfl) (by kernel_rfl) valRF.mon ?_ ?_
          · refine ⟨?_, ?_, ?_, ?_, ?_, ?_, ?_, ?_, ?_, ?_, ?_, ?_, ?_, ?_, ?_, ?_, ?_, ?_, ?_, ?_, trivial⟩
            · exact valRF.pureStep rfl 95 rfl rfl (by simp) _ rfl fun listed a u D hI hr hn => exec_move (.inl rfl) (hI.out 9 (by kernel_rfl))
            · exact valRF.pureStep rfl 96 rfl rfl (by simp) _ rfl fun listed a u D hI hr hn => exec_load rfl (hI.out 5 (by kernel_rfl)) (run_load_drv (L7.out.below (below_drew hI.old)).lr.drv)
            · exact valRF.pureStep rfl 97 rfl rfl (by simp) _ rfl fun listed a u D hI hr hn => exec_wos rfl (hI.out 4 (by kernel_rfl))
            · exact valRF.pureStep rfl 98 rfl rfl (by simp) _ rfl fun listed a u D hI hr hn => exec_load rfl (valRF.val hI hr hn 2 (by kernel_rfl) rfl rfl) (run_load_osx (L7.out.below (below_drew hI.old)).lr.cells.2)
            · exact valRF.pureStep rfl 99 rfl rfl (by simp) _ rfl fun listed a u D hI hr hn => exec_move (.inl rfl) (hI.out 2 (by kernel_rfl))
            · exact valRF.pureStep rfl 100 rfl rfl (by simp) _ rfl fun listed a u D hI hr hn => exec_load rfl (hI.out 7 (by kernel_rfl)) (run_load_ord (L7.out.below (below_drew hI.old)).ob)
            · exact valRF.pureStep rfl 101 rfl rfl (by simp) _ rfl fun listed a u D hI hr hn => exec_move (.inl rfl) (hI.out 17 (by kernel_rfl))
            · exact valRF.pureStep rfl 102 rfl rfl (by simp) _ rfl fun listed a u D hI hr hn => exec_move (.inl rfl) (hI.out 18 (by kernel_rfl))
            · exact valRF.callStep rfl 103 rfl rfl (by simp) _ rfl fun listed a u D hI hr hn => ⟨_, _, exec_call7 rfl (valRF.val hI hr hn 0 (by kernel_rfl) rfl rfl) (valRF.val hI hr hn 1 (by kernel_rfl) rfl rfl) (valRF.val hI hr hn 3 (by kernel_rfl) rfl rfl) (valRF.val hI hr hn 4 (by kernel_rfl) rfl rfl) (valRF.val hI hr hn 5 (by kernel_rfl) rfl rfl) (valRF.val hI hr hn 6 (by kernel_rfl) rfl rfl) (valRF.val hI hr hn 7 (by kernel_rfl) rfl rfl) (by simp [go_sem]), AT.fits (i := (i : Int)) (j := (j : Int)) (L7.out.below (below_drew hI.old)) hkc hro hkr _ HFB.out⟩
            · exact valRF.pureStep rfl 104 rfl rfl (by simp) _ rfl fun listed a u D hI hr hn => exec_load rfl (hI.out 13 (by kernel_rfl)) (run_load_fault (F7.out.below (below_drew hI.old)))
            · exact valRF.callStep rfl 105 rfl rfl (by simp) (.bool bf) rfl fun listed a u D hI hr hn => ⟨_, _, exec_call1 rfl (valRF.val hI hr hn 9 (by kernel_rfl) rfl rfl) (by simp [go_sem]), (fgood_any fk fe u).mono fun _ _ h => ⟨by rw [h.1, HBF.out], h.2⟩⟩
            · exact valRF.pureStep rfl 106 rfl rfl (by simp) _ rfl fun listed a u D hI hr hn => exec_move (.inl rfl) (valRF.val hI hr hn 10 (by kernel_rfl) rfl rfl)
            · cases bf with
              | true => exact valRF.pureStepG 107 rfl rfl (by simp) _ rfl fun listed a u D hI hr hn => ⟨guard_yes (t := 106) rfl (by kernel_rfl) (valRF.val hI hr hn 11 (by kernel_rfl) rfl rfl), exec_move (.inl rfl) (hI.out 14 (by kernel_rfl))⟩
              | false => exact valRF.skipStep 107 rfl rfl (by simp) rfl fun listed a u D hI hr hn => guard_no (t := 106) rfl (by kernel_rfl) (valRF.val hI hr hn 11 (by kernel_rfl) rfl rfl)
            · cases bf with
              | true => exact valRF.pureStepG 108 rfl rfl (by simp) _ rfl fun listed a u D hI hr hn => ⟨guard_yes (t := 106) rfl (by kernel_rfl) (valRF.val hI hr hn 11 (by kernel_rfl) rfl rfl), exec_not rfl rfl (valRF.val hI hr hn 12 (by kernel_rfl) rfl rfl)⟩
              | false => exact valRF.skipStep 108 rfl rfl (by simp) rfl fun listed a u D hI hr hn => guard_no (t := 106) rfl (by kernel_rfl) (valRF.val hI hr hn 11 (by kernel_rfl) rfl rfl)
            · cases bf with
              | true => exact valRF.pureStep rfl 109 rfl rfl (by simp) _ rfl fun listed a u D hI hr hn => exec_pick rfl (valRF.val hI hr hn 11 (by kernel_rfl) rfl rfl) (valRF.val hI hr hn 13 (by kernel_rfl) rfl rfl)
              | false => exact valRF.pureStep rfl 109 rfl rfl (by simp) _ rfl fun listed a u D hI hr hn => exec_pick rfl (valRF.val hI hr hn 11 (by kernel_rfl) rfl rfl) rfl
            · exact valRF.pureStep rfl 110 rfl rfl (by simp) _ rfl fun listed a u D hI hr hn => exec_move (.inl rfl) (valRF.val hI hr hn 14 (by kernel_rfl) rfl rfl)
            · cases hbb : (bf && !ub) with
              | true => exact valRF.pureStepG 111 rfl rfl (by simp) (faultV gk ge) rfl fun listed a u D hI hr hn => ⟨guard_yes (t := 110) rfl (by kernel_rfl) (valRF.val hI hr hn 15 (by kernel_rfl) rfl rfl), exec_load rfl (hI.out 20 (by kernel_rfl)) (run_load_fault (G7.out.below (below_drew hI.old)))⟩
              | false => exact valRF.skipStep 111 rfl rfl (by simp) rfl fun listed a u D hI hr hn => guard_no (t := 110) rfl (by kernel_rfl) (valRF.val hI hr hn 15 (by kernel_rfl) rfl rfl)
            · cases hbb : (bf && !ub) with
              | true => exact valRF.callStepG 112 rfl rfl (by simp) (.bool bg) rfl fun listed a u D hI hr hn => ⟨guard_yes (t := 110) rfl (by kernel_rfl) (valRF.val hI hr hn 15 (by kernel_rfl) rfl rfl), _, _, exec_call1 rfl (valRF.val hI hr hn 16 (by kernel_rfl) rfl rfl) (by simp [go_sem]), (fgood_any gk ge u).mono fun _ _ h => ⟨by rw [h.1, HBG.out], h.2⟩⟩
              | false => exact valRF.skipStep 112 rfl rfl (by simp) rfl fun listed a u D hI hr hn => guard_no (t := 110) rfl (by kernel_rfl) (valRF.val hI hr hn 15 (by kernel_rfl) rfl rfl)
            · cases hbb : (bf && !ub) with
              | true => exact valRF.pureStep rfl 113 rfl rfl (by simp) (.bool bg) rfl fun listed a u D hI hr hn => exec_pick (b := true) rfl (valRF.val hI hr hn 15 (by kernel_rfl) rfl rfl) (valRF.val hI hr hn 17 (by kernel_rfl) rfl rfl)
              | false => exact valRF.pureStep rfl 113 rfl rfl (by simp) (.bool false) rfl fun listed a u D hI hr hn => exec_pick (b := false) rfl (valRF.val hI hr hn 15 (by kernel_rfl) rfl rfl) rfl
            · exact valRF.pureStep rfl 114 rfl rfl (by simp) (.bool ((bf && (!ub && bg)) != ((bf && !ub) && bg))) (by cases bf <;> cases ub <;> cases bg <;> rfl) fun listed a u D hI hr hn => exec_neqb rfl (valRF.val hI hr hn 8 (by kernel_rfl) rfl rfl) (valRF.val hI hr hn 18 (by kernel_rfl) rfl rfl)
          · intro listed a u D hI hall
            have e14 : a.tmps.getD 114 undef = .bool false := (hI.fact 19 ⟨hall 19 (by simp), fun k hk => by cases hk⟩).1
            have hold := below_drew hI.old
            have hl := hI.fill [95, 96, 97, 98, 99, 100, 101, 102, 103, 104, 105, 106, 107, 108, 109, 110, 111, 112, 113, 114] (by kernel_rfl)
            clear hI hall
            obtain ⟨σ, hσ⟩ : ∃ σ : Nat → Value, ∀ t, a.tmps.getD t undef = σ t := ⟨_, fun _ => rfl⟩
            simp only [hσ] at hl e14
            clear hσ
            simp only [List.foldl_cons, List.foldl_nil, List.setIfInBounds_toArray, List.set_cons_zero, List.set_cons_succ, e14] at hl
            subst hl
            go_wp2_with fail
            go_meet
            exact ⟨rfl, hold⟩
        case rest =>
        obtain ⟨rfl, HB8⟩ := hcut
        have HBK : Hid (Below w6.heap.size w6 wc) := HB7.out.trans (HB8.out.mono HB7.out.size)
        clear HB8 L7 F7 G7 HFB
        go_wp2_with fail
        go_roundw
        case rel => exact ⟨j + 1, by omega, by omega, by go_num, HBK⟩
        case measure => simp [intOf]; omega

#print axioms slackAll_walk
end Go.Proofs.Ytobcmlcmbnldlaa.Slack
