/-
  The program's route, walked: find, slices.Index and slices.Contains over stops.
-/
import Derived.Test.YtobcmlcmbnldlaaRouteRefs
namespace Go.Proofs.Ytobcmlcmbnldlaa.Route
open Go.ChangeShapes Go.WideShapes Go.ChangeAt Go.RowKit Go.Proofs.Ytobcmlcmbnldlaa.Mem Go.Proofs.Ytobcmlcmbnldlaa.GeoMath Go.Proofs.Ytobcmlcmbnldlaa.FleetMath Go.Proofs.Ytobcmlcmbnldlaa.Rec Go.Proofs.Ytobcmlcmbnldlaa.Geo Go.Proofs.Ytobcmlcmbnldlaa.Span Go.Proofs.Ytobcmlcmbnldlaa.Deal

/-- the order that is found, or nothing -/
def foundV : Option FleetMath.Ord → Value
  | none => .tuple #[.agg #[.int .i64 0, .int .i64 0, .int .i64 0, .int .i64 0, .int .i64 0, .int .i64 0, .int .i64 0, .int .i64 0, .int .i64 0, .int .i64 0], .bool false]
  | some o => .tuple #[ordV o, .bool true]
theorem gives_of {w w' : World} {v v' : Value} (h : v = v') (hb : Below w.heap.size w w') : Gives w v' (.returned v) w' := ⟨by rw [h], hb⟩

theorem cell_apart (g : Nat) : ∀ (u : World) (i j : Nat) (v : Value), i ≠ j → (u.setCell ⟨g, i, none⟩ v).cell? ⟨g, j, none⟩ = u.cell? ⟨g, j, none⟩ := fun u i j v h => World.cell?_setCell_other u _ _ v fun e => h (by injection e)
theorem frozen_set : ∀ (u : World) (a b : Addr) (v : Value), (u.setCell a v).frozen? b = u.frozen? b := fun u a b v => by simp
theorem zero_cells {u : World} {g : Nat} {t : TypeId} (h : Blk u g t [.int .i64 0, .int .i64 0, .int .i64 0, .int .i64 0, .int .i64 0, .int .i64 0, .int .i64 0, .int .i64 0, .int .i64 0, .int .i64 0]) :
    u.cell? ⟨g, 0, none⟩ = some (.int .i64 0) ∧ u.cell? ⟨g, 1, none⟩ = some (.int .i64 0) ∧ u.cell? ⟨g, 2, none⟩ = some (.int .i64 0) ∧ u.cell? ⟨g, 3, none⟩ = some (.int .i64 0) ∧ u.cell? ⟨g, 4, none⟩ = some (.int .i64 0) ∧ u.cell? ⟨g, 5, none⟩ = some (.int .i64 0) ∧ u.cell? ⟨g, 6, none⟩ = some (.int .i64 0) ∧ u.cell? ⟨g, 7, none⟩ = some (.int .i64 0) ∧ u.cell? ⟨g, 8, none⟩ = some (.int .i64 0) ∧ u.cell? ⟨g, 9, none⟩ = some (.int .i64 0) :=
  ⟨h.cell rfl, h.cell rfl, h.cell rfl, h.cell rfl, h.cell rfl, h.cell rfl, h.cell rfl, h.cell rfl, h.cell rfl, h.cell rfl⟩

/-- an order written into a block -/
abbrev putO (u : World) (g : Nat) (o : FleetMath.Ord) : World := ((((((((((u.setCell ⟨g, 0, none⟩ (.int .i64 o.id)).setCell ⟨g, 1, none⟩ (.int .i64 o.size)).setCell ⟨g, 2, none⟩ (.int .i64 o.pick.place)).setCell ⟨g, 3, none⟩ (.int .i64 o.pick.win.fr)).setCell ⟨g, 4, none⟩ (.int .i64 o.pick.win.to)).setCell ⟨g, 5, none⟩ (.int .i64 o.pick.serv)).setCell ⟨g, 6, none⟩ (.int .i64 o.drop.place)).setCell ⟨g, 7, none⟩ (.int .i64 o.drop.win.fr)).setCell ⟨g, 8, none⟩ (.int .i64 o.drop.win.to)).setCell ⟨g, 9, none⟩ (.int .i64 o.drop.serv))
theorem putO_box {u : World} {g : Nat} {a0 a1 a2 a3 a4 a5 a6 a7 a8 a9 : Value} (h : Blk u g 31 [a0, a1, a2, a3, a4, a5, a6, a7, a8, a9]) (o : FleetMath.Ord) : OBox (putO u g o) g o := ((((((((((h.put 0 (.int .i64 o.id)).put 1 (.int .i64 o.size)).put 2 (.int .i64 o.pick.place)).put 3 (.int .i64 o.pick.win.fr)).put 4 (.int .i64 o.pick.win.to)).put 5 (.int .i64 o.pick.serv)).put 6 (.int .i64 o.drop.place)).put 7 (.int .i64 o.drop.win.fr)).put 8 (.int .i64 o.drop.win.to)).put 9 (.int .i64 o.drop.serv))
theorem putO_below {B : Nat} {w u : World} {g : Nat} (h : Below B w u) (hg : B ≤ g) (o : FleetMath.Ord) : Below B w (putO u g o) := ((((((((((h.setCell hg _).setCell hg _).setCell hg _).setCell hg _).setCell hg _).setCell hg _).setCell hg _).setCell hg _).setCell hg _).setCell hg _)
/-- no order -/
abbrev ord0 : FleetMath.Ord := ⟨0, 0, ⟨0, ⟨0, 0⟩, 0⟩, ⟨0, ⟨0, 0⟩, 0⟩⟩

set_option maxRecDepth 100000 in
set_option maxHeartbeats 4000000 in
theorem pfind_any (A : Option Addr) (n c : Nat) (os : List FleetMath.Ord) (id : Int) (w : World) (hl : Ords w w.heap.size A n os) :
    Calls Try.prog 59 #[.slice A n c, .int .i64 id] w (Gives w (foundV (find os id))) := by
  have hm := Recs.le hl
  have HI := Lib.hid hl
  have HL := Lib.hid hl.length
  have HB0 : Hid (Below w.heap.size w (w.alloc (.cells #[.int .i64 0, .int .i64 0, .int .i64 0, .int .i64 0, .int .i64 0, .int .i64 0, .int .i64 0, .int .i64 0, .int .i64 0, .int .i64 0] 31))) := (Below.refl _ _).alloc (Nat.le_refl _) _
  have HX0 : Hid (Blk (w.alloc (.cells #[.int .i64 0, .int .i64 0, .int .i64 0, .int .i64 0, .int .i64 0, .int .i64 0, .int .i64 0, .int .i64 0, .int .i64 0, .int .i64 0] 31)) w.heap.size 31 [.int .i64 0, .int .i64 0, .int .i64 0, .int .i64 0, .int .i64 0, .int .i64 0, .int .i64 0, .int .i64 0, .int .i64 0, .int .i64 0]) := Blk.new w _ _
  clear hl
  go_enter Try.func59, Try.ntmps59
  go_wp2
  go_loopw [10] (fun i wr => ∃ k : Nat, k ≤ n ∧ i = .int .i64 k ∧ Hid (Below w.heap.size w wr) ∧ Hid (Blk wr w.heap.size 31 [.int .i64 0, .int .i64 0, .int .i64 0, .int .i64 0, .int .i64 0, .int .i64 0, .int .i64 0, .int .i64 0, .int .i64 0, .int .i64 0]) ∧ Hid (∀ t p, t < k → os[t]? = some p → p.id ≠ id)) (fun i _ => n - (intOf i).toNat)
  case atStart => exact ⟨0, Nat.zero_le _, rfl, HB0, HX0, fun t p ht => absurd ht (by omega)⟩
  case round =>
    clear HB0 HX0
    obtain ⟨k, hk, rfl, HB, HX, HK⟩ := hrel
    by_cases hlt : k < n
    · obtain ⟨b, off, o, rfl, hb, ho, _, c0, c1, c2, c3, c4, c5, c6, c7, c8, c9⟩ := Ords.at_ (Recs.keep HI.out HB.out) hlt
      have HO := Lib.hid ho
      clear ho
      by_cases hid : o.id = id
      · have HF : Hid (foundV (find os id) = .tuple #[ordV o, .bool true]) := by
          obtain ⟨p, hp, _, hf⟩ := findI_some (findI_at HK.out HO.out hid)
          show foundV _ = _
          rw [hf]
          have := HO.out
          rw [hp] at this
          injection this with this
          rw [this]; rfl
        have e1 : (o.id == id) = true := by simpa using hid
        have HX1 : Hid (Blk (wr.alloc (.cells #[.int .i64 o.id, .int .i64 o.size, .int .i64 o.pick.place, .int .i64 o.pick.win.fr, .int .i64 o.pick.win.to, .int .i64 o.pick.serv, .int .i64 o.drop.place, .int .i64 o.drop.win.fr, .int .i64 o.drop.win.to, .int .i64 o.drop.serv] 31)) w.heap.size 31 [.int .i64 0, .int .i64 0, .int .i64 0, .int .i64 0, .int .i64 0, .int .i64 0, .int .i64 0, .int .i64 0, .int .i64 0, .int .i64 0]) := HX.out.below ((Below.refl _ _).alloc (Nat.le_refl _) _) HX.out.lt
        have hcs := cell_apart w.heap.size
        have hfs := frozen_set
        have hff := HX1.out.free
        obtain ⟨x0, x1, x2, x3, x4, x5, x6, x7, x8, x9⟩ := zero_cells HX1.out
        have HR := Lib.hid (putO_box HX1.out o).cells
        have HBR := Lib.hid (putO_below (HB.out.alloc HB.out.size (.cells #[.int .i64 o.id, .int .i64 o.size, .int .i64 o.pick.place, .int .i64 o.pick.win.fr, .int .i64 o.pick.win.to, .int .i64 o.pick.serv, .int .i64 o.drop.place, .int .i64 o.drop.win.fr, .int .i64 o.drop.win.to, .int .i64 o.drop.serv] 31)) (Nat.le_refl w.heap.size) o)
        clear hid HK
        go_wp2
        refine bodyPost_ret (v := .tuple #[ordV o, .bool true]) ?_ rfl (gives_of HF.out.symm HBR.out)
        obtain ⟨r0, r1, r2, r3, r4, r5, r6, r7, r8, r9⟩ := HR.out
        simp [results, Try.results59, go_sem, r0, r1, r2, r3, r4, r5, r6, r7, r8, r9]
      · have HK2 : Hid (∀ t p, t < k + 1 → os[t]? = some p → p.id ≠ id) := fun t p' ht hp' => by
          by_cases htj : t = k
          · subst htj
            rw [HO.out] at hp'
            injection hp' with hp'
            rw [← hp']; exact hid
          · exact HK.out t p' (by omega) hp'
        have e1 : (o.id == id) = false := by simpa using hid
        clear hid
        go_wp2
        go_roundw
        case rel => exact ⟨k + 1, by omega, by go_num, HB.out.alloc HB.out.size _, HX.out.below ((Below.refl _ _).alloc (Nat.le_refl _) _) HX.out.lt, HK2⟩
        case measure => simp [intOf]; omega
    · have HF : Hid (foundV (find os id) = .tuple #[.agg #[.int .i64 0, .int .i64 0, .int .i64 0, .int .i64 0, .int .i64 0, .int .i64 0, .int .i64 0, .int .i64 0, .int .i64 0, .int .i64 0], .bool false]) := by
        show foundV _ = _
        rw [findI_none (findI_no fun j p hj hp => HK.out j p (by have := HL.out; omega) hp)]; rfl
      have hcs := cell_apart w.heap.size
      have hfs := frozen_set
      have hff := HX.out.free
      obtain ⟨x0, x1, x2, x3, x4, x5, x6, x7, x8, x9⟩ := zero_cells HX.out
      have HR := Lib.hid (putO_box HX.out ord0).cells
      have HBR := Lib.hid (putO_below HB.out (Nat.le_refl w.heap.size) ord0)
      go_wp2
      refine bodyPost_ret (v := .tuple #[ordV ord0, .bool false]) ?_ rfl (gives_of HF.out.symm HBR.out)
      obtain ⟨r0, r1, r2, r3, r4, r5, r6, r7, r8, r9⟩ := HR.out
      simp [results, Try.results59, go_sem, r0, r1, r2, r3, r4, r5, r6, r7, r8, r9]

theorem stp_ne' {x s : Stp} (h : ¬ (s.ord = x.ord ∧ s.drop = x.drop)) : x ≠ s := fun e => h (by rw [e]; exact ⟨rfl, rfl⟩)
set_option maxRecDepth 100000 in
set_option maxHeartbeats 4000000 in
theorem pindex_any (A : Option Addr) (n c : Nat) (l : List Stp) (s : Stp) (w : World) (hl : Stps w w.heap.size A n l) :
    Calls Try.prog 67 #[.slice A n c, stpV s] w fun e w' => ∃ i : Int, e = .returned (.int .i64 i) ∧ decide (0 ≤ i) = decide (s ∈ l) ∧ Below w.heap.size w w' := by
  have hm := Recs.le hl
  have HL := Lib.hid hl.length
  have HB : Hid (Below w.heap.size w (w.alloc (.cells #[.int .i64 s.ord, .bool s.drop] 35))) := (Below.refl _ _).alloc (Nat.le_refl _) _
  have HI : Hid (Stps (w.alloc (.cells #[.int .i64 s.ord, .bool s.drop] 35)) w.heap.size A n l) := Recs.keep hl HB.out
  have hbx := Blk.new w 35 [.int .i64 s.ord, .bool s.drop]
  have y0 := hbx.cell (i := 0) rfl
  have y1 := hbx.cell (i := 1) rfl
  clear hl hbx
  go_enter Try.func67, Try.ntmps67
  go_wp2
  go_loopw [8] (fun i wr => ∃ (k d : Nat), k ≤ n ∧ i = .int .i64 k ∧ wr = (w.alloc (.cells #[.int .i64 s.ord, .bool s.drop] 35)).drewN d ∧ Hid (s ∉ l.take k)) (fun i _ => n - (intOf i).toNat)
  case atStart => exact ⟨0, 0, Nat.zero_le _, rfl, rfl, (by simp : s ∉ l.take 0)⟩
  case round =>
    obtain ⟨k, d, hk, rfl, rfl, HK⟩ := hrel
    by_cases hlt : k < n
    · obtain ⟨b, off, x, rfl, _, hx, _, c0, c1⟩ := Stps.at_ HI.out hlt
      have HX := Lib.hid hx
      clear hx
      by_cases he : s.ord = x.ord ∧ s.drop = x.drop
      · have HF : Hid (decide ((0 : Int) ≤ (k : Int)) = decide (s ∈ l)) := by
          have : x = s := Stp.ext_iff'.2 ⟨he.1.symm, he.2.symm⟩
          have h2 : s ∈ l := this ▸ List.mem_of_getElem? HX.out
          show decide _ = decide _
          rw [decide_eq_true h2, decide_eq_true (by omega)]
        obtain ⟨e1, e2⟩ := he
        rw [← e1] at c0
        rw [← e2] at c1
        clear e1 e2 HK
        go_wp2
        go_quiet (fail)
        go_wp2
        go_ret
        exact ⟨_, rfl, HF.out, by first | exact below_drewN HB.out _ | exact below_drewN (below_drewN HB.out _) _⟩
      · have HN : Hid (s ∉ l.take (k + 1)) := mem_front HX.out (stp_ne' he) HK.out
        clear HK
        by_cases e1 : s.ord = x.ord
        · have e2 : ¬ s.drop = x.drop := fun h => he ⟨e1, h⟩
          have e3 : (s.drop == x.drop) = false := by simpa using e2
          rw [← e1] at c0
          clear he e1 e2
          go_wp2
          go_quiet (fail)
          go_wp2
          go_roundw
          case rel => exact ⟨k + 1, _, by omega, by go_num, rfl, HN⟩
          case measure => simp [intOf]; omega
        · have e3 : (s.ord == x.ord) = false := by simpa using e1
          clear he e1
          go_wp2
          go_quiet (fail)
          go_wp2
          go_roundw
          case rel => exact ⟨k + 1, _, by omega, by go_num, rfl, HN⟩
          case measure => simp [intOf]; omega
    · have HF : Hid (decide ((0 : Int) ≤ -1) = decide (s ∈ l)) := by
        have := HK.out
        rw [List.take_of_length_le (by have := HL.out; omega)] at this
        show decide _ = decide _
        rw [decide_eq_false this]
        rfl
      clear HK
      go_wp2
      go_ret
      exact ⟨_, rfl, HF.out, by first | exact below_drewN HB.out _ | exact below_drewN (below_drewN HB.out _) _⟩

theorem pcontains_any (A : Option Addr) (n c : Nat) (l : List Stp) (s : Stp) (w : World) (hl : Stps w w.heap.size A n l) :
    Calls Try.prog 60 #[.slice A n c, stpV s] w (Gives w (.bool (decide (s ∈ l)))) := by
  have hb : Below w.heap.size w (w.alloc (.cells #[.int .i64 s.ord, .bool s.drop] 35)) := (Below.refl _ _).alloc (Nat.le_refl _) _
  have HB := Lib.hid hb
  have HI : Hid (Stps (w.alloc (.cells #[.int .i64 s.ord, .bool s.drop] 35)) (w.alloc (.cells #[.int .i64 s.ord, .bool s.drop] 35)).heap.size A n l) := Recs.more (Recs.keep hl hb) hb.size
  clear hl hb
  go_enter Try.func60, Try.ntmps60
  go_wp2_with fail
  refine (pindex_any A n c l s _ (by exact HI.out)).mono ?_
  rintro e w' ⟨i, rfl, hi, hb⟩
  have HF := Lib.hid hi
  have HB2 := Lib.hid (HB.out.trans (hb.mono HB.out.size))
  clear hi hb
  go_wp2_with fail
  go_ret
  exact gives_of (by rw [HF.out]; rfl) HB2.out
theorem pcontains_v (A : Option Addr) (n c : Nat) (l : List Stp) (s : Stp) (w : World) (b : Bool) (hl : Stps w w.heap.size A n l) (hb : decide (s ∈ l) = b) :
    Calls Try.prog 60 #[.slice A n c, stpV s] w (Gives w (.bool b)) := by rw [← hb]; exact pcontains_any A n c l s w hl

#print axioms pfind_any
#print axioms pcontains_any
end Go.Proofs.Ytobcmlcmbnldlaa.Route
