/-
  AuditPFindR, AuditPKept, AuditPDriven, AuditProg: one text.
-/
import Derived.Test.YtjklpdeeohhhnaaCertFinds
import Derived.Test.YtjklpdeeohhhnaaCertSmalls
import Derived.Test.YtjklpdeeohhhnaaAuditMaths
import Derived.Test.YtjklpdeeohhhnaaAuditPs
import Derived.Test.YtjklpdeeohhhnaaPlanPRight
import Derived.Test.YtjklpdeeohhhnaaSlackPart
import Derived.Test.YtjklpdeeohhhnaaAuditRW
import Derived.Deep.DeepCutAuto
import Derived.Test.YtjklpdeeohhhnaaAuditFinds
import Derived.Test.YtjklpdeeohhhnaaCertOneW
import Derived.Deep.RegionHeld3
import Derived.Test.YtjklpdeeohhhnaaCertMakesP
import Derived.Test.YtjklpdeeohhhnaaCertMaths
import Derived.Test.YtjklpdeeohhhnaaPlanFinds
/-
  The program's audit.routeOf, walked: the library's IndexFunc with its closure, first, and routeOf. Written by tools/gen_afind.py.
-/
namespace Go.Proofs.Ytjklpdeeohhhnaa.Audit
open Go.ChangeShapes Go.WideShapes Go.ChangeAt Go.RowKit Go.Proofs.Ytjklpdeeohhhnaa.Mem Go.Proofs.Ytjklpdeeohhhnaa.GeoMath Go.Proofs.Ytjklpdeeohhhnaa.FleetMath Go.Proofs.Ytjklpdeeohhhnaa.PlanMath Go.Proofs.Ytjklpdeeohhhnaa.CertMath Go.Proofs.Ytjklpdeeohhhnaa.AuditMath Go.Proofs.Ytjklpdeeohhhnaa.Rec Go.Proofs.Ytjklpdeeohhhnaa.Geo Go.Proofs.Ytjklpdeeohhhnaa.Span Go.Proofs.Ytjklpdeeohhhnaa.Deal Go.Proofs.Ytjklpdeeohhhnaa.Route Go.Proofs.Ytjklpdeeohhhnaa.Plan Go.Proofs.Ytjklpdeeohhhnaa.Cert
set_option linter.unusedVariables false
set_option linter.unusedSimpArgs false

abbrev noRM : RM := ⟨⟨0, 0, []⟩, none, 0, 0⟩
/-- the route of a driver -/
def rmOf (l : List RM) (id : Int) : Option RM := l.find? (fun x => decide (x.rt.drv = id))
/-- a route and whether there is one -/
def rmOV : Option RM → Value
  | none => .tuple #[rteV noRM, .bool false]
  | some x => .tuple #[rteV x, .bool true]
/-- where the one of a number stands -/
def prIdx : List RM → Int → Nat → Int
  | [], _, _ => -1
  | x :: r, id, k => if x.rt.drv = id then (k : Int) else prIdx r id (k + 1)
theorem prIdx_from (l : List RM) (id : Int) (k : Nat) : (rmOf l id = none ∧ prIdx l id k = -1) ∨ ∃ (i : Nat) (d : RM), l[i]? = some d ∧ rmOf l id = some d ∧ prIdx l id k = ((k + i : Nat) : Int) := by
  unfold rmOf
  induction l generalizing k with
  | nil => exact .inl ⟨rfl, rfl⟩
  | cons x r ih =>
    by_cases h : x.rt.drv = id
    · exact .inr ⟨0, x, rfl, by rw [List.find?_cons, decide_eq_true h], by rw [prIdx, if_pos h]; rfl⟩
    · rw [prIdx, if_neg h, List.find?_cons, decide_eq_false h]
      rcases ih (k + 1) with ⟨h1, h2⟩ | ⟨i, d, h1, h2, h3⟩
      · exact .inl ⟨h1, h2⟩
      · exact .inr ⟨i + 1, d, h1, h2, by rw [h3]; omega⟩
theorem prIdx_of (l : List RM) (id : Int) : (rmOf l id = none ∧ prIdx l id 0 = -1) ∨ ∃ (i : Nat) (d : RM), l[i]? = some d ∧ rmOf l id = some d ∧ prIdx l id 0 = (i : Int) := by
  rcases prIdx_from l id 0 with ⟨h1, h2⟩ | ⟨i, d, h1, h2, h3⟩
  · exact .inl ⟨h1, h2⟩
  · exact .inr ⟨i, d, h1, h2, by rw [h3, Nat.zero_add]⟩
theorem prIdx_cons (x : RM) (l : List RM) (id : Int) (k : Nat) : prIdx (x :: l) id k = if x.rt.drv = id then (k : Int) else prIdx l id (k + 1) := rfl
/-- a route written into a block -/
abbrev putR (u : World) (g : Nat) (x : RM) : World := (((u.setCell ⟨g, 0, none⟩ (.int .i64 x.rt.drv)).setCell ⟨g, 1, none⟩ (.int .i64 x.rt.served)).setCell ⟨g, 2, none⟩ (.slice x.a x.n x.c))
theorem putR_box {u : World} {g : Nat} {a0 a1 a2 : Value} (h : Blk u g 40 [a0, a1, a2]) (x : RM) : RBox (putR u g x) g x := (((h.put 0 (.int .i64 x.rt.drv)).put 1 (.int .i64 x.rt.served)).put 2 (.slice x.a x.n x.c))
theorem putR_below {B : Nat} {w u : World} {g : Nat} (h : Below B w u) (hg : B ≤ g) (x : RM) : Below B w (putR u g x) := (((h.setCell hg _).setCell hg _).setCell hg _)

/-- the closure: is it this one? -/
theorem arone_any (o : RM) (b : Nat) (x : Int) (w : World) (hb : Blk w b 3 [.int .i64 x]) :
    Calls Try.prog 61 #[rteV o, .pointer (some ⟨b, 0, none⟩)] w (fun e w' => e = .returned (.bool (o.rt.drv == x)) ∧ Below w.heap.size w w') := by
  have h1 := hb.below ((Below.refl _ _).alloc (Nat.le_refl _) (.cells #[.int .i64 o.rt.drv, .int .i64 o.rt.served, .slice o.a o.n o.c] 40)) hb.lt
  have c0 := h1.cell (i := 0) rfl
  clear h1 hb
  go_enter Try.func61, Try.ntmps61
  go_wp2
  go_ret
  exact ⟨rfl, (Below.refl _ _).alloc (Nat.le_refl _) _⟩

set_option maxRecDepth 100000 in
set_option maxHeartbeats 4000000 in
theorem aridx_any (A : Option Addr) (n c : Nat) (l : List RM) (b : Nat) (x : Int) (w : World) (hl : Plns w w.heap.size A n l) (hb : Blk w b 3 [.int .i64 x]) :
    Calls Try.prog 82 #[.slice A n c, .func (.func 61) #[] #[.pointer (some ⟨b, 0, none⟩)]] w (fun e w' => e = .returned (.int .i64 (prIdx l x 0)) ∧ Below w.heap.size w w') := by
  have hm := Recs.le hl.rows
  have HI := Lib.hid hl
  have HL := Lib.hid hl.length
  have HBX := Lib.hid hb
  clear hl hb
  go_enter Try.func82, Try.ntmps82
  go_wp2_with fail
  go_loopw [8] (fun iv wr => ∃ k : Nat, k ≤ n ∧ iv = .int .i64 k ∧ Hid (Below w.heap.size w wr) ∧ Hid (prIdx (l.drop k) x k = prIdx l x 0)) (fun iv _ => n - (intOf iv).toNat)
  case atStart => exact ⟨0, Nat.zero_le _, rfl, Below.refl _ _, Lib.hid rfl⟩
  case round =>
    obtain ⟨k, hk, rfl, HB, HK⟩ := hrel
    by_cases hlt : k < n
    · obtain ⟨bb, off, o, rfl, hbb, ho, hdr, c0, c1, c2, hst, hxc⟩ := (HI.out.keep HB.out).at_ hlt
      have HK1 := HK.out
      rw [hdr, prIdx_cons] at HK1
      have HBW : Hid (Blk wr b 3 [.int .i64 x]) := HBX.out.below HB.out HBX.out.lt
      have HC := Lib.hid (arone_any o b x)
      by_cases hid : o.rt.drv = x
      · rw [if_pos hid] at HK1
        have HF := Lib.hid HK1
        have e1 : (o.rt.drv == x) = true := by simpa using hid
        rw [e1] at HC
        clear hid HK HK1 ho hdr hst
        go_wp2_with fail
        refine (HC.out _ (by exact HBW.out)).mono ?_
        rintro e w' ⟨rfl, hb2⟩
        have HB2 := Lib.hid (HB.out.trans (hb2.mono HB.out.size))
        clear hb2 c0 c1 c2
        go_wp2_with fail
        go_ret
        exact ⟨ret_i (by rw [HF.out]), HB2.out⟩
      · rw [if_neg hid] at HK1
        have HF := Lib.hid HK1
        have e1 : (o.rt.drv == x) = false := by simpa using hid
        rw [e1] at HC
        clear hid HK HK1 ho hdr hst
        go_wp2_with fail
        refine (HC.out _ (by exact HBW.out)).mono ?_
        rintro e w' ⟨rfl, hb2⟩
        have HB2 := Lib.hid (HB.out.trans (hb2.mono HB.out.size))
        clear hb2 c0 c1 c2
        go_wp2_with fail
        go_roundw
        case rel => exact ⟨k + 1, by omega, by go_num, HB2, HF⟩
        case measure => simp [intOf]; omega
    · have HF : Hid (-1 = prIdx l x 0) := by
        have h := HK.out
        rw [List.drop_of_length_le (by have := HL.out; omega)] at h
        exact h
      clear HK
      go_wp2_with fail
      go_ret
      exact ⟨ret_i (by rw [← HF.out]), HB.out⟩

set_option maxRecDepth 100000 in
set_option maxHeartbeats 4000000 in
theorem arfirst_any (A : Option Addr) (n c : Nat) (l : List RM) (b : Nat) (id : Int) (r : Option RM) (w : World) (hl : Plns w w.heap.size A n l) (hb : Blk w b 3 [.int .i64 id]) (hr : rmOf l id = r) :
    Calls Try.prog 60 #[.slice A n c, .func (.func 61) #[] #[.pointer (some ⟨b, 0, none⟩)]] w fun e w' => e = .returned (rmOV r) ∧ Below w.heap.size w w' := by
  have hm := Recs.le hl.rows
  have HI := Lib.hid hl
  have HR := Lib.hid hr
  have hlen := hl.length
  have hcase := prIdx_of l id
  rw [hr] at hcase
  obtain ⟨iv, hiv⟩ : ∃ v, prIdx l id 0 = v := ⟨_, rfl⟩
  rw [hiv] at hcase
  have HIV := Lib.hid hiv
  have HB0 : Hid (Below w.heap.size w (w.alloc (.cells #[.int .i64 0, .int .i64 0, .slice none 0 0] 40))) := (Below.refl _ _).alloc (Nat.le_refl _) _
  have HX0 : Hid (Blk (w.alloc (.cells #[.int .i64 0, .int .i64 0, .slice none 0 0] 40)) b 3 [.int .i64 id]) := hb.below HB0.out hb.lt
  have HY0 : Hid (Blk (w.alloc (.cells #[.int .i64 0, .int .i64 0, .slice none 0 0] 40)) w.heap.size 40 [.int .i64 0, .int .i64 0, .slice none 0 0]) := Blk.new w 40 [.int .i64 0, .int .i64 0, .slice none 0 0]
  clear hl hr hiv hb
  go_enter Try.func60, Try.ntmps60
  go_wp2_with fail
  refine (aridx_any A n c l b id _ (by exact (HI.out.keep HB0.out).more HB0.out.size) (by exact HX0.out)).mono ?_
  rintro e w1 ⟨rfl, hb⟩
  rw [HIV.out]
  have HB1 := Lib.hid (HB0.out.trans (hb.mono HB0.out.size))
  have HY1 : Hid (Blk w1 w.heap.size 40 [.int .i64 0, .int .i64 0, .slice none 0 0]) := HY0.out.below hb HY0.out.lt
  clear hb HB0 HX0 HY0 HIV
  have hcs := cell_apart w.heap.size
  have hfs := frozen_set
  rcases hcase with ⟨rfl, rfl⟩ | ⟨i, d, hi, rfl, rfl⟩
  · have HB2 : Hid (Below w.heap.size w (w1.alloc (.cells #[.int .i64 0, .int .i64 0, .slice none 0 0] 40))) := HB1.out.alloc HB1.out.size _
    have HY2 : Hid (Blk (w1.alloc (.cells #[.int .i64 0, .int .i64 0, .slice none 0 0] 40)) w.heap.size 40 [.int .i64 0, .int .i64 0, .slice none 0 0]) := HY1.out.below ((Below.refl _ _).alloc (Nat.le_refl _) _) HY1.out.lt
    have hff := HY2.out.free
    have x0 := HY2.out.cell (i := 0) rfl
    have x1 := HY2.out.cell (i := 1) rfl
    have x2 := HY2.out.cell (i := 2) rfl
    have HRS := Lib.hid (putR_box HY2.out noRM).cells
    have HBR := Lib.hid (putR_below HB2.out (Nat.le_refl w.heap.size) noRM)
    go_wp2_with fail
    refine bodyPost_ret (v := .tuple #[rteV noRM, .bool false]) ?_ rfl ⟨rfl, HBR.out⟩
    obtain ⟨r0, r1, r2⟩ := HRS.out
    simp [results, Try.results60, go_sem, r0, r1, r2]
  · obtain ⟨bb, off, d2, rfl, hbb, hd2, hdr, c0, c1, c2, hst, hxc⟩ := (HI.out.keep HB1.out).at_ (i := i) (by have := (List.getElem?_eq_some_iff.1 hi).1; omega)
    have hin : (i : Int) < (n : Int) := by have := (List.getElem?_eq_some_iff.1 hi).1; omega
    rw [hi] at hd2
    injection hd2 with hd2
    subst hd2
    have hff := HY1.out.free
    have x0 := HY1.out.cell (i := 0) rfl
    have x1 := HY1.out.cell (i := 1) rfl
    have x2 := HY1.out.cell (i := 2) rfl
    have HRS := Lib.hid (putR_box HY1.out d).cells
    have HBR := Lib.hid (putR_below HB1.out (Nat.le_refl w.heap.size) d)
    clear hdr hi hst
    go_wp2_with fail
    refine bodyPost_ret (v := .tuple #[rteV d, .bool true]) ?_ rfl ⟨rfl, HBR.out⟩
    obtain ⟨r0, r1, r2⟩ := HRS.out
    simp [results, Try.results60, go_sem, r0, r1, r2]

set_option maxRecDepth 100000 in
set_option maxHeartbeats 4000000 in
theorem arfind_any (A : Option Addr) (n c : Nat) (l : List RM) (id : Int) (r : Option RM) (w : World) (hl : Plns w w.heap.size A n l) (hr : rmOf l id = r) :
    Calls Try.prog 31 #[.slice A n c, .int .i64 id] w fun e w' => e = .returned (rmOV r) ∧ Below w.heap.size w w' := by
  have HI := Lib.hid hl
  have HR := Lib.hid hr
  have HB0 : Hid (Below w.heap.size w ((w.alloc (.cells #[.int .i64 id] 3)).alloc (.cells #[.int .i64 0, .int .i64 0, .slice none 0 0] 40))) := ((Below.refl _ _).alloc (Nat.le_refl _) _).alloc (by simp) _
  have HX0 : Hid (Blk ((w.alloc (.cells #[.int .i64 id] 3)).alloc (.cells #[.int .i64 0, .int .i64 0, .slice none 0 0] 40)) w.heap.size 3 [.int .i64 id]) := Blk.below (Blk.new w 3 [.int .i64 id]) ((Below.refl _ _).alloc (Nat.le_refl _) _) (Blk.new w 3 [.int .i64 id]).lt
  have HY0 : Hid (Blk ((w.alloc (.cells #[.int .i64 id] 3)).alloc (.cells #[.int .i64 0, .int .i64 0, .slice none 0 0] 40)) (w.heap.size + 1) 40 [.int .i64 0, .int .i64 0, .slice none 0 0]) := by
    have h1 := Blk.new (w.alloc (.cells #[.int .i64 id] 3)) 40 [.int .i64 0, .int .i64 0, .slice none 0 0]
    rw [World.size_alloc] at h1
    exact h1
  clear hl hr
  go_enter Try.func31, Try.ntmps31
  have hmf : ∀ (fn : Fn) (first cap : Array Value) (w : World), (Instr.makeFunc fn first cap).run Try.prog w = .ok (.func fn first cap) w := fun _ _ _ _ => rfl
  go_wp2_with fail
  refine (arfirst_any A n c l w.heap.size id r _ (by exact (HI.out.keep HB0.out).more HB0.out.size) (by exact HX0.out) HR.out).mono ?_
  rintro e w1 ⟨rfl, hb⟩
  have HB1 := Lib.hid (HB0.out.trans (hb.mono HB0.out.size))
  have HY1 : Hid (Blk w1 (w.heap.size + 1) 40 [.int .i64 0, .int .i64 0, .slice none 0 0]) := HY0.out.below hb HY0.out.lt
  clear hb HB0 HX0 HY0 hmf
  have hcs := cell_apart (w.heap.size + 1)
  have hfs := frozen_set
  have hff := HY1.out.free
  have x0 := HY1.out.cell (i := 0) rfl
  have x1 := HY1.out.cell (i := 1) rfl
  have x2 := HY1.out.cell (i := 2) rfl
  cases r with
  | none =>
    have hv : rmOV none = .tuple #[rteV noRM, .bool false] := rfl
    rw [hv]
    clear hv
    have HRS := Lib.hid (putR_box HY1.out noRM).cells
    have HBR := Lib.hid (putR_below HB1.out (Nat.le_succ w.heap.size) noRM)
    go_wp2_with fail
    refine bodyPost_ret (v := .tuple #[rteV noRM, .bool false]) ?_ rfl ⟨rfl, HBR.out⟩
    obtain ⟨r0, r1, r2⟩ := HRS.out
    simp [results, Try.results31, go_sem, r0, r1, r2]
  | some d =>
    have hv : rmOV (some d) = .tuple #[rteV d, .bool true] := rfl
    rw [hv]
    clear hv
    have HRS := Lib.hid (putR_box HY1.out d).cells
    have HBR := Lib.hid (putR_below HB1.out (Nat.le_succ w.heap.size) d)
    go_wp2_with fail
    refine bodyPost_ret (v := .tuple #[rteV d, .bool true]) ?_ rfl ⟨rfl, HBR.out⟩
    obtain ⟨r0, r1, r2⟩ := HRS.out
    simp [results, Try.results31, go_sem, r0, r1, r2]
#print axioms arfind_any
end Go.Proofs.Ytjklpdeeohhhnaa.Audit

/-
  The program's audit.Kept, walked. Written by tools/gen_pkept.py.
-/
namespace Go.Proofs.Ytjklpdeeohhhnaa.Audit
open Go.ChangeShapes Go.WideShapes Go.ChangeAt Go.RowKit Go.Proofs.Ytjklpdeeohhhnaa.Mem Go.Proofs.Ytjklpdeeohhhnaa.GeoMath Go.Proofs.Ytjklpdeeohhhnaa.FleetMath Go.Proofs.Ytjklpdeeohhhnaa.PlanMath Go.Proofs.Ytjklpdeeohhhnaa.CertMath Go.Proofs.Ytjklpdeeohhhnaa.AuditMath Go.Proofs.Ytjklpdeeohhhnaa.Rec Go.Proofs.Ytjklpdeeohhhnaa.Geo Go.Proofs.Ytjklpdeeohhhnaa.Span Go.Proofs.Ytjklpdeeohhhnaa.Deal Go.Proofs.Ytjklpdeeohhhnaa.Route Go.Proofs.Ytjklpdeeohhhnaa.Plan Go.Proofs.Ytjklpdeeohhhnaa.Cert
set_option linter.unusedVariables false
set_option linter.unusedSimpArgs false

theorem rmOf_map (l : List RM) (d : Int) : rteOf (l.map (·.rt)) d = (rmOf l d).map (·.rt) := by
  unfold rteOf rmOf
  rw [List.find?_map]
  rfl
/-- a route that is looked for, and how much of it is done -/
structure RmF (l : List RM) (d : Int) (b : RM) (ok : Bool) (k : Nat) : Prop where
  val : rmOV (rmOf l d) = .tuple #[rteV b, .bool ok]
  is : (rteOf (l.map (·.rt)) d).isSome = ok
  done : b.rt.served = (k : Int)
  len : k ≤ b.n
  cap : b.n ≤ b.c
  list : doneO (rteOf (l.map (·.rt)) d) = b.rt.stops.take k
  reads : ∀ (u : World) (B : Nat) (A : Option Addr) (n : Nat), Plns u B A n l → Stps u B b.a b.n b.rt.stops
theorem rm_form {w : World} {B n : Nat} {A : Option Addr} {l : List RM} (d : Int) (hl : Plns w B A n l) (hr : rightP (l.map (·.rt)) = true) : ∃ b ok k, RmF l d b ok k := by
  cases h : rmOf l d with
  | none => exact ⟨noRM, false, 0, by rw [h]; rfl, by rw [rmOf_map, h]; rfl, rfl, Nat.le_refl _, Nat.le_refl _, by rw [rmOf_map, h]; rfl, fun u B A n _ => ⟨rfl, Nat.zero_le _, fun h => absurd h (by decide)⟩⟩
  | some b =>
    have hb : b ∈ l := List.mem_of_find?_eq_some h
    obtain ⟨k, h1, h2⟩ := served_nat hr (List.mem_map.2 ⟨b, hb, rfl⟩)
    obtain ⟨h3, h4, _⟩ := hl.each b hb
    have h5 := h3.length
    refine ⟨b, true, k, by rw [h]; rfl, by rw [rmOf_map, h]; rfl, h1, by omega, h4, ?_, fun u B A n hp => (hp.each b hb).1⟩
    rw [rmOf_map, h]
    show doneR b.rt = _
    unfold doneR
    rw [h1]; simp
theorem run_load_rte {u : World} {g : Nat} {x : RM} (h : RBox u g x) : (Instr.loadAt 40 (.pointer (some ⟨g, 0, none⟩))).run Try.prog u = .ok (rteV x) u := by
  obtain ⟨h0, h1, h2⟩ := RBox.cells (x := x) h
  simp [go_sem, h0, h1, h2]
theorem aright_v (A : Option Addr) (n c : Nat) (l : List RM) (b : Bool) (w : World) (hl : Plns w w.heap.size A n l) (hb : rightP (l.map (·.rt)) = b) :
    Calls Try.prog 22 #[.slice A n c] w (Gives w (.bool b)) := by
  rw [← hb]; exact pright_any A n c l w hl

set_option maxRecDepth 100000 in
set_option maxHeartbeats 8000000 in
theorem pkept_any (A : Option Addr) (n c : Nat) (la : List RM) (A2 : Option Addr) (n2 c2 : Nat) (lb : List RM) (res : Bool) (w : World) (hnc : n ≤ c) (hnc2 : n2 ≤ c2) (ha : Plns w w.heap.size A n la) (hb : Plns w w.heap.size A2 n2 lb) (hres : keptP (la.map (·.rt)) (lb.map (·.rt)) = res) :
    Calls Try.prog 12 #[.slice A n c, .slice A2 n2 c2] w (Gives w (.bool res)) := by
  have hm := Recs.le ha.rows
  have hm2 := Recs.le hb.rows
  have HA := Lib.hid ha
  have HB := Lib.hid hb
  have HLA := Lib.hid ha.length
  have HLB := Lib.hid hb.length
  obtain ⟨pa, hpa⟩ : ∃ p, la.map (·.rt) = p := ⟨_, rfl⟩
  obtain ⟨pb, hpb⟩ : ∃ p, lb.map (·.rt) = p := ⟨_, rfl⟩
  rw [hpa, hpb] at hres
  have HPA := Lib.hid hpa
  have HPB := Lib.hid hpb
  have HRES := Lib.hid hres
  obtain ⟨r1, hr1⟩ : ∃ r, rightP pa = r := ⟨_, rfl⟩
  obtain ⟨r2, hr2⟩ : ∃ r, rightP pb = r := ⟨_, rfl⟩
  have R1 := Lib.hid hr1
  have R2 := Lib.hid hr2
  clear ha hb hpa hpb hres hr1 hr2
  go_enter Try.func12, Try.ntmps12
  go_wp2_with fail
  refine (aright_v A n c la r1 _ (by exact HA.out) (by rw [HPA.out]; exact R1.out)).mono ?_
  rintro e w1 ⟨rfl, hb1⟩
  have HB1 := Lib.hid hb1
  clear hb1
  cases r1 with
  | false =>
    have e : res = false := by rw [← HRES.out]; exact kept_no fun h => by have := h.1; rw [R1.out] at this; cases this
    subst e
    go_wp2_with fail
    go_ret
    exact ⟨rfl, HB1.out⟩
  | true =>
    go_wp2_with fail
    refine (aright_v A2 n2 c2 lb r2 _ (by exact (HB.out.keep HB1.out).more HB1.out.size) (by rw [HPB.out]; exact R2.out)).mono ?_
    rintro e w2 ⟨rfl, hb2⟩
    have HB2 : Hid (Below w.heap.size w w2) := HB1.out.trans (hb2.mono HB1.out.size)
    clear hb2 HB1
    cases r2 with
    | false =>
      have e : res = false := by rw [← HRES.out]; exact kept_no fun h => by have := h.2.1; rw [R2.out] at this; cases this
      subst e
      go_wp2_with fail
      go_ret
      exact ⟨rfl, HB2.out⟩
    | true =>
      go_wp2_with fail
      go_loopw [23] (fun i wr => ∃ k : Nat, k ≤ n ∧ i = .int .i64 k ∧ Hid (Below w.heap.size w wr) ∧ Hid (∀ j x, j < k → pa[j]? = some x → (rteOf pb x.drv).isSome = true)) (fun i _ => n - (intOf i).toNat)
      case atStart => exact ⟨0, Nat.zero_le _, rfl, HB2, Lib.hid (fun j x hj => absurd hj (by omega))⟩
      case round =>
        clear HB2
        obtain ⟨k, hk, rfl, HW, HK⟩ := hrel
        by_cases hlt : k < n
        · obtain ⟨b, off, x, hA, hbb, hx, hdr, c0, c1, c2', hst, hxc⟩ := (HA.out.keep HW.out).at_ hlt
          have hxp : pa[k]? = some x.rt := by rw [← HPA.out, List.getElem?_map, hx]; rfl
          have HXP := Lib.hid hxp
          obtain ⟨y, ok, ky, hf⟩ := rm_form x.rt.drv HB.out (by rw [HPB.out]; exact R2.out)
          have hval := hf.val
          have his := hf.is
          rw [HPB.out] at his
          have HIS := Lib.hid his
          have HVAL := Lib.hid hval
          have hz1 : Below wr.heap.size wr (wr.alloc (.cells #[.int .i64 x.rt.drv, .int .i64 x.rt.served, .slice x.a x.n x.c] 40)) := (Below.refl _ _).alloc (Nat.le_refl _) _
          have HW1 := Lib.hid (HW.out.trans (hz1.mono HW.out.size))
          subst hA
          clear hx hdr hxp hf hval his hz1 hst
          go_wp2_with fail
          refine (arfind_any A2 n2 c2 lb x.rt.drv _ _ (by exact (HB.out.keep HW1.out).more HW1.out.size) rfl).mono ?_
          rintro e w3 ⟨rfl, hb3⟩
          rw [HVAL.out]
          have HW3 := Lib.hid (HW1.out.trans (hb3.mono HW1.out.size))
          have HW4 := Lib.hid (HW3.out.alloc HW3.out.size (.cells #[.int .i64 y.rt.drv, .int .i64 y.rt.served, .slice y.a y.n y.c] 40))
          clear hb3 HVAL HW1 HW c0 c1 c2'
          cases ok with
          | false =>
            have e : res = false := by
              rw [← HRES.out]
              refine kept_no fun h => ?_
              have := h.2.2.1 _ (List.mem_of_getElem? HXP.out)
              rw [HIS.out] at this
              cases this
            subst e
            clear HK HIS
            go_wp2_with fail
            go_ret
            exact ⟨rfl, HW4.out⟩
          | true =>
            have HN : Hid (∀ j x, j < k + 1 → pa[j]? = some x → (rteOf pb x.drv).isSome = true) := fun j z hj hz => by
              by_cases e : j = k
              · subst e
                rw [HXP.out] at hz
                injection hz with hz
                rw [← hz, HIS.out]
              · exact HK.out j z (by omega) hz
            clear HK HIS
            go_wp2_with fail
            go_roundw
            case rel => exact ⟨k + 1, by omega, by go_num, HW4, HN⟩
            case measure => simp [intOf]; omega
        · have HALL : Hid (∀ r ∈ pa, (rteOf pb r.drv).isSome = true) := fun r hr => by
            obtain ⟨j, hj⟩ := List.mem_iff_getElem?.1 hr
            have h1 := (List.getElem?_eq_some_iff.1 hj).1
            have h2 : pa.length = n := by rw [← HPA.out, List.length_map, HLA.out]
            exact HK.out j r (by omega) hj
          clear HK
          go_wp2_with fail
          go_loopw [39] (fun i wz => ∃ k : Nat, k ≤ n2 ∧ i = .int .i64 k ∧ Hid (Below w.heap.size w wz) ∧ Hid (∀ j x, j < k → pb[j]? = some x → keptR pa x)) (fun i _ => n2 - (intOf i).toNat)
          case atStart => exact ⟨0, Nat.zero_le _, rfl, HW, Lib.hid (fun j x hj => absurd hj (by omega))⟩
          case round =>
            clear HW hlt hk
            obtain ⟨k, hk, rfl, HW, HK⟩ := hrel
            by_cases hlt : k < n2
            case neg =>
              have e : res = true := by
                rw [← HRES.out]
                refine keptP_iff.2 ⟨R1.out, R2.out, HALL.out, fun q hq => ?_⟩
                obtain ⟨j, hj⟩ := List.mem_iff_getElem?.1 hq
                have h1 := (List.getElem?_eq_some_iff.1 hj).1
                have h2 : pb.length = n2 := by rw [← HPB.out, List.length_map, HLB.out]
                exact HK.out j q (by omega) hj
              subst e
              clear HK HALL
              go_wp2_with fail
              go_ret
              exact ⟨rfl, HW.out⟩
            obtain ⟨b, off, x, hA, hbb, hx, hdr, c0, c1, c2', hst, hxc⟩ := (HB.out.keep HW.out).at_ hlt
            have hxp : pb[k]? = some x.rt := by rw [← HPB.out, List.getElem?_map, hx]; rfl
            have HXP := Lib.hid hxp
            have HXX := Lib.hid hx
            obtain ⟨kx, hkx, hkl⟩ := served_nat (p := pb) R2.out (List.mem_of_getElem? hxp)
            have hxl : kx ≤ x.n := by have := hst.length; omega
            have hxm : x.n ≤ 9223372036854775807 := Recs.le hst
            obtain ⟨y, ok, ky, hf⟩ := rm_form x.rt.drv HA.out (by rw [HPA.out]; exact R1.out)
            have hym : y.n ≤ 9223372036854775807 := Recs.le (hf.reads _ _ _ _ HA.out)
            have HF := Lib.hid hf
            obtain ⟨t, ht⟩ : ∃ t, decide (y.rt.stops.take ky = x.rt.stops.take kx) = t := ⟨_, rfl⟩
            have HT : Hid (t = true ↔ keptR pa x.rt) := by
              show _ ↔ _
              have h1 := keptR_done (a := pa) (q := x.rt) R1.out ⟨kx, hkx, hkl⟩
              have h2 := hf.list
              rw [HPA.out] at h2
              have h3 : doneR x.rt = x.rt.stops.take kx := by unfold doneR; rw [hkx]; simp
              rw [h1, h2, h3, ← ht, decide_eq_true_eq]
            have HTV := Lib.hid ht
            have HKX := Lib.hid hkx
            have hz1 : Below wr.heap.size wr (wr.alloc (.cells #[.int .i64 x.rt.drv, .int .i64 x.rt.served, .slice x.a x.n x.c] 40)) := (Below.refl _ _).alloc (Nat.le_refl _) _
            have HW1 := Lib.hid (HW.out.trans (hz1.mono HW.out.size))
            have HR1 : Hid (RBox (wr.alloc (.cells #[.int .i64 x.rt.drv, .int .i64 x.rt.served, .slice x.a x.n x.c] 40)) wr.heap.size x) := Blk.new wr _ _
            subst hA
            clear hx hdr hxp hf hz1 hst ht hkx hkl
            go_wp2_with fail
            refine (arfind_any A n c la x.rt.drv _ _ (by exact (HA.out.keep HW1.out).more HW1.out.size) rfl).mono ?_
            rintro e w3 ⟨rfl, hb3⟩
            rw [HF.out.val]
            have HW3 := Lib.hid (HW1.out.trans (hb3.mono HW1.out.size))
            have HR3 := Lib.hid (RBox.below (x := x) HR1.out hb3)
            have HW4 := Lib.hid (HW3.out.alloc HW3.out.size (.cells #[.int .i64 y.rt.drv, .int .i64 y.rt.served, .slice y.a y.n y.c] 40))
            have HR4 : Hid (RBox (w3.alloc (.cells #[.int .i64 y.rt.drv, .int .i64 y.rt.served, .slice y.a y.n y.c] 40)) wr.heap.size x) := RBox.below (x := x) HR3.out ((Below.refl _ _).alloc (Nat.le_refl _) _)
            have HY4 : Hid (RBox (w3.alloc (.cells #[.int .i64 y.rt.drv, .int .i64 y.rt.served, .slice y.a y.n y.c] 40)) w3.heap.size y) := Blk.new w3 _ _
            clear hb3 HW1 HW3 HR1 HR3 HW c0 c1 c2'
            go_upto_region 14 with fail
            obtain ⟨gx, hgx⟩ : ∃ g, wr.heap.size = g := ⟨_, rfl⟩
            obtain ⟨gy, hgy⟩ : ∃ g, w3.heap.size = g := ⟨_, rfl⟩
            obtain ⟨w4, hw4⟩ : ∃ u, w3.alloc (.cells #[.int .i64 y.rt.drv, .int .i64 y.rt.served, .slice y.a y.n y.c] 40) = u := ⟨_, rfl⟩
            rw [hgx] at HR4
            rw [hgy] at HY4
            rw [hw4] at HW4 HR4 HY4
            (try rw [hgx])
            (try rw [hgy])
            (try rw [hw4])
            clear hgx hgy hw4
            go_cut [55] (fun bv wx => bv = .bool (!t) ∧ Hid (Below w4.heap.size w4 wx))
            case first =>
              have HDY : Hid (∀ u, Calls Try.prog 33 #[rteV y] u fun e u' => e = .returned (.slice y.a ky y.c) ∧ Below u.heap.size u u') := fun u => adonep_any y ky u HF.out.done HF.out.len HF.out.cap hym
              have HDX : Hid (∀ u, Calls Try.prog 33 #[rteV x] u fun e u' => e = .returned (.slice x.a kx x.c) ∧ Below u.heap.size u u') := fun u => adonep_any x kx u HKX.out hxl hxc hxm
              have HEQ : Hid (∀ u, Below w4.heap.size w4 u → Calls Try.prog 32 #[.slice y.a ky y.c, .slice x.a kx x.c] u fun e u' => e = .returned (.bool t) ∧ Below u.heap.size u u') := fun u hu => by
                have h0 := HW4.out.trans (hu.mono HW4.out.size)
                exact aequal_any y.a ky y.c (y.rt.stops.take ky) x.a kx x.c (x.rt.stops.take kx) t u (stps_front (Recs.more (HF.out.reads _ _ _ _ (HA.out.keep h0)) h0.size) HF.out.len) (stps_front (Recs.more ((HB.out.keep h0).each x (List.mem_of_getElem? HXX.out)).1 h0.size) hxl) HTV.out
              refine wp_region_steps (valRF [50, 51, 52, 53, 54, 55] [rteV y, .slice y.a ky y.c, rteV x, .slice x.a kx x.c, .bool t, .bool (!t)]) (by kernel_rfl) (by kernel_rfl) (by kernel_rfl) (fun _ _ => rfl) (by kernel_rfl) valRF.mon ?_ ?_
              · refine ⟨?_, ?_, ?_, ?_, ?_, ?_, trivial⟩
                · exact valRF.pureStep rfl 50 rfl rfl (by simp) _ rfl fun listed a u D hI hr hn => exec_load rfl (hI.out 11 (by kernel_rfl)) (run_load_rte (RBox.below (x := y) HY4.out (OneR.below_drew hI.old)))
                · exact valRF.callStep rfl 51 rfl rfl (by simp) _ rfl fun listed a u D hI hr hn => ⟨_, _, op_call1 rfl (valRF.val hI hr hn 0 (by kernel_rfl) rfl rfl) (by simp [go_sem]), HDY.out _⟩
                · exact valRF.pureStep rfl 52 rfl rfl (by simp) _ rfl fun listed a u D hI hr hn => exec_load rfl (hI.out 10 (by kernel_rfl)) (run_load_rte (RBox.below (x := x) HR4.out (OneR.below_drew hI.old)))
                · exact valRF.callStep rfl 53 rfl rfl (by simp) _ rfl fun listed a u D hI hr hn => ⟨_, _, op_call1 rfl (valRF.val hI hr hn 2 (by kernel_rfl) rfl rfl) (by simp [go_sem]), HDX.out _⟩
                · exact valRF.callStep rfl 54 rfl rfl (by simp) _ rfl fun listed a u D hI hr hn => ⟨_, _, op_call2 rfl (valRF.val hI hr hn 1 (by kernel_rfl) rfl rfl) (valRF.val hI hr hn 3 (by kernel_rfl) rfl rfl) (by simp [go_sem]), HEQ.out _ (OneR.below_drew hI.old)⟩
                · exact valRF.pureStep rfl 55 rfl rfl (by simp) _ rfl fun listed a u D hI hr hn => exec_not rfl (valRF.val hI hr hn 4 (by kernel_rfl) rfl rfl)
              · intro listed a u D hI hall
                have eR0 : a.tmps.getD 55 undef = .bool (!t) := (hI.fact 5 ⟨hall 5 (by simp), fun k hk => by cases hk⟩).1
                have hold := OneR.below_drew hI.old
                have hl := hI.fill [50, 51, 52, 53, 54, 55] (by kernel_rfl)
                clear hI hall
                obtain ⟨σ, hσ⟩ : ∃ σ : Nat → Value, ∀ t, a.tmps.getD t undef = σ t := ⟨_, fun _ => rfl⟩
                simp only [hσ] at hl eR0
                clear hσ
                simp only [List.foldl_cons, List.foldl_nil, List.setIfInBounds_toArray, List.set_cons_zero, List.set_cons_succ, eR0] at hl
                subst hl
                go_wp2_with fail
                go_meet
                exact ⟨rfl, hold⟩
            case rest =>
            obtain ⟨rfl, hb5⟩ := hcut
            obtain ⟨w5, rfl⟩ : ∃ u, u = wc := ⟨_, rfl⟩
            have HW5 := Lib.hid (HW4.out.trans (hb5.out.mono HW4.out.size))
            clear hb5 HW4 HR4 HY4 HTV
            cases t with
            | false =>
              have e : res = false := by
                rw [← HRES.out]
                refine kept_no fun h => ?_
                have := HT.out.2 (h.2.2.2 _ (List.mem_of_getElem? HXP.out))
                cases this
              subst e
              clear HK HT
              go_wp2_with fail
              go_ret
              exact ⟨rfl, HW5.out⟩
            | true =>
              have HN : Hid (∀ j x, j < k + 1 → pb[j]? = some x → keptR pa x) := fun j z hj hz => by
                by_cases e : j = k
                · subst e
                  rw [HXP.out] at hz
                  injection hz with hz
                  rw [← hz]
                  exact HT.out.1 rfl
                · exact HK.out j z (by omega) hz
              clear HK HT
              go_wp2_with fail
              go_roundw
              case rel => exact ⟨k + 1, by omega, by go_num, HW5, HN⟩
              case measure => simp [intOf]; omega
#print axioms pkept_any
end Go.Proofs.Ytjklpdeeohhhnaa.Audit

/-
  The program's audit.driven, walked. Written by tools/gen_adriven.py.
-/
namespace Go.Proofs.Ytjklpdeeohhhnaa.Audit
open Go.ChangeShapes Go.WideShapes Go.ChangeAt Go.RowKit Go.Proofs.Ytjklpdeeohhhnaa.Mem Go.Proofs.Ytjklpdeeohhhnaa.GeoMath Go.Proofs.Ytjklpdeeohhhnaa.FleetMath Go.Proofs.Ytjklpdeeohhhnaa.PlanMath Go.Proofs.Ytjklpdeeohhhnaa.CertMath Go.Proofs.Ytjklpdeeohhhnaa.AuditMath Go.Proofs.Ytjklpdeeohhhnaa.Rec Go.Proofs.Ytjklpdeeohhhnaa.Geo Go.Proofs.Ytjklpdeeohhhnaa.Span Go.Proofs.Ytjklpdeeohhhnaa.Deal Go.Proofs.Ytjklpdeeohhhnaa.Route Go.Proofs.Ytjklpdeeohhhnaa.Plan Go.Proofs.Ytjklpdeeohhhnaa.Cert Go.Proofs.Ytjklpdeeohhhnaa.Cert.OneR Go.Proofs.Ytjklpdeeohhhnaa.Slack
set_option linter.unusedVariables false
set_option linter.unusedSimpArgs false

theorem stops_rest {w : World} {B n c k : Nat} {A : Option Addr} {xs : List Stp} (h : Stps w B A n xs) (hk : k < n) (hc : n ≤ c) : Stps w B (Slack.partAt A (k + 1) c) (n - (k + 1)) (xs.drop (k + 1)) := by
  have h1 := Stps.part (l := k + 1) (h := n) h (by omega) (Nat.le_refl _) hc
  rw [List.take_of_length_le (by rw [List.length_drop, h.length]; omega)] at h1
  exact h1
theorem own_trb {base : Nat} (w : World) (t : Trb) (hb : base ≤ w.heap.size) : OwnK (w.alloc (.cells (tcells t).toArray 47)) base 47 3 (.slice (some ⟨w.heap.size, 0, none⟩) 1 1) 1 (tcells t) :=
  ⟨⟨by simp, .inr ⟨w.heap.size, 1, _, rfl, hb, heap_alloc_new w _, Nat.le_refl _, by unfold maxLen; omega, by simp, by simp⟩⟩, by unfold maxLen; omega⟩
theorem find_id {os : List FleetMath.Ord} {i : Int} {o : FleetMath.Ord} (h : find os i = some o) : o ∈ os ∧ o.id = i := find_some h

set_option maxRecDepth 100000 in
set_option maxHeartbeats 16000000 in
theorem adriven_any (base : Nat) (q : Option Addr) (m : Mp) (A : Option Addr) (n c : Nat) (ds : List Drv) (A2 : Option Addr) (n2 c2 : Nat) (os : List FleetMath.Ord) (x : RM) (w : World) (hxc : x.n ≤ x.c) (h80 : x.n ≤ 80)
    (h : MapP w 77 base (.pointer q) (some m)) (hdk : ∀ d ∈ ds, drvE (some m) d = 0) (hk : known (some m) os = true) (hd : Drvs w w.heap.size A n ds) (ho : Ords w w.heap.size A2 n2 os) (hs : Stps w w.heap.size x.a x.n x.rt.stops) :
    Calls Try.prog 29 #[.pointer q, .slice A n c, .slice A2 n2 c2, rteV x] w (MakesK w 47 3 (routeT m ds os x.rt).length (trbsV (routeT m ds os x.rt))) := by
  obtain ⟨mn, ml⟩ := m
  obtain ⟨rt, xa, xn, xc⟩ := x
  simp only at hxc h80 hs
  have hm3 := Recs.le hs
  have HM := Lib.hid h
  have HD := Lib.hid hd
  have HO := Lib.hid ho
  have HST := Lib.hid hs
  have HL3 := Lib.hid hs.length
  have HOK := Lib.hid (known_ok hk)
  have HDK := Lib.hid hdk
  obtain ⟨bm, hbm⟩ := map_ptr h
  subst hbm
  obtain ⟨R, hR⟩ : ∃ R, routeT ⟨mn, ml⟩ ds os rt = R := ⟨_, rfl⟩
  have HR := Lib.hid hR
  show Calls _ _ #[.pointer (some ⟨bm, 0, none⟩), .slice A n c, .slice A2 n2 c2, .agg #[.int .i64 rt.drv, .int .i64 rt.served, .slice xa xn xc]] _ _
  rw [show routeT ⟨mn, ml⟩ ds os (RM.mk rt xa xn xc).rt = R from hR]
  obtain ⟨od, hod⟩ : ∃ z, drvOf ds rt.drv = z := ⟨_, rfl⟩
  have HOD := Lib.hid hod
  have HB0 : Hid (Below w.heap.size w (w.alloc (.cells #[.int .i64 rt.drv, .int .i64 rt.served, .slice xa xn xc] 40))) := (Below.refl _ _).alloc (Nat.le_refl _) _
  have HX0 : Hid (RBox (w.alloc (.cells #[.int .i64 rt.drv, .int .i64 rt.served, .slice xa xn xc] 40)) w.heap.size ⟨rt, xa, xn, xc⟩) := Blk.new w _ _
  clear h hk hd ho hs hdk hR hod
  go_enter Try.func29, Try.ntmps29
  go_wp2_with fail
  refine (adfind_any A n c ds rt.drv od _ (by exact Recs.more (Recs.keep HD.out HB0.out) HB0.out.size) HOD.out).mono ?_
  rintro e w1 ⟨rfl, hb1⟩
  have HB1 := Lib.hid (HB0.out.trans (hb1.mono HB0.out.size))
  have HX1 : Hid (RBox w1 w.heap.size ⟨rt, xa, xn, xc⟩) := RBox.below (x := ⟨rt, xa, xn, xc⟩) HX0.out hb1
  clear hb1 HB0 HX0
  cases od with
  | none =>
    have hv : drvOV none = .tuple #[.agg #[.int .i64 0, .int .i64 0, .int .i64 0, .int .i64 0, .int .i64 0, .bool false], .bool false] := rfl
    rw [hv]
    clear hv
    have HF : Hid (R = [⟨rt.drv, 0, 8⟩]) := HR.out.symm.trans (routeT_none HOD.out)
    have HB2 : Hid (Below w.heap.size w (w1.alloc (.cells #[.int .i64 0, .int .i64 0, .int .i64 0, .int .i64 0, .int .i64 0, .bool false] 33))) := HB1.out.alloc HB1.out.size _
    have HX2 : Hid (RBox (w1.alloc (.cells #[.int .i64 0, .int .i64 0, .int .i64 0, .int .i64 0, .int .i64 0, .bool false] 33)) w.heap.size ⟨rt, xa, xn, xc⟩) := RBox.below (x := ⟨rt, xa, xn, xc⟩) HX1.out ((Below.refl _ _).alloc (Nat.le_refl _) _)
    obtain ⟨r0, r1, r2⟩ := RBox.cells (x := ⟨rt, xa, xn, xc⟩) HX2.out
    go_wp2_with fail
    go_ret
    rw [HF.out]
    refine ⟨_, rfl, HB2.out.alloc HB2.out.size _, ?_⟩
    have h1 := own_trb (w1.alloc (.cells #[.int .i64 0, .int .i64 0, .int .i64 0, .int .i64 0, .int .i64 0, .bool false] 33)) ⟨rt.drv, 0, 8⟩ HB2.out.size
    rw [World.size_alloc] at h1
    exact h1
  | some d =>
    have hv : drvOV (some d) = .tuple #[drvV d, .bool true] := rfl
    rw [hv]
    clear hv
    have HDE : Hid (drvE (some ⟨mn, ml⟩) d = 0) := HDK.out d (List.mem_of_find?_eq_some HOD.out)
    obtain ⟨m', hm', hdo⟩ := drvE_ok.1 HDE.out
    injection hm' with hm'
    subst hm'
    have HOA0 : Hid (OA (st0 d) 0) := OA.start hdo
    have HRM : Hid (R = alongM ⟨mn, ml⟩ d os rt.stops) := HR.out.symm.trans (routeT_some HOD.out)
    obtain ⟨X, hX⟩ : ∃ X, alongGo ⟨mn, ml⟩ d os [] (st0 d) rt.stops = X := ⟨_, rfl⟩
    have HX := Lib.hid hX
    have HG0 : Hid (X = [] ++ alongGo ⟨mn, ml⟩ d os (rt.stops.take 0) (st0 d) (rt.stops.drop 0)) := by show _ = _; rw [← hX]; simp
    have HB2 : Hid (Below w.heap.size w (w1.alloc (.cells #[.int .i64 d.id, .int .i64 d.room, .int .i64 d.home, .int .i64 d.win.fr, .int .i64 d.win.to, .bool d.retired] 33))) := HB1.out.alloc HB1.out.size _
    have HB3 : Hid (Below w.heap.size w ((w1.alloc (.cells #[.int .i64 d.id, .int .i64 d.room, .int .i64 d.home, .int .i64 d.win.fr, .int .i64 d.win.to, .bool d.retired] 33)).alloc (.cells #[.pointer (some ⟨bm, 0, none⟩), .int .i64 d.id, .int .i64 d.room, .int .i64 d.home, .int .i64 d.win.fr, .int .i64 d.win.to, .bool d.retired, .int .i64 d.home, .int .i64 d.win.fr, .int .i64 0, .slice none 0 0] 109))) := HB2.out.alloc HB2.out.size _
    have HX3 : Hid (RBox ((w1.alloc (.cells #[.int .i64 d.id, .int .i64 d.room, .int .i64 d.home, .int .i64 d.win.fr, .int .i64 d.win.to, .bool d.retired] 33)).alloc (.cells #[.pointer (some ⟨bm, 0, none⟩), .int .i64 d.id, .int .i64 d.room, .int .i64 d.home, .int .i64 d.win.fr, .int .i64 d.win.to, .bool d.retired, .int .i64 d.home, .int .i64 d.win.fr, .int .i64 0, .slice none 0 0] 109)) w.heap.size ⟨rt, xa, xn, xc⟩) := RBox.below (x := ⟨rt, xa, xn, xc⟩) (RBox.below (x := ⟨rt, xa, xn, xc⟩) HX1.out ((Below.refl _ _).alloc (Nat.le_refl _) (.cells #[.int .i64 d.id, .int .i64 d.room, .int .i64 d.home, .int .i64 d.win.fr, .int .i64 d.win.to, .bool d.retired] 33))) ((Below.refl _ _).alloc (Nat.le_refl _) _)
    have HG3 : Hid (w.heap.size ≤ w1.heap.size + 1) := by show _ ≤ _; have := HB1.out.size; omega
    have HS3 : Hid (TS w (w1.heap.size + 1) (some ⟨bm, 0, none⟩) d (st0 d) [] (.slice none 0 0) ((w1.alloc (.cells #[.int .i64 d.id, .int .i64 d.room, .int .i64 d.home, .int .i64 d.win.fr, .int .i64 d.win.to, .bool d.retired] 33)).alloc (.cells #[.pointer (some ⟨bm, 0, none⟩), .int .i64 d.id, .int .i64 d.room, .int .i64 d.home, .int .i64 d.win.fr, .int .i64 d.win.to, .bool d.retired, .int .i64 d.home, .int .i64 d.win.fr, .int .i64 0, .slice none 0 0] 109))) := by
      refine ⟨(TL.start w).next HB3.out, HG3.out, ?_⟩
      have h1 := Blk.new (w1.alloc (.cells #[.int .i64 d.id, .int .i64 d.room, .int .i64 d.home, .int .i64 d.win.fr, .int .i64 d.win.to, .bool d.retired] 33)) 109 [.pointer (some ⟨bm, 0, none⟩), .int .i64 d.id, .int .i64 d.room, .int .i64 d.home, .int .i64 d.win.fr, .int .i64 d.win.to, .bool d.retired, .int .i64 d.home, .int .i64 d.win.fr, .int .i64 0, .slice none 0 0]
      rw [World.size_alloc] at h1
      exact h1
    clear hX hdo HB2 HG3
    go_upto_region 5 with fail
    obtain ⟨g, hg⟩ : ∃ g, w1.heap.size + 1 = g := ⟨_, rfl⟩
    obtain ⟨W0, hW0⟩ : ∃ u, (w1.alloc (.cells #[.int .i64 d.id, .int .i64 d.room, .int .i64 d.home, .int .i64 d.win.fr, .int .i64 d.win.to, .bool d.retired] 33)).alloc (.cells #[.pointer (some ⟨bm, 0, none⟩), .int .i64 d.id, .int .i64 d.room, .int .i64 d.home, .int .i64 d.win.fr, .int .i64 d.win.to, .bool d.retired, .int .i64 d.home, .int .i64 d.win.fr, .int .i64 0, .slice none 0 0] 109) = u := ⟨_, rfl⟩
    rw [hg, hW0] at HS3
    rw [hW0] at HB3 HX3
    (try rw [hg])
    (try rw [hW0])
    clear hg hW0 HB1 HX1
    obtain ⟨r0, r1, r2⟩ := RBox.cells (x := ⟨rt, xa, xn, xc⟩) HX3.out
    have HZ3 : Hid (Stay W0 W0) := Stay.refl _
    go_wp2_with fail
    clear r0 r1 r2
    go_loopw [44] (fun iv wr => ∃ (k : Nat) (st : St) (l : List Trb) (v : Value), k ≤ xn ∧ iv = .int .i64 k ∧ Hid (TS w g (some ⟨bm, 0, none⟩) d st l v wr) ∧ Hid (Stay W0 wr) ∧ Hid (X = l ++ alongGo ⟨mn, ml⟩ d os (rt.stops.take k) st (rt.stops.drop k)) ∧ Hid (OA st k) ∧ Hid (l.length ≤ 2 * k)) (fun i _ => xn - (intOf i).toNat)
    case atStart => exact ⟨0, st0 d, [], _, Nat.zero_le _, rfl, HS3, HZ3, HG0, HOA0, Lib.hid (by simp)⟩
    case round =>
      clear HS3 HZ3 HG0 HOA0
      obtain ⟨k, st, l, v, hk, rfl, HS, HZ, HG, HB, HLN⟩ := hrel
      by_cases hlt : k < xn
      case neg =>
        have HE : Hid (X = l) := by
          show _ = _
          have h1 := HG.out
          rw [List.drop_of_length_le (by have := HL3.out; omega)] at h1
          exact ag_end h1
        have HL0 : Hid (R = l ++ lackGo d os (rt.stops.drop 0)) := by
          show _ = _
          rw [HRM.out, ← HE.out, ← HX.out, List.drop_zero]
          rfl
        have HLN1 : Hid (l.length ≤ 200) := by show _ ≤ _; have := HLN.out; omega
        have hx3 : RBox wr w.heap.size ⟨rt, xa, xn, xc⟩ := HZ.out.2 _ _ _ (by decide) (by decide) HX3.out
        obtain ⟨r0, r1, r2⟩ := RBox.cells (x := ⟨rt, xa, xn, xc⟩) hx3
        clear HG HB HX HE HLN hx3
        go_wp2_with fail
        clear r0 r1 r2
        go_loopw [82] (fun iv wz => ∃ (k : Nat) (l : List Trb) (v : Value), k ≤ xn ∧ iv = .int .i64 k ∧ Hid (TS w g (some ⟨bm, 0, none⟩) d st l v wz) ∧ Hid (Stay W0 wz) ∧ Hid (R = l ++ lackGo d os (rt.stops.drop k)) ∧ Hid (l.length ≤ 200 + k)) (fun i _ => xn - (intOf i).toNat)
        case atStart => exact ⟨0, l, v, Nat.zero_le _, rfl, HS, HZ, HL0, Lib.hid (by have := HLN1.out; omega)⟩
        case round =>
          clear HS HZ HL0 HLN1 hlt hk
          obtain ⟨k, l, v, hk, rfl, HS, HZ, HG, HLN⟩ := hrel
          by_cases hlt : k < xn
          case neg =>
            have HE : Hid (R = l) := by
              show _ = _
              have h1 := HG.out
              rw [List.drop_of_length_le (by have := HL3.out; omega)] at h1
              exact lg_end h1
            obtain ⟨k0, k1, k2, k3, k4, k5, k6, k7, k8, k9, k10⟩ := HS.out.box.cells
            clear HG
            go_wp2_with fail
            go_ret
            show MakesK _ _ _ _ _ (Ending.returned v) _
            rw [HE.out]
            exact ⟨_, rfl, HS.out.old, HS.out.list.own⟩
          obtain ⟨b3, off3, s, hA3, hbb3, hs, hdr3, c0, c1⟩ := Stps.at_ (Recs.keep HST.out HS.out.old) hlt
          have HG1 := HG.out
          rw [hdr3] at HG1
          have HG2 := Lib.hid HG1
          have hz1 : Below wr.heap.size wr (wr.alloc (.cells #[.int .i64 s.ord, .bool s.drop] 36)) := (Below.refl _ _).alloc (Nat.le_refl _) _
          have HS2 : Hid (TS w g (some ⟨bm, 0, none⟩) d st l v (wr.alloc (.cells #[.int .i64 s.ord, .bool s.drop] 36))) := HS.out.next hz1
          have HZ2 : Hid (Stay W0 (wr.alloc (.cells #[.int .i64 s.ord, .bool s.drop] 36))) := HZ.out.next hz1
          have HK2 : Hid (Blk (wr.alloc (.cells #[.int .i64 s.ord, .bool s.drop] 36)) wr.heap.size 36 [.int .i64 s.ord, .bool s.drop]) := Blk.new wr _ _
          obtain ⟨of, hof⟩ : ∃ z, find os s.ord = z := ⟨_, rfl⟩
          have HOF := Lib.hid hof
          obtain ⟨t3, ht3⟩ : ∃ t, decide (Stp.mk s.ord true ∈ rt.stops.drop (k + 1)) = t := ⟨_, rfl⟩
          have HT3 := Lib.hid ht3
          clear hs hdr3 HG1 HG hz1 HS HZ hof ht3
          subst hA3
          go_upto_region 17 with fail
          obtain ⟨gs, hgs⟩ : ∃ g, wr.heap.size = g := ⟨_, rfl⟩
          obtain ⟨w2, hw2⟩ : ∃ u, wr.alloc (.cells #[.int .i64 s.ord, .bool s.drop] 36) = u := ⟨_, rfl⟩
          rw [hgs] at HK2
          rw [hw2] at HS2 HZ2 HK2
          (try rw [hgs])
          (try rw [hw2])
          clear hgs hw2 c0 c1
          obtain ⟨c0, c1⟩ : w2.cell? ⟨gs, 0, none⟩ = some (.int .i64 s.ord) ∧ w2.cell? ⟨gs, 1, none⟩ = some (.bool s.drop) := ⟨HK2.out.cell rfl, HK2.out.cell rfl⟩
          go_wp2_with fail
          refine (aofind_any A2 n2 c2 os s.ord of _ (by exact Recs.more (Recs.keep HO.out HS2.out.old) HS2.out.old.size) HOF.out).mono ?_
          rintro e w3 ⟨rfl, hb3⟩
          have HS3 := Lib.hid (HS2.out.next hb3)
          have HZ3 := Lib.hid (HZ2.out.next hb3)
          have HK3 := Lib.hid (HK2.out.below hb3 HK2.out.lt)
          obtain ⟨o, tf, hfv, hf1, hf0⟩ : ∃ (o : FleetMath.Ord) (tf : Bool), ordOV of = .tuple #[.agg #[.int .i64 o.id, .int .i64 o.size, .int .i64 o.pick.place, .int .i64 o.pick.win.fr, .int .i64 o.pick.win.to, .int .i64 o.pick.serv, .int .i64 o.drop.place, .int .i64 o.drop.win.fr, .int .i64 o.drop.win.to, .int .i64 o.drop.serv], .bool tf] ∧ (tf = true → of.isSome = true) ∧ (tf = false → of.isSome = false) := by
            cases of with
            | none => exact ⟨noOrd, false, rfl, fun h => (by cases h), fun _ => rfl⟩
            | some o => exact ⟨o, true, rfl, fun _ => rfl, fun h => (by cases h)⟩
          rw [hfv]
          have HFS : Hid (tf = true ↔ (find os s.ord).isSome = true) := by
            show _ ↔ _
            rw [HOF.out]
            exact ⟨hf1, fun h => by cases tf with | true => rfl | false => rw [hf0 rfl] at h; cases h⟩
          have hz4 : Below w3.heap.size w3 (w3.alloc (.cells #[.int .i64 o.id, .int .i64 o.size, .int .i64 o.pick.place, .int .i64 o.pick.win.fr, .int .i64 o.pick.win.to, .int .i64 o.pick.serv, .int .i64 o.drop.place, .int .i64 o.drop.win.fr, .int .i64 o.drop.win.to, .int .i64 o.drop.serv] 31)) := (Below.refl _ _).alloc (Nat.le_refl _) _
          have HS4 := Lib.hid (HS3.out.next hz4)
          have HZ4 := Lib.hid (HZ3.out.next hz4)
          have HK4 := Lib.hid (HK3.out.below hz4 HK3.out.lt)
          clear hz4 HS3 HZ3 HK3 hb3 HS2 HZ2 HK2 c0 c1 hfv hf1 hf0
          go_upto_region 18 with fail
          obtain ⟨w4, hw4⟩ : ∃ u, w3.alloc (.cells #[.int .i64 o.id, .int .i64 o.size, .int .i64 o.pick.place, .int .i64 o.pick.win.fr, .int .i64 o.pick.win.to, .int .i64 o.pick.serv, .int .i64 o.drop.place, .int .i64 o.drop.win.fr, .int .i64 o.drop.win.to, .int .i64 o.drop.serv] 31) = u := ⟨_, rfl⟩
          rw [hw4] at HS4 HZ4 HK4
          (try rw [hw4])
          clear hw4
          go_cut [111] (fun bv wx => ∃ t : Bool, bv = .bool t ∧ Hid (t = true ↔ s.drop = false ∧ (find os s.ord).isSome = true ∧ Stp.mk s.ord true ∉ rt.stops.drop (k + 1)) ∧ Hid (Below w4.heap.size w4 wx))
          case first =>
            cases tf with
            | false =>
              have HY : Hid (false = true ↔ s.drop = false ∧ (find os s.ord).isSome = true ∧ Stp.mk s.ord true ∉ rt.stops.drop (k + 1)) := ⟨fun h => (by cases h), fun h => HFS.out.2 h.2.1⟩
              refine wp_region_steps (valRF [94, 95, 96, 97, 98, 99, 100, 101, 102, 103, 104, 105, 106, 107, 108, 109, 110, 111] [.bool false, .bool false, undef, undef, undef, .bool false, .bool false, undef, undef, undef, undef, undef, undef, undef, undef, undef, undef, .bool false]) (by kernel_rfl) (by kernel_rfl) (by kernel_rfl) (fun _ _ => rfl) (by kernel_rfl) valRF.mon ?_ ?_
              · refine ⟨?_, ?_, ?_, ?_, ?_, ?_, ?_, ?_, ?_, ?_, ?_, ?_, ?_, ?_, ?_, ?_, ?_, ?_, trivial⟩
                · exact valRF.pureStep rfl 94 rfl rfl (by simp) _ rfl fun listed a u D hI hr hn => exec_move (.inl rfl) (hI.out 19 (by kernel_rfl))
                · exact valRF.pureStep rfl 95 rfl rfl (by simp) _ rfl fun listed a u D hI hr hn => exec_move (.inl rfl) (valRF.val hI hr hn 0 (by kernel_rfl) rfl rfl)
                · exact valRF.skipStep 96 rfl rfl (by simp) rfl fun listed a u D hI hr hn => guard_no (t := 95) rfl (by kernel_rfl) (valRF.val hI hr hn 1 (by kernel_rfl) rfl rfl)
                · exact valRF.skipStep 97 rfl rfl (by simp) rfl fun listed a u D hI hr hn => guard_no (t := 95) rfl (by kernel_rfl) (valRF.val hI hr hn 1 (by kernel_rfl) rfl rfl)
                · exact valRF.skipStep 98 rfl rfl (by simp) rfl fun listed a u D hI hr hn => guard_no (t := 95) rfl (by kernel_rfl) (valRF.val hI hr hn 1 (by kernel_rfl) rfl rfl)
                · exact valRF.pureStep rfl 99 rfl rfl (by simp) _ rfl fun listed a u D hI hr hn => exec_andf rfl (valRF.val hI hr hn 1 (by kernel_rfl) rfl rfl)
                · exact valRF.pureStep rfl 100 rfl rfl (by simp) _ rfl fun listed a u D hI hr hn => exec_move (.inl rfl) (valRF.val hI hr hn 5 (by kernel_rfl) rfl rfl)
                · exact valRF.skipStep 101 rfl rfl (by simp) rfl fun listed a u D hI hr hn => guard_no (t := 100) rfl (by kernel_rfl) (valRF.val hI hr hn 6 (by kernel_rfl) rfl rfl)
                · exact valRF.skipStep 102 rfl rfl (by simp) rfl fun listed a u D hI hr hn => guard_no (t := 100) rfl (by kernel_rfl) (valRF.val hI hr hn 6 (by kernel_rfl) rfl rfl)
                · exact valRF.skipStep 103 rfl rfl (by simp) rfl fun listed a u D hI hr hn => guard_no (t := 100) rfl (by kernel_rfl) (valRF.val hI hr hn 6 (by kernel_rfl) rfl rfl)
                · exact valRF.skipStep 104 rfl rfl (by simp) rfl fun listed a u D hI hr hn => guard_no (t := 100) rfl (by kernel_rfl) (valRF.val hI hr hn 6 (by kernel_rfl) rfl rfl)
                · exact valRF.skipStep 105 rfl rfl (by simp) rfl fun listed a u D hI hr hn => guard_no (t := 100) rfl (by kernel_rfl) (valRF.val hI hr hn 6 (by kernel_rfl) rfl rfl)
                · exact valRF.skipStep 106 rfl rfl (by simp) rfl fun listed a u D hI hr hn => guard_no (t := 100) rfl (by kernel_rfl) (valRF.val hI hr hn 6 (by kernel_rfl) rfl rfl)
                · exact valRF.skipStep 107 rfl rfl (by simp) rfl fun listed a u D hI hr hn => guard_no (t := 100) rfl (by kernel_rfl) (valRF.val hI hr hn 6 (by kernel_rfl) rfl rfl)
                · exact valRF.skipStep 108 rfl rfl (by simp) rfl fun listed a u D hI hr hn => guard_no (t := 100) rfl (by kernel_rfl) (valRF.val hI hr hn 6 (by kernel_rfl) rfl rfl)
                · exact valRF.skipStep 109 rfl rfl (by simp) rfl fun listed a u D hI hr hn => guard_no (t := 100) rfl (by kernel_rfl) (valRF.val hI hr hn 6 (by kernel_rfl) rfl rfl)
                · exact valRF.skipStep 110 rfl rfl (by simp) rfl fun listed a u D hI hr hn => guard_no (t := 100) rfl (by kernel_rfl) (valRF.val hI hr hn 6 (by kernel_rfl) rfl rfl)
                · exact valRF.pureStep rfl 111 rfl rfl (by simp) _ rfl fun listed a u D hI hr hn => exec_andf rfl (valRF.val hI hr hn 6 (by kernel_rfl) rfl rfl)
              · intro listed a u D hI hall
                have eR0 : a.tmps.getD 111 undef = .bool false := (hI.fact 17 ⟨hall 17 (by simp), fun k hk => by cases hk⟩).1
                have hold := OneR.below_drew hI.old
                have hl := hI.fill [94, 95, 96, 97, 98, 99, 100, 101, 102, 103, 104, 105, 106, 107, 108, 109, 110, 111] (by kernel_rfl)
                clear hI hall
                obtain ⟨σ, hσ⟩ : ∃ σ : Nat → Value, ∀ t, a.tmps.getD t undef = σ t := ⟨_, fun _ => rfl⟩
                simp only [hσ] at hl eR0
                clear hσ
                simp only [List.foldl_cons, List.foldl_nil, List.setIfInBounds_toArray, List.set_cons_zero, List.set_cons_succ, eR0] at hl
                subst hl
                go_wp2_with fail
                go_meet
                exact ⟨false, rfl, HY, hold⟩
            | true =>
              cases hsd : s.drop with
              | true =>
                have HC : Hid (∀ u, Below w4.heap.size w4 u → u.cell? ⟨gs, 0, none⟩ = some (.int .i64 s.ord) ∧ u.cell? ⟨gs, 1, none⟩ = some (.bool true)) := fun u hu => by
                  have h1 := HK4.out.below hu HK4.out.lt
                  rw [hsd] at h1
                  exact ⟨h1.cell rfl, h1.cell rfl⟩
                have HY : Hid (false = true ↔ s.drop = false ∧ (find os s.ord).isSome = true ∧ Stp.mk s.ord true ∉ rt.stops.drop (k + 1)) := ⟨fun h => (by cases h), fun h => (by have := h.1; rw [hsd] at this; cases this)⟩
                refine wp_region_steps (valRF [94, 95, 96, 97, 98, 99, 100, 101, 102, 103, 104, 105, 106, 107, 108, 109, 110, 111] [.bool true, .bool true, .pointer (some ⟨gs, 1, none⟩), .bool true, .bool false, .bool false, .bool false, undef, undef, undef, undef, undef, undef, undef, undef, undef, undef, .bool false]) (by kernel_rfl) (by kernel_rfl) (by kernel_rfl) (fun _ _ => rfl) (by kernel_rfl) valRF.mon ?_ ?_
                · refine ⟨?_, ?_, ?_, ?_, ?_, ?_, ?_, ?_, ?_, ?_, ?_, ?_, ?_, ?_, ?_, ?_, ?_, ?_, trivial⟩
                  · exact valRF.pureStep rfl 94 rfl rfl (by simp) _ rfl fun listed a u D hI hr hn => exec_move (.inl rfl) (hI.out 19 (by kernel_rfl))
                  · exact valRF.pureStep rfl 95 rfl rfl (by simp) _ rfl fun listed a u D hI hr hn => exec_move (.inl rfl) (valRF.val hI hr hn 0 (by kernel_rfl) rfl rfl)
                  · exact valRF.pureStepG 96 rfl rfl (by simp) _ rfl fun listed a u D hI hr hn => ⟨guard_yes (t := 95) rfl (by kernel_rfl) (valRF.val hI hr hn 1 (by kernel_rfl) rfl rfl), op_field rfl (hI.out 17 (by kernel_rfl)) (by simp [go_sem])⟩
                  · exact valRF.pureStepG 97 rfl rfl (by simp) _ rfl fun listed a u D hI hr hn => ⟨guard_yes (t := 95) rfl (by kernel_rfl) (valRF.val hI hr hn 1 (by kernel_rfl) rfl rfl), exec_load rfl (valRF.val hI hr hn 2 (by kernel_rfl) rfl rfl) (run_load_pb (HC.out _ (OneR.below_drew hI.old)).2)⟩
                  · exact valRF.pureStepG 98 rfl rfl (by simp) _ rfl fun listed a u D hI hr hn => ⟨guard_yes (t := 95) rfl (by kernel_rfl) (valRF.val hI hr hn 1 (by kernel_rfl) rfl rfl), exec_not rfl (valRF.val hI hr hn 3 (by kernel_rfl) rfl rfl)⟩
                  · exact valRF.pureStep rfl 99 rfl rfl (by simp) _ rfl fun listed a u D hI hr hn => exec_and rfl (valRF.val hI hr hn 1 (by kernel_rfl) rfl rfl) (valRF.val hI hr hn 4 (by kernel_rfl) rfl rfl) (Bool.true_and _)
                  · exact valRF.pureStep rfl 100 rfl rfl (by simp) _ rfl fun listed a u D hI hr hn => exec_move (.inl rfl) (valRF.val hI hr hn 5 (by kernel_rfl) rfl rfl)
                  · exact valRF.skipStep 101 rfl rfl (by simp) rfl fun listed a u D hI hr hn => guard_no (t := 100) rfl (by kernel_rfl) (valRF.val hI hr hn 6 (by kernel_rfl) rfl rfl)
                  · exact valRF.skipStep 102 rfl rfl (by simp) rfl fun listed a u D hI hr hn => guard_no (t := 100) rfl (by kernel_rfl) (valRF.val hI hr hn 6 (by kernel_rfl) rfl rfl)
                  · exact valRF.skipStep 103 rfl rfl (by simp) rfl fun listed a u D hI hr hn => guard_no (t := 100) rfl (by kernel_rfl) (valRF.val hI hr hn 6 (by kernel_rfl) rfl rfl)
                  · exact valRF.skipStep 104 rfl rfl (by simp) rfl fun listed a u D hI hr hn => guard_no (t := 100) rfl (by kernel_rfl) (valRF.val hI hr hn 6 (by kernel_rfl) rfl rfl)
                  · exact valRF.skipStep 105 rfl rfl (by simp) rfl fun listed a u D hI hr hn => guard_no (t := 100) rfl (by kernel_rfl) (valRF.val hI hr hn 6 (by kernel_rfl) rfl rfl)
                  · exact valRF.skipStep 106 rfl rfl (by simp) rfl fun listed a u D hI hr hn => guard_no (t := 100) rfl (by kernel_rfl) (valRF.val hI hr hn 6 (by kernel_rfl) rfl rfl)
                  · exact valRF.skipStep 107 rfl rfl (by simp) rfl fun listed a u D hI hr hn => guard_no (t := 100) rfl (by kernel_rfl) (valRF.val hI hr hn 6 (by kernel_rfl) rfl rfl)
                  · exact valRF.skipStep 108 rfl rfl (by simp) rfl fun listed a u D hI hr hn => guard_no (t := 100) rfl (by kernel_rfl) (valRF.val hI hr hn 6 (by kernel_rfl) rfl rfl)
                  · exact valRF.skipStep 109 rfl rfl (by simp) rfl fun listed a u D hI hr hn => guard_no (t := 100) rfl (by kernel_rfl) (valRF.val hI hr hn 6 (by kernel_rfl) rfl rfl)
                  · exact valRF.skipStep 110 rfl rfl (by simp) rfl fun listed a u D hI hr hn => guard_no (t := 100) rfl (by kernel_rfl) (valRF.val hI hr hn 6 (by kernel_rfl) rfl rfl)
                  · exact valRF.pureStep rfl 111 rfl rfl (by simp) _ rfl fun listed a u D hI hr hn => exec_andf rfl (valRF.val hI hr hn 6 (by kernel_rfl) rfl rfl)
                · intro listed a u D hI hall
                  have eR0 : a.tmps.getD 111 undef = .bool false := (hI.fact 17 ⟨hall 17 (by simp), fun k hk => by cases hk⟩).1
                  have hold := OneR.below_drew hI.old
                  have hl := hI.fill [94, 95, 96, 97, 98, 99, 100, 101, 102, 103, 104, 105, 106, 107, 108, 109, 110, 111] (by kernel_rfl)
                  clear hI hall
                  obtain ⟨σ, hσ⟩ : ∃ σ : Nat → Value, ∀ t, a.tmps.getD t undef = σ t := ⟨_, fun _ => rfl⟩
                  simp only [hσ] at hl eR0
                  clear hσ
                  simp only [List.foldl_cons, List.foldl_nil, List.setIfInBounds_toArray, List.set_cons_zero, List.set_cons_succ, eR0] at hl
                  subst hl
                  go_wp2_with fail
                  go_meet
                  exact ⟨false, rfl, HY, hold⟩
              | false =>
                have HC : Hid (∀ u, Below w4.heap.size w4 u → (u.cell? ⟨gs, 0, none⟩ = some (.int .i64 s.ord) ∧ u.cell? ⟨gs, 1, none⟩ = some (.bool false)) ∧ u.cell? ⟨w.heap.size, 2, none⟩ = some (.slice (some ⟨b3, off3, none⟩) xn xc)) := fun u hu => by
                  have h1 := HK4.out.below hu HK4.out.lt
                  rw [hsd] at h1
                  exact ⟨⟨h1.cell rfl, h1.cell rfl⟩, (RBox.cells (x := ⟨rt, (some ⟨b3, off3, none⟩), xn, xc⟩) ((HZ4.out.next hu).2 _ _ _ (by decide) (by decide) HX3.out)).2.2⟩
                have HY : Hid ((!t3) = true ↔ s.drop = false ∧ (find os s.ord).isSome = true ∧ Stp.mk s.ord true ∉ rt.stops.drop (k + 1)) := by
                  show _ ↔ _
                  rw [← HT3.out, hsd]
                  simp [HFS.out.1 rfl]
                have HDL : Hid (∀ u, Calls Try.prog 59 #[.int .i64 s.ord] u fun e u' => e = .returned (stpV ⟨s.ord, true⟩) ∧ Below u.heap.size u u') := fun u => adelivery_any s.ord u
                have HCN : Hid (∀ u, Below w4.heap.size w4 u → Calls Try.prog 58 #[.slice (Slack.partAt (some ⟨b3, off3, none⟩) (k + 1) xc) (xn - (k + 1)) (xc - (k + 1)), stpV ⟨s.ord, true⟩] u fun e u' => e = .returned (.bool t3) ∧ Below u.heap.size u u') := fun u hu => by
                  have h0 := (HS4.out.next hu).old
                  exact pcontains_v _ _ _ (rt.stops.drop (k + 1)) ⟨s.ord, true⟩ u t3 (stops_rest (Recs.more (Recs.keep HST.out h0) h0.size) hlt hxc) HT3.out
                refine wp_region_steps (valRF [94, 95, 96, 97, 98, 99, 100, 101, 102, 103, 104, 105, 106, 107, 108, 109, 110, 111] [.bool true, .bool true, .pointer (some ⟨gs, 1, none⟩), .bool false, .bool true, .bool true, .bool true, .pointer (some ⟨w.heap.size, 2, none⟩), .slice (some ⟨b3, off3, none⟩) xn xc, .int .i64 ((k : Nat) : Int), .int .i64 ((k + 1 : Nat) : Int), .slice (Slack.partAt (some ⟨b3, off3, none⟩) (k + 1) xc) (xn - (k + 1)) (xc - (k + 1)), .pointer (some ⟨gs, 0, none⟩), .int .i64 s.ord, stpV ⟨s.ord, true⟩, .bool t3, .bool (!t3), .bool (!t3)]) (by kernel_rfl) (by kernel_rfl) (by kernel_rfl) (fun _ _ => rfl) (by kernel_rfl) valRF.mon ?_ ?_
                · refine ⟨?_, ?_, ?_, ?_, ?_, ?_, ?_, ?_, ?_, ?_, ?_, ?_, ?_, ?_, ?_, ?_, ?_, ?_, trivial⟩
                  · exact valRF.pureStep rfl 94 rfl rfl (by simp) _ rfl fun listed a u D hI hr hn => exec_move (.inl rfl) (hI.out 19 (by kernel_rfl))
                  · exact valRF.pureStep rfl 95 rfl rfl (by simp) _ rfl fun listed a u D hI hr hn => exec_move (.inl rfl) (valRF.val hI hr hn 0 (by kernel_rfl) rfl rfl)
                  · exact valRF.pureStepG 96 rfl rfl (by simp) _ rfl fun listed a u D hI hr hn => ⟨guard_yes (t := 95) rfl (by kernel_rfl) (valRF.val hI hr hn 1 (by kernel_rfl) rfl rfl), op_field rfl (hI.out 17 (by kernel_rfl)) (by simp [go_sem])⟩
                  · exact valRF.pureStepG 97 rfl rfl (by simp) _ rfl fun listed a u D hI hr hn => ⟨guard_yes (t := 95) rfl (by kernel_rfl) (valRF.val hI hr hn 1 (by kernel_rfl) rfl rfl), exec_load rfl (valRF.val hI hr hn 2 (by kernel_rfl) rfl rfl) (run_load_pb (HC.out _ (OneR.below_drew hI.old)).1.2)⟩
                  · exact valRF.pureStepG 98 rfl rfl (by simp) _ rfl fun listed a u D hI hr hn => ⟨guard_yes (t := 95) rfl (by kernel_rfl) (valRF.val hI hr hn 1 (by kernel_rfl) rfl rfl), exec_not rfl (valRF.val hI hr hn 3 (by kernel_rfl) rfl rfl)⟩
                  · exact valRF.pureStep rfl 99 rfl rfl (by simp) _ rfl fun listed a u D hI hr hn => exec_and rfl (valRF.val hI hr hn 1 (by kernel_rfl) rfl rfl) (valRF.val hI hr hn 4 (by kernel_rfl) rfl rfl) (Bool.true_and _)
                  · exact valRF.pureStep rfl 100 rfl rfl (by simp) _ rfl fun listed a u D hI hr hn => exec_move (.inl rfl) (valRF.val hI hr hn 5 (by kernel_rfl) rfl rfl)
                  · exact valRF.pureStepG 101 rfl rfl (by simp) _ rfl fun listed a u D hI hr hn => ⟨guard_yes (t := 100) rfl (by kernel_rfl) (valRF.val hI hr hn 6 (by kernel_rfl) rfl rfl), op_field rfl (hI.out 7 (by kernel_rfl)) (by simp [go_sem])⟩
                  · exact valRF.pureStepG 102 rfl rfl (by simp) _ rfl fun listed a u D hI hr hn => ⟨guard_yes (t := 100) rfl (by kernel_rfl) (valRF.val hI hr hn 6 (by kernel_rfl) rfl rfl), exec_load rfl (valRF.val hI hr hn 7 (by kernel_rfl) rfl rfl) (run_load_ps (HC.out _ (OneR.below_drew hI.old)).2)⟩
                  · exact valRF.pureStepG 103 rfl rfl (by simp) _ rfl fun listed a u D hI hr hn => ⟨guard_yes (t := 100) rfl (by kernel_rfl) (valRF.val hI hr hn 6 (by kernel_rfl) rfl rfl), exec_move (.inl rfl) (hI.out 16 (by kernel_rfl))⟩
                  · exact valRF.pureStepG 104 rfl rfl (by simp) _ rfl fun listed a u D hI hr hn => ⟨guard_yes (t := 100) rfl (by kernel_rfl) (valRF.val hI hr hn 6 (by kernel_rfl) rfl rfl), exec_more rfl (valRF.val hI hr hn 9 (by kernel_rfl) rfl rfl) (by omega)⟩
                  · exact valRF.pureStepG 105 rfl rfl (by simp) _ rfl fun listed a u D hI hr hn => ⟨guard_yes (t := 100) rfl (by kernel_rfl) (valRF.val hI hr hn 6 (by kernel_rfl) rfl rfl), exec_slice (l := k + 1) (h := xn) rfl (valRF.val hI hr hn 8 (by kernel_rfl) rfl rfl) (.inr ⟨_, rfl, (valRF.val hI hr hn 10 (by kernel_rfl) rfl rfl)⟩) (.inl ⟨rfl, rfl⟩) (by omega) (Nat.le_refl _) hxc⟩
                  · exact valRF.pureStepG 106 rfl rfl (by simp) _ rfl fun listed a u D hI hr hn => ⟨guard_yes (t := 100) rfl (by kernel_rfl) (valRF.val hI hr hn 6 (by kernel_rfl) rfl rfl), op_field rfl (hI.out 17 (by kernel_rfl)) (by simp [go_sem])⟩
                  · exact valRF.pureStepG 107 rfl rfl (by simp) _ rfl fun listed a u D hI hr hn => ⟨guard_yes (t := 100) rfl (by kernel_rfl) (valRF.val hI hr hn 6 (by kernel_rfl) rfl rfl), exec_load rfl (valRF.val hI hr hn 12 (by kernel_rfl) rfl rfl) (run_load_pi (HC.out _ (OneR.below_drew hI.old)).1.1)⟩
                  · exact valRF.callStepG 108 rfl rfl (by simp) _ rfl fun listed a u D hI hr hn => ⟨guard_yes (t := 100) rfl (by kernel_rfl) (valRF.val hI hr hn 6 (by kernel_rfl) rfl rfl), _, _, op_call1 rfl (valRF.val hI hr hn 13 (by kernel_rfl) rfl rfl) (by simp [go_sem]), HDL.out _⟩
                  · exact valRF.callStepG 109 rfl rfl (by simp) _ rfl fun listed a u D hI hr hn => ⟨guard_yes (t := 100) rfl (by kernel_rfl) (valRF.val hI hr hn 6 (by kernel_rfl) rfl rfl), _, _, op_call2 rfl (valRF.val hI hr hn 11 (by kernel_rfl) rfl rfl) (valRF.val hI hr hn 14 (by kernel_rfl) rfl rfl) (by simp [go_sem]), HCN.out _ (OneR.below_drew hI.old)⟩
                  · exact valRF.pureStepG 110 rfl rfl (by simp) _ rfl fun listed a u D hI hr hn => ⟨guard_yes (t := 100) rfl (by kernel_rfl) (valRF.val hI hr hn 6 (by kernel_rfl) rfl rfl), exec_not rfl (valRF.val hI hr hn 15 (by kernel_rfl) rfl rfl)⟩
                  · exact valRF.pureStep rfl 111 rfl rfl (by simp) _ rfl fun listed a u D hI hr hn => exec_and rfl (valRF.val hI hr hn 6 (by kernel_rfl) rfl rfl) (valRF.val hI hr hn 16 (by kernel_rfl) rfl rfl) (Bool.true_and _)
                · intro listed a u D hI hall
                  have eR0 : a.tmps.getD 111 undef = .bool (!t3) := (hI.fact 17 ⟨hall 17 (by simp), fun k hk => by cases hk⟩).1
                  have hold := OneR.below_drew hI.old
                  have hl := hI.fill [94, 95, 96, 97, 98, 99, 100, 101, 102, 103, 104, 105, 106, 107, 108, 109, 110, 111] (by kernel_rfl)
                  clear hI hall
                  obtain ⟨σ, hσ⟩ : ∃ σ : Nat → Value, ∀ t, a.tmps.getD t undef = σ t := ⟨_, fun _ => rfl⟩
                  simp only [hσ] at hl eR0
                  clear hσ
                  simp only [List.foldl_cons, List.foldl_nil, List.setIfInBounds_toArray, List.set_cons_zero, List.set_cons_succ, eR0] at hl
                  subst hl
                  go_wp2_with fail
                  go_meet
                  exact ⟨!t3, rfl, HY, hold⟩
          case rest =>
          obtain ⟨t, rfl, HY, hb5⟩ := hcut
          obtain ⟨w5, rfl⟩ : ∃ u, u = wc := ⟨_, rfl⟩
          have HS5 := Lib.hid (HS4.out.next hb5.out)
          have HZ5 := Lib.hid (HZ4.out.next hb5.out)
          have HK5 := Lib.hid (HK4.out.below hb5.out HK4.out.lt)
          have HLL : Hid (l.length ≤ 100000) := by show _ ≤ _; have := HLN.out; omega
          clear hb5 HS4 HZ4 HK4 HFS HT3
          obtain ⟨c0, c1⟩ : w5.cell? ⟨gs, 0, none⟩ = some (.int .i64 s.ord) ∧ w5.cell? ⟨gs, 1, none⟩ = some (.bool s.drop) := ⟨HK5.out.cell rfl, HK5.out.cell rfl⟩
          cases t with
          | true =>
            have HN : Hid (R = (l ++ [⟨d.id, s.ord, 18⟩]) ++ lackGo d os (rt.stops.drop (k + 1))) := lg_next HG2.out (if_pos (HY.out.1 rfl))
            go_wp2_with fail
            refine (atell_any w g (some ⟨bm, 0, none⟩) d st l v s.ord 18 _ (by exact HS5.out) HLL.out).mono ?_
            rintro e w6 ⟨rfl, ⟨v6, hs6⟩, hz6⟩
            rw [tellL_some _ _ _ (by decide)] at hs6
            have HS6 := Lib.hid hs6
            have HZ6 := Lib.hid (HZ5.out.trans hz6)
            clear hs6 hz6 HS5 HZ5 HK5 c0 c1
            go_wp2_with fail
            go_roundw
            case rel => exact ⟨k + 1, l ++ [⟨d.id, s.ord, 18⟩], v6, by omega, by go_num, HS6, HZ6, HN, Lib.hid (by have := HLN.out; simp only [List.length_append, List.length_cons, List.length_nil]; omega)⟩
            case measure => simp [intOf]; omega
          | false =>
            have HN : Hid (R = l ++ lackGo d os (rt.stops.drop (k + 1))) := by
              show _ = _
              have h1 := lg_next HG2.out (if_neg (fun h => (by have := HY.out.2 h; cases this)))
              rw [List.append_nil] at h1
              exact h1
            go_wp2_with fail
            go_roundw
            case rel => exact ⟨k + 1, l, v, by omega, by go_num, HS5, HZ5, HN, Lib.hid (by have := HLN.out; omega)⟩
            case measure => simp [intOf]; omega
      obtain ⟨b3, off3, s, hA3, hbb3, hs, hdr3, c0, c1⟩ := Stps.at_ (Recs.keep HST.out HS.out.old) hlt
      have HG1 := HG.out
      rw [hdr3] at HG1
      have HG2 := Lib.hid HG1
      have HSK := Lib.hid hs
      have HXS : Hid (rt.stops.take k ++ [s] = rt.stops.take (k + 1)) := by
        show _ = _
        rw [List.take_add_one, hs]; rfl
      obtain ⟨lf1, lf2⟩ := HB.out.left
      have ll1 : -1000000 ≤ st.load := by have := HB.out.load; omega
      have ll2 : st.load ≤ 1000000 := by have := HB.out.load; omega
      have lf3 : st.left ≤ 1000000000 := by omega
      have hz1 : Below wr.heap.size wr (wr.alloc (.cells #[.int .i64 s.ord, .bool s.drop] 36)) := (Below.refl _ _).alloc (Nat.le_refl _) _
      have HS2 : Hid (TS w g (some ⟨bm, 0, none⟩) d st l v (wr.alloc (.cells #[.int .i64 s.ord, .bool s.drop] 36))) := HS.out.next hz1
      have HZ2 : Hid (Stay W0 (wr.alloc (.cells #[.int .i64 s.ord, .bool s.drop] 36))) := HZ.out.next hz1
      have HK2 : Hid (Blk (wr.alloc (.cells #[.int .i64 s.ord, .bool s.drop] 36)) wr.heap.size 36 [.int .i64 s.ord, .bool s.drop]) := Blk.new wr _ _
      obtain ⟨of, hof⟩ : ∃ z, find os s.ord = z := ⟨_, rfl⟩
      have HOF := Lib.hid hof
      clear hs hdr3 HG1 HG lf2 hz1 HS HZ hof
      subst hA3
      go_upto_region 8 with fail
      obtain ⟨gs, hgs⟩ : ∃ g, wr.heap.size = g := ⟨_, rfl⟩
      obtain ⟨w2, hw2⟩ : ∃ u, wr.alloc (.cells #[.int .i64 s.ord, .bool s.drop] 36) = u := ⟨_, rfl⟩
      rw [hgs] at HK2
      rw [hw2] at HS2 HZ2 HK2
      (try rw [hgs])
      (try rw [hw2])
      clear hgs hw2 c0 c1
      obtain ⟨c0, c1⟩ : w2.cell? ⟨gs, 0, none⟩ = some (.int .i64 s.ord) ∧ w2.cell? ⟨gs, 1, none⟩ = some (.bool s.drop) := ⟨HK2.out.cell rfl, HK2.out.cell rfl⟩
      go_wp2_with fail
      refine (aofind_any A2 n2 c2 os s.ord of _ (by exact Recs.more (Recs.keep HO.out HS2.out.old) HS2.out.old.size) HOF.out).mono ?_
      rintro e w3 ⟨rfl, hb3⟩
      have HS3 := Lib.hid (HS2.out.next hb3)
      have HZ3 := Lib.hid (HZ2.out.next hb3)
      have HK3 := Lib.hid (HK2.out.below hb3 HK2.out.lt)
      clear hb3 HS2 HZ2 HK2 c0 c1
      cases of with
      | none =>
        have hv : ordOV none = .tuple #[.agg #[.int .i64 0, .int .i64 0, .int .i64 0, .int .i64 0, .int .i64 0, .int .i64 0, .int .i64 0, .int .i64 0, .int .i64 0, .int .i64 0], .bool false] := rfl
        rw [hv]
        clear hv
        have hz4 : Below w3.heap.size w3 (w3.alloc (.cells #[.int .i64 0, .int .i64 0, .int .i64 0, .int .i64 0, .int .i64 0, .int .i64 0, .int .i64 0, .int .i64 0, .int .i64 0, .int .i64 0] 31)) := (Below.refl _ _).alloc (Nat.le_refl _) _
        have HS4 := Lib.hid (HS3.out.next hz4)
        have HZ4 := Lib.hid (HZ3.out.next hz4)
        have HK4 := Lib.hid (HK3.out.below hz4 HK3.out.lt)
        obtain ⟨c0, c1⟩ : (w3.alloc (.cells #[.int .i64 0, .int .i64 0, .int .i64 0, .int .i64 0, .int .i64 0, .int .i64 0, .int .i64 0, .int .i64 0, .int .i64 0, .int .i64 0] 31)).cell? ⟨gs, 0, none⟩ = some (.int .i64 s.ord) ∧ (w3.alloc (.cells #[.int .i64 0, .int .i64 0, .int .i64 0, .int .i64 0, .int .i64 0, .int .i64 0, .int .i64 0, .int .i64 0, .int .i64 0, .int .i64 0] 31)).cell? ⟨gs, 1, none⟩ = some (.bool s.drop) := ⟨HK4.out.cell rfl, HK4.out.cell rfl⟩
        have HN : Hid (X = (l ++ [⟨d.id, s.ord, 8⟩]) ++ alongGo ⟨mn, ml⟩ d os (rt.stops.take (k + 1)) st (rt.stops.drop (k + 1))) := by
          show _ = _
          have h1 := ag_skip HG2.out HOF.out
          rw [HXS.out] at h1
          exact h1
        have HLL : Hid (l.length ≤ 100000) := by show _ ≤ _; have := HLN.out; omega
        clear hz4 HS3 HZ3 HK3
        go_wp2_with fail
        refine (atell_any w g (some ⟨bm, 0, none⟩) d st l v s.ord 8 _ (by exact HS4.out) HLL.out).mono ?_
        rintro e w5 ⟨rfl, ⟨v5, hs5⟩, hz5⟩
        rw [tellL_some _ _ _ (by decide)] at hs5
        have HS5 := Lib.hid hs5
        have HZ5 := Lib.hid (HZ4.out.trans hz5)
        clear hs5 hz5 HS4 HZ4 HK4 c0 c1
        go_wp2_with fail
        go_roundw
        case rel => exact ⟨k + 1, st, l ++ [⟨d.id, s.ord, 8⟩], v5, by omega, by go_num, HS5, HZ5, HN, Lib.hid HB.out.skip, Lib.hid (by have := HLN.out; simp only [List.length_append, List.length_cons, List.length_nil]; omega)⟩
        case measure => simp [intOf]; omega
      | some o =>
        have hv : ordOV (some o) = .tuple #[.agg #[.int .i64 o.id, .int .i64 o.size, .int .i64 o.pick.place, .int .i64 o.pick.win.fr, .int .i64 o.pick.win.to, .int .i64 o.pick.serv, .int .i64 o.drop.place, .int .i64 o.drop.win.fr, .int .i64 o.drop.win.to, .int .i64 o.drop.serv], .bool true] := rfl
        rw [hv]
        clear hv
        obtain ⟨hoi, hid⟩ := find_id HOF.out
        have HKO := Lib.hid (HOK.out o hoi)
        have HID := Lib.hid hid
        obtain ⟨sz1, sz2⟩ := HKO.out.size
        have sz3 : o.size ≤ 1000000 := by omega
        have hz4 : Below w3.heap.size w3 (w3.alloc (.cells #[.int .i64 o.id, .int .i64 o.size, .int .i64 o.pick.place, .int .i64 o.pick.win.fr, .int .i64 o.pick.win.to, .int .i64 o.pick.serv, .int .i64 o.drop.place, .int .i64 o.drop.win.fr, .int .i64 o.drop.win.to, .int .i64 o.drop.serv] 31)) := (Below.refl _ _).alloc (Nat.le_refl _) _
        have HS4 := Lib.hid (HS3.out.next hz4)
        have HZ4 := Lib.hid (HZ3.out.next hz4)
        have HK4 := Lib.hid (HK3.out.below hz4 HK3.out.lt)
        have HX4 : Hid (OBox (w3.alloc (.cells #[.int .i64 o.id, .int .i64 o.size, .int .i64 o.pick.place, .int .i64 o.pick.win.fr, .int .i64 o.pick.win.to, .int .i64 o.pick.serv, .int .i64 o.drop.place, .int .i64 o.drop.win.fr, .int .i64 o.drop.win.to, .int .i64 o.drop.serv] 31)) w3.heap.size o) := Blk.new w3 _ _
        obtain ⟨ld, hld⟩ : ∃ z, (if isFirst (rt.stops.take k) s then st.load else loadOf o s st.load) = z := ⟨_, rfl⟩
        obtain ⟨ht, hht⟩ : ∃ z, hereT d o (rt.stops.take k) st s = z := ⟨_, rfl⟩
        obtain ⟨ce, hce⟩ : ∃ z, carryE d o (rt.stops.take k) st s = z := ⟨_, rfl⟩
        have HTE : Hid (tellL l d s.ord ce = l ++ ht) := by show _ = _; rw [← hce, ← hht]; exact tell_carry
        have HLD := Lib.hid hld
        have HHT := Lib.hid hht
        have HCE := Lib.hid hce
        have hk0 : (0 : Int) ≤ (k : Int) := by omega
        have hk1 : (k : Int) ≤ (xn : Int) := by omega
        have hk2 : (k : Int) ≤ (xc : Int) := by omega
        clear hz4 HS3 HZ3 HK3 hld hht hce hoi hid
        go_upto_region 11 with fail
        obtain ⟨go, hgo⟩ : ∃ g, w3.heap.size = g := ⟨_, rfl⟩
        obtain ⟨w4, hw4⟩ : ∃ u, w3.alloc (.cells #[.int .i64 o.id, .int .i64 o.size, .int .i64 o.pick.place, .int .i64 o.pick.win.fr, .int .i64 o.pick.win.to, .int .i64 o.pick.serv, .int .i64 o.drop.place, .int .i64 o.drop.win.fr, .int .i64 o.drop.win.to, .int .i64 o.drop.serv] 31) = u := ⟨_, rfl⟩
        rw [hgo] at HX4
        rw [hw4] at HS4 HZ4 HK4 HX4
        (try rw [hgo])
        (try rw [hw4])
        clear hgo hw4
        go_cut [] (fun wx => (∃ v', Hid (TS w g (some ⟨bm, 0, none⟩) d ⟨st.at_, st.left, ld⟩ (l ++ ht) v' wx)) ∧ Hid (Stay w4 wx))
        case first =>
          have HC : Hid (∀ u, Stay w4 u → (u.cell? ⟨go, 0, none⟩ = some (.int .i64 o.id) ∧ u.cell? ⟨go, 1, none⟩ = some (.int .i64 o.size) ∧ u.cell? ⟨go, 2, none⟩ = some (.int .i64 o.pick.place) ∧ u.cell? ⟨go, 3, none⟩ = some (.int .i64 o.pick.win.fr) ∧ u.cell? ⟨go, 4, none⟩ = some (.int .i64 o.pick.win.to) ∧ u.cell? ⟨go, 5, none⟩ = some (.int .i64 o.pick.serv) ∧ u.cell? ⟨go, 6, none⟩ = some (.int .i64 o.drop.place) ∧ u.cell? ⟨go, 7, none⟩ = some (.int .i64 o.drop.win.fr) ∧ u.cell? ⟨go, 8, none⟩ = some (.int .i64 o.drop.win.to) ∧ u.cell? ⟨go, 9, none⟩ = some (.int .i64 o.drop.serv)) ∧ (u.cell? ⟨gs, 0, none⟩ = some (.int .i64 s.ord) ∧ u.cell? ⟨gs, 1, none⟩ = some (.bool s.drop)) ∧ u.cell? ⟨w.heap.size, 2, none⟩ = some (.slice (some ⟨b3, off3, none⟩) xn xc)) := fun u hu => by
            have h1 := OBox.cells (o := o) (hu.2 _ _ _ (by decide) (by decide) HX4.out)
            have h2 := hu.2 _ _ _ (by decide) (by decide) HK4.out
            have h3 := RBox.cells (x := ⟨rt, (some ⟨b3, off3, none⟩), xn, xc⟩) ((HZ4.out.trans hu).2 _ _ _ (by decide) (by decide) HX3.out)
            exact ⟨h1, ⟨h2.cell rfl, h2.cell rfl⟩, h3.2.2⟩
          have HCA : Hid (∀ u, Stay w4 u → TS w g (some ⟨bm, 0, none⟩) d st l v u → Calls Try.prog 55 #[.pointer (some ⟨g, 0, none⟩), ordV o, stpV s, .slice (some ⟨b3, off3, none⟩) k xc] u fun e u' => e = .returned (.int .i64 ce) ∧ TS w g (some ⟨bm, 0, none⟩) d ⟨st.at_, st.left, ld⟩ l v u' ∧ Stay w4 u') := fun u hu hq => by
            refine (acarry_any w g (some ⟨bm, 0, none⟩) d st l v o s (some ⟨b3, off3, none⟩) k xc (rt.stops.take k) ce ld u hq (stps_front (Recs.more (Recs.keep HST.out hq.old) hq.old.size) (by omega)) sz1 sz3 ll1 ll2 HID.out HCE.out HLD.out).mono ?_
            rintro e u' ⟨h1, h2, h3⟩
            exact ⟨h1, h2, hu.trans h3⟩
          have HTL : Hid (∀ u, Stay w4 u → TS w g (some ⟨bm, 0, none⟩) d ⟨st.at_, st.left, ld⟩ l v u → Calls Try.prog 54 #[.pointer (some ⟨g, 0, none⟩), .int .i64 o.id, .int .i64 ce] u fun e u' => e = .returned (.tuple #[]) ∧ (∃ v', Hid (TS w g (some ⟨bm, 0, none⟩) d ⟨st.at_, st.left, ld⟩ (l ++ ht) v' u')) ∧ Stay w4 u') := fun u hu hq => by
            refine (atell_any w g (some ⟨bm, 0, none⟩) d ⟨st.at_, st.left, ld⟩ l v o.id ce u hq (by have := HLN.out; omega)).mono ?_
            rintro e u' ⟨h1, ⟨v', h2⟩, h3⟩
            rw [HID.out, HTE.out] at h2
            exact ⟨h1, ⟨v', h2⟩, hu.trans h3⟩
          go_region_held3 (fun u => (u.cell? ⟨go, 0, none⟩ = some (.int .i64 o.id) ∧ u.cell? ⟨go, 1, none⟩ = some (.int .i64 o.size) ∧ u.cell? ⟨go, 2, none⟩ = some (.int .i64 o.pick.place) ∧ u.cell? ⟨go, 3, none⟩ = some (.int .i64 o.pick.win.fr) ∧ u.cell? ⟨go, 4, none⟩ = some (.int .i64 o.pick.win.to) ∧ u.cell? ⟨go, 5, none⟩ = some (.int .i64 o.pick.serv) ∧ u.cell? ⟨go, 6, none⟩ = some (.int .i64 o.drop.place) ∧ u.cell? ⟨go, 7, none⟩ = some (.int .i64 o.drop.win.fr) ∧ u.cell? ⟨go, 8, none⟩ = some (.int .i64 o.drop.win.to) ∧ u.cell? ⟨go, 9, none⟩ = some (.int .i64 o.drop.serv)) ∧ (u.cell? ⟨gs, 0, none⟩ = some (.int .i64 s.ord) ∧ u.cell? ⟨gs, 1, none⟩ = some (.bool s.drop)) ∧ u.cell? ⟨w.heap.size, 2, none⟩ = some (.slice (some ⟨b3, off3, none⟩) xn xc))
            (first
              | exact HC.out _ (Stay.refl _).drew
              | exact HC.out _ (by with_reducible assumption)
              | exact HC.out _ (Stay.drew (by with_reducible assumption)))
            (first
              | (go_at_call 55; (refine (HCA.out _ (by first | with_reducible assumption | exact (Stay.refl _).drew) (by first | with_reducible assumption | exact HS4.out.drew)).mono ?_); rintro e w' ⟨rfl, HT5, HZ5⟩)
              | (go_at_call 54; (refine (HTL.out _ (by with_reducible assumption) (by with_reducible assumption)).mono ?_); rintro e w' ⟨rfl, HT6, HZ6⟩))
          all_goals
            go_wp2_with fail
            go_meet
            exact ⟨HT6, Lib.hid HZ6⟩
        case rest =>
        obtain ⟨⟨v5, HS5⟩, hz5⟩ := hcut
        obtain ⟨w5, rfl⟩ : ∃ u, u = wc := ⟨_, rfl⟩
        have HZ5 := Lib.hid (HZ4.out.trans hz5.out)
        have HK5 := Lib.hid (hz5.out.2 _ _ _ (by decide) (by decide) HK4.out)
        have HX5 : Hid (OBox w5 go o) := hz5.out.2 _ _ _ (by decide) (by decide) HX4.out
        obtain ⟨si, hsi⟩ : ∃ z, siteOf o s = z := ⟨_, rfl⟩
        have HSI := Lib.hid hsi
        have hsv : 0 ≤ si.serv ∧ si.serv ≤ 1000000 := by rw [← hsi]; exact site_serv HKO.out s
        have hwn := right_iff.1 (site_win HKO.out s)
        rw [hsi] at hwn
        obtain ⟨wn1, wn2, wn3⟩ := hwn
        have wn4 : si.win.fr ≤ 1000000 := by omega
        obtain ⟨sv1, sv2⟩ := hsv
        obtain ⟨tt, htt⟩ : ∃ t, time ⟨mn, ml⟩ st.at_ si.place = t := ⟨_, rfl⟩
        have HTT := Lib.hid htt
        obtain ⟨hma, hmn, hmap⟩ := map_at (HM.out)
        obtain ⟨tb1, tb2⟩ := time_bounds hmap st.at_ si.place
        rw [htt] at tb1 tb2
        have HMA := Lib.hid hma
        obtain ⟨bg, hbg⟩ : ∃ z, beginA ⟨mn, ml⟩ o st s = z := ⟨_, rfl⟩
        have HBG := Lib.hid hbg
        have hbv : (if st.left + tt < si.win.fr then si.win.fr else st.left + tt) = bg := by
          rw [← hbg]; unfold beginA; rw [hsi, htt]
        have HBV := Lib.hid hbv
        obtain ⟨se, hse⟩ : ∃ z, serveE d si bg = z := ⟨_, rfl⟩
        have HSE := Lib.hid hse
        obtain ⟨lt, hlat⟩ : ∃ z, lateT ⟨mn, ml⟩ d o st s = z := ⟨_, rfl⟩
        have HLAT := Lib.hid hlat
        have HTE2 : Hid (tellL (l ++ ht) d s.ord se = (l ++ ht) ++ lt) := by
          show _ = _
          rw [← hse, ← hlat, ← hsi, ← hbg]
          exact tell_serve
        have HLH : Hid ((l ++ ht).length ≤ 100000) := by
          show _ ≤ _
          have h1 := here_len d o (rt.stops.take k) st s
          rw [HHT.out] at h1
          have := HLN.out
          rw [List.length_append]
          omega
        have HN : Hid (X = ((l ++ ht) ++ lt) ++ alongGo ⟨mn, ml⟩ d os (rt.stops.take (k + 1)) ⟨si.place, bg + si.serv, ld⟩ (rt.stops.drop (k + 1))) := by
          show _ = _
          have h1 := ag_next HG2.out HOF.out HHT.out HLAT.out
          unfold nextT at h1
          rw [HXS.out, HSI.out, HBG.out, HLD.out] at h1
          exact h1
        have HB2 : Hid (OA ⟨si.place, bg + si.serv, ld⟩ (k + 1)) := by
          have h1 := HB.out.next (seen := rt.stops.take k) HKO.out (s := s) (by rw [HSI.out, HTT.out]; exact ⟨tb1, tb2⟩)
          unfold nextT at h1
          rw [HSI.out, HBG.out, HLD.out] at h1
          exact h1
        have HLN2 : Hid (((l ++ ht) ++ lt).length ≤ 2 * (k + 1)) := by
          show _ ≤ _
          have h1 := here_len d o (rt.stops.take k) st s
          have h2 := late_len ⟨mn, ml⟩ d o st s
          rw [HHT.out] at h1
          rw [HLAT.out] at h2
          have := HLN.out
          simp only [List.length_append]
          omega
        clear hz5 HS4 HZ4 HK4 HX4 hsi htt hbg hbv hse hlat hma hmap
        go_upto_region 12 with fail
        have HC : Hid (∀ u, Stay w5 u → (u.cell? ⟨go, 0, none⟩ = some (.int .i64 o.id) ∧ u.cell? ⟨go, 1, none⟩ = some (.int .i64 o.size) ∧ u.cell? ⟨go, 2, none⟩ = some (.int .i64 o.pick.place) ∧ u.cell? ⟨go, 3, none⟩ = some (.int .i64 o.pick.win.fr) ∧ u.cell? ⟨go, 4, none⟩ = some (.int .i64 o.pick.win.to) ∧ u.cell? ⟨go, 5, none⟩ = some (.int .i64 o.pick.serv) ∧ u.cell? ⟨go, 6, none⟩ = some (.int .i64 o.drop.place) ∧ u.cell? ⟨go, 7, none⟩ = some (.int .i64 o.drop.win.fr) ∧ u.cell? ⟨go, 8, none⟩ = some (.int .i64 o.drop.win.to) ∧ u.cell? ⟨go, 9, none⟩ = some (.int .i64 o.drop.serv)) ∧ (u.cell? ⟨gs, 0, none⟩ = some (.int .i64 s.ord) ∧ u.cell? ⟨gs, 1, none⟩ = some (.bool s.drop))) := fun u hu => by
          have h1 := OBox.cells (o := o) (hu.2 _ _ _ (by decide) (by decide) HX5.out)
          have h2 := hu.2 _ _ _ (by decide) (by decide) HK5.out
          exact ⟨h1, ⟨h2.cell rfl, h2.cell rfl⟩⟩
        have HSV : Hid (∀ u, Stay w5 u → TS w g (some ⟨bm, 0, none⟩) d ⟨st.at_, st.left, ld⟩ (l ++ ht) v5 u → Calls Try.prog 57 #[ordV o, stpV s] u fun e u' => e = .returned (siteV si) ∧ TS w g (some ⟨bm, 0, none⟩) d ⟨st.at_, st.left, ld⟩ (l ++ ht) v5 u' ∧ Stay w5 u') := fun u hu hq => by
          refine (asite_any o s si u HSI.out).mono ?_
          rintro e u' ⟨h1, h2⟩
          exact ⟨h1, hq.next h2, hu.next h2⟩
        have HSR : Hid (∀ u, Stay w5 u → TS w g (some ⟨bm, 0, none⟩) d ⟨st.at_, st.left, ld⟩ (l ++ ht) v5 u → Calls Try.prog 56 #[.pointer (some ⟨g, 0, none⟩), siteV si] u fun e u' => e = .returned (.int .i64 se) ∧ TS w g (some ⟨bm, 0, none⟩) d ⟨si.place, bg + si.serv, ld⟩ (l ++ ht) v5 u' ∧ Stay w5 u') := fun u hu hq => by
          refine (aserve_any base bm mn ml w g d ⟨st.at_, st.left, ld⟩ (l ++ ht) v5 si tt bg se u hq (map_at (HM.out.keep hq.old)).1 hmn HTT.out tb1 tb2 lf1 lf3 sv1 sv2 wn1 wn4 HBV.out HSE.out).mono ?_
          rintro e u' ⟨h1, h2, h3⟩
          exact ⟨h1, h2, hu.trans h3⟩
        have HTL : Hid (∀ u, Stay w5 u → TS w g (some ⟨bm, 0, none⟩) d ⟨si.place, bg + si.serv, ld⟩ (l ++ ht) v5 u → Calls Try.prog 54 #[.pointer (some ⟨g, 0, none⟩), .int .i64 o.id, .int .i64 se] u fun e u' => e = .returned (.tuple #[]) ∧ (∃ v', Hid (TS w g (some ⟨bm, 0, none⟩) d ⟨si.place, bg + si.serv, ld⟩ ((l ++ ht) ++ lt) v' u')) ∧ Stay w5 u') := fun u hu hq => by
          refine (atell_any w g (some ⟨bm, 0, none⟩) d ⟨si.place, bg + si.serv, ld⟩ (l ++ ht) v5 o.id se u hq HLH.out).mono ?_
          rintro e u' ⟨h1, ⟨v', h2⟩, h3⟩
          rw [HID.out, HTE2.out] at h2
          exact ⟨h1, ⟨v', h2⟩, hu.trans h3⟩
        go_region_held3 (fun u => (u.cell? ⟨go, 0, none⟩ = some (.int .i64 o.id) ∧ u.cell? ⟨go, 1, none⟩ = some (.int .i64 o.size) ∧ u.cell? ⟨go, 2, none⟩ = some (.int .i64 o.pick.place) ∧ u.cell? ⟨go, 3, none⟩ = some (.int .i64 o.pick.win.fr) ∧ u.cell? ⟨go, 4, none⟩ = some (.int .i64 o.pick.win.to) ∧ u.cell? ⟨go, 5, none⟩ = some (.int .i64 o.pick.serv) ∧ u.cell? ⟨go, 6, none⟩ = some (.int .i64 o.drop.place) ∧ u.cell? ⟨go, 7, none⟩ = some (.int .i64 o.drop.win.fr) ∧ u.cell? ⟨go, 8, none⟩ = some (.int .i64 o.drop.win.to) ∧ u.cell? ⟨go, 9, none⟩ = some (.int .i64 o.drop.serv)) ∧ (u.cell? ⟨gs, 0, none⟩ = some (.int .i64 s.ord) ∧ u.cell? ⟨gs, 1, none⟩ = some (.bool s.drop)))
          (first
            | exact HC.out _ (Stay.refl _).drew
            | exact HC.out _ (by with_reducible assumption)
            | exact HC.out _ (Stay.drew (by with_reducible assumption)))
          (first
            | (go_at_call 57; (refine (HSV.out _ (by first | with_reducible assumption | exact (Stay.refl _).drew) (by first | with_reducible assumption | exact HS5.out.drew)).mono ?_); rintro e w' ⟨rfl, HT6, HZ6⟩)
            | (go_at_call 56; (refine (HSR.out _ (by with_reducible assumption) (by with_reducible assumption)).mono ?_); rintro e w' ⟨rfl, HT7, HZ7⟩)
            | (go_at_call 54; (refine (HTL.out _ (by with_reducible assumption) (by with_reducible assumption)).mono ?_); rintro e w' ⟨rfl, HT8, HZ8⟩))
        all_goals
          go_wp2_with fail
          go_roundw
          case rel => obtain ⟨v8, hs8⟩ := HT8; exact ⟨k + 1, ⟨si.place, bg + si.serv, ld⟩, (l ++ ht) ++ lt, v8, by omega, by go_num, hs8, Lib.hid (HZ5.out.trans HZ8), HN, HB2, HLN2⟩
          case measure => simp [intOf]; omega
#print axioms adriven_any
end Go.Proofs.Ytjklpdeeohhhnaa.Audit

/-
  The program's audit, walked: missed, Audit.
-/
namespace Go.Proofs.Ytjklpdeeohhhnaa.Audit
open Go.ChangeShapes Go.WideShapes Go.ChangeAt Go.RowKit Go.Proofs.Ytjklpdeeohhhnaa.Mem Go.Proofs.Ytjklpdeeohhhnaa.GeoMath Go.Proofs.Ytjklpdeeohhhnaa.FleetMath Go.Proofs.Ytjklpdeeohhhnaa.PlanMath Go.Proofs.Ytjklpdeeohhhnaa.CertMath Go.Proofs.Ytjklpdeeohhhnaa.AuditMath Go.Proofs.Ytjklpdeeohhhnaa.Rec Go.Proofs.Ytjklpdeeohhhnaa.Geo Go.Proofs.Ytjklpdeeohhhnaa.Span Go.Proofs.Ytjklpdeeohhhnaa.Deal Go.Proofs.Ytjklpdeeohhhnaa.Route Go.Proofs.Ytjklpdeeohhhnaa.Plan Go.Proofs.Ytjklpdeeohhhnaa.Cert
set_option linter.unusedVariables false
set_option linter.unusedSimpArgs false

theorem TL.more {X u u' : World} {v v' : Value} {l t : List Trb} (h : TL X v l u) (ho : OwnK u' X.heap.size 47 3 v' (l.length + t.length) (trbsV l ++ trbsV t)) (hg : u.grownBy u' v.ownBlock) : TL X v' (l ++ t) u' :=
  ⟨h.own.below h.below hg h.below.size (Nat.le_refl _), by rw [trbsV_append, List.length_append]; exact ho⟩
/-- the arguments don't go together just if Check says so of no certificate at all -/
theorem check_arg {m : Option Mp} {ds : List Drv} {os : List FleetMath.Ord} {p : List Rte} : ((checkC m ds os p []).2 == 1) = !wellC m ds os p := by
  cases h : wellC m ds os p with
  | false => rw [checkC_no h]; rfl
  | true =>
    obtain ⟨mm, rfl, _⟩ := wellC_parts h
    cases p with
    | nil => rw [checkC_go h rfl]; rfl
    | cons x r => rw [checkC_len h (by simp)]; rfl

set_option maxRecDepth 100000 in
set_option maxHeartbeats 4000000 in
theorem amissed_any (A2 : Option Addr) (n2 c2 : Nat) (os : List FleetMath.Ord) (A3 : Option Addr) (n3 c3 : Nat) (l : List RM) (w : World) (hn2 : n2 ≤ 64) (ho : Ords w w.heap.size A2 n2 os) (hl : Plns w w.heap.size A3 n3 l) :
    Calls Try.prog 30 #[.slice A2 n2 c2, .slice A3 n3 c3] w (MakesK w 47 3 (missT (l.map (·.rt)) os).length (trbsV (missT (l.map (·.rt)) os))) := by
  have hm2 := Recs.le ho
  have HO := Lib.hid ho
  have HP := Lib.hid hl
  have HL2 := Lib.hid ho.length
  obtain ⟨Y, hY⟩ : ∃ Y, missT (l.map (·.rt)) os = Y := ⟨_, rfl⟩
  have HG0 : Hid (Y = [] ++ missT (l.map (·.rt)) (os.drop 0)) := by show _ = _; rw [← hY, List.nil_append, List.drop_zero]
  rw [hY]
  have HS0 : Hid (TL w (.slice none 0 0) [] w) := TL.start w
  clear ho hl hY
  go_enter Try.func30, Try.ntmps30
  go_wp2_with fail
  go_loopw [5, 12] (fun v i wr => ∃ (k : Nat) (l' : List Trb), k ≤ n2 ∧ i = .int .i64 k ∧ Hid (TL w v l' wr) ∧ Hid (Y = l' ++ missT (l.map (·.rt)) (os.drop k)) ∧ Hid (l'.length ≤ k)) (fun _ i _ => n2 - (intOf i).toNat)
  case atStart => exact ⟨0, [], Nat.zero_le _, rfl, HS0, HG0, Lib.hid (by simp)⟩
  case round =>
    clear HS0 HG0
    obtain ⟨k, l', hk, rfl, HS, HG, HLN⟩ := hrel
    by_cases hlt : k < n2
    case neg =>
      have HE : Hid (Y = l') := by
        show _ = _
        have h1 := HG.out
        rw [List.drop_of_length_le (by rw [HL2.out]; omega)] at h1
        rw [h1]; simp [missT]
      clear HG
      go_wp2_with fail
      go_ret
      rw [HE.out]
      exact ⟨_, rfl, HS.out.below, HS.out.own⟩
    obtain ⟨b, off, o, rfl, _, ho, hdr, c0, c1, c2', c3', c4, c5, c6, c7, c8, c9⟩ := Ords.at_ (Recs.keep HO.out HS.out.below) hlt
    have HG1 := HG.out
    rw [hdr] at HG1
    have HN := Lib.hid (ms_next HG1)
    obtain ⟨fs, hfs⟩ : ∃ s, findP (l.map (·.rt)) o.id = s := ⟨_, rfl⟩
    rw [hfs] at HN
    have HFP : Hid (∀ u, Below w.heap.size w u → Calls Try.prog 20 #[.slice A3 n3 c3, .int .i64 o.id] u (fun e w' => e = .returned (spotV fs) ∧ Below u.heap.size u w')) := fun u hu => by
      have h1 := pfindp_any A3 n3 c3 l o.id u ((HP.out.keep hu).more hu.size)
      rw [hfs] at h1
      exact h1
    have HS1 := Lib.hid (HS.out.alloc (.cells #[.int .i64 o.id, .int .i64 o.size, .int .i64 o.pick.place, .int .i64 o.pick.win.fr, .int .i64 o.pick.win.to, .int .i64 o.pick.serv, .int .i64 o.drop.place, .int .i64 o.drop.win.fr, .int .i64 o.drop.win.to, .int .i64 o.drop.serv] 31))
    have HX1 : Hid (OBox (wr.alloc (.cells #[.int .i64 o.id, .int .i64 o.size, .int .i64 o.pick.place, .int .i64 o.pick.win.fr, .int .i64 o.pick.win.to, .int .i64 o.pick.serv, .int .i64 o.drop.place, .int .i64 o.drop.win.fr, .int .i64 o.drop.win.to, .int .i64 o.drop.serv] 31)) wr.heap.size o) := Blk.new wr _ _
    clear ho hdr hfs HG1 HG
    go_wp2_with fail
    refine (HFP.out _ (by exact HS1.out.below)).mono ?_
    rintro e w2 ⟨rfl, hb2⟩
    have HS2 := Lib.hid (HS1.out.next hb2)
    have HX2 := Lib.hid (OBox.below (o := o) HX1.out hb2)
    clear hb2 HFP HS HS1 HX1 c0 c1 c2' c3' c4 c5 c6 c7 c8 c9
    cases fs with
    | none =>
      have hv : spotV none = .tuple #[.agg #[.int .i64 0, .int .i64 0, .int .i64 0, .int .i64 0], .bool false] := rfl
      rw [hv]
      clear hv
      have HN1 := Lib.hid (HN.out.2 rfl)
      have HS3 := Lib.hid (HS2.out.alloc (.cells #[.int .i64 0, .int .i64 0, .int .i64 0, .int .i64 0] 67))
      have HX3 : Hid (OBox (w2.alloc (.cells #[.int .i64 0, .int .i64 0, .int .i64 0, .int .i64 0] 67)) wr.heap.size o) := OBox.below (o := o) HX2.out ((Below.refl _ _).alloc (Nat.le_refl _) _)
      obtain ⟨c0, _⟩ := OBox.cells (o := o) HX3.out
      have HA := Lib.hid (HS3.out.alloc (.cells #[.int .i64 0, .int .i64 o.id, .int .i64 19] 47))
      have HAB : Hid (Blk ((w2.alloc (.cells #[.int .i64 0, .int .i64 0, .int .i64 0, .int .i64 0] 67)).alloc (.cells #[.int .i64 0, .int .i64 o.id, .int .i64 19] 47)) (w2.heap.size + 1) 47 (tcells ⟨0, o.id, 19⟩)) := by
        have h1 := Blk.new (w2.alloc (.cells #[.int .i64 0, .int .i64 0, .int .i64 0, .int .i64 0] 67)) 47 (tcells ⟨0, o.id, 19⟩)
        rw [World.size_alloc] at h1
        exact h1
      have HAL : Hid (l'.length ≤ 100000) := by show _ ≤ _; have := HLN.out; omega
      clear HS2 HN HX2
      go_wp2_with (at_builtin; refine wpList_trb (o := ⟨some 30, _, _, _, _, _⟩) rfl (.tmp 25) (.tmp 29) rfl HA.out rfl ⟨0, o.id, 19⟩ HAB.out rfl HAL.out ?_; intro vB wB HQ HQK)
      go_roundw
      case rel => exact ⟨k + 1, l' ++ [⟨0, o.id, 19⟩], by omega, by go_num, HQ, HN1, Lib.hid (by have := HLN.out; simp only [List.length_append, List.length_cons, List.length_nil]; omega)⟩
      case measure => simp [intOf]; omega
    | some sp =>
      have hv : spotV (some sp) = .tuple #[.agg #[.int .i64 sp.drv, .int .i64 sp.pick, .int .i64 sp.drop, .int .i64 0], .bool true] := rfl
      rw [hv]
      clear hv
      have HN1 := Lib.hid (HN.out.1 rfl)
      have HS3 := Lib.hid (HS2.out.alloc (.cells #[.int .i64 sp.drv, .int .i64 sp.pick, .int .i64 sp.drop, .int .i64 0] 67))
      clear HS2 HN HX2
      go_wp2_with fail
      go_roundw
      case rel => exact ⟨k + 1, l', by omega, by go_num, HS3, HN1, Lib.hid (by have := HLN.out; omega)⟩
      case measure => simp [intOf]; omega

set_option maxRecDepth 100000 in
set_option maxHeartbeats 8000000 in
theorem paudit_any (base : Nat) (q : Option Addr) (m : Option Mp) (A : Option Addr) (n c : Nat) (ds : List Drv) (A2 : Option Addr) (n2 c2 : Nat) (os : List FleetMath.Ord) (A3 : Option Addr) (n3 c3 : Nat) (l : List RM) (w : World) (hnc : n ≤ c) (hnc2 : n2 ≤ c2) (hnc3 : n3 ≤ c3)
    (h : MapP w 77 base (.pointer q) m) (hd : Drvs w w.heap.size A n ds) (ho : Ords w w.heap.size A2 n2 os) (hl : Plns w w.heap.size A3 n3 l) :
    Calls Try.prog 10 #[.pointer q, .slice A n c, .slice A2 n2 c2, .slice A3 n3 c3] w (MakesK w 47 3 (auditM m ds os (l.map (·.rt))).length (trbsV (auditM m ds os (l.map (·.rt))))) := by
  have hm := Recs.le hl.rows
  have HD := Lib.hid hd
  have HO := Lib.hid ho
  have HP := Lib.hid hl
  have HL := Lib.hid hl.length
  have HL2 := Lib.hid ho.length
  have HM := Lib.hid h
  obtain ⟨rw', hrw⟩ : ∃ r, wellC m ds os (l.map (·.rt)) = r := ⟨_, rfl⟩
  have HW := Lib.hid hrw
  obtain ⟨Y, hY⟩ : ∃ Y, auditM m ds os (l.map (·.rt)) = Y := ⟨_, rfl⟩
  have HY := Lib.hid hY
  rw [hY]
  obtain ⟨f1, f2, hf⟩ : ∃ f1 f2, checkC m ds os (l.map (·.rt)) [] = (f1, f2) := ⟨_, _, rfl⟩
  have he := check_arg (m := m) (ds := ds) (os := os) (p := l.map (·.rt))
  rw [hf, hrw] at he
  simp only at he
  have HCK : Hid (Calls Try.prog 27 #[.pointer q, .slice A n c, .slice A2 n2 c2, .slice A3 n3 c3, .slice none 0 0] w (Gives w (faultV f1 f2))) := by
    have h1 := pchk_any base (.pointer q) m A n c ds A2 n2 c2 os A3 n3 c3 l none 0 0 [] w hnc hnc2 h hd ho hl ⟨⟨rfl, Nat.zero_le _, fun h => absurd h (by decide)⟩, fun r hr => by cases hr⟩
    rw [show ([] : List CM).map (·.vs) = [] from rfl, hf] at h1
    exact h1
  clear h hd ho hl hrw hY hf
  go_enter Try.func10, Try.ntmps10
  go_wp2_with fail
  refine HCK.out.mono ?_
  rintro e w0 ⟨rfl, hb0⟩
  have HB0 := Lib.hid hb0
  clear hb0 HCK
  go_wp2_with fail
  refine (perr_any f1 f2 _).mono ?_
  rintro e w1 ⟨rfl, hb1⟩
  have HB1 := Lib.hid (HB0.out.trans (hb1.mono HB0.out.size))
  clear hb1 HB0
  cases rw' with
  | false =>
    have e1 : (f2 == 1) = true := he
    have HF : Hid (Y = [⟨0, 0, 1⟩]) := HY.out.symm.trans (audit_wrong HW.out)
    clear he
    go_wp2_with fail
    go_ret
    rw [HF.out]
    exact ⟨_, rfl, HB1.out.alloc HB1.out.size _, own_trb w1 ⟨0, 0, 1⟩ HB1.out.size⟩
  | true =>
    have e1 : (f2 == 1) = false := he
    obtain ⟨mm, hmm, _, hkn, hrp, hdk, _⟩ := wellC_parts HW.out
    subst hmm
    have HKN := Lib.hid hkn
    have HRP := Lib.hid hrp
    have HDK := Lib.hid hdk
    have hn8 : n3 ≤ 8 := by
      have := rightP_few hrp
      rw [List.length_map, HL.out] at this
      exact this
    have hn2 : n2 ≤ 64 := by have := (known_iff.1 hkn).1; rw [HL2.out] at this; omega
    have HG0 : Hid (Y = [] ++ ((l.map (·.rt)).drop 0).flatMap (routeT mm ds os) ++ missT (l.map (·.rt)) os) := by
      show _ = _
      rw [← HY.out, audit_right HW.out, List.nil_append, List.drop_zero]
    have HS0 : Hid (TL w (.slice none 0 0) [] w1) := (TL.start w).next HB1.out
    clear hkn hrp hdk HB1 he
    go_wp2_with fail
    clear e1
    go_loopw [9, 23] (fun v i wr => ∃ (k : Nat) (l' : List Trb), k ≤ n3 ∧ i = .int .i64 k ∧ Hid (TL w v l' wr) ∧ Hid (Y = l' ++ ((l.map (·.rt)).drop k).flatMap (routeT mm ds os) ++ missT (l.map (·.rt)) os) ∧ Hid (l'.length ≤ 241 * k)) (fun _ i _ => n3 - (intOf i).toNat)
    case atStart => exact ⟨0, [], Nat.zero_le _, rfl, HS0, HG0, Lib.hid (by simp)⟩
    case round =>
      clear HS0 HG0
      obtain ⟨k, l', hk, rfl, HS, HG, HLN⟩ := hrel
      by_cases hlt : k < n3
      case neg =>
        obtain ⟨ms, hms⟩ : ∃ z, missT (l.map (·.rt)) os = z := ⟨_, rfl⟩
        have HE : Hid (Y = l' ++ ms) := by
          show _ = _
          have h1 := HG.out
          rw [List.drop_of_length_le (by rw [List.length_map, HL.out]; omega), hms] at h1
          rw [h1]; simp
        have hml : ms.length ≤ 64 := by
          rw [← hms]
          have h1 : (missT (l.map (·.rt)) os).length ≤ os.length := List.length_filterMap_le _ _
          have := HL2.out
          omega
        have hll : l'.length ≤ 2000 := by have := HLN.out; omega
        have HMS := Lib.hid hms
        clear HG hms
        go_wp2_with fail
        refine (amissed_any A2 n2 c2 os A3 n3 c3 l _ hn2 (by exact Recs.more (Recs.keep HO.out HS.out.below) HS.out.below.size) (by exact (HP.out.keep HS.out.below).more HS.out.below.size)).mono ?_
        rintro e w5 ⟨v5, rfl, hb5, ho5⟩
        rw [HMS.out] at ho5
        obtain ⟨A5, c5, rfl, _, hr5⟩ := ho5.read
        have HS5 := Lib.hid (HS.out.next hb5)
        have HR5 := Lib.hid hr5
        clear hb5 ho5 hr5 HS
        go_wp2_with (at_builtin; refine wpList_append_ks (o := ⟨some 39, _, _, _, _, _⟩) rfl (.tmp 35) (.tmp 38) Try.underlying43 infoTrb rfl (by decide) rfl (base := w.heap.size) HS5.out.own rfl HR5.out rfl (trbsV_one ms) (by unfold maxLen; omega) (by omega) (w0 := w) (B0 := w.heap.size) HS5.out.below HS5.out.below.size HS5.out.below.size (Nat.le_refl _) ?_; intro vB wB HO2 HB2 HG2; have HQ := Lib.hid (HS5.out.more HO2.out HG2.out); clear HO2 HB2 HG2)
        go_ret
        rw [HE.out]
        exact ⟨_, rfl, HQ.out.below, HQ.out.own⟩
      obtain ⟨b, off, x, hA3, hbb, hx, hdr, c0, c1, c2', hst, hxc⟩ := (HP.out.keep HS.out.below).at_ hlt
      subst hA3
      have HXX := Lib.hid hx
      have HPD : Hid ((l.map (·.rt)).drop k = x.rt :: (l.map (·.rt)).drop (k + 1)) := by
        show _ = _
        rw [← List.map_drop, hdr, List.map_cons, List.map_drop]
      have hx80 : x.rt.stops.length ≤ 80 := rightP_short HRP.out (List.mem_map.2 ⟨x, List.mem_of_getElem? hx, rfl⟩)
      have hxn : x.n ≤ 80 := by have := hst.length; omega
      obtain ⟨tr, htr⟩ : ∃ t, routeT mm ds os x.rt = t := ⟨_, rfl⟩
      have htl : tr.length ≤ 241 := by
        rw [← htr]
        cases hdo : drvOf ds x.rt.drv with
        | none => rw [routeT_none hdo]; simp
        | some d => rw [routeT_some hdo]; have := @alongM_len mm d os x.rt.stops; omega
      have HG1 := HG.out
      rw [HPD.out] at HG1
      have HN : Hid (Y = (l' ++ tr) ++ ((l.map (·.rt)).drop (k + 1)).flatMap (routeT mm ds os) ++ missT (l.map (·.rt)) os) := fm_next HG1 htr
      have HTR := Lib.hid htr
      have hln : l'.length ≤ 241 * k := HLN.out
      have HS3 := Lib.hid (HS.out.alloc (.cells #[.int .i64 x.rt.drv, .int .i64 x.rt.served, .slice x.a x.n x.c] 40))
      have HX3 : Hid (RBox (wr.alloc (.cells #[.int .i64 x.rt.drv, .int .i64 x.rt.served, .slice x.a x.n x.c] 40)) wr.heap.size x) := Blk.new wr _ _
      clear hx hdr hst HG1 HG htr
      go_upto_region 7 with fail
      obtain ⟨gx, hgx⟩ : ∃ g, wr.heap.size = g := ⟨_, rfl⟩
      obtain ⟨w3, hw3⟩ : ∃ u, wr.alloc (.cells #[.int .i64 x.rt.drv, .int .i64 x.rt.served, .slice x.a x.n x.c] 40) = u := ⟨_, rfl⟩
      rw [hgx] at HX3
      rw [hw3] at HS3 HX3
      (try rw [hgx])
      (try rw [hw3])
      clear hgx hw3 HS c0 c1 c2'
      obtain ⟨r0, r1, r2⟩ := RBox.cells (x := x) HX3.out
      go_wp2_with fail
      refine (adriven_any base q mm A n c ds A2 n2 c2 os x _ hxc hxn (by exact HM.out.keep HS3.out.below) HDK.out HKN.out (by exact Recs.more (Recs.keep HD.out HS3.out.below) HS3.out.below.size) (by exact Recs.more (Recs.keep HO.out HS3.out.below) HS3.out.below.size) (by exact Recs.more (((HP.out.keep HS3.out.below).each x (List.mem_of_getElem? HXX.out)).1) HS3.out.below.size)).mono ?_
      rintro e w5 ⟨v5, rfl, hb5, ho5⟩
      rw [HTR.out] at ho5
      obtain ⟨A5, c5, rfl, _, hr5⟩ := ho5.read
      have HS5 := Lib.hid (HS3.out.next hb5)
      have HR5 := Lib.hid hr5
      clear hb5 ho5 hr5 HS3 HX3 r0 r1 r2
      go_wp2_with (at_builtin; refine wpList_append_ks (o := ⟨some 33, _, _, _, _, _⟩) rfl (.tmp 27) (.tmp 32) Try.underlying43 infoTrb rfl (by decide) rfl (base := w.heap.size) HS5.out.own rfl HR5.out rfl (trbsV_one tr) (by unfold maxLen; omega) (by omega) (w0 := w) (B0 := w.heap.size) HS5.out.below HS5.out.below.size HS5.out.below.size (Nat.le_refl _) ?_; intro vB wB HO2 HB2 HG2; have HQ := Lib.hid (HS5.out.more HO2.out HG2.out); clear HO2 HB2 HG2)
      go_roundw
      case rel => exact ⟨k + 1, l' ++ tr, by omega, by go_num, HQ, HN, Lib.hid (by rw [List.length_append]; omega)⟩
      case measure => simp [intOf]; omega
#print axioms paudit_any
#print axioms pkept_any
end Go.Proofs.Ytjklpdeeohhhnaa.Audit
