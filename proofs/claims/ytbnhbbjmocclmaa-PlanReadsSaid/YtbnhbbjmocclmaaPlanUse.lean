/-
  The landed plan's contracts, as the statements' walks use them: all that was there before stays.
-/
import Derived.Test.YtbnhbbjmocclmaaPlanRuns
import Derived.Test.YtbnhbbjmocclmaaFramePlan
import Derived.Test.YtbnhbbjmocclmaaPlanKCopy
namespace Go.Proofs.Ytbnhbbjmocclmaa.Plan
open Go.ChangeShapes Go.WideShapes Go.ChangeAt Go.RowKit Go.Proofs.Ytbnhbbjmocclmaa.Mem Go.Proofs.Ytbnhbbjmocclmaa.MemI Go.Proofs.Ytbnhbbjmocclmaa.FleetMath Go.Proofs.Ytbnhbbjmocclmaa.PlanMath Go.Proofs.Ytbnhbbjmocclmaa.Rec Go.Proofs.Ytbnhbbjmocclmaa.Frames
set_option linter.unusedVariables false

theorem enc_len {l : List Rte} (h : rightP l = true) : (encP l).length ≤ 100000 := by
  have h1 := encRs_len (l := l) fun r hr => Wr.of h hr
  have h2 := rightP_few h
  have h3 := (WireMath.putN_len (n := (l.length : Int)) (i64_small (by omega) (by omega))).2
  unfold encP
  rw [List.length_append]
  omega
theorem encode_len (l : List Rte) : (encodeP l).length ≤ 100000 := by
  unfold encodeP
  split
  · rename_i h; exact enc_len h
  · simp
theorem Below.then {W u u' : World} (h : Below W.heap.size W u) (hb : Below u.heap.size u u') : Below W.heap.size W u' := h.trans (hb.mono h.size)
theorem all_few {l : List Rte} (h : ∀ r ∈ l, r.stops.length ≤ 80) : (allS l).length ≤ l.length * 80 := by
  induction l with
  | nil => simp [allS]
  | cons x r ih =>
    have e : allS (x :: r) = x.stops ++ allS r := by simp [allS]
    have h1 := h x (by simp)
    have h2 := ih fun q hq => h q (by simp [hq])
    rw [e, List.length_append, List.length_cons]
    omega
theorem right_all {l : List Rte} (h : rightP l = true) : (allS l).length * 8 ≤ 140737488351232 := by
  have h1 := all_few (l := l) fun r hr => boundR_len (rightP_bound h hr)
  have h2 := rightP_few h
  omega
theorem wf_small {z : Int} (h : 1 ≤ z ∧ z ≤ 1000000) : (Lit.int .i64 z).wf = true := by
  simp [Lit.wf, IntKind.min, IntKind.max, IntKind.signed, IntKind.bits]
  omega
/-- a plan that a call made, as the walks take it -/
theorem made_any {w w' : World} {v : Value} {p : List Rte} (h : Made w w' v p) : ∃ A c l', v = .slice A p.length c ∧ Below w.heap.size w w' ∧ Plns w' w'.heap.size A p.length l' ∧ l'.map (·.rt) = p ∧ l'.length = p.length ∧ NewP w w' v l' := by
  obtain ⟨l', h1, h2, h3⟩ := h
  obtain ⟨A, c, e, _, hp⟩ := h1.plns h3
  have hl : l'.length = p.length := by have := congrArg List.length h2; simpa using this
  rw [hl] at hp e
  exact ⟨A, c, l', e, h1.old, hp, h2, hl, h1⟩
section
variable (W u : World)
theorem use_copy (A : Option Addr) (n c : Nat) (l : List RM) (h : Plns u u.heap.size A n l) (hn : n * 40 ≤ 140737488351232) (hu : Below W.heap.size W u) :
    Calls Try.prog 25 #[.slice A n c] u fun e u' => ∃ B k l', e = .returned (.slice B n k) ∧ Below u.heap.size u u' ∧ Below W.heap.size W u' ∧ Plns u' u'.heap.size B n l' ∧ l'.map (·.rt) = l.map (·.rt) := by
  have hl := h.length
  refine (kcopy_any A n c l u h hn).mono ?_
  rintro e u' ⟨v, l', rfl, h1⟩
  have hr : l'.map (·.rt) = l.map (·.rt) := by rw [h1.rts, List.take_of_length_le (by omega)]
  obtain ⟨B, k, rfl, _, hp⟩ := h1.plan.plns h1.fits
  have hl' : l'.length = n := by have := congrArg List.length hr; simp only [List.length_map] at this; omega
  rw [hl'] at hp ⊢
  exact ⟨B, k, l', rfl, h1.plan.old, Below.then hu h1.plan.old, hp, hr⟩
theorem use_find (A : Option Addr) (n c : Nat) (l : List RM) (o : Int) (v : Value) (h : Plns u u.heap.size A n l) (hu : Below W.heap.size W u) (hv : spotV (findP (l.map (·.rt)) o) = v) :
    Calls Try.prog 11 #[.slice A n c, .int .i64 o] u fun e u' => e = .returned v ∧ Below u.heap.size u u' ∧ Below W.heap.size W u' := by
  refine (pfindp_any A n c l o u h).mono ?_
  rintro e u' ⟨rfl, hb⟩
  exact ⟨by rw [hv], hb, Below.then hu hb⟩
theorem use_orders (A : Option Addr) (n c : Nat) (l : List RM) (f : List Int) (k : Nat) (h : Plns u u.heap.size A n l) (hfit : (allS (l.map (·.rt))).length * 8 ≤ 140737488351232) (hu : Below W.heap.size W u) (hf : ordersM (l.map (·.rt)) = f) (hk : f.length = k) :
    Calls Try.prog 13 #[.slice A n c] u fun e u' => ∃ B q, e = .returned (.slice B k q) ∧ Below u.heap.size u u' ∧ Below W.heap.size W u' ∧ Ints u' u'.heap.size B k f := by
  subst hk
  refine (porders_any A n c l u h hfit).mono ?_
  rintro e u' ⟨v, rfl, hb, ho⟩
  rw [hf] at ho
  obtain ⟨B, q, rfl, _, hr⟩ := ho.read
  exact ⟨B, q, rfl, hb, Below.then hu hb, reads1 hr⟩
theorem use_without (A : Option Addr) (n c : Nat) (l : List RM) (A2 : Option Addr) (m c2 : Nat) (os : List Int) (p : List Rte) (h : Plns u u.heap.size A n l) (hn : n * 40 ≤ 140737488351232) (ho : Ints u u.heap.size A2 m os)
    (hw1 : ∀ r ∈ l, ∀ s ∈ r.rt.stops, (Lit.int .i64 s.ord).wf = true) (hw2 : ∀ z ∈ os, (Lit.int .i64 z).wf = true) (hu : Below W.heap.size W u) (hp : withoutP (l.map (·.rt)) os = p) :
    Calls Try.prog 14 #[.slice A n c, .slice A2 m c2] u fun e u' => ∃ B k l', e = .returned (.slice B p.length k) ∧ Below u.heap.size u u' ∧ Below W.heap.size W u' ∧ Plns u' u'.heap.size B p.length l' ∧ l'.map (·.rt) = p ∧ l'.length = p.length ∧ NewP u u' (.slice B p.length k) l' := by
  refine (pwithout_any A n c l A2 m c2 os u h hn ho hw1 hw2).mono ?_
  rintro e u' ⟨v, rfl, hv⟩
  rw [hp] at hv
  obtain ⟨B, k, l', rfl, hb, h1, h2, h3, h4⟩ := made_any hv
  exact ⟨B, k, l', rfl, hb, Below.then hu hb, h1, h2, h3, h4⟩
theorem use_with_no (A : Option Addr) (n c : Nat) (l : List RM) (o : Int) (s : Spt) (y : Int) (h : Plns u u.heap.size A n l) (hu : Below W.heap.size W u) (hr : withP (l.map (·.rt)) o s = none) :
    Calls Try.prog 15 #[.slice A n c, .int .i64 o, .agg #[.int .i64 s.drv, .int .i64 s.pick, .int .i64 s.drop, .int .i64 y]] u fun e u' => e = .returned (.tuple #[.slice none 0 0, .bool false]) ∧ Below u.heap.size u u' ∧ Below W.heap.size W u' := by
  refine (pwith_any A n c l o s y u h).mono ?_
  rintro e u' ⟨hb, hv⟩
  rw [hr] at hv
  exact ⟨hv, hb, Below.then hu hb⟩
theorem use_with (A : Option Addr) (n c : Nat) (l : List RM) (o : Int) (s : Spt) (y : Int) (p : List Rte) (h : Plns u u.heap.size A n l) (hu : Below W.heap.size W u) (hr : withP (l.map (·.rt)) o s = some p) :
    Calls Try.prog 15 #[.slice A n c, .int .i64 o, .agg #[.int .i64 s.drv, .int .i64 s.pick, .int .i64 s.drop, .int .i64 y]] u fun e u' => ∃ B k l', e = .returned (.tuple #[.slice B p.length k, .bool true]) ∧ Below u.heap.size u u' ∧ Below W.heap.size W u' ∧ Plns u' u'.heap.size B p.length l' ∧ l'.map (·.rt) = p ∧ l'.length = p.length ∧ NewP u u' (.slice B p.length k) l' := by
  refine (pwith_any A n c l o s y u h).mono ?_
  rintro e u' ⟨hb, hv⟩
  rw [hr] at hv
  obtain ⟨v, rfl, hv⟩ := hv
  obtain ⟨B, k, l', rfl, _, h1, h2, h3, h4⟩ := made_any hv
  exact ⟨B, k, l', rfl, hb, Below.then hu hb, h1, h2, h3, h4⟩
theorem use_encode (A : Option Addr) (n c : Nat) (l : List RM) (bs : List UInt8) (h : Plns u u.heap.size A n l) (hu : Below W.heap.size W u) (hbs : encodeP (l.map (·.rt)) = bs) :
    Calls Try.prog 21 #[.slice A n c] u fun e u' => ∃ B k, e = .returned (.slice B bs.length k) ∧ Below u.heap.size u u' ∧ Below W.heap.size W u' ∧ Bytes u' u'.heap.size B bs.length bs := by
  refine (pencode_any A n c l u h).mono ?_
  rintro e u' ⟨v, rfl, hv⟩
  rw [hbs] at hv
  obtain ⟨B, k, rfl, hr⟩ := hv.read
  exact ⟨B, k, rfl, hv.old, Below.then hu hv.old, hr.out⟩
theorem use_decode (A : Option Addr) (m c : Nat) (xs : List UInt8) (p : List Rte) (z : Int) (h : Bytes u u.heap.size A m xs) (hm : m ≤ 140737488355328) (hu : Below W.heap.size W u) (hd : decodeP xs = (p, z)) :
    Calls Try.prog 18 #[.slice A m c] u fun e u' => ∃ B k l', e = .returned (.tuple #[.slice B p.length k, .int .i64 z]) ∧ Below u.heap.size u u' ∧ Below W.heap.size W u' ∧ Plns u' u'.heap.size B p.length l' ∧ l'.map (·.rt) = p := by
  refine (pdecode_any A m c xs u h hm).mono ?_
  rintro e u' ⟨v, rfl, l', h1, h2, h3⟩
  rw [hd] at h2 ⊢
  obtain ⟨B, k, rfl, _, hp⟩ := h1.plns h3
  have hl : l'.length = p.length := by have := congrArg List.length h2; simpa using this
  rw [hl] at hp ⊢
  exact ⟨B, k, l', rfl, h1.old, Below.then hu h1.old, hp, h2⟩
theorem use_right (A : Option Addr) (n c : Nat) (l : List RM) (b : Bool) (h : Plns u u.heap.size A n l) (hu : Below W.heap.size W u) (hb : rightP (l.map (·.rt)) = b) :
    Calls Try.prog 19 #[.slice A n c] u fun e u' => e = .returned (.bool b) ∧ Below u.heap.size u u' ∧ Below W.heap.size W u' := by
  refine (pright_any A n c l u h).mono ?_
  rintro e u' ⟨rfl, h1⟩
  exact ⟨by rw [hb], h1, Below.then hu h1⟩
theorem use_runs (hu : Below W.heap.size W u) : Calls Try.prog 3 #[] u fun e u' => e = .returned (.bool true) ∧ Below W.heap.size W u' := by
  refine (runs_any u).mono ?_
  rintro e u' ⟨rfl, h1⟩
  exact ⟨rfl, Below.then hu h1⟩
theorem use_routes (A A' : Option Addr) (n c c' : Nat) (l m : List RM) (B B' : Nat) (h : Plns u B A n l) (h' : Plns u B' A' n m) (he : l.map (·.rt) = m.map (·.rt)) (hu : Below W.heap.size W u) :
    Calls Try.prog 17 #[.slice A n c, .slice A' n c'] u fun e u' => e = .returned (.bool true) ∧ Below u.heap.size u u' ∧ Below W.heap.size W u' := by
  refine (routes_yes A A' n c c' l m B B' u h h' he).mono ?_
  rintro e u' ⟨rfl, d, rfl⟩
  exact ⟨rfl, below_drewN _ _, Below.then hu (below_drewN _ _)⟩
theorem use_bytes (A A' : Option Addr) (n c c' : Nat) (xs : List UInt8) (B B' : Nat) (h : Bytes u B A n xs) (h' : Bytes u B' A' n xs) (hu : Below W.heap.size W u) :
    Calls Try.prog 20 #[.slice A n c, .slice A' n c'] u fun e u' => e = .returned (.bool true) ∧ Below u.heap.size u u' ∧ Below W.heap.size W u' := by
  refine (Mem.same_yes A A' n c n c' xs B B' u h h').mono ?_
  rintro e u' ⟨rfl, d, rfl⟩
  exact ⟨rfl, below_drewN _ _, Below.then hu (below_drewN _ _)⟩
end
#print axioms use_decode
end Go.Proofs.Ytbnhbbjmocclmaa.Plan
