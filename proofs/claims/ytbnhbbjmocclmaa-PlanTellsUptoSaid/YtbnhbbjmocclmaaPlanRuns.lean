/-
  Chapter 9's example runs come out as the chapter says (PlanRuns returns true), whatever the memory; only new memory is written.
-/
import Derived.Test.YtbnhbbjmocclmaaPlanCodec
import Derived.Test.YtbnhbbjmocclmaaPlanKRoutes
import Derived.Test.YtbnhbbjmocclmaaPlanPFind
import Derived.Test.YtbnhbbjmocclmaaPlanPOrders
import Derived.Test.YtbnhbbjmocclmaaPlanPWithout
import Derived.Test.YtbnhbbjmocclmaaPlanPWith
import Derived.Test.YtbnhbbjmocclmaaPlanPEncode
import Derived.Test.YtbnhbbjmocclmaaPlanPDecode
import Derived.Test.YtbnhbbjmocclmaaBooks
namespace Go.Proofs.Ytbnhbbjmocclmaa.Plan
open Go.ChangeShapes Go.WideShapes Go.ChangeAt Go.RowKit Go.Proofs.Ytbnhbbjmocclmaa.Mem Go.Proofs.Ytbnhbbjmocclmaa.MemI Go.Proofs.Ytbnhbbjmocclmaa.FleetMath Go.Proofs.Ytbnhbbjmocclmaa.PlanMath Go.Proofs.Ytbnhbbjmocclmaa.Rec
set_option linter.unusedVariables false
set_option linter.unusedSimpArgs false

theorem stps_blk {u : World} {g n : Nat} {t : TypeId} {l : List Stp} (h : Blk u g t (stpsV l)) (hl : l.length = n) (hn : n ≤ 64) : Stps u u.heap.size (some ⟨g, 0, none⟩) n l :=
  ⟨by rw [stpsV_len, hl], by unfold maxLen; omega, fun _ => ⟨g, 0, rfl, h.lt, fun j x hx => by rw [Nat.zero_add]; exact h.cell hx⟩⟩
theorem ints_blk {u : World} {g n : Nat} {t : TypeId} {l : List Int} (h : Blk u g t (intsV l)) (hl : l.length = n) (hn : n ≤ 64) : Ints u u.heap.size (some ⟨g, 0, none⟩) n l :=
  ⟨by rw [intsV_len, hl], by unfold maxLen; omega, fun _ => ⟨g, 0, rfl, h.lt, fun j x hx => by rw [Nat.zero_add]; exact h.cell hx⟩⟩
theorem bytes_blk {u : World} {g n : Nat} {t : TypeId} {l : List UInt8} (h : Blk u g t (bytesV l)) (hl : l.length = n) (hn : n ≤ 64) : Bytes u u.heap.size (some ⟨g, 0, none⟩) n l :=
  ⟨by rw [bytesV_len, hl], by unfold maxLen; omega, fun _ => ⟨g, 0, rfl, h.lt, fun j x hx => by rw [Nat.zero_add]; exact h.cell hx⟩⟩
/-- the runs' plan in memory -/
abbrev exM (W : World) : RM := ⟨exR0, some ⟨W.heap.size, 0, none⟩, 4, 4⟩
/-- the runs' state: the plan stands -/
structure PR (W u : World) : Prop where
  old : Below W.heap.size W u
  size : W.heap.size + 2 ≤ u.heap.size
  stops : Blk u W.heap.size 23 (stpsV exL)
  plan : Blk u (W.heap.size + 1) 26 (rmsV [exM W])
theorem PR.keep {W u u' : World} (h : PR W u) (hb : Below u.heap.size u u') : PR W u' :=
  ⟨h.old.trans (hb.mono h.old.size), Nat.le_trans h.size hb.size, h.stops.below hb (by have := h.size; omega), h.plan.below hb (by have := h.size; omega)⟩
theorem PR.plns {W u : World} (h : PR W u) : Plns u u.heap.size (some ⟨W.heap.size + 1, 0, none⟩) 1 [exM W] := by
  refine ⟨⟨rfl, by unfold maxLen; omega, fun _ => ⟨W.heap.size + 1, 0, rfl, h.plan.lt, fun j x hx => by rw [Nat.zero_add]; exact h.plan.cell hx⟩⟩, fun r hr => ?_⟩
  obtain rfl : r = exM W := by simpa using hr
  exact ⟨stps_blk (l := exL) (n := 4) h.stops rfl (by decide), Nat.le_refl _, by show 4 * 16 ≤ _; omega⟩
theorem PR.start (W : World) : PR W ((W.alloc (.cells (stpsV exL).toArray 23)).alloc (.cells (rmsV [exM W]).toArray 26)) := by
  refine ⟨((Below.refl _ _).alloc (Nat.le_refl _) _).alloc (by simp) _, by simp, ?_, ?_⟩
  · exact (Below.heap_alloc _ _ _ (by simp)).trans (Blk.new W 23 (stpsV exL))
  · have := Blk.new (W.alloc (.cells (stpsV exL).toArray 23)) 26 (rmsV [exM W])
    rw [World.size_alloc] at this
    exact this

theorem PR.front {W u : World} (h : PR W u) : Stps u u.heap.size (some ⟨W.heap.size, 0, none⟩) 2 [⟨1, false⟩, ⟨1, true⟩] := by
  refine ⟨rfl, by unfold maxLen; omega, fun _ => ⟨W.heap.size, 0, rfl, h.stops.lt, fun j x hx => ?_⟩⟩
  rw [Nat.zero_add]
  refine h.stops.cell ?_
  have e : stpsV exL = stpsV [⟨1, false⟩, ⟨1, true⟩] ++ stpsV [⟨2, false⟩, ⟨2, true⟩] := rfl
  rw [e, List.getElem?_append_left]
  · exact hx
  · rcases Nat.lt_or_ge j (stpsV [⟨1, false⟩, ⟨1, true⟩]).length with h1 | h1
    · exact h1
    · rw [List.getElem?_eq_none h1] at hx; cases hx
theorem below_drewN (w : World) (d : Nat) : Below w.heap.size w (w.drewN d) := ⟨(Below.refl w.heap.size w).os, (Below.refl w.heap.size w).tape, (Below.refl w.heap.size w).output, (Below.refl w.heap.size w).size, (Below.refl w.heap.size w).block⟩
theorem reads1 {u : World} {B n : Nat} {A : Option Addr} {vs : List Value} (h : Recs u B A n 1 vs) : Reads u B A n vs := ⟨by have := h.1; omega, h.2.1, h.2.2⟩
/-- a plan that was made keeps standing -/
theorem _root_.Go.Proofs.Ytbnhbbjmocclmaa.Rec.Plns.next {u u' : World} {n : Nat} {A : Option Addr} {l : List RM} (h : Plns u u.heap.size A n l) (hb : Below u.heap.size u u') : Plns u' u'.heap.size A n l := (h.keep hb).more hb.size
/-- a made plan of one route -/
theorem made_one {w w' : World} {v : Value} {x : Rte} (h : Made w w' v [x]) : ∃ A c a k, v = .slice A 1 c ∧ Plns w' w'.heap.size A 1 [⟨x, a, x.stops.length, k⟩] := by
  obtain ⟨l', h1, h2, h3⟩ := h
  obtain ⟨A, c, rfl, _, hp⟩ := h1.plns h3
  obtain ⟨r0, rfl⟩ : ∃ r : RM, l' = [r] := by
    cases l' with
    | nil => simp at h2
    | cons y t =>
      cases t with
      | nil => exact ⟨y, rfl⟩
      | cons z t => simp at h2
  obtain ⟨rt, a, n, k⟩ := r0
  have hr : rt = x := by simpa using h2
  subst hr
  have hn : rt.stops.length = n := (hp.each ⟨rt, a, n, k⟩ (by simp)).1.length
  subst hn
  exact ⟨A, c, a, k, by simp, by simpa using hp⟩
theorem one_cell {w : World} {B : Nat} {A : Option Addr} {x : RM} (h : Plns w B A 1 [x]) : ∃ b off, A = some ⟨b, off, none⟩ ∧ w.cell? ⟨b, off + 2, none⟩ = some (.slice x.a x.n x.c) ∧ Stps w B x.a x.n x.rt.stops := by
  obtain ⟨b, off, y, e, _, hy, _, _, _, c2, hs, _⟩ := h.at_ (i := 0) (by omega)
  obtain rfl : x = y := by simpa using hy
  exact ⟨b, off, e, by simpa using c2, hs⟩
section
variable (W u : World)
theorem run_find (o : Int) (r : Option Spt) (v : Value) (h : PR W u) (hr : findP [exR0] o = r) (hv : spotV r = v) :
    Calls Try.prog 11 #[.slice (some ⟨W.heap.size + 1, 0, none⟩) 1 1, .int .i64 o] u fun e u' => e = .returned v ∧ Below u.heap.size u u' := by
  refine (pfindp_any _ 1 1 [exM W] o _ h.plns).mono ?_
  rintro e u' ⟨rfl, hb⟩
  exact ⟨by rw [← hv, ← hr]; rfl, hb⟩
theorem run_orders (h : PR W u) :
    Calls Try.prog 13 #[.slice (some ⟨W.heap.size + 1, 0, none⟩) 1 1] u fun e u' => ∃ A c, e = .returned (.slice A 2 c) ∧ Below u.heap.size u u' ∧ Ints u' u'.heap.size A 2 [1, 2] := by
  refine (porders_any _ 1 1 [exM W] _ h.plns (by show 4 * 8 ≤ _; omega)).mono ?_
  rintro e u' ⟨v, rfl, hb, ho⟩
  rw [show ordersM ([exM W].map (·.rt)) = [1, 2] from x_orders] at ho
  obtain ⟨A, c, rfl, _, hr⟩ := ho.read
  exact ⟨A, c, rfl, hb, reads1 hr⟩
theorem run_without (g n : Nat) (os : List Int) (x : Rte) (h : PR W u) (ho : Ints u u.heap.size (some ⟨g, 0, none⟩) n os) (hw : ∀ z ∈ os, (Lit.int .i64 z).wf = true) (hr : withoutP [exR0] os = [x]) :
    Calls Try.prog 14 #[.slice (some ⟨W.heap.size + 1, 0, none⟩) 1 1, .slice (some ⟨g, 0, none⟩) n n] u fun e u' => ∃ A c a k, e = .returned (.slice A 1 c) ∧ Below u.heap.size u u' ∧ Plns u' u'.heap.size A 1 [⟨x, a, x.stops.length, k⟩] := by
  refine (pwithout_any _ 1 1 [exM W] _ n n os _ h.plns (by omega) ho ?_ hw).mono ?_
  · intro r hr s hs
    obtain rfl : r = exM W := by simpa using hr
    have : s ∈ exL := hs
    simp only [exL, List.mem_cons, List.not_mem_nil, or_false] at this
    rcases this with rfl | rfl | rfl | rfl <;> decide
  · rintro e u' ⟨v, rfl, hv⟩
    rw [show ([exM W].map (·.rt)) = [exR0] from rfl, hr] at hv
    have hb : Below u.heap.size u u' := by obtain ⟨_, h1, _⟩ := hv; exact h1.old
    obtain ⟨A, c, a, k, rfl, hp⟩ := made_one hv
    exact ⟨A, c, a, k, rfl, hb, hp⟩
theorem run_with0 (h : PR W u) :
    Calls Try.prog 15 #[.slice (some ⟨W.heap.size + 1, 0, none⟩) 1 1, .int .i64 9, .agg #[.int .i64 4, .int .i64 0, .int .i64 0, .int .i64 0]] u fun e u' => e = .returned (.tuple #[.slice none 0 0, .bool false]) ∧ Below u.heap.size u u' := by
  refine (pwith_any _ 1 1 [exM W] 9 ⟨4, 0, 0⟩ 0 _ h.plns).mono ?_
  rintro e u' ⟨hb, hv⟩
  rw [show ([exM W].map (·.rt)) = [exR0] from rfl, x_with0] at hv
  exact ⟨hv, hb⟩
theorem run_with1 (h : PR W u) :
    Calls Try.prog 15 #[.slice (some ⟨W.heap.size + 1, 0, none⟩) 1 1, .int .i64 9, .agg #[.int .i64 4, .int .i64 1, .int .i64 4, .int .i64 0]] u fun e u' => ∃ A c a k, e = .returned (.tuple #[.slice A 1 c, .bool true]) ∧ Below u.heap.size u u' ∧ Plns u' u'.heap.size A 1 [⟨⟨4, 1, [⟨1, false⟩, ⟨9, false⟩, ⟨1, true⟩, ⟨2, false⟩, ⟨2, true⟩, ⟨9, true⟩]⟩, a, 6, k⟩] := by
  refine (pwith_any _ 1 1 [exM W] 9 ⟨4, 1, 4⟩ 0 _ h.plns).mono ?_
  rintro e u' ⟨hb, hv⟩
  rw [show ([exM W].map (·.rt)) = [exR0] from rfl, x_with1] at hv
  obtain ⟨v, rfl, hv⟩ := hv
  obtain ⟨A, c, a, k, rfl, hp⟩ := made_one hv
  exact ⟨A, c, a, k, rfl, hb, hp⟩
theorem run_decode (g n : Nat) (xs : List UInt8) (z : Int) (hb : Bytes u u.heap.size (some ⟨g, 0, none⟩) n xs) (hn : n ≤ 64) (hz : (decodeP xs).2 = z) :
    Calls Try.prog 18 #[.slice (some ⟨g, 0, none⟩) n n] u fun e u' => ∃ v, e = .returned (.tuple #[v, .int .i64 z]) ∧ Below u.heap.size u u' := by
  refine (pdecode_any _ n n xs _ hb (by omega)).mono ?_
  rintro e u' ⟨v, rfl, l', h1, _⟩
  exact ⟨v, by rw [hz], h1.old⟩
theorem run_right (h : PR W u) : Calls Try.prog 19 #[.slice (some ⟨W.heap.size + 1, 0, none⟩) 1 1] u fun e u' => e = .returned (.bool true) ∧ Below u.heap.size u u' := by
  refine (pright_any _ 1 1 [exM W] _ h.plns).mono ?_
  rintro e u' ⟨rfl, hb⟩
  exact ⟨by rw [show ([exM W].map (·.rt)) = [exR0] from rfl, x_right], hb⟩
theorem run_encode (h : PR W u) : Calls Try.prog 21 #[.slice (some ⟨W.heap.size + 1, 0, none⟩) 1 1] u fun e u' => ∃ A c, e = .returned (.slice A 12 c) ∧ Below u.heap.size u u' ∧ Bytes u' u'.heap.size A 12 [2, 8, 8, 2, 2, 0, 2, 1, 4, 0, 4, 1] := by
  refine (pencode_any _ 1 1 [exM W] _ h.plns).mono ?_
  rintro e u' ⟨v, rfl, hv⟩
  rw [show ([exM W].map (·.rt)) = [exR0] from rfl, x_encode] at hv
  obtain ⟨A, c, rfl, hr⟩ := hv.read
  exact ⟨A, c, rfl, hv.old, hr.out⟩
end

set_option maxRecDepth 100000 in
set_option maxHeartbeats 8000000 in
theorem runs_any (W : World) : Calls Try.prog 3 #[] W (fun e w' => e = .returned (.bool true) ∧ Below W.heap.size W w') := by
  have H0 := Lib.hid (PR.start W)
  go_enter Try.func3, Try.ntmps3
  go_wp2_with fail
  refine (run_find W _ 2 _ (.tuple #[.agg #[.int .i64 4, .int .i64 2, .int .i64 3, .int .i64 0], .bool true]) (by exact H0.out) x_find2 rfl).mono ?_
  rintro e w1 ⟨rfl, hb⟩
  have R1 := Lib.hid (H0.out.keep hb)
  clear hb H0
  have R1a := Lib.hid (R1.out.keep ((Below.refl w1.heap.size w1).alloc (Nat.le_refl _) (.cells #[.int .i64 4, .int .i64 2, .int .i64 3, .int .i64 0] 30)))
  have B1 := Lib.hid (Blk.new w1 30 [.int .i64 4, .int .i64 2, .int .i64 3, .int .i64 0])
  clear R1
  go_wp2_with fail
  refine (run_find W _ 3 _ (.tuple #[.agg #[.int .i64 0, .int .i64 0, .int .i64 0, .int .i64 0], .bool false]) (by exact R1a.out) x_find3 rfl).mono ?_
  rintro e w2 ⟨rfl, hb⟩
  have hb2 := hb.trans (((Below.refl w2.heap.size w2).alloc (Nat.le_refl _) (.cells #[.int .i64 0, .int .i64 0, .int .i64 0, .int .i64 0] 30)).mono hb.size)
  have R2 := Lib.hid (R1a.out.keep hb2)
  have B2 := Lib.hid (Blk.new w2 30 [.int .i64 0, .int .i64 0, .int .i64 0, .int .i64 0])
  have B1a := Lib.hid (B1.out.below hb2 B1.out.lt)
  clear hb hb2 R1a B1
  have c0 := B1a.out.cell (i := 0) rfl
  have c1 := B1a.out.cell (i := 1) rfl
  have c2 := B1a.out.cell (i := 2) rfl
  have c3 := B1a.out.cell (i := 3) rfl
  have d0 := B2.out.cell (i := 0) rfl
  have d1 := B2.out.cell (i := 1) rfl
  have d2 := B2.out.cell (i := 2) rfl
  have d3 := B2.out.cell (i := 3) rfl
  clear B1a B2
  go_wp2_with fail
  refine (run_orders W _ (by exact R2.out)).mono ?_
  rintro e w3 ⟨A3, c3', rfl, hb, hi⟩
  have R3 := Lib.hid (R2.out.keep hb)
  clear hb R2 c0 c1 c2 c3 d0 d1 d2 d3
  have hb4 : Below w3.heap.size w3 (w3.alloc (.cells #[.int .i64 1, .int .i64 2] 3)) := (Below.refl w3.heap.size w3).alloc (Nat.le_refl _) _
  have R4 := Lib.hid (R3.out.keep hb4)
  have I4 : Hid (Ints (w3.alloc (.cells #[.int .i64 1, .int .i64 2] 3)) w3.heap.size A3 2 [1, 2]) := Reads.keep hi hb4
  have J4 := Lib.hid (ints_blk (l := [1, 2]) (n := 2) (Blk.new w3 3 [.int .i64 1, .int .i64 2]) rfl (by decide))
  clear hi hb4 R3
  go_wp2_with fail
  refine (MemI.same_yes _ _ 2 _ 2 _ [1, 2] _ _ _ (by exact I4.out) (by exact J4.out)).mono ?_
  rintro e w5 ⟨rfl, dn, hw⟩
  have R5 : Hid (PR W w5) := by
    rw [hw]
    exact R4.out.keep (below_drewN _ _)
  clear hw I4 J4 R4
  have R6 := Lib.hid (R5.out.keep ((Below.refl w5.heap.size w5).alloc (Nat.le_refl _) (.cells #[.int .i64 1, .int .i64 2] 3)))
  have J6 := Lib.hid (ints_blk (l := [1, 2]) (n := 2) (Blk.new w5 3 [.int .i64 1, .int .i64 2]) rfl (by decide))
  clear R5
  go_wp2_with fail
  refine (run_without W _ _ 2 [1, 2] _ (by exact R6.out) (by exact J6.out) (by decide) x_out2).mono ?_
  rintro e w7 ⟨A7, c7, a7, k7, rfl, hb, hp7⟩
  have hb7 := hb.trans (((Below.refl w7.heap.size w7).alloc (Nat.le_refl _) (.cells #[.int .i64 3] 3)).mono hb.size)
  have R7 := Lib.hid (R6.out.keep hb7)
  have P7 := Lib.hid (hp7.next ((Below.refl w7.heap.size w7).alloc (Nat.le_refl _) (.cells #[.int .i64 3] 3)))
  have J7 := Lib.hid (ints_blk (l := [3]) (n := 1) (Blk.new w7 3 [.int .i64 3]) rfl (by decide))
  clear hb hb7 hp7 R6 J6
  go_wp2_with fail
  refine (run_without W _ _ 1 [3] _ (by exact R7.out) (by exact J7.out) (by decide) x_out1).mono ?_
  rintro e w8 ⟨A8, c8, a8, k8, rfl, hb, hp8⟩
  have R8 := Lib.hid (R7.out.keep hb)
  have P78 := Lib.hid (P7.out.next hb)
  have P8 := Lib.hid hp8
  clear hb hp8 R7 P7 J7
  go_wp2_with fail
  refine (run_with0 W _ (by exact R8.out)).mono ?_
  rintro e w9 ⟨rfl, hb⟩
  have R9 := Lib.hid (R8.out.keep hb)
  have P79 := Lib.hid (P78.out.next hb)
  have P89 := Lib.hid (P8.out.next hb)
  clear hb R8 P78 P8
  go_wp2_with fail
  refine (run_with1 W _ (by exact R9.out)).mono ?_
  rintro e wa ⟨Aa, ca, aa, ka, rfl, hb, hpa⟩
  have Ra := Lib.hid (R9.out.keep hb)
  have Pc := Lib.hid (P79.out.next hb)
  have Pd := Lib.hid (P89.out.next hb)
  have Pe := Lib.hid hpa
  clear hb R9 P79 P89 hpa
  obtain ⟨bc, oc, rfl, z2, hsc⟩ := one_cell Pc.out
  obtain ⟨be, oe, rfl, y2, hse⟩ := one_cell Pe.out
  have HS : Hid (∀ q, Calls Try.prog 16 #[.slice a7 2 k7, .slice (some ⟨W.heap.size, 0, none⟩) 2 4] (wa.drewN q) (Quietly (wa.drewN q) (.bool true))) := fun q => sameStp _ _ 2 _ _ [⟨1, false⟩, ⟨1, true⟩] _ _ _ (Recs.drewN hsc q) (Recs.drewN Ra.out.front q)
  have HR : Hid (∀ q, Calls Try.prog 17 #[.slice A8 1 c8, .slice (some ⟨W.heap.size + 1, 0, none⟩) 1 1] (wa.drewN q) (Quietly (wa.drewN q) (.bool true))) := fun q => routes_yes _ _ 1 _ _ _ _ _ _ _ (Drew.plns ⟨q, rfl⟩ Pd.out) (Drew.plns ⟨q, rfl⟩ Ra.out.plns) rfl
  have HSE := Lib.hid hse
  clear hsc hse
  go_wp2_with fail
  go_quiet (first | (go_at_call 16; with_reducible exact quiet_in (HS.out _)) | (go_at_call 17; with_reducible exact quiet_in (HR.out _)))
  have Rb : Hid (PR W (wa.drewN nq)) := Ra.out.keep (below_drewN _ _)
  have Rb1 := Lib.hid (Rb.out.keep ((Below.refl (wa.drewN nq).heap.size (wa.drewN nq)).alloc (Nat.le_refl _) (.cells #[.int .i64 1, .bool false, .int .i64 9, .bool false, .int .i64 1, .bool true, .int .i64 2, .bool false, .int .i64 2, .bool true, .int .i64 9, .bool true] 23)))
  have SA : Hid (Stps ((wa.drewN nq).alloc (.cells #[.int .i64 1, .bool false, .int .i64 9, .bool false, .int .i64 1, .bool true, .int .i64 2, .bool false, .int .i64 2, .bool true, .int .i64 9, .bool true] 23)) wa.heap.size aa 6 [⟨1, false⟩, ⟨9, false⟩, ⟨1, true⟩, ⟨2, false⟩, ⟨2, true⟩, ⟨9, true⟩]) := Recs.keep (Recs.drewN HSE.out nq) ((Below.refl (wa.drewN nq).heap.size (wa.drewN nq)).alloc (Nat.le_refl _) _)
  have SB := Lib.hid (stps_blk (l := [⟨1, false⟩, ⟨9, false⟩, ⟨1, true⟩, ⟨2, false⟩, ⟨2, true⟩, ⟨9, true⟩]) (n := 6) (Blk.new (wa.drewN nq) 23 [.int .i64 1, .bool false, .int .i64 9, .bool false, .int .i64 1, .bool true, .int .i64 2, .bool false, .int .i64 2, .bool true, .int .i64 9, .bool true]) rfl (by decide))
  clear HS HR HSE Ra Rb Pc Pd Pe z2
  go_wp2_with fail
  refine (sameStp _ _ 6 _ _ [⟨1, false⟩, ⟨9, false⟩, ⟨1, true⟩, ⟨2, false⟩, ⟨2, true⟩, ⟨9, true⟩] _ _ _ (by exact SA.out) (by exact SB.out)).mono ?_
  rintro e wc ⟨rfl, dn, hw⟩
  have Rc : Hid (PR W wc) := by
    rw [hw]
    exact Rb1.out.keep (below_drewN _ _)
  clear hw SA SB Rb1 y2
  have Rd := Lib.hid (Rc.out.keep ((Below.refl wc.heap.size wc).alloc (Nat.le_refl _) (.cells #[.int .u8 2, .int .u8 8, .int .u8 2, .int .u8 4, .int .u8 2, .int .u8 0] 5)))
  have Jd := Lib.hid (bytes_blk (l := [2, 8, 2, 4, 2, 0]) (n := 6) (Blk.new wc 5 [.int .u8 2, .int .u8 8, .int .u8 2, .int .u8 4, .int .u8 2, .int .u8 0]) rfl (by decide))
  clear Rc
  go_wp2_with fail
  refine (run_decode _ _ 6 [2, 8, 2, 4, 2, 0] 4 (by exact Jd.out) (by decide) x_dec1).mono ?_
  rintro e we ⟨v1, rfl, hb⟩
  have Re := Lib.hid (Rd.out.keep (hb.trans (((Below.refl we.heap.size we).alloc (Nat.le_refl _) (.cells #[.int .u8 2, .int .u8 8] 5)).mono hb.size)))
  have Je := Lib.hid (bytes_blk (l := [2, 8]) (n := 2) (Blk.new we 5 [.int .u8 2, .int .u8 8]) rfl (by decide))
  clear hb Rd Jd
  go_wp2_with fail
  refine (run_decode _ _ 2 [2, 8] 3 (by exact Je.out) (by decide) x_dec2).mono ?_
  rintro e wf ⟨v2, rfl, hb⟩
  have Rf := Lib.hid (Re.out.keep (hb.trans (((Below.refl wf.heap.size wf).alloc (Nat.le_refl _) (.cells #[.int .u8 2, .int .u8 8, .int .u8 0, .int .u8 0, .int .u8 7] 5)).mono hb.size)))
  have Jf := Lib.hid (bytes_blk (l := [2, 8, 0, 0, 7]) (n := 5) (Blk.new wf 5 [.int .u8 2, .int .u8 8, .int .u8 0, .int .u8 0, .int .u8 7]) rfl (by decide))
  clear hb Re Je
  go_wp2_with fail
  refine (run_decode _ _ 5 [2, 8, 0, 0, 7] 5 (by exact Jf.out) (by decide) x_dec3).mono ?_
  rintro e wg ⟨v3, rfl, hb⟩
  have Rg := Lib.hid (Rf.out.keep hb)
  clear hb Rf Jf
  go_wp2_with fail
  refine (run_right W _ (by exact Rg.out)).mono ?_
  rintro e wh ⟨rfl, hb⟩
  have Rh := Lib.hid (Rg.out.keep hb)
  clear hb Rg
  go_wp2_with fail
  refine (run_encode W _ (by exact Rh.out)).mono ?_
  rintro e wi ⟨Ai, ci, rfl, hb, hx⟩
  have hbi : Below wi.heap.size wi (wi.alloc (.cells #[.int .u8 2, .int .u8 8, .int .u8 8, .int .u8 2, .int .u8 2, .int .u8 0, .int .u8 2, .int .u8 1, .int .u8 4, .int .u8 0, .int .u8 4, .int .u8 1] 5)) := (Below.refl wi.heap.size wi).alloc (Nat.le_refl _) _
  have Ri := Lib.hid (Rh.out.keep (hb.trans (hbi.mono hb.size)))
  have Ki : Hid (Bytes (wi.alloc (.cells #[.int .u8 2, .int .u8 8, .int .u8 8, .int .u8 2, .int .u8 2, .int .u8 0, .int .u8 2, .int .u8 1, .int .u8 4, .int .u8 0, .int .u8 4, .int .u8 1] 5)) wi.heap.size Ai 12 [2, 8, 8, 2, 2, 0, 2, 1, 4, 0, 4, 1]) := Reads.keep hx hbi
  have Ji := Lib.hid (bytes_blk (l := [2, 8, 8, 2, 2, 0, 2, 1, 4, 0, 4, 1]) (n := 12) (Blk.new wi 5 [.int .u8 2, .int .u8 8, .int .u8 8, .int .u8 2, .int .u8 2, .int .u8 0, .int .u8 2, .int .u8 1, .int .u8 4, .int .u8 0, .int .u8 4, .int .u8 1]) rfl (by decide))
  clear hb hx hbi Rh
  go_wp2_with fail
  refine (Mem.same_yes _ _ 12 _ 12 _ [2, 8, 8, 2, 2, 0, 2, 1, 4, 0, 4, 1] _ _ _ (by exact Ki.out) (by exact Ji.out)).mono ?_
  rintro e wj ⟨rfl, dn, hw⟩
  have Rj : Hid (Below W.heap.size W wj) := by
    rw [hw]
    exact (Ri.out.keep (below_drewN _ _)).old
  clear hw Ki Ji Ri
  go_wp2
  go_ret
  exact ⟨rfl, Rj.out⟩

#print axioms runs_any
end Go.Proofs.Ytbnhbbjmocclmaa.Plan
