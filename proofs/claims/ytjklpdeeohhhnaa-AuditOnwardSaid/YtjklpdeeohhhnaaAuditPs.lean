/-
  AuditPSmall, AuditPWalk: one text.
-/
import Derived.Test.YtjklpdeeohhhnaaCertSmalls
import Derived.Test.YtjklpdeeohhhnaaCertFinds
import Derived.Test.YtjklpdeeohhhnaaAuditMaths
import Derived.Test.YtjklpdeeohhhnaaAuditRW
import Derived.Test.YtjklpdeeohhhnaaRouteSmall
import Derived.Test.YtjklpdeeohhhnaaRouteDrivesP
import Derived.Lib.MinMax
import Derived.Deep.RegionLaw
import Derived.Deep.DeepCutAuto
/-
  The program's audit, walked: pickup, delivery, site, done; slices.Equal over stops.
-/
namespace Go.Proofs.Ytjklpdeeohhhnaa.Audit
open Go.ChangeShapes Go.WideShapes Go.ChangeAt Go.RowKit Go.Proofs.Ytjklpdeeohhhnaa.Mem Go.Proofs.Ytjklpdeeohhhnaa.GeoMath Go.Proofs.Ytjklpdeeohhhnaa.FleetMath Go.Proofs.Ytjklpdeeohhhnaa.PlanMath Go.Proofs.Ytjklpdeeohhhnaa.CertMath Go.Proofs.Ytjklpdeeohhhnaa.AuditMath Go.Proofs.Ytjklpdeeohhhnaa.Rec Go.Proofs.Ytjklpdeeohhhnaa.Geo Go.Proofs.Ytjklpdeeohhhnaa.Span Go.Proofs.Ytjklpdeeohhhnaa.Deal Go.Proofs.Ytjklpdeeohhhnaa.Route Go.Proofs.Ytjklpdeeohhhnaa.Plan Go.Proofs.Ytjklpdeeohhhnaa.Cert
set_option linter.unusedVariables false
set_option linter.unusedSimpArgs false

theorem apickup_any (v : Int) (w : World) : Calls Try.prog 80 #[.int .i64 v] w (fun e w' => e = .returned (stpV ⟨v, false⟩) ∧ Below w.heap.size w w') := by
  go_enter Try.func80, Try.ntmps80
  go_wp2
  refine bodyPost_ret (v := stpV ⟨v, false⟩) ?_ rfl ⟨rfl, ?_⟩
  · simp [results, Try.results80, go_sem]
  · exact (Below.refl _ _).alloc (Nat.le_refl _) _
theorem adelivery_any (v : Int) (w : World) : Calls Try.prog 59 #[.int .i64 v] w (fun e w' => e = .returned (stpV ⟨v, true⟩) ∧ Below w.heap.size w w') := by
  go_enter Try.func59, Try.ntmps59
  go_wp2
  refine bodyPost_ret (v := stpV ⟨v, true⟩) ?_ rfl ⟨rfl, ?_⟩
  · simp [results, Try.results59, go_sem]
  · exact (Below.refl _ _).alloc (Nat.le_refl _) _
theorem asite_any (o : FleetMath.Ord) (s : Stp) (si : Site) (w : World) (hs : siteOf o s = si) : Calls Try.prog 57 #[ordV o, stpV s] w (fun e w' => e = .returned (siteV si) ∧ Below w.heap.size w w') := by
  obtain ⟨so, sd⟩ := s
  cases sd with
  | true =>
    have h1 : o.drop = si := hs
    subst h1
    clear hs
    go_enter Try.func57, Try.ntmps57
    go_wp2
    refine bodyPost_ret (v := siteV o.drop) ?_ rfl ⟨rfl, ?_⟩
    · simp [results, Try.results57, go_sem]
    · exact (((Below.refl _ _).alloc (Nat.le_refl _) _).alloc (by simp) _).alloc (by simp; omega) _
  | false =>
    have h1 : o.pick = si := hs
    subst h1
    clear hs
    go_enter Try.func57, Try.ntmps57
    go_wp2
    refine bodyPost_ret (v := siteV o.pick) ?_ rfl ⟨rfl, ?_⟩
    · simp [results, Try.results57, go_sem]
    · exact (((Below.refl _ _).alloc (Nat.le_refl _) _).alloc (by simp) _).alloc (by simp; omega) _
theorem adonep_any (x : RM) (k : Nat) (w : World) (hk : x.rt.served = (k : Int)) (h1 : k ≤ x.n) (h2 : x.n ≤ x.c) (h3 : x.n ≤ 9223372036854775807) :
    Calls Try.prog 33 #[rteV x] w (fun e w' => e = .returned (.slice x.a k x.c) ∧ Below w.heap.size w w') := by
  obtain ⟨⟨drv, served, stops⟩, a, n, c⟩ := x
  simp only at hk h1 h2 h3
  subst hk
  have h4 : (0 : Int) ≤ (k : Int) := by omega
  have h5 : (k : Int) ≤ (n : Int) := by omega
  have h6 : (k : Int) ≤ (c : Int) := by omega
  go_enter Try.func33, Try.ntmps33
  go_wp2
  go_ret
  exact ⟨rfl, (Below.refl _ _).alloc (Nat.le_refl _) _⟩

set_option maxRecDepth 100000 in
set_option maxHeartbeats 4000000 in
theorem aequal_any (A : Option Addr) (n c : Nat) (l1 : List Stp) (A3 : Option Addr) (n3 c3 : Nat) (l2 : List Stp) (b : Bool) (w : World) (hv : Stps w w.heap.size A n l1) (hs : Stps w w.heap.size A3 n3 l2) (hb : decide (l1 = l2) = b) :
    Calls Try.prog 32 #[.slice A n c, .slice A3 n3 c3] w (fun e w' => e = .returned (.bool b) ∧ Below w.heap.size w w') := by
  have hm := Recs.le hv
  have hm3 := Recs.le hs
  have HV := Lib.hid hv
  have HST := Lib.hid hs
  have HL := Lib.hid hv.length
  have HL3 := Lib.hid hs.length
  have HB := Lib.hid hb
  clear hv hs hb
  go_enter Try.func32, Try.ntmps32
  by_cases hlen : n = n3
  case neg =>
    have HF : Hid (false = b) := by
      show _ = _
      rw [← HB.out, decide_eq_false (fun e => hlen (by rw [← HL.out, ← HL3.out, ← e]))]
    have e1 : ((n : Int) != (n3 : Int)) = true := by simp only [bne_iff_ne, ne_eq]; omega
    clear hlen
    go_wp2_with fail
    go_ret
    exact ⟨ret_bool HF.out, Below.refl _ _⟩
  subst hlen
  go_wp2_with fail
  go_loopw [13] (fun i wr => ∃ k : Nat, k ≤ n ∧ i = .int .i64 k ∧ Hid (Below w.heap.size w wr) ∧ Hid (l1.take k = l2.take k)) (fun i _ => n - (intOf i).toNat)
  case atStart => exact ⟨0, Nat.zero_le _, rfl, Below.refl _ _, Lib.hid rfl⟩
  case round =>
    obtain ⟨k, hk, rfl, HBW, HK⟩ := hrel
    by_cases hlt : k < n
    · obtain ⟨b1, off1, x, hA1, _, hx, _, c0, c1⟩ := Stps.at_ (Recs.keep HV.out HBW.out) hlt
      obtain ⟨b2, off2, y, hA2, _, hy, _, d0, d1⟩ := Stps.at_ (Recs.keep HST.out HBW.out) hlt
      subst hA1
      subst hA2
      by_cases he : x = y
      · subst he
        have HN : Hid (l1.take (k + 1) = l2.take (k + 1)) := by
          show _ = _
          rw [List.take_add_one, List.take_add_one, hx, hy, HK.out]
        clear HK hx hy
        go_wp2_with fail
        go_quiet (fail)
        go_wp2_with fail
        go_roundw
        case rel => exact ⟨k + 1, by omega, by go_num, Lib.hid (below_drewN HBW.out _), HN⟩
        case measure => simp [intOf]; omega
      · have HF : Hid (false = b) := by
          show _ = _
          rw [← HB.out, decide_eq_false (fun e => he (by rw [e, hy] at hx; injection hx with hx; exact hx.symm))]
        clear HK hx hy
        by_cases e1 : x.ord = y.ord
        · have e2 : ¬ x.drop = y.drop := fun h => he (Stp.ext_iff'.2 ⟨e1, h⟩)
          have e3 : (x.drop == y.drop) = false := by simpa using e2
          rw [← e1] at d0
          clear he e1 e2
          go_wp2_with fail
          go_quiet (fail)
          go_wp2_with fail
          go_ret
          exact ⟨ret_bool HF.out, below_drewN HBW.out _⟩
        · have e3 : (x.ord == y.ord) = false := by simpa using e1
          clear he e1
          go_wp2_with fail
          go_quiet (fail)
          go_wp2_with fail
          go_ret
          exact ⟨ret_bool HF.out, below_drewN HBW.out _⟩
    · have HF : Hid (true = b) := by
        show _ = _
        have h1 := HK.out
        rw [List.take_of_length_le (by have := HL.out; omega), List.take_of_length_le (by have := HL3.out; omega)] at h1
        rw [← HB.out, decide_eq_true h1]
      clear HK
      go_wp2_with fail
      go_ret
      exact ⟨ret_bool HF.out, HBW.out⟩
#print axioms aequal_any
#print axioms adonep_any
end Go.Proofs.Ytjklpdeeohhhnaa.Audit

/-
  The program's walk of a driver along its stops, whatever is wrong with them: tell, carry, serve.
-/
namespace Go.Proofs.Ytjklpdeeohhhnaa.Audit
open Go.ChangeShapes Go.WideShapes Go.ChangeAt Go.RowKit Go.Proofs.Ytjklpdeeohhhnaa.Mem Go.Proofs.Ytjklpdeeohhhnaa.GeoMath Go.Proofs.Ytjklpdeeohhhnaa.FleetMath Go.Proofs.Ytjklpdeeohhhnaa.PlanMath Go.Proofs.Ytjklpdeeohhhnaa.CertMath Go.Proofs.Ytjklpdeeohhhnaa.AuditMath Go.Proofs.Ytjklpdeeohhhnaa.Rec Go.Proofs.Ytjklpdeeohhhnaa.Geo Go.Proofs.Ytjklpdeeohhhnaa.Span Go.Proofs.Ytjklpdeeohhhnaa.Deal Go.Proofs.Ytjklpdeeohhhnaa.Route Go.Proofs.Ytjklpdeeohhhnaa.Plan Go.Proofs.Ytjklpdeeohhhnaa.Cert
set_option linter.unusedVariables false
set_option linter.unusedSimpArgs false

/-- a walk in a block -/
def KBox (u : World) (g : Nat) (q : Option Addr) (d : Drv) (st : St) (v : Value) : Prop := Blk u g 109 [.pointer q, .int .i64 d.id, .int .i64 d.room, .int .i64 d.home, .int .i64 d.win.fr, .int .i64 d.win.to, .bool d.retired, .int .i64 st.at_, .int .i64 st.left, .int .i64 st.load, v]
theorem KBox.cells {u : World} {g : Nat} {q : Option Addr} {d : Drv} {st : St} {v : Value} (h : KBox u g q d st v) : u.cell? ⟨g, 0, none⟩ = some (.pointer q) ∧ u.cell? ⟨g, 1, none⟩ = some (.int .i64 d.id) ∧ u.cell? ⟨g, 2, none⟩ = some (.int .i64 d.room) ∧ u.cell? ⟨g, 3, none⟩ = some (.int .i64 d.home) ∧ u.cell? ⟨g, 4, none⟩ = some (.int .i64 d.win.fr) ∧ u.cell? ⟨g, 5, none⟩ = some (.int .i64 d.win.to) ∧ u.cell? ⟨g, 6, none⟩ = some (.bool d.retired) ∧ u.cell? ⟨g, 7, none⟩ = some (.int .i64 st.at_) ∧ u.cell? ⟨g, 8, none⟩ = some (.int .i64 st.left) ∧ u.cell? ⟨g, 9, none⟩ = some (.int .i64 st.load) ∧ u.cell? ⟨g, 10, none⟩ = some v :=
  ⟨Blk.cell h rfl, Blk.cell h rfl, Blk.cell h rfl, Blk.cell h rfl, Blk.cell h rfl, Blk.cell h rfl, Blk.cell h rfl, Blk.cell h rfl, Blk.cell h rfl, Blk.cell h rfl, Blk.cell h rfl⟩
/-- each block but those of the walk and of its list stays -/
structure Stay (w w' : World) : Prop where
  size : w.heap.size ≤ w'.heap.size
  blk : ∀ (b : Nat) (T : TypeId) (vs : List Value), T ≠ 47 → T ≠ 109 → Blk w b T vs → Blk w' b T vs
/-- a walk on its way, behind the world X: its box, its list -/
structure TS (X : World) (g : Nat) (q : Option Addr) (d : Drv) (st : St) (l : List Trb) (v : Value) (u : World) : Prop where
  list : TL X v l u
  far : X.heap.size ≤ g
  box : KBox u g q d st v
section
variable {X w u u' : World} {g : Nat} {q : Option Addr} {d : Drv} {st : St} {l : List Trb} {v v' : Value}
theorem Stay.refl (w : World) : Stay w w := ⟨Nat.le_refl _, fun _ _ _ _ _ h => h⟩
theorem Stay.of (h : Below w.heap.size w u) : Stay w u := ⟨h.size, fun _ _ _ _ _ hb => hb.below h hb.lt⟩
theorem Stay.trans (h : Stay w u) (h' : Stay u u') : Stay w u' := ⟨Nat.le_trans h.1 h'.1, fun b T vs h1 h2 hb => h'.2 b T vs h1 h2 (h.2 b T vs h1 h2 hb)⟩
theorem Stay.next (h : Stay w u) (h' : Below u.heap.size u u') : Stay w u' := h.trans (Stay.of h')
theorem Stay.drew (h : Stay w u) : Stay w u.drew := h.next (Below.refl _ _).drew
theorem Stay.drewN (h : Stay w u) (n : Nat) : Stay w (u.drewN n) := h.next (below_drewN (Below.refl _ _) n)
theorem TS.old (h : TS X g q d st l v u) : Below X.heap.size X u := h.list.below
theorem TS.next (h : TS X g q d st l v u) (hb : Below u.heap.size u u') : TS X g q d st l v u' := ⟨h.list.next hb, h.far, Blk.below h.box hb (Blk.lt h.box)⟩
theorem TS.drew (h : TS X g q d st l v u) : TS X g q d st l v u.drew := h.next (Below.refl _ _).drew
theorem TS.drewN (h : TS X g q d st l v u) (n : Nat) : TS X g q d st l v (u.drewN n) := h.next (below_drewN (Below.refl _ _) n)
theorem TL.off (h : TL X v l u) (hb : KBox u g q d st v') : KB v u g 109 [.pointer q, .int .i64 d.id, .int .i64 d.room, .int .i64 d.home, .int .i64 d.win.fr, .int .i64 d.win.to, .bool d.retired, .int .i64 st.at_, .int .i64 st.left, .int .i64 st.load, v'] := KB.of h hb (by decide)
theorem TL.set (h : TL X v l u) (hg : X.heap.size ≤ g) (hn : v.ownBlock ≠ some g) (i : Nat) (x : Value) : TL X v l (u.setCell ⟨g, i, none⟩ x) := by
  refine ⟨h.below.setCell hg _, ?_⟩
  obtain ⟨⟨hl, ho⟩, hm⟩ := h.own
  refine ⟨⟨hl, ?_⟩, hm⟩
  rcases ho with ho | ⟨g', cap, cur, rfl, hg', hh, hr⟩
  · exact .inl ho
  · refine .inr ⟨g', cap, cur, rfl, hg', (Below.heap_setCell u _ _ _ fun e => hn ?_).trans hh, hr⟩
    rw [e]; rfl
theorem Stay.set (h : Stay w u) {xs : List Value} (hb : Blk u g 109 xs) (i : Nat) (x : Value) : Stay w (u.setCell ⟨g, i, none⟩ x) := by
  refine ⟨by simpa using h.1, fun b T vs h1 h2 hx => ?_⟩
  have hy := h.2 b T vs h1 h2 hx
  have hne : b ≠ g := fun e => by
    subst e
    unfold Blk at hb hy
    rw [hb] at hy
    injection hy with hy
    injection hy with _ hy
    exact h2 hy.symm
  exact (Below.heap_setCell u _ _ _ hne).trans hy
/-- the load is turned -/
theorem TS.load (h : TS X g q d st l v u) (n : Int) : TS X g q d ⟨st.at_, st.left, n⟩ l v (u.setCell ⟨g, 9, none⟩ (.int .i64 n)) :=
  ⟨h.list.set h.far (h.list.off h.box).2 _ _, h.far, Blk.put h.box 9 (.int .i64 n)⟩
theorem TS.loadStay (h : TS X g q d st l v u) (hs : Stay w u) (n : Int) : Stay w (u.setCell ⟨g, 9, none⟩ (.int .i64 n)) := hs.set h.box _ _
/-- place and time are turned -/
theorem TS.go (h : TS X g q d st l v u) (p t : Int) : TS X g q d ⟨p, t, st.load⟩ l v ((u.setCell ⟨g, 7, none⟩ (.int .i64 p)).setCell ⟨g, 8, none⟩ (.int .i64 t)) :=
  ⟨(h.list.set h.far (h.list.off h.box).2 _ _).set h.far (h.list.off h.box).2 _ _, h.far, Blk.put (Blk.put h.box 7 (.int .i64 p)) 8 (.int .i64 t)⟩
theorem TS.og (h : TS X g q d st l v u) (p t : Int) : TS X g q d ⟨p, t, st.load⟩ l v ((u.setCell ⟨g, 8, none⟩ (.int .i64 t)).setCell ⟨g, 7, none⟩ (.int .i64 p)) :=
  ⟨(h.list.set h.far (h.list.off h.box).2 _ _).set h.far (h.list.off h.box).2 _ _, h.far, Blk.put (Blk.put h.box 8 (.int .i64 t)) 7 (.int .i64 p)⟩
theorem TS.goStay (h : TS X g q d st l v u) (hs : Stay w u) (i j : Nat) (x y : Value) : Stay w ((u.setCell ⟨g, i, none⟩ x).setCell ⟨g, j, none⟩ y) := (hs.set h.box _ _).set (Blk.put h.box i x) _ _
/-- a Trouble is told: the list has grown, and its slice is written into the walk -/
theorem TS.told {t : Trb} (h : TS X g q d st l v u) (hq : TL X v' (l ++ [t]) u') (hk : ∀ b T vs, KB v u b T vs → KB v' u' b T vs) : TS X g q d st (l ++ [t]) v' (u'.setCell ⟨g, 10, none⟩ v') := by
  have h1 := hk _ _ _ (h.list.off h.box)
  exact ⟨hq.set h.far h1.2 _ _, h.far, Blk.put h1.1 10 v'⟩
theorem TS.toldStay {t : Trb} (h : TS X g q d st l v u) (hs : Stay w u) (hz : u.heap.size ≤ u'.heap.size) (hk : ∀ b T vs, KB v u b T vs → KB v' u' b T vs) : Stay w (u'.setCell ⟨g, 10, none⟩ v') := by
  have h1 := hk _ _ _ (h.list.off h.box)
  exact (hs.trans ⟨hz, fun b T vs h2 h3 hb => (hk b T vs (KB.of h.list hb h2)).1⟩).set h1.1 _ _
end

/-- what is told of an Errno -/
def tellL (l : List Trb) (d : Drv) (o y : Int) : List Trb := if y = 0 then l else l ++ [⟨d.id, o, y⟩]
/-- what carry and serve answer -/
def carryE (d : Drv) (o : FleetMath.Ord) (seen : List Stp) (st : St) (s : Stp) : Int := if isFirst seen s then 17 else if s.drop = false ∧ d.room < loadOf o s st.load then 14 else 0
def serveE (d : Drv) (si : Site) (bg : Int) : Int := if si.win.to < bg ∨ d.win.to < bg + si.serv then 15 else 0
theorem tellL_no (l : List Trb) (d : Drv) (o : Int) : tellL l d o 0 = l := if_pos rfl
theorem tellL_some (l : List Trb) (d : Drv) (o : Int) {y : Int} (h : y ≠ 0) : tellL l d o y = l ++ [⟨d.id, o, y⟩] := if_neg h
theorem tell_carry {l : List Trb} {d : Drv} {o : FleetMath.Ord} {seen : List Stp} {st : St} {s : Stp} : tellL l d s.ord (carryE d o seen st s) = l ++ hereT d o seen st s := by
  unfold carryE hereT
  by_cases h1 : isFirst seen s
  · rw [if_pos h1, if_pos h1, tellL_some _ _ _ (by decide)]
  · rw [if_neg h1, if_neg h1]
    by_cases h2 : s.drop = false ∧ d.room < loadOf o s st.load
    · rw [if_pos h2, if_pos h2, tellL_some _ _ _ (by decide)]
    · rw [if_neg h2, if_neg h2, tellL_no, List.append_nil]
theorem tell_serve {l : List Trb} {m : Mp} {d : Drv} {o : FleetMath.Ord} {st : St} {s : Stp} : tellL l d s.ord (serveE d (siteOf o s) (beginA m o st s)) = l ++ lateT m d o st s := by
  unfold serveE lateT
  by_cases h1 : (siteOf o s).win.to < beginA m o st s ∨ d.win.to < beginA m o st s + (siteOf o s).serv
  · rw [if_pos h1, if_pos h1, tellL_some _ _ _ (by decide)]
  · rw [if_neg h1, if_neg h1, tellL_no, List.append_nil]

set_option maxRecDepth 100000 in
set_option maxHeartbeats 4000000 in
theorem atell_any (X : World) (g : Nat) (q : Option Addr) (d : Drv) (st : St) (l : List Trb) (v : Value) (o y : Int) (w : World) (h : TS X g q d st l v w) (hl : l.length ≤ 100000) :
    Calls Try.prog 54 #[.pointer (some ⟨g, 0, none⟩), .int .i64 o, .int .i64 y] w (fun e w' => e = .returned (.tuple #[]) ∧ (∃ v', TS X g q d st (tellL l d o y) v' w') ∧ Stay w w') := by
  have HS := Lib.hid h
  clear h
  by_cases hy : y = 0
  · subst hy
    have HT : Hid (tellL l d o 0 = l) := Lib.hid (if_pos rfl)
    go_enter Try.func54, Try.ntmps54
    go_wp2_with fail
    go_end0
    exact ⟨rfl, ⟨v, by rw [HT.out]; exact HS.out⟩, Stay.refl _⟩
  · have HT : Hid (tellL l d o y = l ++ [⟨d.id, o, y⟩]) := Lib.hid (if_neg hy)
    have e1 : (y != 0) = true := by simpa using hy
    obtain ⟨A, c, hv, _, _⟩ := HS.out.list.own.read
    have hb : Below w.heap.size w (w.alloc (.cells #[.int .i64 d.id, .int .i64 o, .int .i64 y] 47)).drew := ((Below.refl _ _).alloc (Nat.le_refl _) _).drew
    have HA : Hid (TS X g q d st l v (w.alloc (.cells #[.int .i64 d.id, .int .i64 o, .int .i64 y] 47)).drew) := HS.out.next hb
    have HZ : Hid (Stay w (w.alloc (.cells #[.int .i64 d.id, .int .i64 o, .int .i64 y] 47)).drew) := Stay.of hb
    have HAB : Blk (w.alloc (.cells #[.int .i64 d.id, .int .i64 o, .int .i64 y] 47)).drew w.heap.size 47 (tcells ⟨d.id, o, y⟩) := Blk.new w 47 (tcells ⟨d.id, o, y⟩)
    have HY : Hid (Recs (w.alloc (.cells #[.int .i64 d.id, .int .i64 o, .int .i64 y] 47)).drew (w.alloc (.cells #[.int .i64 d.id, .int .i64 o, .int .i64 y] 47)).drew.heap.size (some ⟨w.heap.size, 0, none⟩) 1 3 (tcells ⟨d.id, o, y⟩)) := by
      refine ⟨rfl, by unfold maxLen; omega, fun _ => ⟨_, 0, rfl, HAB.lt, fun j x hx => ?_⟩⟩
      rw [Nat.zero_add]
      exact HAB.cell hx
    clear hy HAB hb
    subst hv
    obtain ⟨k0, k1, k2, k3, k4, k5, k6, k7, k8, k9, k10⟩ := HS.out.box.cells
    have z1 : ∀ ob, (w.alloc ob).cell? ⟨g, 1, none⟩ = some (.int .i64 d.id) := fun ob => (KBox.cells (HS.out.next ((Below.refl _ _).alloc (Nat.le_refl _) ob)).box).2.1
    have z2 : ∀ ob, (w.alloc ob).cell? ⟨g, 10, none⟩ = some (.slice A l.length c) := fun ob => (KBox.cells (HS.out.next ((Below.refl _ _).alloc (Nat.le_refl _) ob)).box).2.2.2.2.2.2.2.2.2.2
    clear k0 k2 k3 k4 k5 k6 k7 k8 k9
    go_enter Try.func54, Try.ntmps54
    go_wp2_with fail
    go_region_law (refine step_append_ks (by rfl) _ _ Try.underlying43 infoTrb rfl (by decide) (by rfl) (base := X.heap.size) HA.out.list.own (by rfl) HY.out (by rfl) (tcells_one ⟨d.id, o, y⟩) (by unfold maxLen; omega) (by omega) (w0 := X) (B0 := X.heap.size) HA.out.old HA.out.old.size HA.out.old.size (Nat.le_refl _) ?_; intro vB wB HO2 HB2 HG2 HN2; obtain ⟨A9, c9, hvB, _, _⟩ := HO2.out.read; subst hvB; have HQ := Lib.hid (HA.out.list.push HO2.out HG2.out); have HKB : Hid (∀ b T vs, KB (.slice A l.length c) _ b T vs → KB (.slice A9 (l.length + 1) c9) wB b T vs) := Lib.hid (fun b T vs hb => hb.push HG2.out HN2.out); have HK2 := HKB.out _ _ _ (HA.out.list.off HA.out.box); have x10 := HK2.1.cell (i := 10) rfl; have f10 := HK2.1.free 10; have HSZ := Lib.hid HG2.out.size; clear HK2 HO2 HB2 HG2 HN2)
    all_goals
      go_wp2_with fail
      go_end0
      exact ⟨rfl, ⟨_, by rw [HT.out]; exact HA.out.told HQ.out HKB.out⟩, HA.out.toldStay (t := ⟨d.id, o, y⟩) HZ.out HSZ.out HKB.out⟩

set_option maxRecDepth 100000 in
set_option maxHeartbeats 4000000 in
theorem acarry_any (X : World) (g : Nat) (q : Option Addr) (d : Drv) (st : St) (l : List Trb) (v : Value) (o : FleetMath.Ord) (s : Stp) (A : Option Addr) (k c : Nat) (seen : List Stp) (ce nl : Int) (w : World) (h : TS X g q d st l v w) (hs : Stps w w.heap.size A k seen)
    (sz1 : 1 ≤ o.size) (sz2 : o.size ≤ 1000000) (ll1 : -1000000 ≤ st.load) (ll2 : st.load ≤ 1000000) (hid : o.id = s.ord) (hc : carryE d o seen st s = ce) (hn : (if isFirst seen s then st.load else loadOf o s st.load) = nl) :
    Calls Try.prog 55 #[.pointer (some ⟨g, 0, none⟩), ordV o, stpV s, .slice A k c] w (fun e w' => e = .returned (.int .i64 ce) ∧ TS X g q d ⟨st.at_, st.left, nl⟩ l v w' ∧ Stay w w') := by
  have HC := Lib.hid hc
  have HN := Lib.hid hn
  have HST := Lib.hid hs
  have hb1 : Below w.heap.size w (w.alloc (.cells #[.int .i64 o.id, .int .i64 o.size, .int .i64 o.pick.place, .int .i64 o.pick.win.fr, .int .i64 o.pick.win.to, .int .i64 o.pick.serv, .int .i64 o.drop.place, .int .i64 o.drop.win.fr, .int .i64 o.drop.win.to, .int .i64 o.drop.serv] 31)) := (Below.refl _ _).alloc (Nat.le_refl _) _
  obtain ⟨u0, hu0⟩ : ∃ u, (w.alloc (.cells #[.int .i64 o.id, .int .i64 o.size, .int .i64 o.pick.place, .int .i64 o.pick.win.fr, .int .i64 o.pick.win.to, .int .i64 o.pick.serv, .int .i64 o.drop.place, .int .i64 o.drop.win.fr, .int .i64 o.drop.win.to, .int .i64 o.drop.serv] 31)).alloc (.cells #[.int .i64 s.ord, .bool s.drop] 36) = u := ⟨_, rfl⟩
  have HB0 : Hid (Below w.heap.size w u0) := by rw [← hu0]; exact hb1.alloc hb1.size _
  have HO0 : Hid (OBox u0 w.heap.size o) := by
    rw [← hu0]
    exact OBox.below (o := o) (Blk.new w _ _) ((Below.refl _ _).alloc (Nat.le_refl _) _)
  have HP0 : Hid (Blk u0 (w.heap.size + 1) 36 [.int .i64 s.ord, .bool s.drop]) := by
    have f := Blk.new (w.alloc (.cells #[.int .i64 o.id, .int .i64 o.size, .int .i64 o.pick.place, .int .i64 o.pick.win.fr, .int .i64 o.pick.win.to, .int .i64 o.pick.serv, .int .i64 o.drop.place, .int .i64 o.drop.win.fr, .int .i64 o.drop.win.to, .int .i64 o.drop.serv] 31)) 36 [.int .i64 s.ord, .bool s.drop]
    rw [World.size_alloc] at f
    rw [← hu0]
    exact f
  have HS0 : Hid (TS X g q d st l v u0) := h.next HB0.out
  have HZ0 : Hid (Stay w u0) := Stay.of HB0.out
  have HSN : Hid (Stps u0 u0.heap.size A k seen) := Recs.more (Recs.keep hs HB0.out) HB0.out.size
  obtain ⟨tf, htf⟩ : ∃ t, decide (Stp.mk s.ord false ∈ seen) = t := ⟨_, rfl⟩
  have HTF := Lib.hid htf
  have HID := Lib.hid hid
  clear h hs hc hn htf HST hb1 hid
  go_enter Try.func55, Try.ntmps55
  go_upto_region 1 with fail
  (try rw [hu0])
  clear hu0
  cases hsd : s.drop with
  | true =>
    have y1 : u0.cell? ⟨w.heap.size + 1, 1, none⟩ = some (.bool true) := by rw [← hsd]; exact HP0.out.cell rfl
    have y0 := OBox.cells (o := o) HO0.out |>.1
    rw [HID.out] at y0
    go_wp2_with fail
    refine (apickup_any s.ord _).mono ?_
    rintro e w1 ⟨rfl, hb1⟩
    have HS1 := Lib.hid (HS0.out.next hb1)
    have HZ1 := Lib.hid (HZ0.out.next hb1)
    have HP1 := Lib.hid (HP0.out.below hb1 HP0.out.lt)
    have HO1 := Lib.hid (OBox.below (o := o) HO0.out hb1)
    have HSN1 : Hid (Stps w1 w1.heap.size A k seen) := Recs.more (Recs.keep HSN.out hb1) hb1.size
    clear hb1 HS0 HZ0 HP0 HO0 HSN y0 y1
    go_wp2_with fail
    refine (pcontains_v A k c seen ⟨s.ord, false⟩ _ tf (by exact HSN1.out) HTF.out).mono ?_
    rintro e w2 ⟨rfl, hb2⟩
    have HS2 := Lib.hid (HS1.out.next hb2)
    have HZ2 := Lib.hid (HZ1.out.next hb2)
    have HP2 := Lib.hid (HP1.out.below hb2 HP1.out.lt)
    have HO2 := Lib.hid (OBox.below (o := o) HO1.out hb2)
    clear hb2 HS1 HZ1 HP1 HO1 HSN1
    have y1 : w2.cell? ⟨w.heap.size + 1, 1, none⟩ = some (.bool true) := by rw [← hsd]; exact HP2.out.cell rfl
    cases tf with
    | false =>
      have hf : isFirst seen s := ⟨hsd, of_decide_eq_false HTF.out⟩
      have HE : Hid (17 = ce) := by show _ = _; rw [← HC.out]; unfold carryE; rw [if_pos hf]
      have HL : Hid (st.load = nl) := by show _ = _; rw [← HN.out, if_pos hf]
      clear hf
      go_wp2_with fail
      go_ret
      exact ⟨ret_i HE.out, by rw [← HL.out]; exact HS2.out, HZ2.out⟩
    | true =>
      have hf : ¬ isFirst seen s := fun h => h.2 (of_decide_eq_true HTF.out)
      have HE : Hid (0 = ce) := by show _ = _; rw [← HC.out]; unfold carryE; rw [if_neg hf, if_neg (by rw [hsd]; rintro ⟨h, _⟩; cases h)]
      have HL : Hid (st.load - o.size = nl) := by show _ = _; rw [← HN.out, if_neg hf]; unfold loadOf; rw [hsd]; rfl
      obtain ⟨_, _, _, _, _, _, _, _, _, k9, _⟩ := HS2.out.box.cells
      have kf := Blk.free HS2.out.box 9
      obtain ⟨_, y2, _⟩ := OBox.cells (o := o) HO2.out
      clear hf
      go_wp2_with fail
      go_region
      all_goals
        go_wp2_with fail
        go_ret
        exact ⟨ret_i HE.out, by rw [← HL.out]; first | exact (HS2.out.load _).drew | exact HS2.out.drew.load _, by first | exact (HS2.out.loadStay HZ2.out _).drew | exact HS2.out.drew.loadStay HZ2.out.drew _⟩
  | false =>
    have y1 : u0.cell? ⟨w.heap.size + 1, 1, none⟩ = some (.bool false) := by rw [← hsd]; exact HP0.out.cell rfl
    have hf : ¬ isFirst seen s := fun h => by have := h.1; rw [hsd] at this; cases this
    have hlo : loadOf o s st.load = st.load + o.size := by unfold loadOf; rw [hsd]; rfl
    have HL : Hid (st.load + o.size = nl) := by show _ = _; rw [← HN.out, if_neg hf, hlo]
    have HCE : Hid ((if d.room < st.load + o.size then 14 else 0) = ce) := by
      show _ = _
      rw [← HC.out]
      unfold carryE
      rw [if_neg hf, hlo]
      by_cases h1 : d.room < st.load + o.size
      · rw [if_pos h1, if_pos ⟨hsd, h1⟩]
      · rw [if_neg h1, if_neg fun h => h1 h.2]
    obtain ⟨_, _, _, _, _, _, _, _, _, k9, _⟩ := HS0.out.box.cells
    have kf := Blk.free HS0.out.box 9
    obtain ⟨_, y2, _⟩ := OBox.cells (o := o) HO0.out
    clear hf hlo
    go_wp2_with fail
    go_upto_region 6 with fail
    go_cut [] (fun wx => Hid (TS X g q d ⟨st.at_, st.left, st.load + o.size⟩ l v wx) ∧ Hid (Stay w wx))
    case first =>
      go_region
      all_goals
        go_wp2_with fail
        go_meet
        exact ⟨by first | exact (HS0.out.load _).drew | exact HS0.out.drew.load _, by first | exact (HS0.out.loadStay HZ0.out _).drew | exact HS0.out.drew.loadStay HZ0.out.drew _⟩
    case rest =>
    obtain ⟨HS1, HZ1⟩ := hcut
    obtain ⟨w1, rfl⟩ : ∃ u, u = wc := ⟨_, rfl⟩
    clear HS0 HZ0 k9 kf y2 y1 HO0 HP0
    obtain ⟨_, _, k2, _, _, _, _, _, _, k9, _⟩ := HS1.out.box.cells
    by_cases hr : d.room < st.load + o.size
    · have HE : Hid (14 = ce) := by show _ = _; rw [← HCE.out, if_pos hr]
      clear HCE
      go_wp2_with fail
      go_quiet (fail)
      go_wp2_with fail
      go_ret
      exact ⟨ret_i HE.out, by rw [← HL.out]; exact HS1.out.drewN _, HZ1.out.drewN _⟩
    · have HE : Hid (0 = ce) := by show _ = _; rw [← HCE.out, if_neg hr]
      clear HCE
      go_wp2_with fail
      go_quiet (fail)
      go_wp2_with fail
      go_ret
      exact ⟨ret_i HE.out, by rw [← HL.out]; exact HS1.out.drewN _, HZ1.out.drewN _⟩

set_option maxRecDepth 100000 in
set_option maxHeartbeats 4000000 in
theorem aserve_any (base bm mn : Nat) (ml : List Int) (X : World) (g : Nat) (d : Drv) (st : St) (l : List Trb) (v : Value) (si : Site) (tt bg se : Int) (w : World) (h : TS X g (some ⟨bm, 0, none⟩) d st l v w) (hm : MapAt w 77 base bm mn ml) (hmn : mn ≤ 12)
    (htt : time ⟨mn, ml⟩ st.at_ si.place = tt) (tb1 : 0 ≤ tt) (tb2 : tt ≤ 1000000) (lf1 : 0 ≤ st.left) (lf2 : st.left ≤ 1000000000) (sv1 : 0 ≤ si.serv) (sv2 : si.serv ≤ 1000000) (wn1 : 0 ≤ si.win.fr) (wn2 : si.win.fr ≤ 1000000)
    (hbg : (if st.left + tt < si.win.fr then si.win.fr else st.left + tt) = bg) (hse : serveE d si bg = se) :
    Calls Try.prog 56 #[.pointer (some ⟨g, 0, none⟩), siteV si] w (fun e w' => e = .returned (.int .i64 se) ∧ TS X g (some ⟨bm, 0, none⟩) d ⟨si.place, bg + si.serv, st.load⟩ l v w' ∧ Stay w w') := by
  have hmax : max (st.left + tt) si.win.fr = bg := by
    rw [← hbg, Int.max_def]
    split <;> split <;> omega
  have bg1 : 0 ≤ bg := by rw [← hbg]; split <;> omega
  have bg2 : bg ≤ 1002000000 := by rw [← hbg]; split <;> omega
  have HT := Lib.hid htt
  have HSE := Lib.hid hse
  have hb : Below w.heap.size w (w.alloc (.cells #[.int .i64 si.place, .int .i64 si.win.fr, .int .i64 si.win.to, .int .i64 si.serv] 29)) := (Below.refl _ _).alloc (Nat.le_refl _) _
  obtain ⟨u0, hu0⟩ : ∃ u, w.alloc (.cells #[.int .i64 si.place, .int .i64 si.win.fr, .int .i64 si.win.to, .int .i64 si.serv] 29) = u := ⟨_, rfl⟩
  have HB0 : Hid (Below w.heap.size w u0) := by rw [← hu0]; exact hb
  have HX0 : Hid (SBox u0 w.heap.size si) := by rw [← hu0]; exact Blk.new w _ _
  have HS0 : Hid (TS X g (some ⟨bm, 0, none⟩) d st l v u0) := h.next HB0.out
  have HZ0 : Hid (Stay w u0) := Stay.of HB0.out
  have HM0 : Hid (∀ k, MapAt (u0.drewN k) 77 base bm mn ml) := fun k => (hm.keep HB0.out (Nat.le_refl _)).drewN k
  clear h hm htt hse hbg hb
  go_enter Try.func56, Try.ntmps56
  go_upto_region 1 with fail
  (try rw [hu0])
  clear hu0
  obtain ⟨k0, _, _, _, _, k5, _, k7, k8, _, _⟩ := HS0.out.box.cells
  obtain ⟨s0, s1, s2, s3⟩ := SBox.cells (s := si) HX0.out
  go_cut [5] (fun tv wx => tv = .int .i64 tt ∧ Hid (TS X g (some ⟨bm, 0, none⟩) d st l v wx) ∧ Hid (SBox wx w.heap.size si) ∧ Hid (Stay w wx))
  case first =>
    go_quiet ((go_at_call 81; with_reducible exact ptime_q base bm mn ml st.at_ si.place tt _ _ (HM0.out _) hmn HT.out))
    go_wp2_with fail
    go_meet
    exact ⟨rfl, HS0.out.drewN _, HX0.out, HZ0.out.drewN _⟩
  case rest =>
  obtain ⟨rfl, HS1, HX1, HZ1⟩ := hcut
  obtain ⟨w1, rfl⟩ : ∃ u, u = wc := ⟨_, rfl⟩
  clear HS0 HX0 HZ0 HM0 HB0 k0 k5 k7 k8 s0 s1 s2 s3
  obtain ⟨k0, _, _, _, _, k5, _, k7, k8, _, _⟩ := HS1.out.box.cells
  obtain ⟨s0, s1, s2, s3⟩ := SBox.cells (s := si) HX1.out
  go_upto_region 2 with fail
  go_cut [7] (fun bv wx => bv = .int .i64 bg ∧ Hid (TS X g (some ⟨bm, 0, none⟩) d st l v wx) ∧ Hid (SBox wx w.heap.size si) ∧ Hid (Stay w wx))
  case first =>
    go_region
    all_goals
      go_wp2_with fail
      go_meet
      exact ⟨by first | rfl | rw [hmax], HS1.out.drew, HX1.out, HZ1.out.drew⟩
  case rest =>
  obtain ⟨rfl, HS2, HX2, HZ2⟩ := hcut
  obtain ⟨w2, rfl⟩ : ∃ u, u = wc := ⟨_, rfl⟩
  clear HS1 HX1 HZ1 k0 k5 k7 k8 s0 s1 s2 s3
  obtain ⟨k0, _, _, _, _, k5, _, k7, k8, _, _⟩ := HS2.out.box.cells
  obtain ⟨s0, s1, s2, s3⟩ := SBox.cells (s := si) HX2.out
  have f7 := Blk.free HS2.out.box 7
  have f8 := Blk.free HS2.out.box 8
  go_upto_region 3 with fail
  go_cut [] (fun wx => Hid (TS X g (some ⟨bm, 0, none⟩) d ⟨si.place, bg + si.serv, st.load⟩ l v wx) ∧ Hid (SBox wx w.heap.size si) ∧ Hid (Stay w wx))
  case first =>
    have HXA : Hid (SBox ((w2.setCell ⟨g, 7, none⟩ (.int .i64 si.place)).setCell ⟨g, 8, none⟩ (.int .i64 (bg + si.serv))) w.heap.size si) := (HS2.out.goStay (Stay.refl w2) 7 8 _ _).2 _ _ _ (by decide) (by decide) HX2.out
    have HXB : Hid (SBox ((w2.setCell ⟨g, 8, none⟩ (.int .i64 (bg + si.serv))).setCell ⟨g, 7, none⟩ (.int .i64 si.place)) w.heap.size si) := (HS2.out.goStay (Stay.refl w2) 8 7 _ _).2 _ _ _ (by decide) (by decide) HX2.out
    have hne : w.heap.size ≠ g := fun e => by
      have h1 := HX2.out
      have h2 := HS2.out.box
      unfold SBox Blk at h1
      unfold KBox Blk at h2
      rw [e, h2] at h1
      injection h1 with h1
      injection h1 with _ h1
      exact absurd h1 (by decide)
    have hca := cell_far hne.symm
    have hcs := cell_apart g
    have hfs := frozen_set
    go_region
    all_goals
      go_wp2_with fail
      go_meet
      first
        | exact ⟨(HS2.out.go _ _).drew, HXA.out, (HS2.out.goStay HZ2.out 7 8 _ _).drew⟩
        | exact ⟨(HS2.out.og _ _).drew, HXB.out, (HS2.out.goStay HZ2.out 8 7 _ _).drew⟩
  case rest =>
  obtain ⟨HS3, HX3, HZ3⟩ := hcut
  obtain ⟨w3, rfl⟩ : ∃ u, u = wc := ⟨_, rfl⟩
  clear HS2 HX2 HZ2 k0 k5 k7 k8 s0 s1 s2 s3 f7 f8
  obtain ⟨k0, _, _, _, _, k5, _, k7, k8, _, _⟩ := HS3.out.box.cells
  obtain ⟨s0, s1, s2, s3⟩ := SBox.cells (s := si) HX3.out
  by_cases h1 : si.win.to < bg
  · have HE : Hid (15 = se) := by show _ = _; rw [← HSE.out]; unfold serveE; rw [if_pos (.inl h1)]
    go_wp2_with fail
    go_quiet (fail)
    go_wp2_with fail
    go_ret
    exact ⟨ret_i HE.out, HS3.out.drewN _, HZ3.out.drewN _⟩
  · by_cases h2 : d.win.to < bg + si.serv
    · have HE : Hid (15 = se) := by show _ = _; rw [← HSE.out]; unfold serveE; rw [if_pos (.inr h2)]
      go_wp2_with fail
      go_quiet (fail)
      go_wp2_with fail
      go_ret
      exact ⟨ret_i HE.out, HS3.out.drewN _, HZ3.out.drewN _⟩
    · have HE : Hid (0 = se) := by show _ = _; rw [← HSE.out]; unfold serveE; rw [if_neg (by rintro (h | h); exact h1 h; exact h2 h)]
      go_wp2_with fail
      go_quiet (fail)
      go_wp2_with fail
      go_ret
      exact ⟨ret_i HE.out, HS3.out.drewN _, HZ3.out.drewN _⟩
#print axioms atell_any
#print axioms acarry_any
#print axioms aserve_any
end Go.Proofs.Ytjklpdeeohhhnaa.Audit
