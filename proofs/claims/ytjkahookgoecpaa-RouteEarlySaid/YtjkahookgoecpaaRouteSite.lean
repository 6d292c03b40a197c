/-
  The statements' own 'site', walked: the order of a stop, and where it is.
-/
import Derived.Test.YtjkahookgoecpaaRouteLater
import Derived.Test.YtjkahookgoecpaaLibRows
import Derived.Laws.ResultCell
namespace Go.Proofs.Ytjkahookgoecpaa.Route
open Go.ChangeShapes Go.WideShapes Go.ChangeAt Go.RowKit Go.Proofs.Ytjkahookgoecpaa.Mem Go.Proofs.Ytjkahookgoecpaa.GeoMath Go.Proofs.Ytjkahookgoecpaa.FleetMath Go.Proofs.Ytjkahookgoecpaa.Rec Go.Proofs.Ytjkahookgoecpaa.Geo Go.Proofs.Ytjkahookgoecpaa.Span Go.Proofs.Ytjkahookgoecpaa.Deal Go.Proofs.Ytjkahookgoecpaa.Keep
set_option linter.unusedVariables false
abbrev ordC (o : FleetMath.Ord) : List Value := [.int .i64 o.id, .int .i64 o.size, .int .i64 o.pick.place, .int .i64 o.pick.win.fr, .int .i64 o.pick.win.to, .int .i64 o.pick.serv, .int .i64 o.drop.place, .int .i64 o.drop.win.fr, .int .i64 o.drop.win.to, .int .i64 o.drop.serv]
abbrev siteC (s : Site) : List Value := [.int .i64 s.place, .int .i64 s.win.fr, .int .i64 s.win.to, .int .i64 s.serv]
abbrev zeroO : FleetMath.Ord := ⟨0, 0, ⟨0, ⟨0, 0⟩, 0⟩, ⟨0, ⟨0, 0⟩, 0⟩⟩
abbrev zeroS : Site := ⟨0, ⟨0, 0⟩, 0⟩
/-- what 'site' answers -/
def siteR (o : Option FleetMath.Ord) (s : Stp) : Value := match o with
  | none => .tuple #[ordV zeroO, siteV zeroS, .bool false]
  | some o => .tuple #[ordV o, siteV (siteOf o s), .bool true]
structure SiteAt (w : World) (s : Stp) (o : FleetMath.Ord) (t : Site) (u : World) : Prop where
  on : Below w.heap.size w u
  bs : Blk u w.heap.size 35 [.int .i64 s.ord, .bool s.drop]
  bo : Blk u (w.heap.size + 1) 31 (ordC o)
  bt : Blk u (w.heap.size + 1 + 1) 29 (siteC t)
section
variable {w u : World} {s : Stp} {o : FleetMath.Ord} {t : Site}
theorem SiteAt.drewN (h : SiteAt w s o t u) (d : Nat) : SiteAt w s o t (u.drewN d) := ⟨below_drewN h.on d, h.bs, h.bo, h.bt⟩
theorem SiteAt.drew (h : SiteAt w s o t u) : SiteAt w s o t u.drew := ⟨h.on.drew, h.bs, h.bo, h.bt⟩
theorem SiteAt.cells (h : SiteAt w s o t u) : (u.cell? ⟨w.heap.size + 1, 0, none⟩ = some (.int .i64 o.id) ∧ u.cell? ⟨w.heap.size + 1, 1, none⟩ = some (.int .i64 o.size) ∧ u.cell? ⟨w.heap.size + 1, 2, none⟩ = some (.int .i64 o.pick.place) ∧ u.cell? ⟨w.heap.size + 1, 3, none⟩ = some (.int .i64 o.pick.win.fr) ∧ u.cell? ⟨w.heap.size + 1, 4, none⟩ = some (.int .i64 o.pick.win.to) ∧ u.cell? ⟨w.heap.size + 1, 5, none⟩ = some (.int .i64 o.pick.serv) ∧ u.cell? ⟨w.heap.size + 1, 6, none⟩ = some (.int .i64 o.drop.place) ∧ u.cell? ⟨w.heap.size + 1, 7, none⟩ = some (.int .i64 o.drop.win.fr) ∧ u.cell? ⟨w.heap.size + 1, 8, none⟩ = some (.int .i64 o.drop.win.to) ∧ u.cell? ⟨w.heap.size + 1, 9, none⟩ = some (.int .i64 o.drop.serv)) ∧ (u.frozen? ⟨w.heap.size + 1, 0, none⟩ = false ∧ u.frozen? ⟨w.heap.size + 1, 1, none⟩ = false ∧ u.frozen? ⟨w.heap.size + 1, 2, none⟩ = false ∧ u.frozen? ⟨w.heap.size + 1, 3, none⟩ = false ∧ u.frozen? ⟨w.heap.size + 1, 4, none⟩ = false ∧ u.frozen? ⟨w.heap.size + 1, 5, none⟩ = false ∧ u.frozen? ⟨w.heap.size + 1, 6, none⟩ = false ∧ u.frozen? ⟨w.heap.size + 1, 7, none⟩ = false ∧ u.frozen? ⟨w.heap.size + 1, 8, none⟩ = false ∧ u.frozen? ⟨w.heap.size + 1, 9, none⟩ = false) ∧ (u.cell? ⟨w.heap.size + 1 + 1, 0, none⟩ = some (.int .i64 t.place) ∧ u.cell? ⟨w.heap.size + 1 + 1, 1, none⟩ = some (.int .i64 t.win.fr) ∧ u.cell? ⟨w.heap.size + 1 + 1, 2, none⟩ = some (.int .i64 t.win.to) ∧ u.cell? ⟨w.heap.size + 1 + 1, 3, none⟩ = some (.int .i64 t.serv)) ∧ (u.frozen? ⟨w.heap.size + 1 + 1, 0, none⟩ = false ∧ u.frozen? ⟨w.heap.size + 1 + 1, 1, none⟩ = false ∧ u.frozen? ⟨w.heap.size + 1 + 1, 2, none⟩ = false ∧ u.frozen? ⟨w.heap.size + 1 + 1, 3, none⟩ = false) :=
  ⟨⟨h.bo.cell rfl, h.bo.cell rfl, h.bo.cell rfl, h.bo.cell rfl, h.bo.cell rfl, h.bo.cell rfl, h.bo.cell rfl, h.bo.cell rfl, h.bo.cell rfl, h.bo.cell rfl⟩, ⟨h.bo.free 0, h.bo.free 1, h.bo.free 2, h.bo.free 3, h.bo.free 4, h.bo.free 5, h.bo.free 6, h.bo.free 7, h.bo.free 8, h.bo.free 9⟩, ⟨h.bt.cell rfl, h.bt.cell rfl, h.bt.cell rfl, h.bt.cell rfl⟩, ⟨h.bt.free 0, h.bt.free 1, h.bt.free 2, h.bt.free 3⟩⟩
theorem SiteAt.put1 (h : SiteAt w s zeroO t u) (o : FleetMath.Ord) : SiteAt w s o t ((((((((((u.setCell ⟨w.heap.size + 1, 0, none⟩ (.int .i64 o.id)).setCell ⟨w.heap.size + 1, 1, none⟩ (.int .i64 o.size)).setCell ⟨w.heap.size + 1, 2, none⟩ (.int .i64 o.pick.place)).setCell ⟨w.heap.size + 1, 3, none⟩ (.int .i64 o.pick.win.fr)).setCell ⟨w.heap.size + 1, 4, none⟩ (.int .i64 o.pick.win.to)).setCell ⟨w.heap.size + 1, 5, none⟩ (.int .i64 o.pick.serv)).setCell ⟨w.heap.size + 1, 6, none⟩ (.int .i64 o.drop.place)).setCell ⟨w.heap.size + 1, 7, none⟩ (.int .i64 o.drop.win.fr)).setCell ⟨w.heap.size + 1, 8, none⟩ (.int .i64 o.drop.win.to)).setCell ⟨w.heap.size + 1, 9, none⟩ (.int .i64 o.drop.serv)) := by
  have h3 : Only (w.heap.size + 1) u ((((((((((u.setCell ⟨w.heap.size + 1, 0, none⟩ (.int .i64 o.id)).setCell ⟨w.heap.size + 1, 1, none⟩ (.int .i64 o.size)).setCell ⟨w.heap.size + 1, 2, none⟩ (.int .i64 o.pick.place)).setCell ⟨w.heap.size + 1, 3, none⟩ (.int .i64 o.pick.win.fr)).setCell ⟨w.heap.size + 1, 4, none⟩ (.int .i64 o.pick.win.to)).setCell ⟨w.heap.size + 1, 5, none⟩ (.int .i64 o.pick.serv)).setCell ⟨w.heap.size + 1, 6, none⟩ (.int .i64 o.drop.place)).setCell ⟨w.heap.size + 1, 7, none⟩ (.int .i64 o.drop.win.fr)).setCell ⟨w.heap.size + 1, 8, none⟩ (.int .i64 o.drop.win.to)).setCell ⟨w.heap.size + 1, 9, none⟩ (.int .i64 o.drop.serv)) := (((((((((((Only.refl _ _).set 0 _).set 1 _).set 2 _).set 3 _).set 4 _).set 5 _).set 6 _).set 7 _).set 8 _).set 9 _)
  exact ⟨h.on.trans (h3.below.mono (Nat.le_succ _)), h3.blk h.bs (by omega), ((((((((((h.bo.put 0 _).put 1 _).put 2 _).put 3 _).put 4 _).put 5 _).put 6 _).put 7 _).put 8 _).put 9 _), h3.blk h.bt (by omega)⟩
theorem SiteAt.put2 (h : SiteAt w s o zeroS u) (t : Site) : SiteAt w s o t ((((u.setCell ⟨w.heap.size + 1 + 1, 0, none⟩ (.int .i64 t.place)).setCell ⟨w.heap.size + 1 + 1, 1, none⟩ (.int .i64 t.win.fr)).setCell ⟨w.heap.size + 1 + 1, 2, none⟩ (.int .i64 t.win.to)).setCell ⟨w.heap.size + 1 + 1, 3, none⟩ (.int .i64 t.serv)) := by
  have h3 : Only (w.heap.size + 1 + 1) u ((((u.setCell ⟨w.heap.size + 1 + 1, 0, none⟩ (.int .i64 t.place)).setCell ⟨w.heap.size + 1 + 1, 1, none⟩ (.int .i64 t.win.fr)).setCell ⟨w.heap.size + 1 + 1, 2, none⟩ (.int .i64 t.win.to)).setCell ⟨w.heap.size + 1 + 1, 3, none⟩ (.int .i64 t.serv)) := (((((Only.refl _ _).set 0 _).set 1 _).set 2 _).set 3 _)
  exact ⟨h.on.trans (h3.below.mono (by omega)), h3.blk h.bs (by omega), h3.blk h.bo (by omega), ((((h.bt.put 0 _).put 1 _).put 2 _).put 3 _)⟩
theorem SiteAt.start (w : World) (s : Stp) : SiteAt w s zeroO zeroS (((w.alloc (.cells #[.int .i64 s.ord, .bool s.drop] 35)).alloc (.cells (ordC zeroO).toArray 31)).alloc (.cells (siteC zeroS).toArray 29)) := by
  have h1 := Blk.new w 35 [.int .i64 s.ord, .bool s.drop]
  have h2 := Blk.new (w.alloc (.cells #[.int .i64 s.ord, .bool s.drop] 35)) 31 (ordC zeroO)
  have h3 := Blk.new ((w.alloc (.cells #[.int .i64 s.ord, .bool s.drop] 35)).alloc (.cells (ordC zeroO).toArray 31)) 29 (siteC zeroS)
  rw [World.size_alloc] at h2
  rw [World.size_alloc, World.size_alloc] at h3
  have b1 := (Below.refl (w.alloc (.cells #[.int .i64 s.ord, .bool s.drop] 35)).heap.size (w.alloc (.cells #[.int .i64 s.ord, .bool s.drop] 35))).alloc (Nat.le_refl _) (.cells (ordC zeroO).toArray 31)
  have b2 := (Below.refl ((w.alloc (.cells #[.int .i64 s.ord, .bool s.drop] 35)).alloc (.cells (ordC zeroO).toArray 31)).heap.size ((w.alloc (.cells #[.int .i64 s.ord, .bool s.drop] 35)).alloc (.cells (ordC zeroO).toArray 31))).alloc (Nat.le_refl _) (.cells (siteC zeroS).toArray 29)
  refine ⟨(((Below.refl _ _).alloc (Nat.le_refl _) _).alloc (by simp) _).alloc (by simp; omega) _, ?_, ?_, h3⟩
  · exact (h1.below b1 h1.lt).below b2 (by simp; omega)
  · exact h2.below b2 h2.lt
end

set_option maxRecDepth 100000 in
set_option maxHeartbeats 4000000 in
theorem site_any (A : Option Addr) (n c : Nat) (os : List FleetMath.Ord) (s : Stp) (w : World) (hl : Ords w w.heap.size A n os) :
    Calls Try.prog 22 #[.slice A n c, stpV s] w (Gives w (siteR (find os s.ord) s)) := by
  have hm := Recs.le hl
  have HI := Lib.hid hl
  have HL := Lib.hid hl.length
  clear hl
  go_enter Try.func22, Try.ntmps22
  go_wp2
  go_loopw [7] (fun i wr => ∃ k : Nat, k ≤ n ∧ i = .int .i64 k ∧ Hid (SiteAt w s zeroO zeroS wr) ∧ Hid (∀ j p, j < k → os[j]? = some p → p.id ≠ s.ord)) (fun i _ => n - (intOf i).toNat)
  case atStart => exact ⟨0, Nat.zero_le _, rfl, SiteAt.start w s, fun j p hj => absurd hj (by omega)⟩
  case round =>
    obtain ⟨k, hk, rfl, HS, HK⟩ := hrel
    have y0 := HS.out.bs.cell (i := 0) rfl
    have y1 := HS.out.bs.cell (i := 1) rfl
    obtain ⟨⟨a0, a1, a2, a3, a4, a5, a6, a7, a8, a9⟩, ⟨f0, f1, f2, f3, f4, f5, f6, f7, f8, f9⟩, ⟨b0, b1, b2, b3⟩, ⟨g0, g1, g2, g3⟩⟩ := HS.out.cells
    by_cases hlt : k < n
    · obtain ⟨b, off, o, rfl, hb, ho, _, c0, c1, c2, c3, c4, c5, c6, c7, c8, c9⟩ := Ords.at_ (Recs.keep HI.out HS.out.on) hlt
      have HO := Lib.hid ho
      clear ho
      by_cases he : o.id = s.ord
      · have HF : Hid (find os s.ord = some o) := by
          obtain ⟨o', h1, _, h2⟩ := findI_some (findI_at HK.out HO.out he)
          have h3 := HO.out
          rw [h1] at h3
          injection h3 with h3
          rw [← h3]
          exact h2
        have e1 : (o.id == s.ord) = true := by simpa using he
        clear he HK
        obtain ⟨so, sd⟩ := s
        simp only at y0 y1 e1 HF
        cases sd with
        | true =>
          have HC : Hid (∀ u, Below w.heap.size w u → (u.cell? ⟨b, off + k * 10, none⟩ = some (.int .i64 o.id) ∧ u.cell? ⟨b, off + k * 10 + 1, none⟩ = some (.int .i64 o.size) ∧ u.cell? ⟨b, off + k * 10 + 2, none⟩ = some (.int .i64 o.pick.place) ∧ u.cell? ⟨b, off + k * 10 + 3, none⟩ = some (.int .i64 o.pick.win.fr) ∧ u.cell? ⟨b, off + k * 10 + 4, none⟩ = some (.int .i64 o.pick.win.to) ∧ u.cell? ⟨b, off + k * 10 + 5, none⟩ = some (.int .i64 o.pick.serv) ∧ u.cell? ⟨b, off + k * 10 + 6, none⟩ = some (.int .i64 o.drop.place) ∧ u.cell? ⟨b, off + k * 10 + 7, none⟩ = some (.int .i64 o.drop.win.fr) ∧ u.cell? ⟨b, off + k * 10 + 8, none⟩ = some (.int .i64 o.drop.win.to) ∧ u.cell? ⟨b, off + k * 10 + 9, none⟩ = some (.int .i64 o.drop.serv)) ∧ Below w.heap.size w u) := fun u hu => by
            obtain ⟨b', off', o', e0, _, ho', _, x0, x1, x2, x3, x4, x5, x6, x7, x8, x9⟩ := Ords.at_ (Recs.keep HI.out hu) hlt
            injection e0 with e0
            injection e0 with e2 e3 _
            subst e2
            subst e3
            have h3 := HO.out
            rw [ho'] at h3
            injection h3 with h3
            subst h3
            exact ⟨⟨x0, x1, x2, x3, x4, x5, x6, x7, x8, x9⟩, hu⟩
          go_wp2_with fail
          go_quiet (fail)
          go_upto_region 5 with fail
          obtain ⟨u0, hu0⟩ : ∃ u : World, wr.drewN nq = u := ⟨_, rfl⟩
          have HS0 : Hid (SiteAt w ⟨so, true⟩ zeroO zeroS u0) := by
            rw [← hu0]
            exact HS.out.drewN nq
          rw [hu0]
          clear hu0
          have HSP : Hid (SiteAt w ⟨so, true⟩ o zeroS _) := HS0.out.put1 o
          have HSQ : Hid (SiteAt w ⟨so, true⟩ o o.drop _) := HSP.out.put2 o.drop
          clear a0 a1 a2 a3 a4 a5 a6 a7 a8 a9 f0 f1 f2 f3 f4 f5 f6 f7 f8 f9 b0 b1 b2 b3 g0 g1 g2 g3 c0 c1 c2 c3 c4 c5 c6 c7 c8 c9 y0 y1 HS
          obtain ⟨⟨a0, a1, a2, a3, a4, a5, a6, a7, a8, a9⟩, ⟨f0, f1, f2, f3, f4, f5, f6, f7, f8, f9⟩, ⟨b0, b1, b2, b3⟩, ⟨g0, g1, g2, g3⟩⟩ := HS0.out.cells
          go_cut [6] (fun v wx => v = .bool true ∧ Hid (SiteAt w ⟨so, true⟩ o o.drop wx))
          case first =>
            go_region_held3 (fun u => (u.cell? ⟨b, off + k * 10, none⟩ = some (.int .i64 o.id) ∧ u.cell? ⟨b, off + k * 10 + 1, none⟩ = some (.int .i64 o.size) ∧ u.cell? ⟨b, off + k * 10 + 2, none⟩ = some (.int .i64 o.pick.place) ∧ u.cell? ⟨b, off + k * 10 + 3, none⟩ = some (.int .i64 o.pick.win.fr) ∧ u.cell? ⟨b, off + k * 10 + 4, none⟩ = some (.int .i64 o.pick.win.to) ∧ u.cell? ⟨b, off + k * 10 + 5, none⟩ = some (.int .i64 o.pick.serv) ∧ u.cell? ⟨b, off + k * 10 + 6, none⟩ = some (.int .i64 o.drop.place) ∧ u.cell? ⟨b, off + k * 10 + 7, none⟩ = some (.int .i64 o.drop.win.fr) ∧ u.cell? ⟨b, off + k * 10 + 8, none⟩ = some (.int .i64 o.drop.win.to) ∧ u.cell? ⟨b, off + k * 10 + 9, none⟩ = some (.int .i64 o.drop.serv)) ∧ Below w.heap.size w u)
              (first
                | with_reducible exact HC.out _ HS0.out.drew.on
                | with_reducible exact HC.out _ HSP.out.drew.on
                | with_reducible exact HC.out _ HSQ.out.drew.on)
              (first | fail)
            all_goals
              go_wp2_with fail
              go_meet
              exact ⟨rfl, HSQ.out.drew⟩
          case rest =>
          obtain ⟨rfl, HZ⟩ := hcut
          have o1 := HZ.out.bo
          obtain ⟨⟨q0, q1, q2, q3, q4, q5, q6, q7, q8, q9⟩, _, ⟨p0, p1, p2, p3⟩, _⟩ := HZ.out.cells
          go_wp2
          refine bodyPost_ret (v := siteR (some o) ⟨so, true⟩) ?_ rfl ⟨by rw [HF.out], HZ.out.on⟩
          simp [results, Try.results22, go_sem, siteR, siteOf, q0, q1, q2, q3, q4, q5, q6, q7, q8, q9, p0, p1, p2, p3]
        | false =>
          have HC : Hid (∀ u, Below w.heap.size w u → (u.cell? ⟨b, off + k * 10, none⟩ = some (.int .i64 o.id) ∧ u.cell? ⟨b, off + k * 10 + 1, none⟩ = some (.int .i64 o.size) ∧ u.cell? ⟨b, off + k * 10 + 2, none⟩ = some (.int .i64 o.pick.place) ∧ u.cell? ⟨b, off + k * 10 + 3, none⟩ = some (.int .i64 o.pick.win.fr) ∧ u.cell? ⟨b, off + k * 10 + 4, none⟩ = some (.int .i64 o.pick.win.to) ∧ u.cell? ⟨b, off + k * 10 + 5, none⟩ = some (.int .i64 o.pick.serv) ∧ u.cell? ⟨b, off + k * 10 + 6, none⟩ = some (.int .i64 o.drop.place) ∧ u.cell? ⟨b, off + k * 10 + 7, none⟩ = some (.int .i64 o.drop.win.fr) ∧ u.cell? ⟨b, off + k * 10 + 8, none⟩ = some (.int .i64 o.drop.win.to) ∧ u.cell? ⟨b, off + k * 10 + 9, none⟩ = some (.int .i64 o.drop.serv)) ∧ Below w.heap.size w u) := fun u hu => by
            obtain ⟨b', off', o', e0, _, ho', _, x0, x1, x2, x3, x4, x5, x6, x7, x8, x9⟩ := Ords.at_ (Recs.keep HI.out hu) hlt
            injection e0 with e0
            injection e0 with e2 e3 _
            subst e2
            subst e3
            have h3 := HO.out
            rw [ho'] at h3
            injection h3 with h3
            subst h3
            exact ⟨⟨x0, x1, x2, x3, x4, x5, x6, x7, x8, x9⟩, hu⟩
          go_wp2_with fail
          go_quiet (fail)
          obtain ⟨nq0, rfl⟩ : ∃ k : Nat, k = nq := ⟨_, rfl⟩
          go_wp2_with fail
          go_quiet (fail)
          go_upto_region 7 with fail
          obtain ⟨u0, hu0⟩ : ∃ u : World, (wr.drewN nq0).drewN nq = u := ⟨_, rfl⟩
          have HS0 : Hid (SiteAt w ⟨so, false⟩ zeroO zeroS u0) := by
            rw [← hu0]
            exact (HS.out.drewN nq0).drewN nq
          rw [hu0]
          clear hu0
          have HSP : Hid (SiteAt w ⟨so, false⟩ o zeroS _) := HS0.out.put1 o
          have HSQ : Hid (SiteAt w ⟨so, false⟩ o o.pick _) := HSP.out.put2 o.pick
          clear a0 a1 a2 a3 a4 a5 a6 a7 a8 a9 f0 f1 f2 f3 f4 f5 f6 f7 f8 f9 b0 b1 b2 b3 g0 g1 g2 g3 c0 c1 c2 c3 c4 c5 c6 c7 c8 c9 y0 y1 HS
          obtain ⟨⟨a0, a1, a2, a3, a4, a5, a6, a7, a8, a9⟩, ⟨f0, f1, f2, f3, f4, f5, f6, f7, f8, f9⟩, ⟨b0, b1, b2, b3⟩, ⟨g0, g1, g2, g3⟩⟩ := HS0.out.cells
          go_cut [6] (fun v wx => v = .bool true ∧ Hid (SiteAt w ⟨so, false⟩ o o.pick wx))
          case first =>
            go_region_held3 (fun u => (u.cell? ⟨b, off + k * 10, none⟩ = some (.int .i64 o.id) ∧ u.cell? ⟨b, off + k * 10 + 1, none⟩ = some (.int .i64 o.size) ∧ u.cell? ⟨b, off + k * 10 + 2, none⟩ = some (.int .i64 o.pick.place) ∧ u.cell? ⟨b, off + k * 10 + 3, none⟩ = some (.int .i64 o.pick.win.fr) ∧ u.cell? ⟨b, off + k * 10 + 4, none⟩ = some (.int .i64 o.pick.win.to) ∧ u.cell? ⟨b, off + k * 10 + 5, none⟩ = some (.int .i64 o.pick.serv) ∧ u.cell? ⟨b, off + k * 10 + 6, none⟩ = some (.int .i64 o.drop.place) ∧ u.cell? ⟨b, off + k * 10 + 7, none⟩ = some (.int .i64 o.drop.win.fr) ∧ u.cell? ⟨b, off + k * 10 + 8, none⟩ = some (.int .i64 o.drop.win.to) ∧ u.cell? ⟨b, off + k * 10 + 9, none⟩ = some (.int .i64 o.drop.serv)) ∧ Below w.heap.size w u)
              (first
                | with_reducible exact HC.out _ HS0.out.drew.on
                | with_reducible exact HC.out _ HSP.out.drew.on
                | with_reducible exact HC.out _ HSQ.out.drew.on)
              (first | fail)
            all_goals
              go_wp2_with fail
              go_meet
              exact ⟨rfl, HSQ.out.drew⟩
          case rest =>
          obtain ⟨rfl, HZ⟩ := hcut
          have o1 := HZ.out.bo
          obtain ⟨⟨q0, q1, q2, q3, q4, q5, q6, q7, q8, q9⟩, _, ⟨p0, p1, p2, p3⟩, _⟩ := HZ.out.cells
          go_wp2
          refine bodyPost_ret (v := siteR (some o) ⟨so, false⟩) ?_ rfl ⟨by rw [HF.out], HZ.out.on⟩
          simp [results, Try.results22, go_sem, siteR, siteOf, q0, q1, q2, q3, q4, q5, q6, q7, q8, q9, p0, p1, p2, p3]
      · have HN : Hid (∀ j p, j < k + 1 → os[j]? = some p → p.id ≠ s.ord) := fun j p hj hp => by
          by_cases e : j = k
          · subst e
            have := HO.out
            rw [this] at hp
            injection hp with hp
            rw [← hp]
            exact he
          · exact HK.out j p (by omega) hp
        have e1 : (o.id == s.ord) = false := by simpa using he
        clear he HK
        go_wp2
        go_quiet (fail)
        go_wp2
        go_quiet (fail)
        go_wp2
        go_roundw
        case rel => exact ⟨k + 1, by omega, by go_num, by first | exact HS.out.drewN _ | exact (HS.out.drewN _).drew | exact (HS.out.drewN _).drewN _, HN⟩
        case measure => simp [intOf]; omega
    · have HF : Hid (find os s.ord = none) := findI_none (findI_no fun j p hj hp => HK.out j p (by have := HL.out; omega) hp)
      clear HK
      have HSQ : Hid (SiteAt w s zeroO zeroS _) := (HS.out.put1 zeroO).put2 zeroS
      obtain ⟨⟨q0, q1, q2, q3, q4, q5, q6, q7, q8, q9⟩, _, ⟨p0, p1, p2, p3⟩, _⟩ := HSQ.out.cells
      clear a0 a1 a2 a3 a4 a5 a6 a7 a8 a9 b0 b1 b2 b3
      obtain ⟨⟨a0, a1, a2, a3, a4, a5, a6, a7, a8, a9⟩, _, ⟨b0, b1, b2, b3⟩, _⟩ := HS.out.cells
      go_wp2
      refine bodyPost_ret (v := siteR none s) ?_ rfl ⟨by rw [HF.out], HSQ.out.on⟩
      simp [results, Try.results22, go_sem, siteR, q0, q1, q2, q3, q4, q5, q6, q7, q8, q9, p0, p1, p2, p3]

#print axioms site_any
end Go.Proofs.Ytjkahookgoecpaa.Route
