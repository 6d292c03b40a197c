/-
  The document's own answer to chapter 10, walked: one.
-/
import Derived.Test.YtfejnohcggoepaaCertRDrv
import Derived.Test.YtfejnohcggoepaaCertMaths
import Derived.Test.YtfejnohcggoepaaPlanSmalls
import Derived.Test.YtfejnohcggoepaaPlanMaths
import Derived.Test.YtfejnohcggoepaaPlanExec
import Derived.Test.YtfejnohcggoepaaRegions
import Derived.Test.YtfejnohcggoepaaRouteRefs
import Derived.Test.YtfejnohcggoepaaLibRows
import Derived.Deep.RegionLaw
import Derived.Deep.DeepCutAuto
namespace Go.Proofs.Ytfejnohcggoepaa.Cert
open Go.ChangeShapes Go.WideShapes Go.ChangeAt Go.RowKit Go.Proofs.Ytfejnohcggoepaa.Mem Go.Proofs.Ytfejnohcggoepaa.GeoMath Go.Proofs.Ytfejnohcggoepaa.FleetMath Go.Proofs.Ytfejnohcggoepaa.PlanMath Go.Proofs.Ytfejnohcggoepaa.CertMath Go.Proofs.Ytfejnohcggoepaa.Rec Go.Proofs.Ytfejnohcggoepaa.Geo Go.Proofs.Ytfejnohcggoepaa.Span Go.Proofs.Ytfejnohcggoepaa.Deal Go.Proofs.Ytfejnohcggoepaa.Route Go.Proofs.Ytfejnohcggoepaa.Plan
set_option linter.unusedVariables false
set_option linter.unusedSimpArgs false
namespace OneR
theorem below_drew {w u' : World} (hb : Below w.drew.heap.size w.drew u') : Below w.heap.size w u' := (Below.refl w.heap.size w).drew.trans hb
theorem cell_apart (g : Nat) : ∀ (u : World) (i j : Nat) (v : Value), i ≠ j → (u.setCell ⟨g, i, none⟩ v).cell? ⟨g, j, none⟩ = u.cell? ⟨g, j, none⟩ := fun u i j v h => World.cell?_setCell_other u _ _ v fun e => h (by injection e)
theorem frozen_set : ∀ (u : World) (a b : Addr) (v : Value), (u.setCell a v).frozen? b = u.frozen? b := fun u a b v => by simp
theorem exec_front_stp {o : Oper} {a : Act} {u : World} {x y : Operand} {A : Option Addr} {n c h : Nat} (ho : o.op = .slice 38 x none (some y) none) (hx : a.eval x = .slice A n c) (hy : a.eval y = .int .i64 (h : Int)) (h2 : h ≤ n) (h3 : n ≤ c) :
    (execOp a.eval o).run Try.prog u = .ok (.value (.slice A h c)) u := by
  have hsz : (sizeOf 36).run Try.prog u = .ok 2 u := by
    obtain ⟨i, hi, _, hz, _⟩ := info_parts infoStp
    simp [sizeOf, typeInfo, hi, hz]
  have q : h ≤ c := Nat.le_trans h2 h3
  have hz0 : A.map (·.add 0) = A := by
    cases A with
    | none => rfl
    | some ad => rfl
  have hr : (Instr.sliceAt 38 (.slice A n c) none (some (.int .i64 (h : Int))) none).run Try.prog u = .ok (.slice A h c) u := by
    simp [Instr.sliceAt, Instr.slice, Instr.sliceBounds, Instr.sliceBound, run_underlying Try.underlying38, asIntOf, hsz, q]
    intro _
    exact hz0
  obtain ⟨ρ, hρ⟩ : ∃ ρ, a.eval = ρ := ⟨_, rfl⟩
  rw [hρ] at hx hy ⊢
  unfold execOp
  rw [ho]
  simp only [hx, hy, Option.map_none, Option.map_some, Sem.run_bind, hr, Result.andThen_ok, Sem.run_pure]
section
variable {o : Oper} {a : Act} {u : World} {x y : Operand}
theorem exec_bstp {v : Int} (h : o.op = .build 36 #[(0, x)]) (hx : a.eval x = .int .i64 v) : (execOp a.eval o).run Try.prog u = .ok (.value (stpV ⟨v, false⟩)) u := by
  obtain ⟨ρ, hρ⟩ : ∃ ρ, a.eval = ρ := ⟨_, rfl⟩
  rw [hρ] at hx ⊢
  unfold execOp
  rw [h]
  simp [go_sem, hx]
theorem exec_neg {p : Int} {T : TypeId} {b : Bool} (h : o.op = .binOp .lss 3 x (.const (.int .i64 0)) T) (hp : a.eval x = .int .i64 p) (hb : decide (p < 0) = b) : (execOp a.eval o).run Try.prog u = .ok (.value (.bool b)) u := by
  have hc : a.eval (.const (.int .i64 0)) = .int .i64 0 := rfl
  obtain ⟨ρ, hρ⟩ : ∃ ρ, a.eval = ρ := ⟨_, rfl⟩
  rw [hρ] at hp hc ⊢
  unfold execOp
  rw [h, ← hb]
  simp [go_sem, hp, hc]
theorem exec_and {b c r : Bool} (h : o.op = .pick x y (.const (.bool false))) (hp : a.eval x = .bool b) (hy : a.eval y = .bool c) (hr : (b && c) = r) : (execOp a.eval o).run Try.prog u = .ok (.value (.bool r)) u := by
  have hc : a.eval (.const (.bool false)) = .bool false := rfl
  obtain ⟨ρ, hρ⟩ : ∃ ρ, a.eval = ρ := ⟨_, rfl⟩
  rw [hρ] at hp hy hc ⊢
  unfold execOp
  rw [h, ← hr]
  cases b <;> simp [go_sem, hp, hy, hc]
theorem exec_andf (h : o.op = .pick x y (.const (.bool false))) (hp : a.eval x = .bool false) : (execOp a.eval o).run Try.prog u = .ok (.value (.bool false)) u := by
  have hc : a.eval (.const (.bool false)) = .bool false := rfl
  obtain ⟨ρ, hρ⟩ : ∃ ρ, a.eval = ρ := ⟨_, rfl⟩
  rw [hρ] at hp hc ⊢
  unfold execOp
  rw [h]
  simp [go_sem, hp, hc]
theorem exec_index_o {b off n c k : Nat} (h : o.op = .indexAddr 37 x y) (hx : a.eval x = .slice (some ⟨b, off, none⟩) n c) (hy : a.eval y = .int .i64 k) (hk : k < n) (hn : n ≤ 9223372036854775807) :
    (execOp a.eval o).run Try.prog u = .ok (.value (.pointer (some ⟨b, off + k * 10, none⟩))) u := by
  obtain ⟨ρ, hρ⟩ : ∃ ρ, a.eval = ρ := ⟨_, rfl⟩
  rw [hρ] at hx hy ⊢
  have hk1 : (k : Int) < (n : Int) := by omega
  unfold execOp
  rw [h]
  simp [go_sem, hx, hy, hk1]
theorem exec_asi (h : o.op = .alloc 29) : (execOp a.eval o).run Try.prog u = .ok (.value (.pointer (some ⟨u.heap.size, 0, none⟩))) (u.alloc (.cells #[.int .i64 0, .int .i64 0, .int .i64 0, .int .i64 0] 29)) := by
  unfold execOp
  rw [h]
  simp [go_sem]
end
/-- the cells of an order -/
def OAt (u : World) (b i : Nat) (o : FleetMath.Ord) : Prop := u.cell? ⟨b, i, none⟩ = some (.int .i64 o.id) ∧ u.cell? ⟨b, i + 1, none⟩ = some (.int .i64 o.size) ∧ u.cell? ⟨b, i + 2, none⟩ = some (.int .i64 o.pick.place) ∧ u.cell? ⟨b, i + 3, none⟩ = some (.int .i64 o.pick.win.fr) ∧ u.cell? ⟨b, i + 4, none⟩ = some (.int .i64 o.pick.win.to) ∧ u.cell? ⟨b, i + 5, none⟩ = some (.int .i64 o.pick.serv) ∧ u.cell? ⟨b, i + 6, none⟩ = some (.int .i64 o.drop.place) ∧ u.cell? ⟨b, i + 7, none⟩ = some (.int .i64 o.drop.win.fr) ∧ u.cell? ⟨b, i + 8, none⟩ = some (.int .i64 o.drop.win.to) ∧ u.cell? ⟨b, i + 9, none⟩ = some (.int .i64 o.drop.serv)
theorem run_load_oo {u : World} {b i : Nat} {o : FleetMath.Ord} (h : OAt u b i o) : (Instr.loadAt 31 (.pointer (some ⟨b, i, none⟩))).run Try.prog u = .ok (ordV o) u := by
  obtain ⟨g0, g1, g2, g3, g4, g5, g6, g7, g8, g9⟩ := h
  simp [go_sem, g0, g1, g2, g3, g4, g5, g6, g7, g8, g9]
theorem run_load_st {u : World} {b i : Nat} {s : Stp} (h : u.cell? ⟨b, i, none⟩ = some (.int .i64 s.ord) ∧ u.cell? ⟨b, i + 1, none⟩ = some (.bool s.drop)) : (Instr.loadAt 36 (.pointer (some ⟨b, i, none⟩))).run Try.prog u = .ok (stpV s) u := by
  obtain ⟨c0, c1⟩ := h
  simp [go_sem, c0, c1]
abbrev putSi (u : World) (g : Nat) (si : Site) : World := ((((u.setCell ⟨g, 0, none⟩ (.int .i64 si.place)).setCell ⟨g, 1, none⟩ (.int .i64 si.win.fr)).setCell ⟨g, 2, none⟩ (.int .i64 si.win.to)).setCell ⟨g, 3, none⟩ (.int .i64 si.serv))
theorem putSi_box {u : World} {g : Nat} {a0 a1 a2 a3 : Value} (h : Blk u g 29 [a0, a1, a2, a3]) (si : Site) : SBox (putSi u g si) g si := ((((h.put 0 (.int .i64 si.place)).put 1 (.int .i64 si.win.fr)).put 2 (.int .i64 si.win.to)).put 3 (.int .i64 si.serv))
theorem run_store_si {u : World} {g : Nat} {si : Site} (h : Blk u g 29 [.int .i64 0, .int .i64 0, .int .i64 0, .int .i64 0]) : (Instr.storeAt 29 (.pointer (some ⟨g, 0, none⟩)) (siteV si)).run Try.prog u = .ok () (putSi u g si) := by
  have c0 := h.cell (i := 0) rfl
  have c1 := h.cell (i := 1) rfl
  have c2 := h.cell (i := 2) rfl
  have c3 := h.cell (i := 3) rfl
  have hff := h.free
  have hcs := cell_apart g
  have hfs := frozen_set
  simp [go_sem, c0, c1, c2, c3, hff, hcs, hfs]
/-- what stays in one: the driver's box -/
structure OS (w : World) (d : Drv) (u : World) : Prop where
  old : Below w.heap.size w u
  drv : DBox u w.heap.size d
theorem OS.next {w u u' : World} {d : Drv} (h : OS w d u) (hb : Below u.heap.size u u') : OS w d u' := ⟨h.old.trans (hb.mono h.old.size), h.drv.below hb⟩
theorem OS.drewN {w u : World} {d : Drv} (h : OS w d u) (k : Nat) : OS w d (u.drewN k) := h.next (below_drewN (Below.refl _ _) k)
theorem OS.start (w : World) (d : Drv) : OS w d (w.alloc (.cells #[.int .i64 d.id, .int .i64 d.room, .int .i64 d.home, .int .i64 d.win.fr, .int .i64 d.win.to, .bool d.retired] 33)) := ⟨(Below.refl _ _).alloc (Nat.le_refl _) _, Blk.new w _ _⟩
theorem stops_next {vs : List Vis} {stops : List Stp} {k : Nat} {x : Vis} {s : Stp} (h : (vs.take k).map (·.stop) = stops.take k) (hx : vs[k]? = some x) (hs : stops[k]? = some s) (e : x.stop = s) : (vs.take (k + 1)).map (·.stop) = stops.take (k + 1) := by
  rw [List.take_add_one, List.take_add_one, hx, hs, List.map_append, h]
  simp [e]
theorem stops_not {vs : List Vis} {stops : List Stp} {k : Nat} {x : Vis} {s : Stp} (hx : vs[k]? = some x) (hs : stops[k]? = some s) (e : x.stop ≠ s) : vs.map (·.stop) ≠ stops := by
  intro h
  have h1 : (vs.map (·.stop))[k]? = some x.stop := by rw [List.getElem?_map, hx]; rfl
  rw [h, hs] at h1
  injection h1 with h1
  exact e h1.symm
theorem stops_all {vs : List Vis} {stops : List Stp} {k : Nat} (h : (vs.take k).map (·.stop) = stops.take k) (h1 : vs.length ≤ k) (h2 : stops.length ≤ k) : vs.map (·.stop) = stops := by
  rw [List.take_of_length_le h1, List.take_of_length_le h2] at h
  exact h
end OneR
open OneR in
set_option maxRecDepth 100000 in
set_option maxHeartbeats 8000000 in
theorem rone_any (base : Nat) (q : Option Addr) (m : Mp) (d : Drv) (A2 : Option Addr) (n2 c2 : Nat) (os : List FleetMath.Ord) (A3 : Option Addr) (n3 c3 : Nat) (stops : List Stp) (A4 : Option Addr) (n4 c4 : Nat) (vs : List Vis) (v : Int) (w : World) (hcc : n3 ≤ c3)
    (h : MapP w 107 base (.pointer q) (some m)) (hd : drvE (some m) d = 0) (hk : known (some m) os = true) (ho : Ords w w.heap.size A2 n2 os) (hs : Stps w w.heap.size A3 n3 stops) (h80 : n3 ≤ 80) (hv : Viss w w.heap.size A4 n4 vs) (hr : oneC m d os stops vs = v) :
    Calls Try.prog 33 #[.pointer q, drvV d, .slice A2 n2 c2, .slice A3 n3 c3, .slice A4 n4 c4] w (Gives w (.int .i64 v)) := by
  obtain ⟨mn, ml⟩ := m
  have hm2 := Recs.le ho
  have hm3 := Recs.le hs
  have hm4 := Recs.le hv
  have HM := Lib.hid h
  have HO := Lib.hid ho
  have HST := Lib.hid hs
  have HV := Lib.hid hv
  have HL2 := Lib.hid ho.length
  have HL3 := Lib.hid hs.length
  have HL4 := Lib.hid hv.length
  have HOK := Lib.hid (known_ok hk)
  have HR := Lib.hid hr
  obtain ⟨m', hm', hdk⟩ := drvE_ok.1 hd
  injection hm' with hm'
  subst hm'
  have HOB0 : Hid (OB (st0 d) 0) := OB.start hdk
  obtain ⟨bm, hbm⟩ := map_ptr h
  subst hbm
  have HS0 : Hid (OS w d (w.alloc (.cells #[.int .i64 d.id, .int .i64 d.room, .int .i64 d.home, .int .i64 d.win.fr, .int .i64 d.win.to, .bool d.retired] 33))) := OS.start w d
  clear h hk ho hs hv hr hdk hd
  go_enter Try.func33, Try.ntmps33
  by_cases hlen : n4 = n3
  case neg =>
    have HF : Hid (4 = v) := by
      show _ = _
      rw [← HR.out]
      exact (oneC_no (fun e => hlen (by rw [← HL3.out, ← HL4.out, ← e, List.length_map]))).symm
    have e1 : ((n4 : Int) != (n3 : Int)) = true := by simp only [bne_iff_ne, ne_eq]; omega
    clear hlen
    go_wp2_with fail
    go_ret
    exact ⟨ret_i HF.out, HS0.out.old⟩
  subst hlen
  obtain ⟨n5, hn5⟩ : ∃ n, n4 = n := ⟨_, rfl⟩
  subst hn5
  go_wp2_with fail
  go_loopw [11] (fun i wr => ∃ k : Nat, k ≤ n4 ∧ i = .int .i64 k ∧ Hid (OS w d wr) ∧ Hid ((vs.take k).map (·.stop) = stops.take k)) (fun i _ => n4 - (intOf i).toNat)
  case atStart => exact ⟨0, Nat.zero_le _, rfl, HS0, Lib.hid rfl⟩
  case round =>
    clear HS0
    obtain ⟨k, hk, rfl, HS, HK⟩ := hrel
    by_cases hlt : k < n4
    · obtain ⟨b5, off5, x, rfl, hbb5, hx, _, c0, c1, c2', c3', c4', c5⟩ := Viss.at_ (Recs.keep HV.out HS.out.old) hlt
      obtain ⟨b3, off3, s, rfl, hbb3, hs, _, d0, d1⟩ := Stps.at_ (Recs.keep HST.out HS.out.old) hlt
      have HX := Lib.hid hx
      have HSX := Lib.hid hs
      clear hx hs c2' c3' c4' c5
      by_cases he : x.stop = s
      · have HN := Lib.hid (stops_next HK.out HX.out HSX.out he)
        subst he
        clear HK HX HSX
        go_wp2_with fail
        go_quiet (fail)
        go_wp2_with fail
        go_roundw
        case rel => exact ⟨k + 1, by omega, by go_num, HS.out.drewN _, HN⟩
        case measure => simp [intOf]; omega
      · have HF : Hid (4 = v) := by
          show _ = _
          rw [← HR.out]
          exact (oneC_no (stops_not HX.out HSX.out he)).symm
        by_cases h1 : x.stop.ord = s.ord
        · have h2 : ¬ x.stop.drop = s.drop := fun e => he (Stp.ext_iff'.2 ⟨h1, e⟩)
          have e2 : (x.stop.drop == s.drop) = false := by simpa using h2
          rw [← h1] at d0
          clear he h1 h2 HK HX HSX
          go_wp2_with fail
          go_quiet (fail)
          go_wp2_with fail
          go_ret
          exact ⟨ret_i HF.out, (HS.out.drewN _).old⟩
        · have e1 : (x.stop.ord == s.ord) = false := by simpa using h1
          clear he h1 HK HX HSX
          go_wp2_with fail
          go_quiet (fail)
          go_wp2_with fail
          go_ret
          exact ⟨ret_i HF.out, (HS.out.drewN _).old⟩
    · have HEQ := Lib.hid (stops_all HK.out (by have := HL4.out; omega) (by have := HL3.out; omega))
      have HG0 : Hid (v = oneGo ⟨mn, ml⟩ d os (stops.take 0) (st0 d) (vs.drop 0)) := by show _ = _; rw [← HR.out]; exact oneC_go HEQ.out
      clear HK HR
      obtain ⟨e0, e1, e2, e3, e4, e5⟩ := HS.out.drv.cells
      go_wp2_with fail
      go_quiet (fail)
      go_wp2_with fail
      have HS1 : Hid (OS w d (wr.drewN nq)) := HS.out.drewN _
      clear HS e0 e1 e2 e3 e4 e5 hlt hk
      go_loopw [12, 13, 14, 15] (fun av lv dv iv wr => ∃ (k : Nat) (st : St), k ≤ n4 ∧ iv = .int .i64 k ∧ av = .int .i64 st.at_ ∧ lv = .int .i64 st.left ∧ dv = .int .i64 st.load ∧ Hid (OS w d wr) ∧ Hid (v = oneGo ⟨mn, ml⟩ d os (stops.take k) st (vs.drop k)) ∧ Hid (OB st k)) (fun _ _ _ iv _ => n4 - (intOf iv).toNat)
      case atStart => exact ⟨0, st0 d, Nat.zero_le _, rfl, rfl, rfl, rfl, HS1, HG0, HOB0⟩
      case round =>
        clear HS1 HG0 HOB0
        obtain ⟨k, st, hk, rfl, rfl, rfl, rfl, HS, HG, HB⟩ := hrel
        by_cases hlt : k < n4
        case neg =>
          have HE : Hid (v = if 0 < st.load then 18 else 0) := by
            have h1 := HG.out
            rw [List.drop_of_length_le (by have := HL4.out; omega)] at h1
            exact og_end h1
          clear HG
          by_cases hpos : 0 < st.load
          · have HE2 : Hid (18 = v) := by have := HE.out; rw [if_pos hpos] at this; exact this.symm
            go_wp2_with fail
            go_ret
            exact ⟨ret_i HE2.out, HS.out.old⟩
          · have HE2 : Hid (0 = v) := by have := HE.out; rw [if_neg hpos] at this; exact this.symm
            go_wp2_with fail
            go_ret
            exact ⟨ret_i HE2.out, HS.out.old⟩
        obtain ⟨b5, off5, x, hA5, hbb5, hx, hdr5, _⟩ := Viss.at_ (Recs.keep HV.out HS.out.old) hlt
        obtain ⟨b3, off3, s, hA3, hbb3, hs, _, _⟩ := Stps.at_ (Recs.keep HST.out HS.out.old) hlt
        have hse : s = x.stop := by
          have h1 : (vs.map (·.stop))[k]? = some x.stop := by rw [List.getElem?_map, hx]; rfl
          rw [HEQ.out, hs] at h1
          injection h1
        subst hse
        subst hA5
        subst hA3
        have HG1 := HG.out
        rw [hdr5] at HG1
        have HG2 := Lib.hid HG1
        have HXK := Lib.hid hx
        have HSK := Lib.hid hs
        have HXS : Hid (stops.take k ++ [x.stop] = stops.take (k + 1)) := by
          show _ = _
          rw [List.take_add_one, hs]; rfl
        have HC : Hid (∀ u, Below w.heap.size w u → u.cell? ⟨b3, off3 + k * 2, none⟩ = some (.int .i64 x.stop.ord) ∧ u.cell? ⟨b3, off3 + k * 2 + 1, none⟩ = some (.bool x.stop.drop)) := fun u hu => by
          obtain ⟨b', o', s', e', _, hs', _, c0, c1⟩ := Stps.at_ (Recs.keep HST.out hu) hlt
          injection e' with e'
          injection e' with e1 e2
          subst e1; subst e2
          rw [HSK.out] at hs'
          injection hs' with hs'
          subst hs'
          exact ⟨c0, c1⟩
        have HCV : Hid (∀ u, Below w.heap.size w u → u.cell? ⟨b5, off5 + k * 6, none⟩ = some (.int .i64 x.stop.ord) ∧ u.cell? ⟨b5, off5 + k * 6 + 1, none⟩ = some (.bool x.stop.drop) ∧ u.cell? ⟨b5, off5 + k * 6 + 2, none⟩ = some (.int .i64 x.arrive) ∧ u.cell? ⟨b5, off5 + k * 6 + 3, none⟩ = some (.int .i64 x.start) ∧ u.cell? ⟨b5, off5 + k * 6 + 4, none⟩ = some (.int .i64 x.leave) ∧ u.cell? ⟨b5, off5 + k * 6 + 5, none⟩ = some (.int .i64 x.load)) := fun u hu => by
          obtain ⟨b', o', s', e', _, hs', _, c⟩ := Viss.at_ (Recs.keep HV.out hu) hlt
          injection e' with e'
          injection e' with e1 e2
          subst e1; subst e2
          rw [HXK.out] at hs'
          injection hs' with hs'
          subst hs'
          exact c
        obtain ⟨lf1, lf2⟩ := HB.out.left
        have ll1 : -80000 ≤ st.load := by have := HB.out.load; omega
        have ll2 : st.load ≤ 80000 := by have := HB.out.load; omega
        clear hx hs hdr5 HG1 HG
        obtain ⟨c0, c1⟩ := HC.out wr HS.out.old
        cases hf : findI os x.stop.ord with
        | none =>
          have HF : Hid (8 = v) := by
            show _ = _
            exact (og_fault HG2.out (follow_none (findI_none hf))).symm
          have HFD : Hid (∀ u, Below w.heap.size w u → Calls Try.prog 47 #[.slice A2 n2 c2, .int .i64 x.stop.ord] u fun e w' => e = .returned (.int .i64 (-1)) ∧ u = w') := fun u hu => by
            have := rfind_any A2 n2 c2 os x.stop.ord u _ (Recs.keep HO.out hu)
            rw [hf] at this
            exact this
          clear hf
          go_wp2_with fail
          refine (HFD.out _ HS.out.old).mono ?_
          rintro e w1 ⟨rfl, rfl⟩
          go_wp2_with fail
          go_ret
          exact ⟨ret_i HF.out, HS.out.old⟩
        | some i =>
          obtain ⟨o, hoi, _, hfo⟩ := findI_some hf
          have HFO := Lib.hid hfo
          have HOI := Lib.hid hoi
          have HKO := Lib.hid (HOK.out o (List.mem_of_getElem? hoi))
          have hin : i < n2 := by have := (List.getElem?_eq_some_iff.1 hoi).1; have := HL2.out; omega
          have hini : (i : Int) < (n2 : Int) := by omega
          have HFD : Hid (∀ u, Below w.heap.size w u → Calls Try.prog 47 #[.slice A2 n2 c2, .int .i64 x.stop.ord] u fun e w' => e = .returned (.int .i64 (i : Int)) ∧ u = w') := fun u hu => by
            have := rfind_any A2 n2 c2 os x.stop.ord u _ (Recs.keep HO.out hu)
            rw [hf] at this
            exact this
          obtain ⟨b2, off2, hA2⟩ : ∃ b off, A2 = some ⟨b, off, none⟩ := by
            obtain ⟨b, off, _, e, _⟩ := Ords.at_ HO.out hin
            exact ⟨b, off, e⟩
          subst hA2
          have HCO' : Hid (∀ u, Below w.heap.size w u → OAt u b2 (off2 + i * 10) o) := fun u hu => by
            obtain ⟨b', o', s', e', _, hs', _, c⟩ := Ords.at_ (Recs.keep HO.out hu) hin
            injection e' with e'
            injection e' with e1 e2
            subst e1; subst e2
            rw [HOI.out] at hs'
            injection hs' with hs'
            subst hs'
            exact c
          clear hf hoi hfo
          go_wp2_with fail
          refine (HFD.out _ HS.out.old).mono ?_
          rintro e w1 ⟨rfl, rfl⟩
          clear HFD c0 c1
          obtain ⟨iv, hiv⟩ : ∃ z, idxS (stops.take k) ⟨x.stop.ord, false⟩ = z := ⟨_, rfl⟩
          obtain ⟨t3, ht3⟩ : ∃ t, decide (iv < 0) = t := ⟨_, rfl⟩
          have HIV := Lib.hid hiv
          have HT3 := Lib.hid ht3
          have HDV' : Hid (∀ u, Below w.heap.size w u → Calls Try.prog 52 #[.slice (some ⟨b3, off3, none⟩) k c3, stpV ⟨x.stop.ord, false⟩] u fun e w' => e = .returned (.int .i64 iv) ∧ Below u.heap.size u w') := fun u hu => by
            have := rwhere_any (some ⟨b3, off3, none⟩) k c3 (stops.take k) ⟨x.stop.ord, false⟩ u (stps_front (Recs.more (Recs.keep HST.out hu) hu.size) (by omega))
            rw [HIV.out] at this
            exact this
          have HMEM : Hid (t3 = true ↔ Stp.mk x.stop.ord false ∉ stops.take k) := by
            show _ ↔ _
            rw [← ht3, ← idxS_iff, hiv, decide_eq_true_eq]
            omega
          clear hiv ht3
          go_upto_region 15 with fail
          go_cut [80] (fun bv wx => ∃ t : Bool, bv = .bool t ∧ Hid (t = true → x.stop.drop = true ∧ Stp.mk x.stop.ord false ∉ stops.take k) ∧ Hid (t = false → ¬(x.stop.drop = true ∧ Stp.mk x.stop.ord false ∉ stops.take k)) ∧ Hid (OS w d wx))
          case first =>
            have HDV : Hid (∀ u, Below wr.heap.size wr u → Calls Try.prog 52 #[.slice (some ⟨b3, off3, none⟩) k c3, stpV ⟨x.stop.ord, false⟩] u fun e w' => e = .returned (.int .i64 iv) ∧ Below u.heap.size u w') := fun u hu => HDV'.out u (HS.out.old.trans (hu.mono HS.out.old.size))
            cases hsd : x.stop.drop with
            | false =>
              have HC : Hid (∀ u, Below wr.heap.size wr u → u.cell? ⟨b3, off3 + k * 2, none⟩ = some (.int .i64 x.stop.ord) ∧ u.cell? ⟨b3, off3 + k * 2 + 1, none⟩ = some (.bool false)) := fun u hu => by
                have := HC.out u (HS.out.old.trans (hu.mono HS.out.old.size))
                rw [hsd] at this
                exact this
              refine wp_region_steps (valRF [63, 64, 65, 66, 67, 68, 69, 70, 71, 72, 73, 74, 75, 76, 77, 78, 79, 80] [.slice (some ⟨b3, off3, none⟩) n4 c3, .int .i64 ((k : Nat) : Int), .pointer (some ⟨b3, off3 + k * 2, none⟩), .pointer (some ⟨b3, off3 + k * 2 + 1, none⟩), .bool false, .bool false, undef, undef, undef, undef, undef, undef, undef, undef, undef, undef, undef, .bool false]) (by kernel_rfl) (by kernel_rfl) (by kernel_rfl) (fun _ _ => rfl) (by kernel_rfl) valRF.mon ?_ ?_
              · refine ⟨?_, ?_, ?_, ?_, ?_, ?_, ?_, ?_, ?_, ?_, ?_, ?_, ?_, ?_, ?_, ?_, ?_, ?_, trivial⟩
                · exact valRF.pureStep rfl 63 rfl rfl (by simp) _ rfl fun listed a u D hI hr hn => exec_move (.inl rfl) (hI.out 3 (by kernel_rfl))
                · exact valRF.pureStep rfl 64 rfl rfl (by simp) _ rfl fun listed a u D hI hr hn => exec_move (.inl rfl) (hI.out 15 (by kernel_rfl))
                · exact valRF.pureStep rfl 65 rfl rfl (by simp) _ rfl fun listed a u D hI hr hn => exec_index_st rfl (valRF.val hI hr hn 0 (by kernel_rfl) rfl rfl) (valRF.val hI hr hn 1 (by kernel_rfl) rfl rfl) hlt hm3
                · exact valRF.pureStep rfl 66 rfl rfl (by simp) _ rfl fun listed a u D hI hr hn => op_field rfl (valRF.val hI hr hn 2 (by kernel_rfl) rfl rfl) (by simp [go_sem])
                · exact valRF.pureStep rfl 67 rfl rfl (by simp) _ rfl fun listed a u D hI hr hn => exec_load rfl (valRF.val hI hr hn 3 (by kernel_rfl) rfl rfl) (run_load_pb (HC.out _ (below_drew hI.old)).2)
                · exact valRF.pureStep rfl 68 rfl rfl (by simp) _ rfl fun listed a u D hI hr hn => exec_move (.inl rfl) (valRF.val hI hr hn 4 (by kernel_rfl) rfl rfl)
                · exact valRF.skipStep 69 rfl rfl (by simp) rfl fun listed a u D hI hr hn => guard_no (t := 68) rfl (by kernel_rfl) (valRF.val hI hr hn 5 (by kernel_rfl) rfl rfl)
                · exact valRF.skipStep 70 rfl rfl (by simp) rfl fun listed a u D hI hr hn => guard_no (t := 68) rfl (by kernel_rfl) (valRF.val hI hr hn 5 (by kernel_rfl) rfl rfl)
                · exact valRF.skipStep 71 rfl rfl (by simp) rfl fun listed a u D hI hr hn => guard_no (t := 68) rfl (by kernel_rfl) (valRF.val hI hr hn 5 (by kernel_rfl) rfl rfl)
                · exact valRF.skipStep 72 rfl rfl (by simp) rfl fun listed a u D hI hr hn => guard_no (t := 68) rfl (by kernel_rfl) (valRF.val hI hr hn 5 (by kernel_rfl) rfl rfl)
                · exact valRF.skipStep 73 rfl rfl (by simp) rfl fun listed a u D hI hr hn => guard_no (t := 68) rfl (by kernel_rfl) (valRF.val hI hr hn 5 (by kernel_rfl) rfl rfl)
                · exact valRF.skipStep 74 rfl rfl (by simp) rfl fun listed a u D hI hr hn => guard_no (t := 68) rfl (by kernel_rfl) (valRF.val hI hr hn 5 (by kernel_rfl) rfl rfl)
                · exact valRF.skipStep 75 rfl rfl (by simp) rfl fun listed a u D hI hr hn => guard_no (t := 68) rfl (by kernel_rfl) (valRF.val hI hr hn 5 (by kernel_rfl) rfl rfl)
                · exact valRF.skipStep 76 rfl rfl (by simp) rfl fun listed a u D hI hr hn => guard_no (t := 68) rfl (by kernel_rfl) (valRF.val hI hr hn 5 (by kernel_rfl) rfl rfl)
                · exact valRF.skipStep 77 rfl rfl (by simp) rfl fun listed a u D hI hr hn => guard_no (t := 68) rfl (by kernel_rfl) (valRF.val hI hr hn 5 (by kernel_rfl) rfl rfl)
                · exact valRF.skipStep 78 rfl rfl (by simp) rfl fun listed a u D hI hr hn => guard_no (t := 68) rfl (by kernel_rfl) (valRF.val hI hr hn 5 (by kernel_rfl) rfl rfl)
                · exact valRF.skipStep 79 rfl rfl (by simp) rfl fun listed a u D hI hr hn => guard_no (t := 68) rfl (by kernel_rfl) (valRF.val hI hr hn 5 (by kernel_rfl) rfl rfl)
                · exact valRF.pureStep rfl 80 rfl rfl (by simp) _ rfl fun listed a u D hI hr hn => exec_andf rfl (valRF.val hI hr hn 5 (by kernel_rfl) rfl rfl)
              · intro listed a u D hI hall
                have eR0 : a.tmps.getD 80 undef = .bool false := (hI.fact 17 ⟨hall 17 (by simp), fun k hk => by cases hk⟩).1
                have hold := below_drew hI.old
                have hl := hI.fill [63, 64, 65, 66, 67, 68, 69, 70, 71, 72, 73, 74, 75, 76, 77, 78, 79, 80] (by kernel_rfl)
                clear hI hall
                obtain ⟨σ, hσ⟩ : ∃ σ : Nat → Value, ∀ t, a.tmps.getD t undef = σ t := ⟨_, fun _ => rfl⟩
                simp only [hσ] at hl eR0
                clear hσ
                simp only [List.foldl_cons, List.foldl_nil, List.setIfInBounds_toArray, List.set_cons_zero, List.set_cons_succ, eR0] at hl
                subst hl
                go_wp2_with fail
                go_meet
                exact ⟨false, rfl, (fun h => (by cases h)), (fun _ h => (by rw [hsd] at h; cases h.1)), HS.out.next hold⟩
            | true =>
              have HC : Hid (∀ u, Below wr.heap.size wr u → u.cell? ⟨b3, off3 + k * 2, none⟩ = some (.int .i64 x.stop.ord) ∧ u.cell? ⟨b3, off3 + k * 2 + 1, none⟩ = some (.bool true)) := fun u hu => by
                have := HC.out u (HS.out.old.trans (hu.mono HS.out.old.size))
                rw [hsd] at this
                exact this
              have HY1 : Hid (t3 = true → x.stop.drop = true ∧ Stp.mk x.stop.ord false ∉ stops.take k) := fun h1 => ⟨hsd, HMEM.out.1 h1⟩
              have HY2 : Hid (t3 = false → ¬(x.stop.drop = true ∧ Stp.mk x.stop.ord false ∉ stops.take k)) := fun h1 h2 => by
                have := HMEM.out.2 h2.2
                rw [h1] at this
                cases this
              refine wp_region_steps (valRF [63, 64, 65, 66, 67, 68, 69, 70, 71, 72, 73, 74, 75, 76, 77, 78, 79, 80] [.slice (some ⟨b3, off3, none⟩) n4 c3, .int .i64 ((k : Nat) : Int), .pointer (some ⟨b3, off3 + k * 2, none⟩), .pointer (some ⟨b3, off3 + k * 2 + 1, none⟩), .bool true, .bool true, .slice (some ⟨b3, off3, none⟩) n4 c3, .int .i64 ((k : Nat) : Int), .slice (some ⟨b3, off3, none⟩) k c3, .slice (some ⟨b3, off3, none⟩) n4 c3, .int .i64 ((k : Nat) : Int), .pointer (some ⟨b3, off3 + k * 2, none⟩), .pointer (some ⟨b3, off3 + k * 2, none⟩), .int .i64 x.stop.ord, stpV ⟨x.stop.ord, false⟩, .int .i64 iv, .bool t3, .bool t3]) (by kernel_rfl) (by kernel_rfl) (by kernel_rfl) (fun _ _ => rfl) (by kernel_rfl) valRF.mon ?_ ?_
              · refine ⟨?_, ?_, ?_, ?_, ?_, ?_, ?_, ?_, ?_, ?_, ?_, ?_, ?_, ?_, ?_, ?_, ?_, ?_, trivial⟩
                · exact valRF.pureStep rfl 63 rfl rfl (by simp) _ rfl fun listed a u D hI hr hn => exec_move (.inl rfl) (hI.out 3 (by kernel_rfl))
                · exact valRF.pureStep rfl 64 rfl rfl (by simp) _ rfl fun listed a u D hI hr hn => exec_move (.inl rfl) (hI.out 15 (by kernel_rfl))
                · exact valRF.pureStep rfl 65 rfl rfl (by simp) _ rfl fun listed a u D hI hr hn => exec_index_st rfl (valRF.val hI hr hn 0 (by kernel_rfl) rfl rfl) (valRF.val hI hr hn 1 (by kernel_rfl) rfl rfl) hlt hm3
                · exact valRF.pureStep rfl 66 rfl rfl (by simp) _ rfl fun listed a u D hI hr hn => op_field rfl (valRF.val hI hr hn 2 (by kernel_rfl) rfl rfl) (by simp [go_sem])
                · exact valRF.pureStep rfl 67 rfl rfl (by simp) _ rfl fun listed a u D hI hr hn => exec_load rfl (valRF.val hI hr hn 3 (by kernel_rfl) rfl rfl) (run_load_pb (HC.out _ (below_drew hI.old)).2)
                · exact valRF.pureStep rfl 68 rfl rfl (by simp) _ rfl fun listed a u D hI hr hn => exec_move (.inl rfl) (valRF.val hI hr hn 4 (by kernel_rfl) rfl rfl)
                · exact valRF.pureStepG 69 rfl rfl (by simp) _ rfl fun listed a u D hI hr hn => ⟨guard_yes (t := 68) rfl (by kernel_rfl) (valRF.val hI hr hn 5 (by kernel_rfl) rfl rfl), exec_move (.inl rfl) (hI.out 3 (by kernel_rfl))⟩
                · exact valRF.pureStepG 70 rfl rfl (by simp) _ rfl fun listed a u D hI hr hn => ⟨guard_yes (t := 68) rfl (by kernel_rfl) (valRF.val hI hr hn 5 (by kernel_rfl) rfl rfl), exec_move (.inl rfl) (hI.out 15 (by kernel_rfl))⟩
                · exact valRF.pureStepG 71 rfl rfl (by simp) _ rfl fun listed a u D hI hr hn => ⟨guard_yes (t := 68) rfl (by kernel_rfl) (valRF.val hI hr hn 5 (by kernel_rfl) rfl rfl), exec_front_stp rfl (valRF.val hI hr hn 6 (by kernel_rfl) rfl rfl) (valRF.val hI hr hn 7 (by kernel_rfl) rfl rfl) (by omega) hcc⟩
                · exact valRF.pureStepG 72 rfl rfl (by simp) _ rfl fun listed a u D hI hr hn => ⟨guard_yes (t := 68) rfl (by kernel_rfl) (valRF.val hI hr hn 5 (by kernel_rfl) rfl rfl), exec_move (.inl rfl) (hI.out 3 (by kernel_rfl))⟩
                · exact valRF.pureStepG 73 rfl rfl (by simp) _ rfl fun listed a u D hI hr hn => ⟨guard_yes (t := 68) rfl (by kernel_rfl) (valRF.val hI hr hn 5 (by kernel_rfl) rfl rfl), exec_move (.inl rfl) (hI.out 15 (by kernel_rfl))⟩
                · exact valRF.pureStepG 74 rfl rfl (by simp) _ rfl fun listed a u D hI hr hn => ⟨guard_yes (t := 68) rfl (by kernel_rfl) (valRF.val hI hr hn 5 (by kernel_rfl) rfl rfl), exec_index_st rfl (valRF.val hI hr hn 9 (by kernel_rfl) rfl rfl) (valRF.val hI hr hn 10 (by kernel_rfl) rfl rfl) hlt hm3⟩
                · exact valRF.pureStepG 75 rfl rfl (by simp) _ rfl fun listed a u D hI hr hn => ⟨guard_yes (t := 68) rfl (by kernel_rfl) (valRF.val hI hr hn 5 (by kernel_rfl) rfl rfl), op_field rfl (valRF.val hI hr hn 11 (by kernel_rfl) rfl rfl) (by simp [go_sem])⟩
                · exact valRF.pureStepG 76 rfl rfl (by simp) _ rfl fun listed a u D hI hr hn => ⟨guard_yes (t := 68) rfl (by kernel_rfl) (valRF.val hI hr hn 5 (by kernel_rfl) rfl rfl), exec_load rfl (valRF.val hI hr hn 12 (by kernel_rfl) rfl rfl) (run_load_pi (HC.out _ (below_drew hI.old)).1)⟩
                · exact valRF.pureStepG 77 rfl rfl (by simp) _ rfl fun listed a u D hI hr hn => ⟨guard_yes (t := 68) rfl (by kernel_rfl) (valRF.val hI hr hn 5 (by kernel_rfl) rfl rfl), exec_bstp rfl (valRF.val hI hr hn 13 (by kernel_rfl) rfl rfl)⟩
                · exact valRF.callStepG 78 rfl rfl (by simp) _ rfl fun listed a u D hI hr hn => ⟨guard_yes (t := 68) rfl (by kernel_rfl) (valRF.val hI hr hn 5 (by kernel_rfl) rfl rfl), _, _, op_call2 rfl (valRF.val hI hr hn 8 (by kernel_rfl) rfl rfl) (valRF.val hI hr hn 14 (by kernel_rfl) rfl rfl) (by simp [go_sem]), HDV.out _ (below_drew hI.old)⟩
                · exact valRF.pureStepG 79 rfl rfl (by simp) _ rfl fun listed a u D hI hr hn => ⟨guard_yes (t := 68) rfl (by kernel_rfl) (valRF.val hI hr hn 5 (by kernel_rfl) rfl rfl), exec_neg rfl (valRF.val hI hr hn 15 (by kernel_rfl) rfl rfl) HT3.out⟩
                · exact valRF.pureStep rfl 80 rfl rfl (by simp) _ rfl fun listed a u D hI hr hn => exec_and rfl (valRF.val hI hr hn 5 (by kernel_rfl) rfl rfl) (valRF.val hI hr hn 16 (by kernel_rfl) rfl rfl) (Bool.true_and _)
              · intro listed a u D hI hall
                have eR0 : a.tmps.getD 80 undef = .bool t3 := (hI.fact 17 ⟨hall 17 (by simp), fun k hk => by cases hk⟩).1
                have hold := below_drew hI.old
                have hl := hI.fill [63, 64, 65, 66, 67, 68, 69, 70, 71, 72, 73, 74, 75, 76, 77, 78, 79, 80] (by kernel_rfl)
                clear hI hall
                obtain ⟨σ, hσ⟩ : ∃ σ : Nat → Value, ∀ t, a.tmps.getD t undef = σ t := ⟨_, fun _ => rfl⟩
                simp only [hσ] at hl eR0
                clear hσ
                simp only [List.foldl_cons, List.foldl_nil, List.setIfInBounds_toArray, List.set_cons_zero, List.set_cons_succ, eR0] at hl
                subst hl
                go_wp2_with fail
                go_meet
                exact ⟨t3, rfl, HY1.out, HY2.out, HS.out.next hold⟩
          case rest =>
          obtain ⟨t, rfl, HY1, HY2, HS3⟩ := hcut
          obtain ⟨w3, rfl⟩ : ∃ u, u = wc := ⟨_, rfl⟩
          clear HDV' HMEM HIV HT3 HS
          cases t with
          | true =>
            have HYY := Lib.hid (HY1.out rfl)
            have HF : Hid (17 = v) := (og_fault HG2.out (follow_first HFO.out HYY.out.1 HYY.out.2)).symm
            go_wp2_with fail
            go_ret
            exact ⟨ret_i HF.out, HS3.out.old⟩
          | false =>
          have HFST := Lib.hid (HY2.out rfl)
          clear HY1 HY2
          obtain ⟨si, hsi⟩ : ∃ z, siteOf o x.stop = z := ⟨_, rfl⟩
          have HSI := Lib.hid hsi
          obtain ⟨ld, hld⟩ : ∃ z, loadOf o x.stop st.load = z := ⟨_, rfl⟩
          have HLD := Lib.hid hld
          have hsv : 0 ≤ si.serv ∧ si.serv ≤ 1000000 := by rw [← hsi]; exact site_serv HKO.out x.stop
          obtain ⟨sv1, sv2⟩ := hsv
          obtain ⟨sz1, sz2⟩ := HKO.out.size
          clear hsi hld
          obtain ⟨c0, c1⟩ := HC.out _ HS3.out.old
          go_upto_if 85 with fail
          go_cut [14] (fun lv wx => lv = .int .i64 ld ∧ Hid (OS w d wx))
          case first =>
            obtain ⟨o0, o1, o2, o3, o4, o5, o6, o7, o8, o9⟩ := HCO'.out _ HS3.out.old
            cases hsd : x.stop.drop with
            | false =>
              have h1 : st.load + o.size = ld := by rw [← HLD.out]; unfold loadOf; rw [hsd]; rfl
              rw [hsd] at c1
              clear o0 o2 o3 o4 o5 o6 o7 o8 o9
              go_wp2_with fail
              go_meet
              exact ⟨by first | rfl | rw [h1], HS3⟩
            | true =>
              have h1 : st.load - o.size = ld := by rw [← HLD.out]; unfold loadOf; rw [hsd]; rfl
              rw [hsd] at c1
              clear o0 o2 o3 o4 o5 o6 o7 o8 o9
              go_wp2_with fail
              go_meet
              exact ⟨by first | rfl | rw [h1], HS3⟩
          case rest =>
          obtain ⟨rfl, HS4⟩ := hcut
          obtain ⟨w4, rfl⟩ : ∃ u, u = wc := ⟨_, rfl⟩
          clear HS3 c0 c1 sz1 sz2
          obtain ⟨v0, v1, v2, v3, v4, v5⟩ := HCV.out _ HS4.out.old
          obtain ⟨d0, d1, d2, d3, d4, d5⟩ := HS4.out.drv.cells
          by_cases hload : x.load ≠ loadOf o x.stop st.load ∨ d.room < loadOf o x.stop st.load
          · have HF : Hid (14 = v) := (og_fault HG2.out (follow_load HFO.out HFST.out hload)).symm
            rw [HLD.out] at hload
            by_cases h1 : x.load = ld
            · have h2 : d.room < ld := by rcases hload with h | h; exact absurd h1 h; exact h
              have e1 : (x.load != ld) = false := by simpa using h1
              clear hload h1 v0 v1 v2 v3 v4 d0 d2 d3 d4 d5
              go_wp2_with fail
              go_ret
              exact ⟨ret_i HF.out, HS4.out.old⟩
            · have e1 : (x.load != ld) = true := by simpa using h1
              clear hload h1 v0 v1 v2 v3 v4 d0 d2 d3 d4 d5
              go_wp2_with fail
              go_ret
              exact ⟨ret_i HF.out, HS4.out.old⟩
          have HLOAD := Lib.hid hload
          rw [HLD.out] at hload
          have h1 : x.load = ld := Decidable.not_not.1 fun e => hload (.inl e)
          have h2 : ¬ d.room < ld := fun e => hload (.inr e)
          have e1 : (x.load != ld) = false := by simpa using h1
          clear hload h1 v0 v1 v2 v3 v4 d0 d2 d3 d4 d5
          go_upto_region 22 with fail
          clear v5 d1 e1 h2
          go_cut [17] (fun sv wx => ∃ gs, sv = .pointer (some ⟨gs, 0, none⟩) ∧ Hid (OS w d wx) ∧ Hid (SBox wx gs si))
          case first =>
            have HS5 := HS4
            have HCO : Hid (∀ u, Below w4.heap.size w4 u → OAt u b2 (off2 + i * 10) o ∧ (u.cell? ⟨b3, off3 + k * 2, none⟩ = some (.int .i64 x.stop.ord) ∧ u.cell? ⟨b3, off3 + k * 2 + 1, none⟩ = some (.bool x.stop.drop))) := fun u hu =>
              ⟨HCO'.out u (HS4.out.old.trans (hu.mono HS4.out.old.size)), HC.out u (HS4.out.old.trans (hu.mono HS4.out.old.size))⟩
            have HSV : Hid (∀ u, Below w4.heap.size w4 u → Calls Try.prog 49 #[ordV o, stpV x.stop] u fun e w' => e = .returned (siteV si) ∧ Below u.heap.size u w') := fun u hu => by
              have := rsite_any o x.stop u
              rw [HSI.out] at this
              exact this
            refine wp_region_steps (boxRF [113, 114, 115, 116, 117, 118, 119, 120, 121, 17, 17] [.slice (some ⟨b2, off2, none⟩) n2 c2, .int .i64 ((i : Nat) : Int), .pointer (some ⟨b2, off2 + i * 10, none⟩), ordV o, .slice (some ⟨b3, off3, none⟩) n4 c3, .int .i64 ((k : Nat) : Int), .pointer (some ⟨b3, off3 + k * 2, none⟩), stpV x.stop, siteV si, undef, undef] 9 10 29 [.int .i64 0, .int .i64 0, .int .i64 0, .int .i64 0] [.int .i64 si.place, .int .i64 si.win.fr, .int .i64 si.win.to, .int .i64 si.serv]) (by kernel_rfl) (by kernel_rfl) (by kernel_rfl) (fun q hq => ?_) (by kernel_rfl) boxRF.mon ?_ ?_
            · simp only [List.length_cons, List.length_nil] at hq
              simp only [boxRF]
              rw [if_neg (by omega)]
            · refine ⟨?_, ?_, ?_, ?_, ?_, ?_, ?_, ?_, ?_, ?_, ?_, trivial⟩
              · exact boxRF.pureStep rfl 113 rfl rfl (by simp) (by decide) (by decide) _ rfl fun listed a u D hI hr hn => exec_move (.inl rfl) (hI.out 2 (by kernel_rfl))
              · exact boxRF.pureStep rfl 114 rfl rfl (by simp) (by decide) (by decide) _ rfl fun listed a u D hI hr hn => exec_move (.inl rfl) (hI.out 16 (by kernel_rfl))
              · exact boxRF.pureStep rfl 115 rfl rfl (by simp) (by decide) (by decide) _ rfl fun listed a u D hI hr hn => exec_index_o rfl (boxRF.val hI hr hn 0 (by kernel_rfl) (by decide) (by decide) rfl rfl) (boxRF.val hI hr hn 1 (by kernel_rfl) (by decide) (by decide) rfl rfl) hin hm2
              · exact boxRF.pureStep rfl 116 rfl rfl (by simp) (by decide) (by decide) _ rfl fun listed a u D hI hr hn => exec_load rfl (boxRF.val hI hr hn 2 (by kernel_rfl) (by decide) (by decide) rfl rfl) (run_load_oo (HCO.out _ (below_drew hI.old)).1)
              · exact boxRF.pureStep rfl 117 rfl rfl (by simp) (by decide) (by decide) _ rfl fun listed a u D hI hr hn => exec_move (.inl rfl) (hI.out 3 (by kernel_rfl))
              · exact boxRF.pureStep rfl 118 rfl rfl (by simp) (by decide) (by decide) _ rfl fun listed a u D hI hr hn => exec_move (.inl rfl) (hI.out 15 (by kernel_rfl))
              · exact boxRF.pureStep rfl 119 rfl rfl (by simp) (by decide) (by decide) _ rfl fun listed a u D hI hr hn => exec_index_st rfl (boxRF.val hI hr hn 4 (by kernel_rfl) (by decide) (by decide) rfl rfl) (boxRF.val hI hr hn 5 (by kernel_rfl) (by decide) (by decide) rfl rfl) hlt hm3
              · exact boxRF.pureStep rfl 120 rfl rfl (by simp) (by decide) (by decide) _ rfl fun listed a u D hI hr hn => exec_load rfl (boxRF.val hI hr hn 6 (by kernel_rfl) (by decide) (by decide) rfl rfl) (run_load_st (HCO.out _ (below_drew hI.old)).2)
              · exact boxRF.callStep rfl 121 rfl rfl (by simp) (by decide) (by decide) _ rfl fun listed a u D hI hr hn => ⟨_, _, op_call2 rfl (boxRF.val hI hr hn 3 (by kernel_rfl) (by decide) (by decide) rfl rfl) (boxRF.val hI hr hn 7 (by kernel_rfl) (by decide) (by decide) rfl rfl) (by simp [go_sem]), HSV.out _ (below_drew hI.old)⟩
              · exact boxRF.allocStep rfl 17 rfl rfl (by simp) fun a u => exec_asi rfl
              · exact boxRF.storeStep rfl rfl rfl rfl (by decide) (by kernel_rfl) fun listed a u D hI hr hn g e1 hb => ⟨_, exec_store rfl e1 (boxRF.val hI hr hn 8 (by kernel_rfl) (by decide) (by decide) rfl rfl) (run_store_si hb), ((((Only.refl _ _).set _ _).set _ _).set _ _).set _ _, putSi_box hb si⟩
            · intro listed a u D hI hall
              obtain ⟨gt, eB, hbx⟩ := boxRF.box hI hall (by decide) (by decide) (s := 17) rfl
              have hold := below_drew hI.old
              have hl := hI.fill [113, 114, 115, 116, 117, 118, 119, 120, 121, 17] (by kernel_rfl)
              clear hI hall
              obtain ⟨σ, hσ⟩ : ∃ σ : Nat → Value, ∀ t, a.tmps.getD t undef = σ t := ⟨_, fun _ => rfl⟩
              simp only [hσ] at hl eB
              clear hσ
              simp only [List.foldl_cons, List.foldl_nil, List.setIfInBounds_toArray, List.set_cons_zero, List.set_cons_succ, eB] at hl
              subst hl
              go_wp2_with fail
              go_meet
              exact ⟨gt, rfl, HS5.out.next hold, hbx⟩
          case rest =>
          obtain ⟨gs, rfl, HS5, HX5⟩ := hcut
          obtain ⟨w5, rfl⟩ : ∃ u, u = wc := ⟨_, rfl⟩
          clear HS4
          obtain ⟨tt, htt⟩ : ∃ t, time ⟨mn, ml⟩ st.at_ si.place = t := ⟨_, rfl⟩
          have HTT := Lib.hid htt
          obtain ⟨hma, hmn, hmap⟩ := map_at (HM.out.keep HS5.out.old)
          obtain ⟨tb1, tb2⟩ := time_bounds hmap st.at_ si.place
          rw [htt] at tb1 tb2
          have HTM := Lib.hid (rtime_val' base bm mn ml st.at_ si.place tt w5 hma hmn htt)
          clear htt hma hmn hmap
          obtain ⟨s0, s1, s2, s3⟩ := HX5.out.cells
          go_wp2_with fail
          refine HTM.out.mono ?_
          rintro e w6' ⟨bq, nq, rfl, hw6⟩
          have HS6 : Hid (OS w d w6') := by rw [hw6]; exact HS5.out.drewN _
          have HX6 : Hid (SBox w6' gs si) := by rw [hw6]; exact HX5.out
          clear HTM hw6 HS5 HX5 s0 s1 s2 s3
          obtain ⟨s0, s1, s2, s3⟩ := HX6.out.cells
          cases hq : beginT si.win (st.left + tt) with
          | none =>
            have HQ : Hid (optV (beginT si.win (st.left + tt)) = .tuple #[.int .i64 0, .bool false]) := by rw [hq]; rfl
            have HF : Hid (15 = v) := (og_fault HG2.out (follow_late HFO.out HFST.out HLOAD.out (by rw [HSI.out, HTT.out]; exact hq))).symm
            clear hq
            go_wp2_with fail
            refine (rbegin_val' si.win (st.left + tt) 0 false _ HQ.out).mono ?_
            rintro e w7 ⟨rfl, hb⟩
            have HS7 := Lib.hid (HS6.out.next hb)
            clear hb s0 s1 s2 s3 HX6 HS6
            go_wp2_with fail
            go_quiet (fail)
            go_wp2_with fail
            go_ret
            exact ⟨ret_i HF.out, (HS7.out.drewN _).old⟩
          | some bb =>
            have HQ : Hid (optV (beginT si.win (st.left + tt)) = .tuple #[.int .i64 bb, .bool true]) := by rw [hq]; rfl
            have HBQ : Hid (beginT (siteOf o x.stop).win (st.left + time ⟨mn, ml⟩ st.at_ (siteOf o x.stop).place) = some bb) := by show _ = _; rw [HSI.out, HTT.out]; exact hq
            obtain ⟨q1, q2, q3, q4, q5⟩ := beginT_in hq
            have q6 := right_iff.1 (has_iff.1 q1).1
            have q7 : bb ≤ 1000000 := by omega
            have q8 : 0 ≤ bb := by omega
            clear hq q1 q2 q3 q4 q5 q6
            go_wp2_with fail
            refine (rbegin_val' si.win (st.left + tt) bb true _ HQ.out).mono ?_
            rintro e w7 ⟨rfl, hb⟩
            have HS7 := Lib.hid (HS6.out.next hb)
            have HX7 := Lib.hid (HX6.out.below hb)
            clear hb s0 s1 s2 s3 HX6 HS6
            obtain ⟨s0, s1, s2, s3⟩ := HX7.out.cells
            obtain ⟨v0, v1, v2, v3, v4, v5⟩ := HCV.out _ HS7.out.old
            obtain ⟨d0, d1, d2, d3, d4, d5⟩ := HS7.out.drv.cells
            by_cases hb4 : x.arrive ≠ st.left + time ⟨mn, ml⟩ st.at_ (siteOf o x.stop).place ∨ x.start ≠ bb ∨ x.leave ≠ bb + (siteOf o x.stop).serv ∨ d.win.to < bb + (siteOf o x.stop).serv
            · have HF : Hid (15 = v) := (og_fault HG2.out (follow_tardy HFO.out HFST.out HLOAD.out HBQ.out hb4)).symm
              rw [HSI.out, HTT.out] at hb4
              by_cases h1 : x.arrive = st.left + tt
              · have e1 : (x.arrive != st.left + tt) = false := by simpa using h1
                by_cases h2 : x.start = bb
                · have e2 : (x.start != bb) = false := by simpa using h2
                  by_cases h3 : x.leave = bb + si.serv
                  · have e3 : (x.leave != bb + si.serv) = false := by simpa using h3
                    have h4 : d.win.to < bb + si.serv := by
                      rcases hb4 with h | h | h | h
                      · exact absurd h1 h
                      · exact absurd h2 h
                      · exact absurd h3 h
                      · exact h
                    clear hb4 h1 h2 h3
                    go_wp2_with fail
                    go_quiet (fail)
                    go_wp2_with fail
                    go_ret
                    exact ⟨ret_i HF.out, (HS7.out.drewN _).old⟩
                  · have e3 : (x.leave != bb + si.serv) = true := by simpa using h3
                    clear hb4 h1 h2 h3
                    go_wp2_with fail
                    go_quiet (fail)
                    go_wp2_with fail
                    go_ret
                    exact ⟨ret_i HF.out, (HS7.out.drewN _).old⟩
                · have e2 : (x.start != bb) = true := by simpa using h2
                  clear hb4 h1 h2
                  go_wp2_with fail
                  go_quiet (fail)
                  go_wp2_with fail
                  go_ret
                  exact ⟨ret_i HF.out, (HS7.out.drewN _).old⟩
              · have e1 : (x.arrive != st.left + tt) = true := by simpa using h1
                clear hb4 h1
                go_wp2_with fail
                go_quiet (fail)
                go_wp2_with fail
                go_ret
                exact ⟨ret_i HF.out, (HS7.out.drewN _).old⟩
            · have HOKF := Lib.hid (follow_ok HFO.out HFST.out HLOAD.out HBQ.out hb4)
              have HN : Hid (v = oneGo ⟨mn, ml⟩ d os (stops.take (k + 1)) ⟨si.place, x.leave, ld⟩ (vs.drop (k + 1))) := by
                show _ = _
                have h1 := og_next HG2.out HOKF.out
                rw [HXS.out, HSI.out, HLD.out] at h1
                exact h1
              have HB2 : Hid (OB ⟨si.place, x.leave, ld⟩ (k + 1)) := by
                have h1 := HB.out.next HOK.out HOKF.out
                rw [HSI.out, HLD.out] at h1
                exact h1
              rw [HSI.out, HTT.out] at hb4
              have h1 : x.arrive = st.left + tt := Decidable.not_not.1 fun e => hb4 (.inl e)
              have h2 : x.start = bb := Decidable.not_not.1 fun e => hb4 (.inr (.inl e))
              have h3 : x.leave = bb + si.serv := Decidable.not_not.1 fun e => hb4 (.inr (.inr (.inl e)))
              have h4 : ¬ d.win.to < bb + si.serv := fun e => hb4 (.inr (.inr (.inr e)))
              have e1 : (x.arrive != st.left + tt) = false := by simpa using h1
              have e2 : (x.start != bb) = false := by simpa using h2
              have e3 : (x.leave != bb + si.serv) = false := by simpa using h3
              clear hb4 h1 h2 h3 HOKF
              go_wp2_with fail
              go_quiet (fail)
              go_wp2_with fail
              go_quiet (fail)
              go_wp2_with fail
              go_roundw
              case rel => exact ⟨k + 1, ⟨si.place, x.leave, ld⟩, by omega, by go_num, rfl, rfl, rfl, (by first | exact HS7.out.drewN _ | exact (HS7.out.drewN _).drewN _), HN, HB2⟩
              case measure => simp [intOf]; omega
#print axioms rone_any
end Go.Proofs.Ytfejnohcggoepaa.Cert
