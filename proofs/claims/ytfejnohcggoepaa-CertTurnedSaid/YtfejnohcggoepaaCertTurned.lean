/-
  A plan's own certificate, turned in one place: CertTurned, walked.
-/
import Derived.Test.YtfejnohcggoepaaCertRoutes
import Derived.Test.YtfejnohcggoepaaCertFrames
import Derived.Test.YtfejnohcggoepaaWithin
namespace Go.Proofs.Ytfejnohcggoepaa.Cert
open Go.ChangeShapes Go.WideShapes Go.ChangeAt Go.RowKit Go.Proofs.Ytfejnohcggoepaa.Mem Go.Proofs.Ytfejnohcggoepaa.GeoMath Go.Proofs.Ytfejnohcggoepaa.FleetMath Go.Proofs.Ytfejnohcggoepaa.PlanMath Go.Proofs.Ytfejnohcggoepaa.CertMath Go.Proofs.Ytfejnohcggoepaa.Rec Go.Proofs.Ytfejnohcggoepaa.Geo Go.Proofs.Ytfejnohcggoepaa.Span Go.Proofs.Ytfejnohcggoepaa.Deal Go.Proofs.Ytfejnohcggoepaa.Keep Go.Proofs.Ytfejnohcggoepaa.Route Go.Proofs.Ytfejnohcggoepaa.Plan Go.Proofs.Ytfejnohcggoepaa.Frames
set_option linter.unusedVariables false
set_option linter.unusedSimpArgs false

/-- a visit's cells -/
def visL (y : Vis) : List Value := [.int .i64 y.stop.ord, .bool y.stop.drop, .int .i64 y.arrive, .int .i64 y.start, .int .i64 y.leave, .int .i64 y.load]
theorem vissV_cons (y : Vis) (l : List Vis) : vissV (y :: l) = visL y ++ vissV l := by simp [vissV, visL]
theorem vissV_set {l : List Vis} {i o : Nat} {x y : Vis} {v : Value} (h : l[i]? = some x) (ho : o < 6) (hc : (visL x).set o v = visL y) : (vissV l).set (i * 6 + o) v = vissV (l.set i y) := by
  induction l generalizing i with
  | nil => cases h
  | cons z r ih =>
    have hz : (visL z).length = 6 := rfl
    cases i with
    | zero =>
      simp only [List.getElem?_cons_zero, Option.some.injEq] at h
      subst h
      rw [Nat.zero_mul, Nat.zero_add, List.set_cons_zero, vissV_cons, vissV_cons, List.set_append_left _ _ (by omega), hc]
    | succ i =>
      rw [List.set_cons_succ, vissV_cons, vissV_cons, List.set_append_right _ _ (by omega), hz, show (i + 1) * 6 + o - 6 = i * 6 + o by omega, ih (by simpa using h)]
/-- some certificate in memory of one's own -/
def WT (w0 w : World) (v : Value) (n : Nat) : Prop := ∃ l cs, Whole w0 w v l cs ∧ l.length = n ∧ ∀ q ∈ l, q.n ≤ 80
theorem WT.old {w0 w : World} {v : Value} {n : Nat} (h : WT w0 w v n) : Below w0.heap.size w0 w := by obtain ⟨_, _, h, _⟩ := h; exact h.new.old
theorem WT.keep {w0 w w' : World} {v : Value} {n : Nat} (h : WT w0 w v n) (hb : Below w.heap.size w w') : WT w0 w' v n := by obtain ⟨l, cs, h1, h2, h3⟩ := h; exact ⟨l, cs, h1.keep hb, h2, h3⟩
theorem WT.one {w0 w : World} {v : Value} {n i g j : Nat} {l : List CM} {cs : List (List Vis)} {r : CM} {vs : List Vis} {z : Value} (h : Whole w0 w v l cs) (hn : l.length = n) (h80 : ∀ q ∈ l, q.n ≤ 80) (hi : l[i]? = some r) (ha : r.a = some ⟨g, 0, none⟩) (hj : j < r.n * 6) (hvs : (vissV r.vs).set j z = vissV vs) : WT w0 (w.setCell ⟨g, j, none⟩ z) v n := by
  have ht := (h.new.turn hi ha hj hvs).2.2.2
  have hm := List.mem_of_getElem? hi
  refine ⟨l.set i ⟨vs, r.a, r.n, r.c⟩, _, ⟨ht, rfl, fun q hq => ?_⟩, by rw [List.length_set]; exact hn, fun q hq => ?_⟩
  · rcases List.mem_or_eq_of_mem_set hq with hq | rfl
    · exact h.few q hq
    · exact h.few r hm
  · rcases List.mem_or_eq_of_mem_set hq with hq | rfl
    · exact h80 q hq
    · exact h80 r hm
theorem WT.at_ {w0 w : World} {A : Option Addr} {n c i : Nat} (h : WT w0 w (.slice A n c) n) (hi : i < n) : ∃ b off ra rn rc, A = some ⟨b, off, none⟩ ∧ w.cell? ⟨b, off + i, none⟩ = some (.slice ra rn rc) ∧ rn ≤ 80 ∧
    ∀ kk : Nat, kk < rn → ∃ (g : Nat) (y : Vis), ra = some ⟨g, 0, none⟩ ∧ (w.cell? ⟨g, kk * 6, none⟩ = some (.int .i64 y.stop.ord) ∧ w.cell? ⟨g, kk * 6 + 1, none⟩ = some (.bool y.stop.drop) ∧ w.cell? ⟨g, kk * 6 + 2, none⟩ = some (.int .i64 y.arrive) ∧ w.cell? ⟨g, kk * 6 + 3, none⟩ = some (.int .i64 y.start) ∧ w.cell? ⟨g, kk * 6 + 4, none⟩ = some (.int .i64 y.leave) ∧ w.cell? ⟨g, kk * 6 + 5, none⟩ = some (.int .i64 y.load)) ∧ (∀ j, w.frozen? ⟨g, j, none⟩ = false) ∧ (∀ a : Int, WT w0 (w.setCell ⟨g, kk * 6, none⟩ (.int .i64 a)) (.slice A n c) n) ∧ (∀ a : Bool, WT w0 (w.setCell ⟨g, kk * 6 + 1, none⟩ (.bool a)) (.slice A n c) n) ∧ (∀ a : Int, WT w0 (w.setCell ⟨g, kk * 6 + 2, none⟩ (.int .i64 a)) (.slice A n c) n) ∧ (∀ a : Int, WT w0 (w.setCell ⟨g, kk * 6 + 3, none⟩ (.int .i64 a)) (.slice A n c) n) ∧ (∀ a : Int, WT w0 (w.setCell ⟨g, kk * 6 + 4, none⟩ (.int .i64 a)) (.slice A n c) n) ∧ (∀ a : Int, WT w0 (w.setCell ⟨g, kk * 6 + 5, none⟩ (.int .i64 a)) (.slice A n c) n) := by
  obtain ⟨l, cs, h1, h2, h3⟩ := h
  have hc := h1.crts.1
  rw [← h1.len, h2] at hc
  obtain ⟨b, off, r, hA, _, hr, _, hcell, _⟩ := hc.at_ hi
  have hm := List.mem_of_getElem? hr
  refine ⟨b, off, r.a, r.n, r.c, hA, hcell, h3 r hm, fun kk hk => ?_⟩
  obtain ⟨ho, _⟩ := h1.new.each r hm
  have hlen : r.vs.length = r.n := by have := ho.len; rw [vissV_len] at this; omega
  obtain ⟨y, hy⟩ : ∃ y, r.vs[kk]? = some y := ⟨_, List.getElem?_eq_getElem (by omega)⟩
  obtain ⟨g, cap, e, _⟩ := own_front ho (by omega)
  have ha : r.a = some ⟨g, 0, none⟩ := by injection e
  have ho' := ho
  rw [show r.v = .slice r.a r.n r.c from rfl, ha] at ho'
  obtain ⟨v0, v1, v2, v3, v4, v5⟩ := vissV_at hy
  have hcl : ∀ o v, o < 6 → (vissV r.vs)[kk * 6 + o]? = some v → w.cell? ⟨g, kk * 6 + o, none⟩ = some v := fun o v ho6 hv => by
    obtain ⟨⟨u, hu1, hu2⟩, _⟩ := own_turn ho' (j := kk * 6 + o) (by omega)
    rw [hv] at hu1
    injection hu1 with hu1
    rw [hu1]; exact hu2
  refine ⟨g, y, ha, ⟨hcl 0 _ (by decide) v0, hcl 1 _ (by decide) v1, hcl 2 _ (by decide) v2, hcl 3 _ (by decide) v3, hcl 4 _ (by decide) v4, hcl 5 _ (by decide) v5⟩, fun j => ?_, ?_, ?_, ?_, ?_, ?_, ?_⟩
  · rcases ho'.1.2 with ⟨e, _⟩ | ⟨g', cap', cur, e, _, hh, _⟩
    · cases e
    · injection e with e
      injection e with e
      injection e with e
      subst e
      simp [World.frozen?, hh]
  · exact fun a => WT.one h1 h2 h3 hr ha (by omega) (vissV_set (o := 0) (y := ⟨⟨a, y.stop.drop⟩, y.arrive, y.start, y.leave, y.load⟩) hy (by decide) rfl)
  · exact fun a => WT.one h1 h2 h3 hr ha (by omega) (vissV_set (o := 1) (y := ⟨⟨y.stop.ord, a⟩, y.arrive, y.start, y.leave, y.load⟩) hy (by decide) rfl)
  · exact fun a => WT.one h1 h2 h3 hr ha (by omega) (vissV_set (o := 2) (y := ⟨y.stop, a, y.start, y.leave, y.load⟩) hy (by decide) rfl)
  · exact fun a => WT.one h1 h2 h3 hr ha (by omega) (vissV_set (o := 3) (y := ⟨y.stop, y.arrive, a, y.leave, y.load⟩) hy (by decide) rfl)
  · exact fun a => WT.one h1 h2 h3 hr ha (by omega) (vissV_set (o := 4) (y := ⟨y.stop, y.arrive, y.start, a, y.load⟩) hy (by decide) rfl)
  · exact fun a => WT.one h1 h2 h3 hr ha (by omega) (vissV_set (o := 5) (y := ⟨y.stop, y.arrive, y.start, y.leave, a⟩) hy (by decide) rfl)
theorem makeC_each {m : Option Mp} {ds : List Drv} {os : List FleetMath.Ord} {p : List Rte} {cs : List (List Vis)} {k : Nat} {e : Int} (h : makeC m ds os p = (cs, k, e)) : ∀ v ∈ cs, v.length ≤ 80 := by
  have key : ∀ (p : List Rte) (i : Nat) (c : List (List Vis)), makeFrom m ds os i p = .ok c → ∀ v ∈ c, v.length ≤ 80 := by
    intro p
    induction p with
    | nil => intro i c h v hv; rw [makeFrom] at h; injection h with h; subst h; cases hv
    | cons r t ih =>
      intro i c h v hv
      rw [makeFrom] at h
      split at h
      · cases h
      · split at h
        · cases h
        · split at h
          · cases h
          · rename_i hr
            injection h with h
            subst h
            rcases List.mem_cons.1 hv with rfl | hv
            · exact drive_few m _ os r.stops
            · exact ih _ _ hr v hv
  unfold makeC at h
  split at h
  · split at h
    · injection h with h _; subst h; intro v hv; cases hv
    · rename_i hc
      injection h with h _
      subst h
      exact key _ _ _ hc
  · injection h with h _; subst h; intro v hv; cases hv

set_option maxRecDepth 100000 in
set_option maxHeartbeats 16000000 in
theorem certTurned_walk (x : Wd) (ts : List Int) (ds : List Drv) (os : List FleetMath.Ord) (ps : List RM) (at' field by' : Int) (W : World) (hts : Ints W W.heap.size x.ts.a x.ts.n ts) (hds : Drvs W W.heap.size x.ds.a x.ds.n ds) (hos : Ords W W.heap.size x.os.a x.os.n os) (hps : Plns W W.heap.size x.pl.a x.pl.n ps) :
    Calls Try.prog 6 #[wdV x, .int .i64 at', .int .i64 field, .int .i64 by'] W fun e w' => e = .returned (.bool true) ∧ Below W.heap.size W w' := by
  have HTS := Lib.hid hts
  have HDS := Lib.hid hds
  have HOS := Lib.hid hos
  have HPS := Lib.hid hps
  clear hts hds hos hps
  obtain ⟨m, hm⟩ : ∃ m, mapOf x.n ts = m := ⟨_, rfl⟩
  have HM := Lib.hid hm
  clear hm
  obtain ⟨⟨cs, fk, fe⟩, hmk⟩ : ∃ z, makeC m ds os (ps.map (·.rt)) = z := ⟨_, rfl⟩
  have HMK := Lib.hid hmk
  clear hmk
  have HB0 : Hid (Below W.heap.size W (W.alloc (.cells #[.int .i64 x.n, x.ts.v, x.ds.v, x.os.v, x.pl.v] 58))) := (Below.refl _ _).alloc (Nat.le_refl _) _
  have HW0 := Lib.hid (WBox.new W x)
  go_enter Try.func6, Try.ntmps6
  go_wp2_with fail
  refine (kmaps_any x ts _ (by exact Reads.more (Reads.keep HTS.out HB0.out) HB0.out.size)).mono ?_
  intro e w1 hmo
  obtain ⟨q, r, rfl, hcr⟩ := CR.start (n0 := 0) HB0.out HW0.out HDS.out HOS.out HPS.out HM.out hmo
  have C1 := Lib.hid hcr
  clear hmo hcr HB0 HW0
  obtain ⟨x0, x1, x2, x3, x4⟩ := C1.out.wd.cells
  go_wp2_with fail
  refine (use_rmake C1.out C1.out.plns rfl HMK.out).mono ?_
  rintro e w2 ⟨Ba, ca, la, rfl, ha2⟩
  have h80 : ∀ q ∈ la, q.n ≤ 80 := fun q hq => by
    have h1 : q.vs ∈ cs := by rw [← ha2.vss]; exact List.mem_map.2 ⟨q, hq, rfl⟩
    have h2 := makeC_each HMK.out _ h1
    have h3 := (ha2.new.each q hq).1.len
    rw [vissV_len] at h3
    omega
  obtain ⟨nn, hnn⟩ : ∃ k, cs.length = k := ⟨_, rfl⟩
  have hn8 : nn ≤ 8 := by rw [← hnn]; exact makeC_few HMK.out
  have T2 : Hid (WT w1 (w2.alloc (.cells #[.int .i64 fk, .int .i64 fe] 49)) (.slice Ba nn ca) nn) := by
    rw [hnn] at ha2
    exact ⟨la, cs, ha2.keep ((Below.refl _ _).alloc (Nat.le_refl _) _), ha2.len.trans hnn, h80⟩
  have F2 : Hid (FBox (w2.alloc (.cells #[.int .i64 fk, .int .i64 fe] 49)) w2.heap.size fk fe) := Blk.new w2 _ _
  rw [hnn]
  clear ha2 h80 hnn x0 x1 x2 x3 x4
  go_upto_region 5 with fail
  obtain ⟨w3, hw3⟩ : ∃ u, w2.alloc (.cells #[.int .i64 fk, .int .i64 fe] 49) = u := ⟨_, rfl⟩
  rw [hw3] at T2 F2 ⊢
  obtain ⟨gf, hgf⟩ : ∃ g, w2.heap.size = g := ⟨_, rfl⟩
  rw [hgf] at F2 ⊢
  clear hw3 hgf
  go_wp2_with fail
  go_loop [14, 15] (fun nv iv => ∃ (i s : Nat), i ≤ nn ∧ s ≤ 80 * i ∧ iv = .int .i64 i ∧ nv = .int .i64 s) (fun _ iv => nn - (intOf iv).toNat)
  case atStart => exact ⟨0, 0, Nat.zero_le _, Nat.zero_le _, rfl, rfl⟩
  case round =>
    obtain ⟨i, s, hi, hs, rfl, rfl⟩ := hrel
    by_cases hlt : i < nn
    · obtain ⟨b, off, ra, rn, rc, rfl, c0, hrn, _⟩ := T2.out.at_ hlt
      have hii : (i : Int) < (nn : Int) := by omega
      go_wp2_with fail
      go_round
      case rel => exact ⟨i + 1, s + rn, by omega, by omega, by go_num, by go_num⟩
      case measure => simp [intOf]; omega
    · have hs640 : s ≤ 640 := by omega
      clear hs
      obtain ⟨f0, f1⟩ := F2.out.cells
      by_cases hbad : fe ≠ 0 ∨ s = 0
      · by_cases he : fe = 0
        · have hs0 : s = 0 := by rcases hbad with h | h; exact absurd he h; exact h
          subst he
          subst hs0
          clear hbad
          go_upto_region 11 with fail
          have CE := Lib.hid (C1.out.below T2.out.old)
          obtain ⟨le, ce, hwe, hle, _⟩ := T2.out
          obtain ⟨⟨gk, ge⟩, hck⟩ : ∃ z, checkC m ds os (ps.map (·.rt)) ce = z := ⟨_, rfl⟩
          have HCK := Lib.hid hck
          have HVS := Lib.hid hwe.vss
          have hcx := hwe.crts.1
          rw [← hwe.len, hle] at hcx
          have HCX := Lib.hid hcx
          clear hck hwe hcx hle
          have HC : Hid (∀ u, Below w3.heap.size w3 u → CR W q r m x ds os ps u) := fun u hu => CE.out.below hu
          have HE : Hid (∀ u, Below w3.heap.size w3 u → Crts u u.heap.size Ba nn le) := fun u hu => (HCX.out.keep hu).more hu.size
          go_cut [8] (fun v wx => v = .bool true ∧ Hid (Below w3.heap.size w3 wx))
          case first =>
            refine wp_region_steps (valRF [58, 59, 60, 61, 62, 63, 64, 65, 66, 67, 68, 69, 70, 71, 72, 73, 74, 75, 76, 77, 78, 79, 8] [.pointer q, .pointer (some ⟨W.heap.size, 2, none⟩), x.ds.v, .pointer (some ⟨W.heap.size, 3, none⟩), x.os.v, .pointer (some ⟨W.heap.size, 4, none⟩), x.pl.v, .slice Ba nn ca, faultV gk ge, .pointer r, .pointer (some ⟨W.heap.size, 2, none⟩), x.ds.v, .pointer (some ⟨W.heap.size, 3, none⟩), x.os.v, .pointer (some ⟨W.heap.size, 4, none⟩), x.pl.v, .slice Ba nn ca, faultV gk ge, .bool true, .bool true, .bool true, .bool true, .bool true]) (by kernel_rfl) (by kernel_rfl) (by kernel_rfl) (fun _ _ => rfl) (by kernel_rfl) valRF.mon ?_ ?_
            · refine ⟨?_, ?_, ?_, ?_, ?_, ?_, ?_, ?_, ?_, ?_, ?_, ?_, ?_, ?_, ?_, ?_, ?_, ?_, ?_, ?_, ?_, ?_, ?_, trivial⟩
              · exact valRF.pureStep rfl 58 rfl rfl (by simp) _ rfl fun listed a u D hI hr hn => exec_move (.inl rfl) (hI.out 9 (by kernel_rfl))
              · exact valRF.pureStep rfl 59 rfl rfl (by simp) _ rfl fun listed a u D hI hr hn => op_field rfl (hI.out 4 (by kernel_rfl)) (by simp [go_sem])
              · exact valRF.pureStep rfl 60 rfl rfl (by simp) _ rfl fun listed a u D hI hr hn => exec_load rfl (valRF.val hI hr hn 1 (by kernel_rfl) rfl rfl) (by have z := (HC.out _ (below_drew hI.old)).wd.cells; simp [go_sem, z.2.2.1])
              · exact valRF.pureStep rfl 61 rfl rfl (by simp) _ rfl fun listed a u D hI hr hn => op_field rfl (hI.out 4 (by kernel_rfl)) (by simp [go_sem])
              · exact valRF.pureStep rfl 62 rfl rfl (by simp) _ rfl fun listed a u D hI hr hn => exec_load rfl (valRF.val hI hr hn 3 (by kernel_rfl) rfl rfl) (by have z := (HC.out _ (below_drew hI.old)).wd.cells; simp [go_sem, z.2.2.2.1])
              · exact valRF.pureStep rfl 63 rfl rfl (by simp) _ rfl fun listed a u D hI hr hn => op_field rfl (hI.out 4 (by kernel_rfl)) (by simp [go_sem])
              · exact valRF.pureStep rfl 64 rfl rfl (by simp) _ rfl fun listed a u D hI hr hn => exec_load rfl (valRF.val hI hr hn 5 (by kernel_rfl) rfl rfl) (by have z := (HC.out _ (below_drew hI.old)).wd.cells; simp [go_sem, z.2.2.2.2])
              · exact valRF.pureStep rfl 65 rfl rfl (by simp) _ rfl fun listed a u D hI hr hn => exec_move (.inl rfl) (hI.out 12 (by kernel_rfl))
              · exact valRF.callStep rfl 66 rfl rfl (by simp) _ rfl fun listed a u D hI hr hn => ⟨_, _, op_call5 rfl (valRF.val hI hr hn 0 (by kernel_rfl) rfl rfl) (valRF.val hI hr hn 2 (by kernel_rfl) rfl rfl) (valRF.val hI hr hn 4 (by kernel_rfl) rfl rfl) (valRF.val hI hr hn 6 (by kernel_rfl) rfl rfl) (valRF.val hI hr hn 7 (by kernel_rfl) rfl rfl) (by simp [go_sem]), use_check (HC.out _ (below_drew hI.old)) (HE.out _ (below_drew hI.old)) HVS.out HCK.out⟩
              · exact valRF.pureStep rfl 67 rfl rfl (by simp) _ rfl fun listed a u D hI hr hn => exec_move (.inl rfl) (hI.out 10 (by kernel_rfl))
              · exact valRF.pureStep rfl 68 rfl rfl (by simp) _ rfl fun listed a u D hI hr hn => op_field rfl (hI.out 4 (by kernel_rfl)) (by simp [go_sem])
              · exact valRF.pureStep rfl 69 rfl rfl (by simp) _ rfl fun listed a u D hI hr hn => exec_load rfl (valRF.val hI hr hn 10 (by kernel_rfl) rfl rfl) (by have z := (HC.out _ (below_drew hI.old)).wd.cells; simp [go_sem, z.2.2.1])
              · exact valRF.pureStep rfl 70 rfl rfl (by simp) _ rfl fun listed a u D hI hr hn => op_field rfl (hI.out 4 (by kernel_rfl)) (by simp [go_sem])
              · exact valRF.pureStep rfl 71 rfl rfl (by simp) _ rfl fun listed a u D hI hr hn => exec_load rfl (valRF.val hI hr hn 12 (by kernel_rfl) rfl rfl) (by have z := (HC.out _ (below_drew hI.old)).wd.cells; simp [go_sem, z.2.2.2.1])
              · exact valRF.pureStep rfl 72 rfl rfl (by simp) _ rfl fun listed a u D hI hr hn => op_field rfl (hI.out 4 (by kernel_rfl)) (by simp [go_sem])
              · exact valRF.pureStep rfl 73 rfl rfl (by simp) _ rfl fun listed a u D hI hr hn => exec_load rfl (valRF.val hI hr hn 14 (by kernel_rfl) rfl rfl) (by have z := (HC.out _ (below_drew hI.old)).wd.cells; simp [go_sem, z.2.2.2.2])
              · exact valRF.pureStep rfl 74 rfl rfl (by simp) _ rfl fun listed a u D hI hr hn => exec_move (.inl rfl) (hI.out 12 (by kernel_rfl))
              · exact valRF.callStep rfl 75 rfl rfl (by simp) _ rfl fun listed a u D hI hr hn => ⟨_, _, op_call5 rfl (valRF.val hI hr hn 9 (by kernel_rfl) rfl rfl) (valRF.val hI hr hn 11 (by kernel_rfl) rfl rfl) (valRF.val hI hr hn 13 (by kernel_rfl) rfl rfl) (valRF.val hI hr hn 15 (by kernel_rfl) rfl rfl) (valRF.val hI hr hn 16 (by kernel_rfl) rfl rfl) (by simp [go_sem]), use_rcheck (HC.out _ (below_drew hI.old)) (HE.out _ (below_drew hI.old)) HVS.out HCK.out⟩
              · exact valRF.pureStep rfl 76 rfl rfl (by simp) _ rfl fun listed a u D hI hr hn => exec_eqf rfl (valRF.val hI hr hn 8 (by kernel_rfl) rfl rfl) (valRF.val hI hr hn 17 (by kernel_rfl) rfl rfl)
              · exact valRF.pureStep rfl 77 rfl rfl (by simp) _ rfl fun listed a u D hI hr hn => exec_move (.inl rfl) (valRF.val hI hr hn 18 (by kernel_rfl) rfl rfl)
              · exact valRF.callStepG 78 rfl rfl (by simp) _ rfl fun listed a u D hI hr hn => ⟨guard_yes (t := 77) rfl (by kernel_rfl) (valRF.val hI hr hn 19 (by kernel_rfl) rfl rfl), _, _, op_call0 rfl (by simp [go_sem]), use_runs _⟩
              · exact valRF.pureStep rfl 79 rfl rfl (by simp) _ rfl fun listed a u D hI hr hn => OneR.exec_and rfl (valRF.val hI hr hn 19 (by kernel_rfl) rfl rfl) (valRF.val hI hr hn 20 (by kernel_rfl) rfl rfl) rfl
              · exact valRF.pureStep rfl 8 rfl rfl (by simp) _ rfl fun listed a u D hI hr hn => exec_move (.inr rfl) (valRF.val hI hr hn 21 (by kernel_rfl) rfl rfl)
            · intro listed a u D hI hall
              have eR0 : a.tmps.getD 8 undef = .bool true := (hI.fact 22 ⟨hall 22 (by simp), fun k hk => by cases hk⟩).1
              have hold := below_drew hI.old
              have hl := hI.fill [58, 59, 60, 61, 62, 63, 64, 65, 66, 67, 68, 69, 70, 71, 72, 73, 74, 75, 76, 77, 78, 79, 8] (by kernel_rfl)
              clear hI hall
              obtain ⟨σ, hσ⟩ : ∃ σ : Nat → Value, ∀ t, a.tmps.getD t undef = σ t := ⟨_, fun _ => rfl⟩
              simp only [hσ] at hl eR0
              clear hσ
              simp only [List.foldl_cons, List.foldl_nil, List.setIfInBounds_toArray, List.set_cons_zero, List.set_cons_succ, eR0] at hl
              subst hl
              go_wp2_with fail
              go_meet
              exact ⟨rfl, hold⟩
          case rest =>
          obtain ⟨rfl, HBZ⟩ := hcut
          obtain ⟨wz, rfl⟩ : ∃ u, u = wc := ⟨_, rfl⟩
          have CZ := Lib.hid (CE.out.below HBZ.out)
          clear HC HE HBZ
          go_wp2_with fail
          go_ret
          exact ⟨rfl, CZ.out.old⟩
        · have e1 : (fe != 0) = true := by simpa using he
          clear he hbad
          go_upto_region 11 with fail
          have CE := Lib.hid (C1.out.below T2.out.old)
          obtain ⟨le, ce, hwe, hle, _⟩ := T2.out
          obtain ⟨⟨gk, ge⟩, hck⟩ : ∃ z, checkC m ds os (ps.map (·.rt)) ce = z := ⟨_, rfl⟩
          have HCK := Lib.hid hck
          have HVS := Lib.hid hwe.vss
          have hcx := hwe.crts.1
          rw [← hwe.len, hle] at hcx
          have HCX := Lib.hid hcx
          clear hck hwe hcx hle
          have HC : Hid (∀ u, Below w3.heap.size w3 u → CR W q r m x ds os ps u) := fun u hu => CE.out.below hu
          have HE : Hid (∀ u, Below w3.heap.size w3 u → Crts u u.heap.size Ba nn le) := fun u hu => (HCX.out.keep hu).more hu.size
          go_cut [8] (fun v wx => v = .bool true ∧ Hid (Below w3.heap.size w3 wx))
          case first =>
            refine wp_region_steps (valRF [58, 59, 60, 61, 62, 63, 64, 65, 66, 67, 68, 69, 70, 71, 72, 73, 74, 75, 76, 77, 78, 79, 8] [.pointer q, .pointer (some ⟨W.heap.size, 2, none⟩), x.ds.v, .pointer (some ⟨W.heap.size, 3, none⟩), x.os.v, .pointer (some ⟨W.heap.size, 4, none⟩), x.pl.v, .slice Ba nn ca, faultV gk ge, .pointer r, .pointer (some ⟨W.heap.size, 2, none⟩), x.ds.v, .pointer (some ⟨W.heap.size, 3, none⟩), x.os.v, .pointer (some ⟨W.heap.size, 4, none⟩), x.pl.v, .slice Ba nn ca, faultV gk ge, .bool true, .bool true, .bool true, .bool true, .bool true]) (by kernel_rfl) (by kernel_rfl) (by kernel_rfl) (fun _ _ => rfl) (by kernel_rfl) valRF.mon ?_ ?_
            · refine ⟨?_, ?_, ?_, ?_, ?_, ?_, ?_, ?_, ?_, ?_, ?_, ?_, ?_, ?_, ?_, ?_, ?_, ?_, ?_, ?_, ?_, ?_, ?_, trivial⟩
              · exact valRF.pureStep rfl 58 rfl rfl (by simp) _ rfl fun listed a u D hI hr hn => exec_move (.inl rfl) (hI.out 9 (by kernel_rfl))
              · exact valRF.pureStep rfl 59 rfl rfl (by simp) _ rfl fun listed a u D hI hr hn => op_field rfl (hI.out 4 (by kernel_rfl)) (by simp [go_sem])
              · exact valRF.pureStep rfl 60 rfl rfl (by simp) _ rfl fun listed a u D hI hr hn => exec_load rfl (valRF.val hI hr hn 1 (by kernel_rfl) rfl rfl) (by have z := (HC.out _ (below_drew hI.old)).wd.cells; simp [go_sem, z.2.2.1])
              · exact valRF.pureStep rfl 61 rfl rfl (by simp) _ rfl fun listed a u D hI hr hn => op_field rfl (hI.out 4 (by kernel_rfl)) (by simp [go_sem])
              · exact valRF.pureStep rfl 62 rfl rfl (by simp) _ rfl fun listed a u D hI hr hn => exec_load rfl (valRF.val hI hr hn 3 (by kernel_rfl) rfl rfl) (by have z := (HC.out _ (below_drew hI.old)).wd.cells; simp [go_sem, z.2.2.2.1])
              · exact valRF.pureStep rfl 63 rfl rfl (by simp) _ rfl fun listed a u D hI hr hn => op_field rfl (hI.out 4 (by kernel_rfl)) (by simp [go_sem])
              · exact valRF.pureStep rfl 64 rfl rfl (by simp) _ rfl fun listed a u D hI hr hn => exec_load rfl (valRF.val hI hr hn 5 (by kernel_rfl) rfl rfl) (by have z := (HC.out _ (below_drew hI.old)).wd.cells; simp [go_sem, z.2.2.2.2])
              · exact valRF.pureStep rfl 65 rfl rfl (by simp) _ rfl fun listed a u D hI hr hn => exec_move (.inl rfl) (hI.out 12 (by kernel_rfl))
              · exact valRF.callStep rfl 66 rfl rfl (by simp) _ rfl fun listed a u D hI hr hn => ⟨_, _, op_call5 rfl (valRF.val hI hr hn 0 (by kernel_rfl) rfl rfl) (valRF.val hI hr hn 2 (by kernel_rfl) rfl rfl) (valRF.val hI hr hn 4 (by kernel_rfl) rfl rfl) (valRF.val hI hr hn 6 (by kernel_rfl) rfl rfl) (valRF.val hI hr hn 7 (by kernel_rfl) rfl rfl) (by simp [go_sem]), use_check (HC.out _ (below_drew hI.old)) (HE.out _ (below_drew hI.old)) HVS.out HCK.out⟩
              · exact valRF.pureStep rfl 67 rfl rfl (by simp) _ rfl fun listed a u D hI hr hn => exec_move (.inl rfl) (hI.out 10 (by kernel_rfl))
              · exact valRF.pureStep rfl 68 rfl rfl (by simp) _ rfl fun listed a u D hI hr hn => op_field rfl (hI.out 4 (by kernel_rfl)) (by simp [go_sem])
              · exact valRF.pureStep rfl 69 rfl rfl (by simp) _ rfl fun listed a u D hI hr hn => exec_load rfl (valRF.val hI hr hn 10 (by kernel_rfl) rfl rfl) (by have z := (HC.out _ (below_drew hI.old)).wd.cells; simp [go_sem, z.2.2.1])
              · exact valRF.pureStep rfl 70 rfl rfl (by simp) _ rfl fun listed a u D hI hr hn => op_field rfl (hI.out 4 (by kernel_rfl)) (by simp [go_sem])
              · exact valRF.pureStep rfl 71 rfl rfl (by simp) _ rfl fun listed a u D hI hr hn => exec_load rfl (valRF.val hI hr hn 12 (by kernel_rfl) rfl rfl) (by have z := (HC.out _ (below_drew hI.old)).wd.cells; simp [go_sem, z.2.2.2.1])
              · exact valRF.pureStep rfl 72 rfl rfl (by simp) _ rfl fun listed a u D hI hr hn => op_field rfl (hI.out 4 (by kernel_rfl)) (by simp [go_sem])
              · exact valRF.pureStep rfl 73 rfl rfl (by simp) _ rfl fun listed a u D hI hr hn => exec_load rfl (valRF.val hI hr hn 14 (by kernel_rfl) rfl rfl) (by have z := (HC.out _ (below_drew hI.old)).wd.cells; simp [go_sem, z.2.2.2.2])
              · exact valRF.pureStep rfl 74 rfl rfl (by simp) _ rfl fun listed a u D hI hr hn => exec_move (.inl rfl) (hI.out 12 (by kernel_rfl))
              · exact valRF.callStep rfl 75 rfl rfl (by simp) _ rfl fun listed a u D hI hr hn => ⟨_, _, op_call5 rfl (valRF.val hI hr hn 9 (by kernel_rfl) rfl rfl) (valRF.val hI hr hn 11 (by kernel_rfl) rfl rfl) (valRF.val hI hr hn 13 (by kernel_rfl) rfl rfl) (valRF.val hI hr hn 15 (by kernel_rfl) rfl rfl) (valRF.val hI hr hn 16 (by kernel_rfl) rfl rfl) (by simp [go_sem]), use_rcheck (HC.out _ (below_drew hI.old)) (HE.out _ (below_drew hI.old)) HVS.out HCK.out⟩
              · exact valRF.pureStep rfl 76 rfl rfl (by simp) _ rfl fun listed a u D hI hr hn => exec_eqf rfl (valRF.val hI hr hn 8 (by kernel_rfl) rfl rfl) (valRF.val hI hr hn 17 (by kernel_rfl) rfl rfl)
              · exact valRF.pureStep rfl 77 rfl rfl (by simp) _ rfl fun listed a u D hI hr hn => exec_move (.inl rfl) (valRF.val hI hr hn 18 (by kernel_rfl) rfl rfl)
              · exact valRF.callStepG 78 rfl rfl (by simp) _ rfl fun listed a u D hI hr hn => ⟨guard_yes (t := 77) rfl (by kernel_rfl) (valRF.val hI hr hn 19 (by kernel_rfl) rfl rfl), _, _, op_call0 rfl (by simp [go_sem]), use_runs _⟩
              · exact valRF.pureStep rfl 79 rfl rfl (by simp) _ rfl fun listed a u D hI hr hn => OneR.exec_and rfl (valRF.val hI hr hn 19 (by kernel_rfl) rfl rfl) (valRF.val hI hr hn 20 (by kernel_rfl) rfl rfl) rfl
              · exact valRF.pureStep rfl 8 rfl rfl (by simp) _ rfl fun listed a u D hI hr hn => exec_move (.inr rfl) (valRF.val hI hr hn 21 (by kernel_rfl) rfl rfl)
            · intro listed a u D hI hall
              have eR0 : a.tmps.getD 8 undef = .bool true := (hI.fact 22 ⟨hall 22 (by simp), fun k hk => by cases hk⟩).1
              have hold := below_drew hI.old
              have hl := hI.fill [58, 59, 60, 61, 62, 63, 64, 65, 66, 67, 68, 69, 70, 71, 72, 73, 74, 75, 76, 77, 78, 79, 8] (by kernel_rfl)
              clear hI hall
              obtain ⟨σ, hσ⟩ : ∃ σ : Nat → Value, ∀ t, a.tmps.getD t undef = σ t := ⟨_, fun _ => rfl⟩
              simp only [hσ] at hl eR0
              clear hσ
              simp only [List.foldl_cons, List.foldl_nil, List.setIfInBounds_toArray, List.set_cons_zero, List.set_cons_succ, eR0] at hl
              subst hl
              go_wp2_with fail
              go_meet
              exact ⟨rfl, hold⟩
          case rest =>
          obtain ⟨rfl, HBZ⟩ := hcut
          obtain ⟨wz, rfl⟩ : ∃ u, u = wc := ⟨_, rfl⟩
          have CZ := Lib.hid (CE.out.below HBZ.out)
          clear HC HE HBZ
          go_wp2_with fail
          go_ret
          exact ⟨rfl, CZ.out.old⟩
      have he : fe = 0 := Decidable.not_not.1 fun h => hbad (.inl h)
      have hs0 : s ≠ 0 := fun h => hbad (.inr h)
      subst he
      have hs1 : 1 ≤ s := by omega
      have e2 : ((s : Int) == 0) = false := by simp only [beq_eq_false_iff_ne, ne_eq]; omega
      have hsub : IntKind.i64.wrap ((s : Int) - 1) = (s : Int) - 1 := IntWalk.i64_in _ (by omega)
      clear hbad hs0
      go_wp2_with fail
      refine (within_any at' 0 ((s : Int) - 1) _ (by omega) (by omega) (by omega)).mono ?_
      rintro e w4 ⟨k0, ⟨_, hk0⟩, rfl, rfl⟩
      have hk640 : k0 ≤ 640 := by omega
      clear hk0 hsub e2 f0 f1
      go_wp2_with fail
      go_loopw [16, 17] (fun kv iv wr => ∃ (i : Nat) (k : Int), i ≤ nn ∧ iv = .int .i64 i ∧ kv = .int .i64 k ∧ -1 - 80 * (i : Int) ≤ k ∧ k ≤ 640 ∧ Hid (WT w1 wr (.slice Ba nn ca) nn)) (fun _ iv _ => nn - (intOf iv).toNat)
      case atStart => exact ⟨0, (k0 : Int), Nat.zero_le _, rfl, rfl, by omega, by omega, T2⟩
      case round =>
        clear T2 F2 hk640 hs1 hs640
        obtain ⟨i, k, hi, rfl, rfl, hkl, hkh, TW⟩ := hrel
        by_cases hlt : i < nn
        · obtain ⟨b, off, ra, rn, rc, rfl, c0, hrn, hrow⟩ := TW.out.at_ hlt
          have hii : (i : Int) < (nn : Int) := by omega
          have hsb : IntKind.i64.wrap (k - (rn : Int)) = k - (rn : Int) := IntWalk.i64_in _ (by omega)
          by_cases hk0 : k < 0
          · clear hrow
            go_wp2_with fail
            go_roundw
            case rel => exact ⟨i + 1, k - (rn : Int), by omega, by go_num, rfl, by omega, by omega, TW⟩
            case measure => simp [intOf]; omega
          by_cases hkn : (rn : Int) ≤ k
          · clear hrow
            go_wp2_with fail
            go_roundw
            case rel => exact ⟨i + 1, k - (rn : Int), by omega, by go_num, rfl, by omega, by omega, TW⟩
            case measure => simp [intOf]; omega
          obtain ⟨kk, rfl⟩ : ∃ z : Nat, k = z := ⟨k.toNat, by omega⟩
          have hkk : kk < rn := by omega
          have hkki : (kk : Int) < (rn : Int) := by omega
          obtain ⟨g, y, rfl, ⟨v0, v1, v2, v3, v4, v5⟩, hff, t0, t1, t2, t3, t4, t5⟩ := hrow kk hkk
          have T0 := Lib.hid t0
          have T1 := Lib.hid t1
          have T2 := Lib.hid t2
          have T3 := Lib.hid t3
          have T4 := Lib.hid t4
          have T5 := Lib.hid t5
          have hfr := hff
          clear hrow hsb hk0 hkn t0 t1 t2 t3 t4 t5 hff
          go_wp2_with fail
          refine (within_any field 0 5 _ (by omega) (by omega) (by omega)).mono ?_
          rintro e w5 ⟨fw, ⟨_, hfw⟩, rfl, rfl⟩
          have hcase : fw = 0 ∨ fw = 1 ∨ fw = 2 ∨ fw = 3 ∨ fw = 4 ∨ fw = 5 := by omega
          rcases hcase with rfl | rfl | rfl | rfl | rfl | rfl
          · clear hfw
            go_wp2_with fail
            go_roundw
            case rel => exact ⟨i + 1, -1, by omega, by go_num, rfl, by omega, by omega, Lib.hid (T2.out _)⟩
            case measure => simp [intOf]; omega
          · clear hfw
            go_wp2_with fail
            go_roundw
            case rel => exact ⟨i + 1, -1, by omega, by go_num, rfl, by omega, by omega, Lib.hid (T3.out _)⟩
            case measure => simp [intOf]; omega
          · clear hfw
            go_wp2_with fail
            go_roundw
            case rel => exact ⟨i + 1, -1, by omega, by go_num, rfl, by omega, by omega, Lib.hid (T4.out _)⟩
            case measure => simp [intOf]; omega
          · clear hfw
            go_wp2_with fail
            go_roundw
            case rel => exact ⟨i + 1, -1, by omega, by go_num, rfl, by omega, by omega, Lib.hid (T5.out _)⟩
            case measure => simp [intOf]; omega
          · clear hfw
            go_wp2_with fail
            go_roundw
            case rel => exact ⟨i + 1, -1, by omega, by go_num, rfl, by omega, by omega, Lib.hid (T0.out _)⟩
            case measure => simp [intOf]; omega
          · clear hfw
            go_wp2_with fail
            go_roundw
            case rel => exact ⟨i + 1, -1, by omega, by go_num, rfl, by omega, by omega, Lib.hid (T1.out _)⟩
            case measure => simp [intOf]; omega
        · clear hkl hkh
          go_upto_region 33 with fail
          have CE := Lib.hid (C1.out.below TW.out.old)
          obtain ⟨le, ce, hwe, hle, _⟩ := TW.out
          obtain ⟨⟨gk, ge⟩, hck⟩ : ∃ z, checkC m ds os (ps.map (·.rt)) ce = z := ⟨_, rfl⟩
          have HCK := Lib.hid hck
          have HVS := Lib.hid hwe.vss
          have hcx := hwe.crts.1
          rw [← hwe.len, hle] at hcx
          have HCX := Lib.hid hcx
          clear hck hwe hcx hle
          have HC : Hid (∀ u, Below wr.heap.size wr u → CR W q r m x ds os ps u) := fun u hu => CE.out.below hu
          have HE : Hid (∀ u, Below wr.heap.size wr u → Crts u u.heap.size Ba nn le) := fun u hu => (HCX.out.keep hu).more hu.size
          go_cut [8] (fun v wx => v = .bool true ∧ Hid (Below wr.heap.size wr wx))
          case first =>
            refine wp_region_steps (valRF [188, 189, 190, 191, 192, 193, 194, 195, 196, 197, 198, 199, 200, 201, 202, 203, 204, 205, 206, 207, 208, 209, 8] [.pointer q, .pointer (some ⟨W.heap.size, 2, none⟩), x.ds.v, .pointer (some ⟨W.heap.size, 3, none⟩), x.os.v, .pointer (some ⟨W.heap.size, 4, none⟩), x.pl.v, .slice Ba nn ca, faultV gk ge, .pointer r, .pointer (some ⟨W.heap.size, 2, none⟩), x.ds.v, .pointer (some ⟨W.heap.size, 3, none⟩), x.os.v, .pointer (some ⟨W.heap.size, 4, none⟩), x.pl.v, .slice Ba nn ca, faultV gk ge, .bool true, .bool true, .bool true, .bool true, .bool true]) (by kernel_rfl) (by kernel_rfl) (by kernel_rfl) (fun _ _ => rfl) (by kernel_rfl) valRF.mon ?_ ?_
            · refine ⟨?_, ?_, ?_, ?_, ?_, ?_, ?_, ?_, ?_, ?_, ?_, ?_, ?_, ?_, ?_, ?_, ?_, ?_, ?_, ?_, ?_, ?_, ?_, trivial⟩
              · exact valRF.pureStep rfl 188 rfl rfl (by simp) _ rfl fun listed a u D hI hr hn => exec_move (.inl rfl) (hI.out 9 (by kernel_rfl))
              · exact valRF.pureStep rfl 189 rfl rfl (by simp) _ rfl fun listed a u D hI hr hn => op_field rfl (hI.out 4 (by kernel_rfl)) (by simp [go_sem])
              · exact valRF.pureStep rfl 190 rfl rfl (by simp) _ rfl fun listed a u D hI hr hn => exec_load rfl (valRF.val hI hr hn 1 (by kernel_rfl) rfl rfl) (by have z := (HC.out _ (below_drew hI.old)).wd.cells; simp [go_sem, z.2.2.1])
              · exact valRF.pureStep rfl 191 rfl rfl (by simp) _ rfl fun listed a u D hI hr hn => op_field rfl (hI.out 4 (by kernel_rfl)) (by simp [go_sem])
              · exact valRF.pureStep rfl 192 rfl rfl (by simp) _ rfl fun listed a u D hI hr hn => exec_load rfl (valRF.val hI hr hn 3 (by kernel_rfl) rfl rfl) (by have z := (HC.out _ (below_drew hI.old)).wd.cells; simp [go_sem, z.2.2.2.1])
              · exact valRF.pureStep rfl 193 rfl rfl (by simp) _ rfl fun listed a u D hI hr hn => op_field rfl (hI.out 4 (by kernel_rfl)) (by simp [go_sem])
              · exact valRF.pureStep rfl 194 rfl rfl (by simp) _ rfl fun listed a u D hI hr hn => exec_load rfl (valRF.val hI hr hn 5 (by kernel_rfl) rfl rfl) (by have z := (HC.out _ (below_drew hI.old)).wd.cells; simp [go_sem, z.2.2.2.2])
              · exact valRF.pureStep rfl 195 rfl rfl (by simp) _ rfl fun listed a u D hI hr hn => exec_move (.inl rfl) (hI.out 12 (by kernel_rfl))
              · exact valRF.callStep rfl 196 rfl rfl (by simp) _ rfl fun listed a u D hI hr hn => ⟨_, _, op_call5 rfl (valRF.val hI hr hn 0 (by kernel_rfl) rfl rfl) (valRF.val hI hr hn 2 (by kernel_rfl) rfl rfl) (valRF.val hI hr hn 4 (by kernel_rfl) rfl rfl) (valRF.val hI hr hn 6 (by kernel_rfl) rfl rfl) (valRF.val hI hr hn 7 (by kernel_rfl) rfl rfl) (by simp [go_sem]), use_check (HC.out _ (below_drew hI.old)) (HE.out _ (below_drew hI.old)) HVS.out HCK.out⟩
              · exact valRF.pureStep rfl 197 rfl rfl (by simp) _ rfl fun listed a u D hI hr hn => exec_move (.inl rfl) (hI.out 10 (by kernel_rfl))
              · exact valRF.pureStep rfl 198 rfl rfl (by simp) _ rfl fun listed a u D hI hr hn => op_field rfl (hI.out 4 (by kernel_rfl)) (by simp [go_sem])
              · exact valRF.pureStep rfl 199 rfl rfl (by simp) _ rfl fun listed a u D hI hr hn => exec_load rfl (valRF.val hI hr hn 10 (by kernel_rfl) rfl rfl) (by have z := (HC.out _ (below_drew hI.old)).wd.cells; simp [go_sem, z.2.2.1])
              · exact valRF.pureStep rfl 200 rfl rfl (by simp) _ rfl fun listed a u D hI hr hn => op_field rfl (hI.out 4 (by kernel_rfl)) (by simp [go_sem])
              · exact valRF.pureStep rfl 201 rfl rfl (by simp) _ rfl fun listed a u D hI hr hn => exec_load rfl (valRF.val hI hr hn 12 (by kernel_rfl) rfl rfl) (by have z := (HC.out _ (below_drew hI.old)).wd.cells; simp [go_sem, z.2.2.2.1])
              · exact valRF.pureStep rfl 202 rfl rfl (by simp) _ rfl fun listed a u D hI hr hn => op_field rfl (hI.out 4 (by kernel_rfl)) (by simp [go_sem])
              · exact valRF.pureStep rfl 203 rfl rfl (by simp) _ rfl fun listed a u D hI hr hn => exec_load rfl (valRF.val hI hr hn 14 (by kernel_rfl) rfl rfl) (by have z := (HC.out _ (below_drew hI.old)).wd.cells; simp [go_sem, z.2.2.2.2])
              · exact valRF.pureStep rfl 204 rfl rfl (by simp) _ rfl fun listed a u D hI hr hn => exec_move (.inl rfl) (hI.out 12 (by kernel_rfl))
              · exact valRF.callStep rfl 205 rfl rfl (by simp) _ rfl fun listed a u D hI hr hn => ⟨_, _, op_call5 rfl (valRF.val hI hr hn 9 (by kernel_rfl) rfl rfl) (valRF.val hI hr hn 11 (by kernel_rfl) rfl rfl) (valRF.val hI hr hn 13 (by kernel_rfl) rfl rfl) (valRF.val hI hr hn 15 (by kernel_rfl) rfl rfl) (valRF.val hI hr hn 16 (by kernel_rfl) rfl rfl) (by simp [go_sem]), use_rcheck (HC.out _ (below_drew hI.old)) (HE.out _ (below_drew hI.old)) HVS.out HCK.out⟩
              · exact valRF.pureStep rfl 206 rfl rfl (by simp) _ rfl fun listed a u D hI hr hn => exec_eqf rfl (valRF.val hI hr hn 8 (by kernel_rfl) rfl rfl) (valRF.val hI hr hn 17 (by kernel_rfl) rfl rfl)
              · exact valRF.pureStep rfl 207 rfl rfl (by simp) _ rfl fun listed a u D hI hr hn => exec_move (.inl rfl) (valRF.val hI hr hn 18 (by kernel_rfl) rfl rfl)
              · exact valRF.callStepG 208 rfl rfl (by simp) _ rfl fun listed a u D hI hr hn => ⟨guard_yes (t := 207) rfl (by kernel_rfl) (valRF.val hI hr hn 19 (by kernel_rfl) rfl rfl), _, _, op_call0 rfl (by simp [go_sem]), use_runs _⟩
              · exact valRF.pureStep rfl 209 rfl rfl (by simp) _ rfl fun listed a u D hI hr hn => OneR.exec_and rfl (valRF.val hI hr hn 19 (by kernel_rfl) rfl rfl) (valRF.val hI hr hn 20 (by kernel_rfl) rfl rfl) rfl
              · exact valRF.pureStep rfl 8 rfl rfl (by simp) _ rfl fun listed a u D hI hr hn => exec_move (.inr rfl) (valRF.val hI hr hn 21 (by kernel_rfl) rfl rfl)
            · intro listed a u D hI hall
              have eR0 : a.tmps.getD 8 undef = .bool true := (hI.fact 22 ⟨hall 22 (by simp), fun k hk => by cases hk⟩).1
              have hold := below_drew hI.old
              have hl := hI.fill [188, 189, 190, 191, 192, 193, 194, 195, 196, 197, 198, 199, 200, 201, 202, 203, 204, 205, 206, 207, 208, 209, 8] (by kernel_rfl)
              clear hI hall
              obtain ⟨σ, hσ⟩ : ∃ σ : Nat → Value, ∀ t, a.tmps.getD t undef = σ t := ⟨_, fun _ => rfl⟩
              simp only [hσ] at hl eR0
              clear hσ
              simp only [List.foldl_cons, List.foldl_nil, List.setIfInBounds_toArray, List.set_cons_zero, List.set_cons_succ, eR0] at hl
              subst hl
              go_wp2_with fail
              go_meet
              exact ⟨rfl, hold⟩
          case rest =>
          obtain ⟨rfl, HBZ⟩ := hcut
          obtain ⟨wz, rfl⟩ : ∃ u, u = wc := ⟨_, rfl⟩
          have CZ := Lib.hid (CE.out.below HBZ.out)
          clear HC HE HBZ
          go_wp2_with fail
          go_ret
          exact ⟨rfl, CZ.out.old⟩
#print axioms certTurned_walk
theorem certTurned_w (x : Wd) (a f b : Int) (W : World) (h : WorldIn W x) (ha : wfI a) (hf : wfI f) (hb : wfI b) : Calls Try.prog 6 #[wdV x, .int .i64 a, .int .i64 f, .int .i64 b] W fun e w' => e = .returned (.bool true) ∧ Below W.heap.size W w' := by
  obtain ⟨ts, ds, os, ps, h1, h2⟩ := h
  exact certTurned_walk x ts ds os ps a f b W h1.ts h1.ds h1.os h2.plns
end Go.Proofs.Ytfejnohcggoepaa.Cert
