/-
  Any plan's certificate, or what is wrong; answers are new memory, the plan stays: CertMakes, walked.
-/
import Derived.Test.YtfejnohcggoepaaCertUse
import Derived.Test.YtfejnohcggoepaaLibRows
namespace Go.Proofs.Ytfejnohcggoepaa.Cert
open Go.ChangeShapes Go.WideShapes Go.ChangeAt Go.RowKit Go.Proofs.Ytfejnohcggoepaa.Mem Go.Proofs.Ytfejnohcggoepaa.GeoMath Go.Proofs.Ytfejnohcggoepaa.FleetMath Go.Proofs.Ytfejnohcggoepaa.PlanMath Go.Proofs.Ytfejnohcggoepaa.CertMath Go.Proofs.Ytfejnohcggoepaa.Rec Go.Proofs.Ytfejnohcggoepaa.Geo Go.Proofs.Ytfejnohcggoepaa.Span Go.Proofs.Ytfejnohcggoepaa.Deal Go.Proofs.Ytfejnohcggoepaa.Keep Go.Proofs.Ytfejnohcggoepaa.Route Go.Proofs.Ytfejnohcggoepaa.Plan
set_option linter.unusedVariables false
set_option linter.unusedSimpArgs false

/-- an own row, whatever it holds by now -/
def RowV (w : World) (base hi : Nat) (A : Option Addr) (c : Nat) : Prop := (A = none ∧ c = 0) ∨ ∃ g vs, A = some ⟨g, 0, none⟩ ∧ base ≤ g ∧ g < hi ∧ Blk w g 44 vs ∧ vs.length = c * 6 ∧ c ≤ maxLen
theorem own_rowV {w w' : World} {base n c : Nat} {A : Option Addr} {vs : List Value} (h : OwnK w base 44 6 (.slice A n c) n vs) (hb : Below w.heap.size w w') : RowV w' base w.heap.size A c := by
  rcases h.1.2 with ⟨h1, h2⟩ | ⟨g, cap, cur, e1, hg, hh, h1, h2, h3, h4⟩
  · injection h1 with e1 e2 e3
    exact .inl ⟨e1, e3⟩
  · injection e1 with e1 _ e3
    subst e3
    have hB : Blk w g 44 cur.toList := hh
    exact .inr ⟨g, cur.toList, e1, hg, hB.lt, hB.below hb hB.lt, by simpa using h3, h2⟩
theorem RowV.set {w : World} {base hi c g i : Nat} {A : Option Addr} (h : RowV w base hi A c) (u : Value) : RowV (w.setCell ⟨g, i, none⟩ u) base hi A c := by
  rcases h with h | ⟨g', vs, e1, hg, hgh, hb, h2, h3⟩
  · exact .inl h
  · by_cases hq : g' = g
    · subst hq
      exact .inr ⟨g', vs.set i u, e1, hg, hgh, hb.put i u, by rw [List.length_set]; exact h2, h3⟩
    · exact .inr ⟨g', vs, e1, hg, hgh, (Below.heap_setCell w _ _ _ (by show g' ≠ g; exact hq)).trans hb, h2, h3⟩
/-- a certificate is being written over: its list stands; w0: before it was made; hi: its blocks lie below; w: when the writing began -/
structure SC (w0 w wr : World) (hi : Nat) (A : Option Addr) (n : Nat) (l : List CM) : Prop where
  old : Below w0.heap.size w0 wr
  size : wr.heap.size = w.heap.size
  far : ∀ h, hi ≤ h → wr.heap[h]? = w.heap[h]?
  len : l.length = n
  row : 0 < n → ∃ g vs, A = some ⟨g, 0, none⟩ ∧ w0.heap.size ≤ g ∧ g < hi ∧ Blk wr g 45 vs ∧ (∀ (j : Nat) (x : CM), l[j]? = some x → vs[j]? = some (Value.slice x.a x.n x.c)) ∧ ∀ r ∈ l, r.v.ownBlock ≠ some g
  each : ∀ r ∈ l, RowV wr w0.heap.size hi r.a r.c
theorem SC.start {w0 w3 w : World} {A : Option Addr} {n c : Nat} {l : List CM} (h : NewC w0 w3 (.slice A n c) l) (hn : l.length = n) (hb : Below w3.heap.size w3 w) : SC w0 w w w3.heap.size A n l := by
  subst hn
  refine ⟨h.old.trans (hb.mono h.old.size), rfl, fun _ _ => rfl, rfl, fun hn => ?_, fun r hr => own_rowV (h.each r hr).1 hb⟩
  rcases h.own.blk with ⟨_, h0⟩ | ⟨g, cap, cur, e1, hg, hB, hnc, hl, ht⟩
  · omega
  · injection e1 with e1 _ _
    refine ⟨g, cur, e1, hg, hB.lt, hB.below hb hB.lt, fun j x hx => ?_, fun r hr hq => ?_⟩
    · have h2 := cmsV_at hx
      rw [Nat.mul_one, Nat.add_zero] at h2
      rw [← ht, List.getElem?_take] at h2
      split at h2
      · exact h2
      · cases h2
    · exact (h.each r hr).2 g hq (by rw [e1]; simp [Value.ownBlock])
section
variable {w0 w wr : World} {hi : Nat} {A : Option Addr} {n k : Nat} {l : List CM} {x : CM}
theorem SC.at_ (h : SC w0 w wr hi A n l) (hk : k < n) : ∃ g x, A = some ⟨g, 0, none⟩ ∧ l[k]? = some x ∧ wr.cell? ⟨g, k, none⟩ = some (.slice x.a x.n x.c) ∧ x.c ≤ maxLen := by
  obtain ⟨g, vs, e1, _, _, hB, hc, _⟩ := h.row (by omega)
  have hlt : k < l.length := by rw [h.len]; exact hk
  have hx := List.getElem?_eq_getElem hlt
  refine ⟨g, l[k], e1, hx, hB.cell (hc k _ hx), ?_⟩
  rcases h.each _ (List.getElem_mem hlt) with ⟨_, h2⟩ | ⟨_, _, _, _, _, _, _, h2⟩
  · rw [h2]; exact Nat.zero_le _
  · exact h2
theorem SC.drew (h : SC w0 w wr hi A n l) : SC w0 w wr.drew hi A n l := ⟨h.old.drew, h.size, h.far, h.len, h.row, h.each⟩
theorem SC.set {g i : Nat} {u : Value} (h : SC w0 w wr hi A n l) (hg : w0.heap.size ≤ g) (hgh : g < hi) (hr : 0 < n → A ≠ some ⟨g, 0, none⟩) : SC w0 w (wr.setCell ⟨g, i, none⟩ u) hi A n l := by
  refine ⟨h.old.setCell hg _, by rw [← h.size]; simp [World.setCell], fun q hq => (Below.heap_setCell wr _ _ _ (by show q ≠ g; omega)).trans (h.far q hq), h.len, fun hn => ?_, fun r hr => (h.each r hr).set u⟩
  obtain ⟨g', ws, d1, d2, d2', d3, d5, d6⟩ := h.row hn
  have hne : g' ≠ g := by
    rintro rfl
    exact hr hn d1
  exact ⟨g', ws, d1, d2, d2', (Below.heap_setCell _ _ _ _ (by show g' ≠ g; exact hne)).trans d3, d5, d6⟩
/-- a visit is written over -/
theorem SC.visit {j : Nat} (h : SC w0 w wr hi A n l) (hx : l[k]? = some x) (hj : j < x.c) : ∃ g2, x.a = some ⟨g2, 0, none⟩ ∧ (∀ i, i < 6 → ∃ y, wr.cell? ⟨g2, j * 6 + i, none⟩ = some y) ∧ (∀ i, wr.frozen? ⟨g2, i, none⟩ = false) ∧
    SC w0 w ((((((wr.setCell ⟨g2, j * 6, none⟩ (.int .i64 0)).setCell ⟨g2, j * 6 + 1, none⟩ (.bool false)).setCell ⟨g2, j * 6 + 2, none⟩ (.int .i64 0)).setCell ⟨g2, j * 6 + 3, none⟩ (.int .i64 0)).setCell ⟨g2, j * 6 + 4, none⟩ (.int .i64 0)).setCell ⟨g2, j * 6 + 5, none⟩ (.int .i64 (-5))) hi A n l := by
  have hm := List.mem_of_getElem? hx
  have hlt := (List.getElem?_eq_some_iff.1 hx).1
  rcases h.each x hm with ⟨_, h2⟩ | ⟨g, vs, e1, hg, hgh, hB, h2, h3⟩
  · omega
  · have hne : 0 < n → A ≠ some ⟨g, 0, none⟩ := fun hn e => by
      obtain ⟨g', ws, d1, _, _, _, _, d6⟩ := h.row hn
      rw [d1] at e
      injection e with e
      injection e with e
      exact d6 x hm (by show (Value.slice x.a x.n x.c).ownBlock = _; rw [e1, e]; simp [Value.ownBlock])
    exact ⟨g, e1, (fun i hi6 => ⟨_, hB.cell (List.getElem?_eq_getElem (show j * 6 + i < vs.length by omega))⟩), hB.free, (((((h.set hg hgh hne).set hg hgh hne).set hg hgh hne).set hg hgh hne).set hg hgh hne).set hg hgh hne⟩
end
/-- a whole certificate in a later world, in which its own blocks stand as they were -/
theorem Whole.after {w0 w w' : World} {A : Option Addr} {n c : Nat} {l : List CM} {cs : List (List Vis)} (h : Whole w0 w (.slice A n c) l cs) (hk : ∀ g, w0.heap.size ≤ g → g < w.heap.size → w'.heap[g]? = w.heap[g]?) : Crts w' w'.heap.size A n l := by
  have hn := h.crts.2
  obtain ⟨A1, c1, e, _, hr⟩ := (h.new.own.same hk).read
  injection e with e1 e2 _
  subst e1
  rw [h.len, ← hn] at hr
  refine ⟨hr, fun r hm => ?_⟩
  obtain ⟨A', c', e', hc', hr'⟩ := ((h.new.each r hm).1.same hk).read
  injection e' with e1 _ e2
  rw [e1, e2]
  exact ⟨hr', hc', h.few r hm⟩

set_option maxRecDepth 100000 in
set_option maxHeartbeats 8000000 in
theorem certMakes_walk (x : Wd) (ts : List Int) (ds : List Drv) (os : List FleetMath.Ord) (ps : List RM) (W : World) (hts : Ints W W.heap.size x.ts.a x.ts.n ts) (hds : Drvs W W.heap.size x.ds.a x.ds.n ds) (hos : Ords W W.heap.size x.os.a x.os.n os) (hps : Plns W W.heap.size x.pl.a x.pl.n ps) (hn40 : x.pl.n * 40 ≤ 140737488351232) :
    Calls Try.prog 4 #[wdV x] W fun e w' => e = .returned (.bool true) ∧ Below W.heap.size W w' := by
  have HTS := Lib.hid hts
  have HDS := Lib.hid hds
  have HOS := Lib.hid hos
  have HPS := Lib.hid hps
  clear hts hds hos hps
  obtain ⟨m, hm⟩ : ∃ m, mapOf x.n ts = m := ⟨_, rfl⟩
  have HM := Lib.hid hm
  clear hm
  obtain ⟨⟨cs, fk, fe⟩, hmk⟩ : ∃ z, makeC m ds os (ps.map (·.rt)) = z := ⟨_, rfl⟩
  have HMK := Lib.hid hmk
  clear hmk
  have HB0 : Hid (Below W.heap.size W (W.alloc (.cells #[.int .i64 x.n, x.ts.v, x.ds.v, x.os.v, x.pl.v] 58))) := (Below.refl _ _).alloc (Nat.le_refl _) _
  have HW0 := Lib.hid (WBox.new W x)
  go_enter Try.func4, Try.ntmps4
  go_wp2_with fail
  refine (kmaps_any x ts _ (by exact Reads.more (Reads.keep HTS.out HB0.out) HB0.out.size)).mono ?_
  intro e w1 hmo
  obtain ⟨q, r, rfl, hcr⟩ := CR.start (n0 := 0) HB0.out HW0.out HDS.out HOS.out HPS.out HM.out hmo
  have C1 := Lib.hid hcr
  clear hmo hcr HB0 HW0
  obtain ⟨x0, x1, x2, x3, x4⟩ := C1.out.wd.cells
  go_wp2_with fail
  refine (use_copy _ _ _ ps _ (by exact C1.out.plns) hn40).mono ?_
  rintro e w2 ⟨Bw, kw, lw, rfl, hb2, hp2, he2⟩
  have C2 := Lib.hid (C1.out.below hb2)
  have P2 := Lib.hid hp2
  have EW := Lib.hid he2
  clear hb2 hp2 he2 C1 x0 x1 x2 x3 x4
  obtain ⟨x0, x1, x2, x3, x4⟩ := C2.out.wd.cells
  go_wp2_with fail
  refine (use_make C2.out HMK.out).mono ?_
  rintro e w3 ⟨Ba, ca, la, rfl, ha3⟩
  have A3 := Lib.hid ha3
  have C3 : Hid (CR W q r m x ds os ps (w3.alloc (.cells #[.int .i64 fk, .int .i64 fe] 49))) := (C2.out.below ha3.new.old).below ((Below.refl _ _).alloc (Nat.le_refl _) _)
  have F3 : Hid (FBox (w3.alloc (.cells #[.int .i64 fk, .int .i64 fe] 49)) w3.heap.size fk fe) := Blk.new w3 _ _
  have B3 : Hid (Below w3.heap.size w3 (w3.alloc (.cells #[.int .i64 fk, .int .i64 fe] 49))) := (Below.refl _ _).alloc (Nat.le_refl _) _
  clear ha3 x0 x1 x2 x3 x4
  go_upto_region 6 with fail
  obtain ⟨w4, hw4⟩ : ∃ u, w3.alloc (.cells #[.int .i64 fk, .int .i64 fe] 49) = u := ⟨_, rfl⟩
  rw [hw4] at C3 F3 B3 ⊢
  obtain ⟨gf, hgf⟩ : ∃ g, w3.heap.size = g := ⟨_, rfl⟩
  rw [hgf] at F3 ⊢
  clear hw4 hgf
  obtain ⟨x0, x1, x2, x3, x4⟩ := C3.out.wd.cells
  go_wp2_with fail
  refine (use_make C3.out HMK.out).mono ?_
  rintro e w5 ⟨Bb, cb, lb, rfl, hb5⟩
  have B5 := Lib.hid hb5
  have C5 : Hid (CR W q r m x ds os ps (w5.alloc (.cells #[.int .i64 fk, .int .i64 fe] 49))) := (C3.out.below hb5.new.old).below ((Below.refl _ _).alloc (Nat.le_refl _) _)
  have F5 : Hid (FBox (w5.alloc (.cells #[.int .i64 fk, .int .i64 fe] 49)) gf fk fe) := (F3.out.below hb5.new.old).below ((Below.refl _ _).alloc (Nat.le_refl _) _)
  have G5 : Hid (FBox (w5.alloc (.cells #[.int .i64 fk, .int .i64 fe] 49)) w5.heap.size fk fe) := Blk.new w5 _ _
  have D5 : Hid (Below w5.heap.size w5 (w5.alloc (.cells #[.int .i64 fk, .int .i64 fe] 49))) := (Below.refl _ _).alloc (Nat.le_refl _) _
  clear hb5 C3 F3 x0 x1 x2 x3 x4
  go_upto_region 7 with fail
  obtain ⟨w6, hw6⟩ : ∃ u, w5.alloc (.cells #[.int .i64 fk, .int .i64 fe] 49) = u := ⟨_, rfl⟩
  rw [hw6] at C5 F5 G5 D5 ⊢
  obtain ⟨gg, hgg⟩ : ∃ g, w5.heap.size = g := ⟨_, rfl⟩
  rw [hgg] at G5 ⊢
  clear hw6 hgg
  have P6 : Hid (Plns w6 w6.heap.size Bw x.pl.n lw) := ((((P2.out.keep A3.out.new.old).more A3.out.new.old.size).keep B3.out).more B3.out.size |>.keep B5.out.new.old |>.more B5.out.new.old.size |>.keep D5.out |>.more D5.out.size)
  obtain ⟨x0, x1, x2, x3, x4⟩ := C5.out.wd.cells
  go_wp2_with fail
  refine (use_rmake C5.out P6.out EW.out HMK.out).mono ?_
  rintro e w7 ⟨Bc, cc, lc, rfl, hc7⟩
  have C7 := Lib.hid hc7
  have H7 : Hid (FBox (w7.alloc (.cells #[.int .i64 fk, .int .i64 fe] 49)) w7.heap.size fk fe) := Blk.new w7 _ _
  have D7 : Hid (Below w7.heap.size w7 (w7.alloc (.cells #[.int .i64 fk, .int .i64 fe] 49))) := (Below.refl _ _).alloc (Nat.le_refl _) _
  clear hc7 C5 P6 x0 x1 x2 x3 x4
  go_upto_region 8 with fail
  obtain ⟨w8, hw8⟩ : ∃ u, w7.alloc (.cells #[.int .i64 fk, .int .i64 fe] 49) = u := ⟨_, rfl⟩
  rw [hw8] at H7 D7 ⊢
  obtain ⟨gh, hgh⟩ : ∃ g, w7.heap.size = g := ⟨_, rfl⟩
  rw [hgh] at H7 ⊢
  clear hw8 hgh
  have F8 := Lib.hid ((F5.out.below C7.out.new.old).below D7.out)
  have G8 := Lib.hid ((G5.out.below C7.out.new.old).below D7.out)
  have E68 := Lib.hid (C7.out.new.old.trans (D7.out.mono C7.out.new.old.size))
  have E58 := Lib.hid (D5.out.trans (E68.out.mono D5.out.size))
  have E38 := Lib.hid (B3.out.trans ((B5.out.new.old.trans (E58.out.mono B5.out.new.old.size)).mono B3.out.size))
  have A8 := Lib.hid (A3.out.keep E38.out)
  have W8 := Lib.hid (C7.out.keep D7.out)
  have BB8 := Lib.hid (B5.out.keep E58.out)
  clear F5 G5
  obtain ⟨f0, f1⟩ := F8.out.cells
  obtain ⟨g0, g1⟩ := G8.out.cells
  obtain ⟨h0, h1⟩ := H7.out.cells
  go_wp2_with fail
  refine (use_lists A8.out.crts.1 W8.out.crts.1 (decide_eq_true (by rw [A8.out.vss, W8.out.vss]))).mono ?_
  rintro e w9 ⟨rfl, hb9⟩
  have BB9 := Lib.hid (BB8.out.keep hb9)
  have W9 := Lib.hid (W8.out.keep hb9)
  have E89 := Lib.hid hb9
  clear hb9 f0 f1 g0 g1 h0 h1
  go_wp2_with fail
  refine (use_lists BB9.out.crts.1 W9.out.crts.1 (decide_eq_true (by rw [BB9.out.vss, W9.out.vss]))).mono ?_
  rintro e wx ⟨rfl, hbx⟩
  have E8x := Lib.hid (E89.out.trans (hbx.mono E89.out.size))
  have E3x := Lib.hid (E38.out.trans (E8x.out.mono E38.out.size))
  have E7x := Lib.hid (D7.out.trans (E8x.out.mono D7.out.size))
  have E5x := Lib.hid (E58.out.trans (E8x.out.mono E58.out.size))
  have HSC0 := Lib.hid (SC.start A3.out.new A3.out.len E3x.out)
  have HN := Lib.hid A3.out.len
  have Z34 := Lib.hid B3.out.size
  have Z46 := Lib.hid (Nat.le_trans B5.out.new.old.size D5.out.size)
  have hnm : cs.length ≤ maxLen := by rw [← HN.out]; exact A3.out.new.own.2
  unfold maxLen at hnm
  clear hbx BB9 W9 E89 A8 W8 BB8 F8 G8 H7 A3 E3x E38 E58 E68 E8x D7 D5 B3
  obtain ⟨hi, hhi⟩ : ∃ hi, w3.heap.size = hi := ⟨_, rfl⟩
  rw [hhi] at HSC0 Z34
  clear hhi
  go_wp2_with fail
  go_loopw [13] (fun i wr => ∃ k : Nat, k ≤ cs.length ∧ i = .int .i64 k ∧ Hid (SC w2 wx wr hi Ba cs.length la)) (fun i _ => cs.length - (intOf i).toNat)
  case atStart => exact ⟨0, Nat.zero_le _, rfl, HSC0⟩
  case round =>
    clear HSC0
    obtain ⟨k, hk, rfl, HK⟩ := hrel
    by_cases hlt : k < cs.length
    · obtain ⟨g, y, rfl, hy, c0, hcm⟩ := HK.out.at_ hlt
      unfold maxLen at hcm
      have HY := Lib.hid hy
      clear hy
      obtain ⟨ya, hya⟩ : ∃ a, y.a = a := ⟨_, rfl⟩
      obtain ⟨yn, hyn⟩ : ∃ a, y.n = a := ⟨_, rfl⟩
      obtain ⟨yc, hyc⟩ : ∃ a, y.c = a := ⟨_, rfl⟩
      rw [hya, hyn, hyc] at c0
      rw [hyc] at hcm
      have HYA := Lib.hid hya
      have HYC := Lib.hid hyc
      have hki : (k : Int) < (cs.length : Int) := by omega
      clear hya hyn hyc
      go_wp2_with fail
      go_region
      go_wp2_with fail
      go_loopw [15] (fun i wr => ∃ j : Nat, j ≤ yc ∧ i = .int .i64 j ∧ Hid (SC w2 wx wr hi (some ⟨g, 0, none⟩) cs.length la)) (fun i _ => yc - (intOf i).toNat)
      case atStart => exact ⟨0, Nat.zero_le _, rfl, HK.out.drew⟩
      case round =>
        clear HK c0
        obtain ⟨j, hj, rfl, HK⟩ := hrel
        by_cases hlt2 : j < yc
        · obtain ⟨g2, hga, hcc, hff, hnx⟩ := HK.out.visit HY.out (j := j) (by rw [HYC.out]; exact hlt2)
          rw [HYA.out] at hga
          subst hga
          have HN2 := Lib.hid hnx
          obtain ⟨y0, c0⟩ := hcc 0 (by decide)
          obtain ⟨y1, c1⟩ := hcc 1 (by decide)
          obtain ⟨y2, c2⟩ := hcc 2 (by decide)
          obtain ⟨y3, c3⟩ := hcc 3 (by decide)
          obtain ⟨y4, c4⟩ := hcc 4 (by decide)
          obtain ⟨y5, c5⟩ := hcc 5 (by decide)
          rw [Nat.add_zero] at c0
          have hcs := cell_apart g2
          have hfs := frozen_set
          clear hnx hcc
          go_wp2_with fail
          go_roundw
          case rel => exact ⟨j + 1, by omega, by go_num, HN2⟩
          case measure => simp [intOf]; omega
        · go_wp2_with fail
          go_roundw
          case rel => exact ⟨k + 1, by omega, by go_num, HK⟩
          case measure => simp [intOf]; omega
    · have CE := Lib.hid (C2.out.below HK.out.old)
      have PE := Lib.hid ((P2.out.keep HK.out.old).more HK.out.old.size)
      have BE := Lib.hid (B5.out.after fun g h1 h2 => (HK.out.far g (Nat.le_trans Z34.out h1)).trans (E5x.out.block g h2))
      have WE := Lib.hid (C7.out.after fun g h1 h2 => (HK.out.far g (Nat.le_trans Z34.out (Nat.le_trans Z46.out h1))).trans (E7x.out.block g h2))
      clear HK
      go_wp2_with fail
      refine (use_lists BE.out WE.out (decide_eq_true (by rw [B5.out.vss, C7.out.vss]))).mono ?_
      rintro e wy ⟨rfl, hby⟩
      have CY := Lib.hid (CE.out.below hby)
      have PY := Lib.hid ((PE.out.keep hby).more hby.size)
      clear hby BE WE CE PE
      obtain ⟨x0, x1, x2, x3, x4⟩ := CY.out.wd.cells
      go_wp2_with fail
      refine (use_routes (CY.out.plns) PY.out EW.out.symm).mono ?_
      rintro e wz ⟨rfl, hbz⟩
      have CZ := Lib.hid (CY.out.below hbz)
      clear hbz CY PY x0 x1 x2 x3 x4
      go_wp2_with fail
      refine (use_runs _).mono ?_
      rintro e wl ⟨rfl, hbl⟩
      have CL := Lib.hid (CZ.out.below hbl)
      clear hbl CZ
      go_wp2_with fail
      go_ret
      exact ⟨rfl, CL.out.old⟩
#print axioms certMakes_walk
end Go.Proofs.Ytfejnohcggoepaa.Cert
