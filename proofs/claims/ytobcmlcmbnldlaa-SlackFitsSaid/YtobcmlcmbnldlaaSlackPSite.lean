/-
  The program's slack.site, walked: the library's IndexFunc with its closure; slack.drives.
-/
import Derived.Test.YtobcmlcmbnldlaaRouteKeep
import Derived.Deep.DeepCutAuto
namespace Go.Proofs.Ytobcmlcmbnldlaa.Slack
open Go.ChangeShapes Go.WideShapes Go.ChangeAt Go.RowKit Go.Proofs.Ytobcmlcmbnldlaa.Mem Go.Proofs.Ytobcmlcmbnldlaa.GeoMath Go.Proofs.Ytobcmlcmbnldlaa.FleetMath Go.Proofs.Ytobcmlcmbnldlaa.Rec Go.Proofs.Ytobcmlcmbnldlaa.Geo Go.Proofs.Ytobcmlcmbnldlaa.Span Go.Proofs.Ytobcmlcmbnldlaa.Deal Go.Proofs.Ytobcmlcmbnldlaa.Route
set_option linter.unusedVariables false

/-- the closure: is it this order? -/
theorem psite1_any (o : FleetMath.Ord) (b : Nat) (x : Int) (y : Bool) (w : World) (hb : Blk w b 35 [.int .i64 x, .bool y]) :
    Calls Try.prog 44 #[ordV o, .pointer (some ⟨b, 0, none⟩)] w (Gives w (.bool (o.id == x))) := by
  have h1 := hb.below ((Below.refl _ _).alloc (Nat.le_refl _) (.cells #[.int .i64 o.id, .int .i64 o.size, .int .i64 o.pick.place, .int .i64 o.pick.win.fr, .int .i64 o.pick.win.to, .int .i64 o.pick.serv, .int .i64 o.drop.place, .int .i64 o.drop.win.fr, .int .i64 o.drop.win.to, .int .i64 o.drop.serv] 31)) hb.lt
  have c0 := h1.cell (i := 0) rfl
  clear h1 hb
  go_enter Try.func44, Try.ntmps44
  go_wp2
  go_ret
  exact ⟨rfl, (Below.refl _ _).alloc (Nat.le_refl _) _⟩

set_option maxRecDepth 100000 in
set_option maxHeartbeats 4000000 in
theorem pidx_any (A : Option Addr) (n c : Nat) (os : List FleetMath.Ord) (b : Nat) (x : Int) (y : Bool) (i : Nat) (w : World) (hl : Ords w w.heap.size A n os) (hb : Blk w b 35 [.int .i64 x, .bool y]) (hf : findI os x = some i) :
    Calls Try.prog 43 #[.slice A n c, .func (.func 44) #[] #[.pointer (some ⟨b, 0, none⟩)]] w (Gives w (.int .i64 (i : Int))) := by
  have hm := Recs.le hl
  have HI := Lib.hid hl
  have HL := Lib.hid hl.length
  have HBX := Lib.hid hb
  have HF := Lib.hid hf
  clear hl hb hf
  go_enter Try.func43, Try.ntmps43
  go_wp2_with fail
  go_loopw [8] (fun iv wr => ∃ k : Nat, k ≤ n ∧ iv = .int .i64 k ∧ Hid (Below w.heap.size w wr) ∧ Hid (∀ t p, t < k → os[t]? = some p → p.id ≠ x)) (fun iv _ => n - (intOf iv).toNat)
  case atStart => exact ⟨0, Nat.zero_le _, rfl, Below.refl _ _, fun t p ht => absurd ht (by omega)⟩
  case round =>
    obtain ⟨k, hk, rfl, HB, HK⟩ := hrel
    by_cases hlt : k < n
    · obtain ⟨bb, off, o, rfl, hbb, ho, _, c0, c1, c2, c3, c4, c5, c6, c7, c8, c9⟩ := Ords.at_ (Recs.keep HI.out HB.out) hlt
      have HO := Lib.hid ho
      clear ho
      have HBW : Hid (Blk wr b 35 [.int .i64 x, .bool y]) := HBX.out.below HB.out HBX.out.lt
      by_cases hid : o.id = x
      · have HE : Hid (k = i) := by
          have h1 := findI_at HK.out HO.out hid
          rw [HF.out] at h1
          injection h1 with h1
          exact h1.symm
        have e1 : (o.id == x) = true := by simpa using hid
        have HC := Lib.hid (psite1_any o b x y)
        rw [e1] at HC
        clear hid HK
        go_wp2_with fail
        refine (HC.out _ (by exact HBW.out)).mono ?_
        rintro e w' ⟨rfl, hb2⟩
        have HB2 := Lib.hid (HB.out.trans (hb2.mono HB.out.size))
        clear hb2 c0 c1 c2 c3 c4 c5 c6 c7 c8 c9
        go_wp2_with fail
        go_ret
        exact ⟨ret_i (by rw [HE.out]), HB2.out⟩
      · have HK2 : Hid (∀ t p, t < k + 1 → os[t]? = some p → p.id ≠ x) := fun t p' ht hp' => by
          by_cases htj : t = k
          · subst htj
            rw [HO.out] at hp'
            injection hp' with hp'
            rw [← hp']; exact hid
          · exact HK.out t p' (by omega) hp'
        have e1 : (o.id == x) = false := by simpa using hid
        have HC := Lib.hid (psite1_any o b x y)
        rw [e1] at HC
        clear hid
        go_wp2_with fail
        refine (HC.out _ (by exact HBW.out)).mono ?_
        rintro e w' ⟨rfl, hb2⟩
        have HB2 := Lib.hid (HB.out.trans (hb2.mono HB.out.size))
        clear hb2 c0 c1 c2 c3 c4 c5 c6 c7 c8 c9
        go_wp2_with fail
        go_roundw
        case rel => exact ⟨k + 1, by omega, by go_num, HB2, HK2⟩
        case measure => simp [intOf]; omega
    · exfalso
      obtain ⟨p, hp, he, _⟩ := findI_some HF.out
      have := (List.getElem?_eq_some_iff.1 hp).1
      have := HL.out
      exact HK.out i p (by omega) hp he

/-- a site written into a block -/
abbrev putSi (u : World) (g : Nat) (s : Site) : World := (((u.setCell ⟨g, 0, none⟩ (.int .i64 s.place)).setCell ⟨g, 1, none⟩ (.int .i64 s.win.fr)).setCell ⟨g, 2, none⟩ (.int .i64 s.win.to)).setCell ⟨g, 3, none⟩ (.int .i64 s.serv)
set_option maxRecDepth 100000 in
set_option maxHeartbeats 4000000 in
theorem gsite_any (A : Option Addr) (n c : Nat) (os : List FleetMath.Ord) (s : Stp) (o : FleetMath.Ord) (w : World) (hl : Ords w w.heap.size A n os) (hf : find os s.ord = some o) :
    Calls Try.prog 28 #[.slice A n c, stpV s] w (Gives w (siteV (siteOf o s))) := by
  obtain ⟨i, hi, ho⟩ := find_idx hf
  have hm := Recs.le hl
  have HI := Lib.hid hl
  have HF := Lib.hid hi
  have HO := Lib.hid ho
  have hin : (i : Int) < (n : Int) := by have := (List.getElem?_eq_some_iff.1 ho).1; have := hl.length; omega
  clear hl hf hi ho
  have HB0 : Hid (Below w.heap.size w ((w.alloc (.cells #[.int .i64 s.ord, .bool s.drop] 35)).alloc (.cells #[.int .i64 0, .int .i64 0, .int .i64 0, .int .i64 0] 29))) := ((Below.refl _ _).alloc (Nat.le_refl _) _).alloc (by simp) _
  have HX0 : Hid (Blk ((w.alloc (.cells #[.int .i64 s.ord, .bool s.drop] 35)).alloc (.cells #[.int .i64 0, .int .i64 0, .int .i64 0, .int .i64 0] 29)) w.heap.size 35 [.int .i64 s.ord, .bool s.drop]) := Blk.below (Blk.new w 35 [.int .i64 s.ord, .bool s.drop]) ((Below.refl _ _).alloc (Nat.le_refl _) _) (Blk.new w 35 [.int .i64 s.ord, .bool s.drop]).lt
  have HY0 : Hid (Blk ((w.alloc (.cells #[.int .i64 s.ord, .bool s.drop] 35)).alloc (.cells #[.int .i64 0, .int .i64 0, .int .i64 0, .int .i64 0] 29)) (w.heap.size + 1) 29 [.int .i64 0, .int .i64 0, .int .i64 0, .int .i64 0]) := by
    have h1 := Blk.new (w.alloc (.cells #[.int .i64 s.ord, .bool s.drop] 35)) 29 [.int .i64 0, .int .i64 0, .int .i64 0, .int .i64 0]
    rw [World.size_alloc] at h1
    exact h1
  go_enter Try.func28, Try.ntmps28
  have hmf : ∀ (fn : Fn) (first cap : Array Value) (w : World), (Instr.makeFunc fn first cap).run Try.prog w = .ok (.func fn first cap) w := fun _ _ _ _ => rfl
  go_wp2_with fail
  refine (pidx_any A n c os w.heap.size s.ord s.drop i _ (by exact Recs.more (Recs.keep HI.out HB0.out) HB0.out.size) (by exact HX0.out) HF.out).mono ?_
  rintro e w1 ⟨rfl, hb⟩
  have HB1 := Lib.hid (HB0.out.trans (hb.mono HB0.out.size))
  have HX1 : Hid (Blk w1 w.heap.size 35 [.int .i64 s.ord, .bool s.drop]) := HX0.out.below hb HX0.out.lt
  have HY1 : Hid (Blk w1 (w.heap.size + 1) 29 [.int .i64 0, .int .i64 0, .int .i64 0, .int .i64 0]) := HY0.out.below hb HY0.out.lt
  clear hb HB0 HX0 HY0 HF
  obtain ⟨b, off, o2, rfl, hbb, ho2, hdr, c0, c1, c2, c3, c4, c5, c6, c7, c8, c9⟩ := Ords.at_ (Recs.keep HI.out HB1.out) (i := i) (by omega)
  rw [HO.out] at ho2
  injection ho2 with ho2
  subst ho2
  clear hdr HO
  have x1 := HX1.out.cell (i := 1) rfl
  have y0 := HY1.out.cell (i := 0) rfl
  have y1 := HY1.out.cell (i := 1) rfl
  have y2 := HY1.out.cell (i := 2) rfl
  have y3 := HY1.out.cell (i := 3) rfl
  have hcs := cell_apart (w.heap.size + 1)
  have hfs := frozen_set
  have hff := HY1.out.free
  cases hd : s.drop with
  | true =>
    rw [hd] at x1
    have HR := Lib.hid ((((HY1.out.put 0 (.int .i64 o.drop.place)).put 1 (.int .i64 o.drop.win.fr)).put 2 (.int .i64 o.drop.win.to)).put 3 (.int .i64 o.drop.serv))
    have HBR : Hid (Below w.heap.size w (putSi w1 (w.heap.size + 1) o.drop)) := (((HB1.out.setCell (by show _ ≤ w.heap.size + 1; omega) _).setCell (by show _ ≤ w.heap.size + 1; omega) _).setCell (by show _ ≤ w.heap.size + 1; omega) _).setCell (by show _ ≤ w.heap.size + 1; omega) _
    have HS : Hid (siteOf o s = o.drop) := by show _ = _; simp [siteOf, hd]
    clear hd
    go_wp2_with fail
    refine bodyPost_ret (v := siteV o.drop) ?_ rfl (gives_of (by rw [HS.out]) HBR.out)
    have r0 := HR.out.cell (i := 0) rfl
    have r1 := HR.out.cell (i := 1) rfl
    have r2 := HR.out.cell (i := 2) rfl
    have r3 := HR.out.cell (i := 3) rfl
    simp [results, Try.results28, go_sem, r0, r1, r2, r3]
  | false =>
    rw [hd] at x1
    have HR := Lib.hid ((((HY1.out.put 0 (.int .i64 o.pick.place)).put 1 (.int .i64 o.pick.win.fr)).put 2 (.int .i64 o.pick.win.to)).put 3 (.int .i64 o.pick.serv))
    have HBR : Hid (Below w.heap.size w (putSi w1 (w.heap.size + 1) o.pick)) := (((HB1.out.setCell (by show _ ≤ w.heap.size + 1; omega) _).setCell (by show _ ≤ w.heap.size + 1; omega) _).setCell (by show _ ≤ w.heap.size + 1; omega) _).setCell (by show _ ≤ w.heap.size + 1; omega) _
    have HS : Hid (siteOf o s = o.pick) := by show _ = _; simp [siteOf, hd]
    clear hd
    go_wp2_with fail
    refine bodyPost_ret (v := siteV o.pick) ?_ rfl (gives_of (by rw [HS.out]) HBR.out)
    have r0 := HR.out.cell (i := 0) rfl
    have r1 := HR.out.cell (i := 1) rfl
    have r2 := HR.out.cell (i := 2) rfl
    have r3 := HR.out.cell (i := 3) rfl
    simp [results, Try.results28, go_sem, r0, r1, r2, r3]

set_option maxRecDepth 100000 in
theorem gdrives_any (base : Nat) (pv : Value) (m : Option Mp) (d : Drv) (A : Option Addr) (n c : Nat) (os : List FleetMath.Ord) (A' : Option Addr) (n' c' : Nat) (stops : List Stp) (w : World) (h : MapP w 77 base pv m) (ho : Ords w w.heap.size A n os) (hs : Stps w w.heap.size A' n' stops) (hcc : n' ≤ c') (hnc : n ≤ c) :
    Calls Try.prog 27 #[pv, drvV d, .slice A n c, .slice A' n' c'] w (Gives w (.bool (decide ((drive m d os stops).2.2 = 0)))) := by
  have HM := Lib.hid h
  have HOS := Lib.hid ho
  have HST := Lib.hid hs
  obtain ⟨q, hq⟩ : ∃ q, pv = .pointer q := by
    rcases h with ⟨rfl, _⟩ | ⟨b, _, _, rfl, _⟩
    · exact ⟨_, rfl⟩
    · exact ⟨_, rfl⟩
  subst hq
  clear h ho hs
  have HB0 : Hid (Below w.heap.size w (w.alloc (.cells #[.int .i64 d.id, .int .i64 d.room, .int .i64 d.home, .int .i64 d.win.fr, .int .i64 d.win.to, .bool d.retired] 33))) := (Below.refl _ _).alloc (Nat.le_refl _) _
  obtain ⟨⟨vs, k, e⟩, hdr⟩ : ∃ r, drive m d os stops = r := ⟨_, rfl⟩
  have HDR := Lib.hid hdr
  have HRV : Hid (decide ((drive m d os stops).2.2 = 0) = (e == 0)) := by
    show _ = _
    rw [hdr]
    by_cases h0 : e = 0 <;> simp [h0]
  clear hdr
  go_enter Try.func27, Try.ntmps27
  go_wp2_with fail
  refine (gdrive_any base (.pointer q) m d A n c os A' n' c' stops _ (by exact HM.out.keep HB0.out) (by exact Recs.more (Recs.keep HOS.out HB0.out) HB0.out.size) (by exact Recs.more (Recs.keep HST.out HB0.out) HB0.out.size) hcc hnc).mono ?_
  rintro e2 w3 ⟨hb3, v3, rfl, hv3⟩
  rw [HDR.out] at hv3 ⊢
  obtain ⟨B3, c3, rfl, _, _⟩ := hv3.read
  have F3 : Hid (FBox (w3.alloc (.cells #[.int .i64 k, .int .i64 e] 64)) w3.heap.size k e) := Blk.new w3 _ _
  have HB3 := Lib.hid ((HB0.out.trans (hb3.mono HB0.out.size)).alloc (HB0.out.trans (hb3.mono HB0.out.size)).size (.cells #[.int .i64 k, .int .i64 e] 64))
  clear hb3 hv3 HB0
  obtain ⟨x0, x1⟩ := F3.out.cells
  go_wp2_with fail
  refine (fgood_any k e _).mono ?_
  rintro e2 w4 ⟨rfl, hb4⟩
  have HB4 := Lib.hid (HB3.out.trans (hb4.mono HB3.out.size))
  clear hb4 HB3 x0 x1
  go_wp2_with fail
  go_ret
  exact ⟨ret_bool HRV.out.symm, HB4.out⟩
theorem gdrives_v (base : Nat) (pv : Value) (m : Option Mp) (d : Drv) (A : Option Addr) (n c : Nat) (os : List FleetMath.Ord) (A' : Option Addr) (n' c' : Nat) (stops : List Stp) (b : Bool) (w : World) (hb : decide ((drive m d os stops).2.2 = 0) = b) (h : MapP w 77 base pv m) (ho : Ords w w.heap.size A n os) (hs : Stps w w.heap.size A' n' stops) (hcc : n' ≤ c') (hnc : n ≤ c) :
    Calls Try.prog 27 #[pv, drvV d, .slice A n c, .slice A' n' c'] w (Gives w (.bool b)) := by subst hb; exact gdrives_any base pv m d A n c os A' n' c' stops w h ho hs hcc hnc

#print axioms pidx_any
#print axioms gsite_any
#print axioms gdrives_any
end Go.Proofs.Ytobcmlcmbnldlaa.Slack
