/-
  CertLists, CertKeep: one text.
-/
import Derived.Test.YtfejnohcggoepaaSameVisD
import Derived.Test.YtfejnohcggoepaaCertNews
import Derived.Test.YtfejnohcggoepaaPlanKRoutes
import Derived.Test.YtfejnohcggoepaaRouteKeep
import Derived.Test.YtfejnohcggoepaaKeepMaps
import Derived.Test.YtfejnohcggoepaaCertMaths
import Derived.Test.YtfejnohcggoepaaWords
/-
  The statements' own lists and copied (chapter 10), walked.
-/
namespace Go.Proofs.Ytfejnohcggoepaa.Cert
open Go.ChangeShapes Go.WideShapes Go.ChangeAt Go.RowKit Go.Proofs.Ytfejnohcggoepaa.Mem Go.Proofs.Ytfejnohcggoepaa.FleetMath Go.Proofs.Ytfejnohcggoepaa.PlanMath Go.Proofs.Ytfejnohcggoepaa.Rec Go.Proofs.Ytfejnohcggoepaa.Plan
set_option linter.unusedVariables false
set_option linter.unusedSimpArgs false

theorem _root_.Go.Proofs.Ytfejnohcggoepaa.Plan.Drew.crts {w wr : World} {B n : Nat} {A : Option Addr} {l : List CM} (h : Drew w wr) (hl : Crts w B A n l) : Crts wr B A n l := by
  obtain ⟨d, rfl⟩ := h
  exact ⟨Recs.drewN hl.rows d, fun r hr => ⟨Recs.drewN (hl.each r hr).1 d, (hl.each r hr).2⟩⟩
set_option maxRecDepth 100000 in
set_option maxHeartbeats 4000000 in
theorem lists_any (A A' : Option Addr) (n n' c c' : Nat) (l m : List CM) (r : Bool) (B B' : Nat) (w : World) (h : Crts w B A n l) (h' : Crts w B' A' n' m) (hr : decide (l.map (·.vs) = m.map (·.vs)) = r) :
    Calls Try.prog 12 #[.slice A n c, .slice A' n' c'] w (Quietly w (.bool r)) := by
  have hm := Recs.le h.rows
  have hm' := Recs.le h'.rows
  have H := Lib.hid h
  have H' := Lib.hid h'
  have HR := Lib.hid hr
  have L : Hid ((l.map (·.vs)).length = n) := Lib.hid (by rw [List.length_map]; exact h.length)
  have L' : Hid ((m.map (·.vs)).length = n') := Lib.hid (by rw [List.length_map]; exact h'.length)
  clear h h' hr
  by_cases hn : n = n'
  · subst hn
    go_enter Try.func12, Try.ntmps12
    go_wp2
    go_loopw [5] (fun i wr => ∃ (k : Nat), k ≤ n ∧ i = .int .i64 k ∧ Hid (Drew w wr) ∧ Hid ((l.map (·.vs)).take k = (m.map (·.vs)).take k)) (fun i _ => n - (intOf i).toNat)
    case atStart => exact ⟨0, Nat.zero_le _, rfl, Lib.hid ⟨0, rfl⟩, Lib.hid rfl⟩
    case round =>
      obtain ⟨k, hk, rfl, HD, HK⟩ := hrel
      by_cases hlt : k < n
      · obtain ⟨b, off, x, rfl, _, hx, _, c0, hs, _⟩ := (HD.out.crts H.out).at_ hlt
        obtain ⟨b', off', y, rfl, _, hy, _, d0, hs', _⟩ := (HD.out.crts H'.out).at_ hlt
        have hx' : (l.map (·.vs))[k]? = some x.vs := by rw [List.getElem?_map, hx]; rfl
        have hy' : (m.map (·.vs))[k]? = some y.vs := by rw [List.getElem?_map, hy]; rfl
        obtain ⟨t, ht⟩ : ∃ t, decide (x.vs = y.vs) = t := ⟨_, rfl⟩
        have HS : Hid (∀ q, Calls Try.prog 22 #[.slice x.a x.n x.c, .slice y.a y.n y.c] (wr.drewN q) (Quietly (wr.drewN q) (.bool t))) := fun q => sameVisD _ _ _ _ _ _ x.vs y.vs t _ _ _ (Recs.drewN hs q) (Recs.drewN hs' q) ht
        cases t with
        | true =>
          have HN : Hid ((l.map (·.vs)).take (k + 1) = (m.map (·.vs)).take (k + 1)) := take_eq HK.out hx' hy' (of_decide_eq_true ht)
          clear hx hy hx' hy' hs hs' ht HK
          go_wp2
          go_quiet ((go_at_call 22; with_reducible exact quiet_in (HS.out _)))
          go_wp2
          go_roundw
          case rel => exact ⟨k + 1, by omega, by go_num, Lib.hid (HD.out.more _), HN⟩
          case measure => simp [intOf]; omega
        | false =>
          have HF : Hid (false = r) := same_not HR.out hx' hy' (of_decide_eq_false ht)
          clear hx hy hx' hy' hs hs' ht HK
          go_wp2
          go_quiet ((go_at_call 22; with_reducible exact quiet_in (HS.out _)))
          go_wp2
          go_ret
          exact ⟨end_bool HF.out, HD.out.more _⟩
      · have HF : Hid (true = r) := by
          obtain rfl : k = n := by omega
          exact same_end HR.out L.out L'.out HK.out
        clear HK
        go_wp2
        go_ret
        exact ⟨end_bool HF.out, HD.out⟩
  · have HF : Hid (false = r) := same_len HR.out (by rw [L.out, L'.out]; exact hn)
    have e1 : ((n : Int) != (n' : Int)) = true := by simp only [bne_iff_ne, ne_eq]; omega
    go_enter Try.func12, Try.ntmps12
    go_wp2
    go_ret
    exact ⟨end_bool HF.out, 0, rfl⟩
#print axioms lists_any

theorem wpList_append_kn {w : World} {ops : Array Oper} {rest : List Oper} {o : Oper} {a : Act} {Q : Exit → Act → World → Prop} (hgd : o.guard = none) (s x : Operand) {e t : TypeId} {z : Value} {bytes k : Nat}
    (ht : Try.prog.underlying t = some (.slice e)) (hi0 : (Try.prog.info? e).map (fun i => (i.zero, i.size, i.bytes)) = some (some z, k, bytes)) (hzc : z.cells.size = k) (hk : 0 < k)
    (ho : o.op = .call { callee := .builtin .append, args := #[s, x], argTypes := #[t, t] })
    {base : Nat} {v : Value} {n : Nat} {xs : List Value} (hown : OwnK w base e k v n xs) (hs : a.eval s = v) {B : Nat} {A : Option Addr} {m c : Nat} {ys : List Value} (hy : Recs w B A m k ys) (hx : a.eval x = .slice A m c) (h1 : ∀ u ∈ ys, u.oneCell' = true)
    (hmx : n + m ≤ maxLen) (hb : (n + m) * bytes ≤ 140737488355328) {w0 : World} {B0 : Nat} (hbel : Below B0 w0 w) (hB0 : B0 ≤ w.heap.size) (hbase : base ≤ w.heap.size) (hB1 : B0 ≤ base)
    (h : ∀ v' w', Hid (OwnK w' base e k v' (n + m) (xs ++ ys)) → Hid (Below B0 w0 w') → Hid (w.grownBy w' v.ownBlock) → Hid (v'.ownBlock = v.ownBlock ∨ v'.ownBlock = some w.heap.size) → wpList Try.prog ops Q rest (a.put o.dst v') w') : wpList Try.prog ops Q (o :: rest) a w :=
  wpList_plain hgd fun _ hK => wp_append_ks s x ht hi0 hzc hk ho hs hown hx hy h1 hmx hb hbase fun v' w' h2 h3 h4 => hK _ _ (h v' w' h2 (hown.below hbel h3.out hB0 hB1) h3 h4)

theorem RowC.made {w0 w w' : World} {v : Value} {l : List CM} {c : Nat} {A : Option Addr} (x : CM) (h : NewC w0 w v l) (ho : OwnK w' w0.heap.size 44 6 (.slice A (0 + x.n) c) (0 + x.n) ([] ++ vissV x.vs))
    (hg : (w.alloc (.cells #[] 44)).grownBy w' (Value.slice (some ⟨w.heap.size, 0, none⟩) 0 0).ownBlock) (hb : Below w0.heap.size w0 w') (hn : (Value.slice A (0 + x.n) c).ownBlock = (Value.slice (some ⟨w.heap.size, 0, none⟩) 0 0).ownBlock ∨ (Value.slice A (0 + x.n) c).ownBlock = some (w.alloc (.cells #[] 44)).heap.size) : RowC w0 w' v l ⟨x.vs, A, x.n, c⟩ := by
  have hk : NewC w0 (w.alloc (.cells #[] 44)) v l := h.keep ((Below.refl _ _).alloc (Nat.le_refl _) _)
  rw [Nat.zero_add, List.nil_append] at ho
  rw [Nat.zero_add] at hn
  have e0 : (Value.slice (some ⟨w.heap.size, 0, none⟩) 0 0).ownBlock = some w.heap.size := rfl
  have far : ∀ g, v.ownBlock = some g → g < w.heap.size := fun g hg => (own_blk h.own hg).2
  have farE : ∀ r ∈ l, ∀ g, r.v.ownBlock = some g → g < w.heap.size := fun r hr g hg => (own_blk (h.each r hr).1 hg).2
  refine ⟨⟨hb, hk.own.other hg fun g hv hu => ?_, fun r hr => ⟨(hk.each r hr).1.other hg fun g hv hu => ?_, (hk.each r hr).2⟩, h.apart⟩, ho, fun g hg2 hv => ?_, fun q hq g hg2 hv => ?_⟩
  · rw [e0] at hu
    injection hu with hu
    have := far g hv
    omega
  · rw [e0] at hu
    injection hu with hu
    have := farE r hr g hv
    omega
  · have := far g hv
    have hs : (w.alloc (.cells #[] 44)).heap.size = w.heap.size + 1 := by simp
    rcases hn with hn | hn
    · have h3 := hg2.symm.trans (hn.trans e0)
      injection h3 with h3
      omega
    · have h3 := hg2.symm.trans hn
      injection h3 with h3
      omega
  · have := farE q hq g hv
    have hs : (w.alloc (.cells #[] 44)).heap.size = w.heap.size + 1 := by simp
    rcases hn with hn | hn
    · have h3 := hg2.symm.trans (hn.trans e0)
      injection h3 with h3
      omega
    · have h3 := hg2.symm.trans hn
      injection h3 with h3
      omega

set_option maxRecDepth 100000 in
set_option maxHeartbeats 4000000 in
theorem copied_any (A : Option Addr) (n c : Nat) (l : List CM) (w : World) (hl : Crts w w.heap.size A n l) (hn24 : n * 24 ≤ 140737488351232) :
    Calls Try.prog 11 #[.slice A n c] w (fun e w' => ∃ v l', e = .returned v ∧ NewC w w' v l' ∧ l'.map (·.vs) = l.map (·.vs) ∧ ∀ r ∈ l', r.n * 48 ≤ 140737488351232) := by
  have hm := Recs.le hl.rows
  have HL := Lib.hid hl.length
  have HI := Lib.hid hl
  clear hl
  go_enter Try.func11, Try.ntmps11
  go_wp2
  go_loopw [3, 4] (fun v i wr => ∃ (k : Nat) (l' : List CM), k ≤ n ∧ i = .int .i64 k ∧ Hid (NewC w wr v l' ∧ l'.map (·.vs) = (l.take k).map (·.vs) ∧ ∀ r ∈ l', r.n * 48 ≤ 140737488351232)) (fun _ i _ => n - (intOf i).toNat)
  case atStart => exact ⟨0, [], Nat.zero_le _, rfl, Lib.hid ⟨NewC.nil w, rfl, fun r h => by cases h⟩⟩
  case round =>
    obtain ⟨k, l', hk, rfl, HW⟩ := hrel
    by_cases hlt : k < n
    · obtain ⟨b, off, x, rfl, hbb, hx, _, c0, hvs, hxc, hfit⟩ := (HI.out.keep HW.out.1.old).at_ hlt
      have HX := Lib.hid hx
      have hlk : l'.length = k := by have h := congrArg List.length HW.out.2.1; simp only [List.length_map, List.length_take, HL.out] at h; omega
      have hb1 : Below w.heap.size w (wr.alloc (.cells #[] 44)) := HW.out.1.old.alloc HW.out.1.old.size _
      have HB1 := Lib.hid hb1
      have HS0 : Hid (Viss (wr.alloc (.cells #[] 44)) w.heap.size x.a x.n x.vs) := Recs.keep hvs ((Below.refl _ _).alloc HW.out.1.old.size _)
      have HRO : Hid (OwnK (wr.alloc (.cells #[] 44)) w.heap.size 44 6 (.slice (some ⟨wr.heap.size, 0, none⟩) 0 0) 0 []) := OwnK.new0 wr w.heap.size _ _ HW.out.1.old.size
      obtain ⟨_, e0, _⟩ := (HI.out.keep hb1).cells hx
      have hxm := Recs.le hvs
      have hxx : x.n ≤ maxLen := by unfold maxLen; omega
      clear hx hvs hb1
      have HKEEP := Lib.hid HW.out.1
      go_wp2_with (at_builtin; first | (refine wpList_append_kn (o := ⟨some 17, _, _, _, _, _⟩) rfl (.tmp 12) (.tmp 16) Try.underlying45 infoVis rfl (by decide) rfl HRO.out rfl HS0.out rfl (vissV_one x.vs) (by rw [Nat.zero_add]; exact hxx) (by omega) (w0 := w) (B0 := w.heap.size) HB1.out HB1.out.size HB1.out.size (Nat.le_refl _) ?_; intro vA wA HO2 HB2 HG2 HN2; obtain ⟨A9, c9, rfl⟩ := HO2.out.slice; have HR9 := Lib.hid (RowC.made x HKEEP.out HO2.out HG2.out HB2.out HN2.out); have HR5 := Lib.hid (HR9.out.keep ((Below.refl wA.heap.size wA).alloc (Nat.le_refl _) (.cells #[.slice A9 x.n c9] 45))); have HB5 := Lib.hid (Blk.new wA 45 [.slice A9 x.n c9]); rw [Nat.zero_add]; clear HO2 HB2 HG2 HN2 HR9) | (refine wpList_append_ko (o := ⟨some 19, _, _, _, _, _⟩) rfl (.tmp 11) (.tmp 18) Try.underlying47 infoVs rfl (by decide) rfl HR5.out.cert.own rfl HB5.out rfl rfl (cmL_one ⟨x.vs, A9, x.n, c9⟩) (by unfold maxLen; omega) (by omega) HR5.out.cert.old.size ?_; intro vB wB HO3 HG3 HN3; have HQ := Lib.hid (HR5.out.push HO3.out HG3.out HN3.out); clear HO3 HG3 HN3))
      go_roundw
      case rel =>
        refine ⟨k + 1, l' ++ [⟨x.vs, A9, x.n, c9⟩], by omega, by go_num, Lib.hid ⟨HQ.out, ?_, fun r hr => ?_⟩⟩
        · rw [List.map_append, HW.out.2.1, List.take_add_one, HX.out, List.map_append]
          rfl
        · rcases List.mem_append.1 hr with hr | hr
          · exact HW.out.2.2 r hr
          · obtain rfl : r = _ := by simpa using hr
            exact hfit
      case measure => simp [intOf]; omega
    · have hke : k = n := by omega
      subst hke
      go_wp2
      go_ret
      refine ⟨_, rfl, l', HW.out.1, ?_, HW.out.2.2⟩
      rw [HW.out.2.1, List.take_of_length_le (by rw [HL.out]; exact Nat.le_refl _)]
#print axioms copied_any
end Go.Proofs.Ytfejnohcggoepaa.Cert

/-
  What the walks of chapter 10's statements share: a world that came in, boxed, its two maps, its drivers, orders and plan.
-/
namespace Go.Proofs.Ytfejnohcggoepaa.Cert
open Go.ChangeShapes Go.WideShapes Go.ChangeAt Go.RowKit Go.Proofs.Ytfejnohcggoepaa.Mem Go.Proofs.Ytfejnohcggoepaa.GeoMath Go.Proofs.Ytfejnohcggoepaa.FleetMath Go.Proofs.Ytfejnohcggoepaa.PlanMath Go.Proofs.Ytfejnohcggoepaa.CertMath Go.Proofs.Ytfejnohcggoepaa.Rec Go.Proofs.Ytfejnohcggoepaa.Geo Go.Proofs.Ytfejnohcggoepaa.Deal Go.Proofs.Ytfejnohcggoepaa.Keep Go.Proofs.Ytfejnohcggoepaa.Plan
set_option linter.unusedVariables false

/-- all that came in stays -/
structure CR (W : World) (q r : Option Addr) (m : Option Mp) (x : Wd) (ds : List Drv) (os : List FleetMath.Ord) (ps : List RM) (u : World) : Prop where
  old : Below W.heap.size W u
  map : MapP u 78 W.heap.size (.pointer q) m
  rmap : MapP u 107 W.heap.size (.pointer r) m
  wd : WBox u W.heap.size x
  ds0 : Drvs W W.heap.size x.ds.a x.ds.n ds
  os0 : Ords W W.heap.size x.os.a x.os.n os
  pl0 : Plns W W.heap.size x.pl.a x.pl.n ps
section
variable {W u u' : World} {q r : Option Addr} {m : Option Mp} {x : Wd} {ds : List Drv} {os : List FleetMath.Ord} {ps : List RM}
theorem CR.below (h : CR W q r m x ds os ps u) (hb : Below u.heap.size u u') : CR W q r m x ds os ps u' :=
  ⟨h.old.trans (hb.mono h.old.size), h.map.keep hb, h.rmap.keep hb, h.wd.below hb, h.ds0, h.os0, h.pl0⟩
theorem CR.drvs (h : CR W q r m x ds os ps u) : Drvs u u.heap.size x.ds.a x.ds.n ds := Recs.more (Recs.keep h.ds0 h.old) h.old.size
theorem CR.ords (h : CR W q r m x ds os ps u) : Ords u u.heap.size x.os.a x.os.n os := Recs.more (Recs.keep h.os0 h.old) h.old.size
theorem CR.plns (h : CR W q r m x ds os ps u) : Plns u u.heap.size x.pl.a x.pl.n ps := (h.pl0.keep h.old).more h.old.size
/-- .. as Maps leaves it -/
theorem CR.start {n0 : Nat} {ts : List Int} {e : Ending} {w0 w1 : World} (h0 : Below W.heap.size W w0) (hw : WBox w0 W.heap.size x) (hd : Drvs W W.heap.size x.ds.a x.ds.n ds) (ho : Ords W W.heap.size x.os.a x.os.n os) (hp : Plns W W.heap.size x.pl.a x.pl.n ps)
    (hm : mapOf x.n ts = m) (h : MapsOk w0 (mapOf x.n ts) e w1) : ∃ q r, e = .returned (.tuple #[.pointer q, .pointer r, .bool true]) ∧ CR W q r m x ds os ps w1 := by
  obtain ⟨hb, q, r, rfl, hq, hr⟩ := h
  rw [hm] at hq hr
  exact ⟨q, r, rfl, h0.trans (hb.mono h0.size), hq.lower h0.size, hr.lower h0.size, hw.below hb, hd, ho, hp⟩
end
#print axioms CR.start
end Go.Proofs.Ytfejnohcggoepaa.Cert
