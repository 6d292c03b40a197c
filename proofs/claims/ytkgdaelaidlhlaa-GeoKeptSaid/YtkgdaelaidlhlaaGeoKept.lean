/-
  GeoKept walked.
-/
import Derived.Test.YtkgdaelaidlhlaaGeoCloses
import Derived.Test.YtkgdaelaidlhlaaIBookUse
namespace Go.Proofs.Ytkgdaelaidlhlaa.Geo
open Go.ChangeShapes Go.WideShapes Go.ChangeAt Go.RowKit Go.Proofs.Ytkgdaelaidlhlaa.Mem Go.Proofs.Ytkgdaelaidlhlaa.MemI Go.Proofs.Ytkgdaelaidlhlaa.GeoMath Go.Proofs.Ytkgdaelaidlhlaa.IBook
set_option linter.unusedVariables false

/-- two blocks, as they are -/
def Fix (b g : Nat) (t : TypeId) (cs cs' : Array Value) (u : World) : Prop := u.heap[b]? = some (.cells cs t (0, 0)) ∧ u.heap[g]? = some (.cells cs' 3 (0, 0))
section
variable {b g B0 : Nat} {t : TypeId} {cs cs' : Array Value} {u u' : World}
theorem lt_of {o : Obj} {k : Nat} (h : u.heap[k]? = some o) : k < u.heap.size := by
  rcases Nat.lt_or_ge k u.heap.size with h' | h'
  · exact h'
  · rw [Array.getElem?_eq_none h'] at h; cases h
theorem Fix.below (h : Fix b g t cs cs' u) (hb : Below u.heap.size u u') : Fix b g t cs cs' u' := ⟨(hb.block b (lt_of h.1)).trans h.1, (hb.block g (lt_of h.2)).trans h.2⟩
theorem Fix.moves (h : Fix b g t cs cs' u) (hm : Moves B0 u u') (h1 : t ≠ 49) (h2 : t ≠ 30) : Fix b g t cs cs' u' :=
  ⟨(hm.2 b cs t _ h1 h2 h.1).trans h.1, (hm.2 g cs' _ _ (by decide) (by decide) h.2).trans h.2⟩
theorem Fix.spares {es : List (Value × List Int)} {base top : Nat} (h : Fix b g t cs cs' u) (hm : Spares B0 es u u') (h1 : t ≠ 49) (h2 : t ≠ 30) (hr : (base ≤ b ∧ b < top) ∧ base ≤ g ∧ g < top)
    (hes : ∀ p ∈ es, ∀ k, p.1.ownBlock = some k → k < base ∨ top ≤ k) : Fix b g t cs cs' u' := by
  refine ⟨(hm.2 b cs t _ h1 h2 (fun p hp hpk => ?_) h.1).trans h.1, (hm.2 g cs' _ _ (by decide) (by decide) (fun p hp hpk => ?_) h.2).trans h.2⟩
  · have := hes p hp b hpk; omega
  · have := hes p hp g hpk; omega
end
theorem MapAt.fix {w : World} {t : TypeId} {base b n : Nat} {l : List Int} (h : MapAt w t base b n l) : ∃ g cs cs', ((base ≤ b ∧ b < w.heap.size) ∧ base ≤ g ∧ g < w.heap.size) ∧ Fix b g t cs cs' w ∧ ∀ u, Fix b g t cs cs' u → MapAt u t base b n l := by
  obtain ⟨g, c, h1, h2, h3, h4⟩ := h
  have hr := h4.range g rfl
  obtain ⟨⟨hl, ho⟩, hm⟩ := h4
  rcases ho with ⟨e, _⟩ | ⟨g', cap', cur, e, hg, hh, hnc, hcm, hcs, htk⟩
  · cases e
  · injection e with e e2 e3
    injection e with e
    injection e with e
    subst e
    subst e3
    exact ⟨g, _, cur, ⟨⟨h2, h1.lt⟩, hr⟩, ⟨h1, hh⟩, fun u hu => ⟨g, c, hu.1, h2, h3, ⟨hl, .inr ⟨g, c, cur, rfl, hg, hu.2, hnc, hcm, hcs, htk⟩⟩, hm⟩⟩

set_option maxRecDepth 100000 in
set_option maxHeartbeats 4000000 in
theorem geoKept_walk (nn : Int) (A : Option Addr) (k c : Nat) (xs : List Int) (W : World) (hw : (Lit.int .i64 nn).wf = true) (hc : k ≤ c) (hr : c * 8 ≤ 140737488351232) (h : Ints W W.heap.size A k xs) (hx : ∀ x ∈ xs, (Lit.int .i64 x).wf = true) :
    Calls Try.prog 8 #[.int .i64 nn, .slice A k c] W fun e w' => e = .returned (.bool true) ∧ Below W.heap.size W w' := by
  have HI := Lib.hid h
  clear h hw hx hr hc
  go_enter Try.func8, Try.ntmps8
  go_wp2_with fail
  refine (both_any nn A k c xs _ HI.out).mono ?_
  rintro e w1 ⟨hb1, ⟨_, rfl⟩ | ⟨he, b, r, n, rfl, rfl, hm1, hr1⟩⟩
  · have HB1 := Lib.hid hb1
    clear hb1
    go_wp2_with fail
    refine (runs_any _).mono ?_
    rintro e w2 ⟨rfl, hb2⟩
    have HB2 : Hid (Below W.heap.size W w2) := HB1.out.trans (hb2.mono HB1.out.size)
    clear hb2
    go_wp2_with fail
    go_ret
    exact ⟨rfl, HB2.out⟩
  · obtain ⟨hn1, hn, hmap⟩ := newE_bounds he
    have hsq : n * n ≤ 144 := by
      have : n * n ≤ 12 * 12 := Nat.mul_le_mul hn hn
      omega
    have HMAP := Lib.hid hmap
    have HXL : Hid (xs.length = n * n) := hmap.len
    have HB1 := Lib.hid hb1
    have HM1 := Lib.hid hm1
    have HR1 := Lib.hid hr1
    clear hb1 hm1 hr1 he hmap
    go_wp2_with fail
    -- the book
    have HBK2 := Lib.hid (book_new w1)
    have HV2 : Hid (Moves w1.heap.size w1 (w1.alloc (.cells #[.slice none 0 0, .slice none 0 0, .int .i64 0, .bool false] 49))) := (Moves.refl _ _).alloc (Nat.le_refl _) _
    refine (gtimes_row _ b n xs _ (by exact HM1.out.keep HV2.out.1 (Nat.le_refl _)) hn hn1).mono ?_
    rintro e w3 ⟨g3, c3, rfl, hc3, hb3, ho3⟩
    have hs3 : w1.heap.size ≤ w3.heap.size := by have := hb3.size; simp at this; omega
    have R3 : Hid (Between (.slice (some ⟨g3, 0, none⟩) (n * n) c3) w1.heap.size w3.heap.size) := fun g hg => by have := ho3.range g hg; simp at this; omega
    have O3 : Hid (Own w3 w1.heap.size 3 (.slice (some ⟨g3, 0, none⟩) (n * n) c3) (n * n) (intsV xs)) := ho3.lower (by simp)
    have HV3 : Hid (Moves w1.heap.size w1 w3) := HV2.out.trans (Moves.of_below hb3 (by simp))
    have HBK3 : Hid (BookAt w3 w1.heap.size w1.heap.size []) := BookAt_moves HBK2.out hb3 (by simp)
    clear hb3 ho3 HBK2 HV2
    go_wp2_with fail
    refine (keep_of w3 w1.heap.size w1.heap.size [] _ (n * n) c3 xs HXL.out HBK3.out (by simp) hs3 O3.out (by simp) (by omega)).mono ?_
    rintro e w4 ⟨rfl, hv4, es4, m4, hbk4, hl4, hl4', hin4⟩
    have HV4 : Hid (Moves w1.heap.size w1 w4) := HV3.out.trans hv4
    have hs4 := hv4.1.size
    have HBK4 := Lib.hid hbk4
    have HL4 := Lib.hid hl4
    have HIN4 : Hid (∀ p ∈ es4, Between p.1 w1.heap.size w3.heap.size) := fun p hp => by
      rcases hin4 p hp with h | h
      · cases h
      · rw [h]; exact R3.out
    clear hv4 hbk4 hl4 hin4 O3 HV3 HBK3
    go_wp2_with fail
    refine (gtimes_row _ b n xs _ (by exact HM1.out.keep HV4.out.1 (Nat.le_refl _)) hn hn1).mono ?_
    rintro e w5 ⟨g5, c5, rfl, hc5, hb5, ho5⟩
    have hs5 := hb5.size
    have hs34 : w3.heap.size ≤ w4.heap.size := hs4
    have R5 : Hid (Between (.slice (some ⟨g5, 0, none⟩) (n * n) c5) w4.heap.size w5.heap.size) := ho5.range
    have hs1' : w1.heap.size ≤ w4.heap.size := HV4.out.1.size
    have O5 : Hid (Own w5 w1.heap.size 3 (.slice (some ⟨g5, 0, none⟩) (n * n) c5) (n * n) (intsV xs)) := ho5.lower hs1'
    have HV5 : Hid (Moves w1.heap.size w1 w5) := HV4.out.trans (Moves.of_below hb5 hs1')
    have HBK5 : Hid (BookAt w5 w1.heap.size w1.heap.size es4) := BookAt_moves HBK4.out hb5 hs1'
    clear hb5 ho5 HBK4 HV4
    go_wp2_with fail
    refine (keep_of w5 w1.heap.size w1.heap.size es4 _ (n * n) c5 xs HXL.out HBK5.out (by rw [HL4.out]; exact hl4') (by omega) O5.out (fun p hp => Between.ne (HIN4.out p hp) R5.out hs34) (by omega)).mono ?_
    rintro e w6 ⟨rfl, hv6, es6, m6, hbk6, hl6, hl6', hin6⟩
    have HV6 : Hid (Moves w1.heap.size w1 w6) := HV5.out.trans hv6
    have hs6 := hv6.1.size
    have HBK6 := Lib.hid hbk6
    have HL6 := Lib.hid hl6
    have HIN6 : Hid (∀ p ∈ es6, Between p.1 w1.heap.size w5.heap.size) := fun p hp => by
      rcases hin6 p hp with h | h
      · exact fun g hg => by have := HIN4.out p h g hg; omega
      · rw [h]; exact fun g hg => by have := R5.out g hg; omega
    clear hv6 hbk6 hl6 hin6 O5 HV5 HBK5 HIN4 HL4
    go_wp2_with fail
    refine (geo_closed _ b n xs _ (by exact HM1.out.keep HV6.out.1 (Nat.le_refl _)) hn hn1 HMAP.out).mono ?_
    rintro e w7 ⟨b7, l7, rfl, hb7, hm7, hl7⟩
    have HL := Lib.hid hl7
    have HYL : Hid (l7.length = n * n) := hl7.good.map.len
    have hs7 := hb7.size
    have hs61 : w1.heap.size ≤ w6.heap.size := HV6.out.1.size
    obtain ⟨gc, ks, ks', hrng, hfix7, hmk⟩ := hm7.fix
    have HMK := Lib.hid hmk
    have HX7 := Lib.hid hfix7
    have HRNG := Lib.hid hrng
    have HC7 := Lib.hid hm7
    have HV7 : Hid (Moves w1.heap.size w1 w7) := HV6.out.trans (Moves.of_below hb7 hs61)
    have HBK7 : Hid (BookAt w7 w1.heap.size w1.heap.size es6) := BookAt_moves HBK6.out hb7 hs61
    clear hb7 hm7 hl7 HBK6 HV6 hfix7 hmk hrng
    go_wp2_with fail
    refine (gtimes_row _ b7 n l7 _ HC7.out hn hn1).mono ?_
    rintro e w8 ⟨g8, c8, rfl, hc8, hb8, ho8⟩
    have hs8 := hb8.size
    have R8 : Hid (Between (.slice (some ⟨g8, 0, none⟩) (n * n) c8) w7.heap.size w8.heap.size) := ho8.range
    have O8 : Hid (Own w8 w1.heap.size 3 (.slice (some ⟨g8, 0, none⟩) (n * n) c8) (n * n) (intsV l7)) := ho8.lower (by omega)
    have HX8 := Lib.hid (HX7.out.below hb8)
    have HV8 : Hid (Moves w1.heap.size w1 w8) := HV7.out.trans (Moves.of_below hb8 (by omega))
    have HBK8 : Hid (BookAt w8 w1.heap.size w1.heap.size es6) := BookAt_moves HBK7.out hb8 (by omega)
    clear hb8 ho8 HBK7 HV7
    go_wp2_with fail
    refine (keep_of w8 w1.heap.size w1.heap.size es6 _ (n * n) c8 l7 HYL.out HBK8.out (by rw [HL6.out]; exact hl6') (by omega) O8.out (fun p hp => Between.ne (HIN6.out p hp) R8.out (by omega)) (by omega)).mono ?_
    rintro e w9 ⟨rfl, hv9, es9, m9, hbk9, hl9, hl9', hin9⟩
    have HV9 : Hid (Moves w1.heap.size w1 w9) := HV8.out.trans hv9
    have hs9 := hv9.1.size
    have HBK9 := Lib.hid hbk9
    have HL9 := Lib.hid hl9
    have HX9 := Lib.hid (HX8.out.moves hv9 (by decide) (by decide))
    have HIN9 : Hid (∀ p ∈ es9, Between p.1 w1.heap.size w5.heap.size ∨ Between p.1 w7.heap.size w8.heap.size) := fun p hp => by
      rcases hin9 p hp with h | h
      · exact .inl (HIN6.out p h)
      · rw [h]; exact .inr R8.out
    clear hv9 hbk9 hl9 hin9 O8 HV8 HBK8 HIN6 HL6 HX8 HX7
    go_wp2_with fail
    refine (gtimes_row _ b7 n l7 _ (HMK.out _ HX9.out) hn hn1).mono ?_
    rintro e w10 ⟨g10, c10, rfl, hc10, hb10, ho10⟩
    have hs10 := hb10.size
    have R10 : Hid (Between (.slice (some ⟨g10, 0, none⟩) (n * n) c10) w9.heap.size w10.heap.size) := ho10.range
    have hs91 : w1.heap.size ≤ w9.heap.size := HV9.out.1.size
    have O10 : Hid (Own w10 w1.heap.size 3 (.slice (some ⟨g10, 0, none⟩) (n * n) c10) (n * n) (intsV l7)) := ho10.lower hs91
    have HX10 := Lib.hid (HX9.out.below hb10)
    have HV10 : Hid (Moves w1.heap.size w1 w10) := HV9.out.trans (Moves.of_below hb10 hs91)
    have HBK10 : Hid (BookAt w10 w1.heap.size w1.heap.size es9) := BookAt_moves HBK9.out hb10 hs91
    clear hb10 ho10 HBK9 HV9 HX9
    go_wp2_with fail
    refine (keep_of w10 w1.heap.size w1.heap.size es9 _ (n * n) c10 l7 HYL.out HBK10.out (by rw [HL9.out]; exact hl9') (by omega) O10.out (fun p hp => by
      rcases HIN9.out p hp with h | h
      · exact Between.ne h R10.out (by omega)
      · exact Between.ne h R10.out (by omega)) (by omega)).mono ?_
    rintro e w11 ⟨rfl, hv11, es11, m11, hbk11, hl11, hl11', hin11⟩
    have HV11 : Hid (Moves w1.heap.size w1 w11) := HV10.out.trans hv11
    have HBK11 := Lib.hid hbk11
    have HL11 := Lib.hid hl11
    have HX11 := Lib.hid (HX10.out.moves hv11 (by decide) (by decide))
    have HIN11 : Hid (∀ p ∈ es11, ∀ k, p.1.ownBlock = some k → k < w6.heap.size ∨ w7.heap.size ≤ k) := fun p hp k hk => by
      rcases hin11 p hp with h | h
      · rcases HIN9.out p h with h' | h'
        · have := h' k hk; exact .inl (by omega)
        · have := h' k hk; exact .inr (by omega)
      · rw [h] at hk; have := R10.out k hk; exact .inr (by omega)
    clear hv11 hbk11 hl11 hin11 O10 HV10 HBK10 HIN9 HL9 HX10
    go_wp2_with fail
    refine (apart_any w11 w1.heap.size w1.heap.size m11 es11 HBK11.out HL11.out hl11').mono ?_
    rintro e w12 ⟨rfl, hsp⟩
    have HB12 : Hid (Below w1.heap.size w1 w12) := HV11.out.1.trans hsp.1
    have HC12 : Hid (MapAt w12 56 w6.heap.size b7 n l7) := HMK.out _ (HX11.out.spares hsp (by decide) (by decide) HRNG.out HIN11.out)
    clear hsp
    go_wp2_with fail
    refine (alike_yes _ _ b r n xs _ (by exact HM1.out.keep HB12.out (Nat.le_refl _)) (by exact HR1.out.keep HB12.out (Nat.le_refl _)) hn hn1).mono ?_
    rintro e w13 ⟨rfl, hb13⟩
    have HB13 : Hid (Below w1.heap.size w1 w13) := HB12.out.trans (hb13.mono HB12.out.size)
    have HC13 : Hid (MapAt w13 56 w6.heap.size b7 n l7) := HC12.out.keep hb13 (Nat.le_refl _)
    clear hb13 HC12 HB12
    go_wp2_with fail
    refine (ref_closed _ r n xs l7 _ (by exact HR1.out.keep HB13.out (Nat.le_refl _)) hn hn1 HMAP.out HL.out).mono ?_
    rintro e w14 ⟨r14, rfl, hb14, hr14⟩
    have HB14 : Hid (Below w1.heap.size w1 w14) := HB13.out.trans (hb14.mono HB13.out.size)
    have HC14 : Hid (MapAt w14 56 w6.heap.size b7 n l7) := HC13.out.keep hb14 (Nat.le_refl _)
    have HD14 := Lib.hid hr14
    clear hb14 HC13 HB13 hr14
    go_wp2_with fail
    refine (alike_yes _ _ b7 r14 n l7 _ HC14.out HD14.out hn hn1).mono ?_
    rintro e w15 ⟨rfl, hb15⟩
    have HB15 : Hid (Below w1.heap.size w1 w15) := HB14.out.trans (hb15.mono HB14.out.size)
    clear hb15 HC14 HB14 HD14
    go_wp2_with fail
    refine (runs_any _).mono ?_
    rintro e w16 ⟨rfl, hb16⟩
    have HB16 : Hid (Below W.heap.size W w16) := HB1.out.trans ((HB15.out.trans (hb16.mono HB15.out.size)).mono HB1.out.size)
    clear hb16
    go_wp2_with fail
    go_ret
    exact ⟨rfl, HB16.out⟩

#print axioms geoKept_walk
end Go.Proofs.Ytkgdaelaidlhlaa.Geo
