/-
  The program's geo, walked: shortens, Even.
-/
import Derived.Test.YtkgdaelaidlhlaaGeoPSmall
namespace Go.Proofs.Ytkgdaelaidlhlaa.Geo
open Go.ChangeShapes Go.WideShapes Go.ChangeAt Go.RowKit Go.Proofs.Ytkgdaelaidlhlaa.Mem Go.Proofs.Ytkgdaelaidlhlaa.MemI Go.Proofs.Ytkgdaelaidlhlaa.GeoMath

/-- no time is greater than that by way of v -/
def ThruOne (n : Nat) (l : List Int) (v : Nat) : Prop := ∀ a, a < n → ∀ c, c < n → T n l a c ≤ T n l a v + T n l v c
instance (n : Nat) (l : List Int) (v : Nat) : Decidable (ThruOne n l v) := by unfold ThruOne; infer_instance
def shortB (n : Nat) (l : List Int) (v : Nat) : Bool := !decide (ThruOne n l v)
/-- of v's ways those from places below a, and from a to those below b, are seen -/
def SeenOne (n : Nat) (l : List Int) (v a b : Nat) : Prop := ∀ x, x < n → ∀ y, y < n → (x < a ∨ (x = a ∧ y < b)) → T n l x y ≤ T n l x v + T n l v y
theorem SeenOne.start (n : Nat) (l : List Int) (v : Nat) : SeenOne n l v 0 0 := fun _ _ _ _ h => by omega
theorem SeenOne.more {n v a b : Nat} {l : List Int} (h : SeenOne n l v a b) (hle : T n l a b ≤ T n l a v + T n l v b) : SeenOne n l v a (b + 1) := fun x hx y hy hh => by
  by_cases e : x = a ∧ y = b
  · obtain ⟨rfl, rfl⟩ := e; exact hle
  · exact h x hx y hy (by omega)
theorem SeenOne.row {n v a : Nat} {l : List Int} (h : SeenOne n l v a n) : SeenOne n l v (a + 1) 0 := fun x hx y hy hh => h x hx y hy (by omega)
theorem SeenOne.all {n v : Nat} {l : List Int} (h : SeenOne n l v n 0) : shortB n l v = false := by
  have : ThruOne n l v := fun a ha c hc => h a ha c hc (by omega)
  simp [shortB, this]
theorem short_yes {n v a b : Nat} {l : List Int} (ha : a < n) (hb : b < n) (h : T n l a v + T n l v b < T n l a b) : shortB n l v = true := by
  have : ¬ ThruOne n l v := fun ht => by have := ht a ha b hb; omega
  simp [shortB, this]
theorem even_of {n : Nat} {l : List Int} (h : ∀ v, v < n → shortB n l v = false) : evenB n l = true := by
  simp only [evenB, decide_eq_true_eq]
  intro a ha b hb c hc
  have := h b hb
  simp only [shortB, Bool.not_eq_false', decide_eq_true_eq] at this
  exact this a ha c hc
theorem even_not {n v : Nat} {l : List Int} (hv : v < n) (h : shortB n l v = true) : evenB n l = false := by
  simp only [evenB, decide_eq_false_iff_not]
  intro ht
  have : ThruOne n l v := fun a ha c hc => ht a ha v hv c hc
  simp [shortB, this] at h

/-- all that a map's reader may ask of a world holds of it as of the first one -/
def Drawn (w wr : World) : Prop := ∃ d, wr = w.drewN d
theorem Drawn.refl (w : World) : Drawn w w := ⟨0, rfl⟩
theorem Drawn.more {w wr : World} (h : Drawn w wr) (d : Nat) : Drawn w (wr.drewN d) := by obtain ⟨d', rfl⟩ := h; exact ⟨_, World.drewN_drewN _ _ _⟩
theorem Drawn.drew {w wr : World} (h : Drawn w wr) : Drawn w wr.drew := by obtain ⟨d', rfl⟩ := h; exact ⟨d' + 1, rfl⟩
theorem Drawn.cell {w wr : World} (h : Drawn w wr) (p : Addr) : wr.cell? p = w.cell? p := by obtain ⟨d', rfl⟩ := h; rfl
theorem Drawn.size {w wr : World} (h : Drawn w wr) : wr.heap.size = w.heap.size := by obtain ⟨d', rfl⟩ := h; rfl
theorem Drawn.reads {w wr : World} (h : Drawn w wr) {A : Option Addr} {n : Nat} {vs : List Value} (hr : Reads w w.heap.size A n vs) : Reads wr wr.heap.size A n vs := by
  obtain ⟨d', rfl⟩ := h
  exact hr

set_option maxRecDepth 100000 in
set_option maxHeartbeats 1000000 in
theorem gshort_any (b n v g0 cp : Nat) (l : List Int) (w : World) (z0' : w.cell? ⟨b, 0, none⟩ = some (.int .i64 n)) (z1' : w.cell? ⟨b, 1, none⟩ = some (.slice (some ⟨g0, 0, none⟩) (n * n) cp))
    (hi : Ints w w.heap.size (some ⟨g0, 0, none⟩) (n * n) l) (hn : n ≤ 12) (hm : IsMap n l) (hv : v < n) :
    Calls Try.prog 33 #[.pointer (some ⟨b, 0, none⟩), .int .i64 v] w (Quietly w (.bool (shortB n l v))) := by
  have HI := Lib.hid hi
  have HM := Lib.hid hm
  have Z0 := Lib.hid z0'
  have Z1 := Lib.hid z1'
  have HTR : Hid (∀ wr x y, Drawn w wr → x < n → y < n → Calls Try.prog 35 #[.pointer (some ⟨b, 0, none⟩), .int .i64 x, .int .i64 v, .int .i64 y] wr (Quietly wr (.int .i64 (T n l x v + T n l v y)))) :=
    fun wr x y hd hx hy => gthrough_any b n x v y g0 cp l _ ((hd.cell _).trans z0') ((hd.cell _).trans z1') hn (hd.reads hi) hm hx hv hy
  have z0 := z0'
  clear hi hm z0' z1'
  go_enter Try.func33, Try.ntmps33
  go_wp2
  go_loopw [11] (fun i wr => ∃ (x : Nat), x ≤ n ∧ i = .int .i64 x ∧ Hid (Drawn w wr) ∧ Hid (SeenOne n l v x 0)) (fun i _ => n - (intOf i).toNat)
  case atStart => exact ⟨0, Nat.zero_le _, rfl, Drawn.refl w, SeenOne.start n l v⟩
  case round =>
    clear z0
    obtain ⟨x, hx, rfl, HD, HX⟩ := hrel
    have z0 := (HD.out.cell _).trans Z0.out
    by_cases hlt : x < n
    · go_wp2
      go_loopw [18] (fun i wr => ∃ (y : Nat), y ≤ n ∧ i = .int .i64 y ∧ Hid (Drawn w wr) ∧ Hid (SeenOne n l v x y)) (fun i _ => n - (intOf i).toNat)
      case atStart => exact ⟨0, Nat.zero_le _, rfl, HD, HX⟩
      case round =>
        clear HX HD z0
        obtain ⟨y, hy, rfl, HD, HY⟩ := hrel
        by_cases hlt2 : y < n
        · obtain ⟨c1, _⟩ := Ints.T_at0 (HD.out.reads HI.out) hlt hlt2
          obtain ⟨q, i, g1, g2, g3, g4, g5, g6, g7⟩ := idx_facts hn hlt hlt2
          rw [← g7] at c1
          have G1 := Lib.hid g1
          have G2 := Lib.hid g2
          have l1 := HM.out.T_lo hlt hlt2
          have l2 := HM.out.T_hi hlt hlt2
          clear g1 g2 g7
          have z1 := (HD.out.cell _).trans Z1.out
          have ZD : Hid (∀ d, (wr.drewN d).cell? ⟨b, 0, none⟩ = some (.int .i64 n)) := fun _ => (HD.out.cell _).trans Z0.out
          have HTR2 : Hid (∀ d, Calls Try.prog 35 #[.pointer (some ⟨b, 0, none⟩), .int .i64 x, .int .i64 v, .int .i64 y] (wr.drewN d) (Quietly (wr.drewN d) (.int .i64 (T n l x v + T n l v y)))) := fun d => HTR.out _ x y (HD.out.more d) hlt hlt2
          obtain ⟨t1, ht1⟩ : ∃ t, T n l x y = t := ⟨_, rfl⟩
          obtain ⟨t2, ht2⟩ : ∃ t, T n l x v + T n l v y = t := ⟨_, rfl⟩
          rw [ht2] at HTR2
          rw [ht1] at l1 l2 c1
          by_cases hgt : t2 < t1
          · have HN : Hid (shortB n l v = true) := short_yes hlt hlt2 (by rw [ht1, ht2]; exact hgt)
            clear ht1 ht2
            go_wp2_with fail
            go_quiet (first | (go_at_call 31; with_reducible exact same_in (gat_c b n x y q i _ (ZD.out _) G1.out G2.out g3 g4)) | (go_at_call 35; with_reducible exact quiet_in (HTR2.out _)))
            go_wp2
            go_ret
            exact ⟨ret_bool HN.out.symm, HD.out.more _⟩
          · have HN : Hid (SeenOne n l v x (y + 1)) := HY.out.more (by rw [ht1, ht2]; omega)
            clear ht1 ht2
            go_wp2_with fail
            go_quiet (first | (go_at_call 31; with_reducible exact same_in (gat_c b n x y q i _ (ZD.out _) G1.out G2.out g3 g4)) | (go_at_call 35; with_reducible exact quiet_in (HTR2.out _)))
            go_wp2
            go_roundw
            case rel => exact ⟨y + 1, by omega, by go_num, HD.out.more _, HN⟩
            case measure => simp [intOf]; omega
        · have HN : Hid (SeenOne n l v (x + 1) 0) := by
            have e : y = n := by omega
            subst e
            exact HY.out.row
          go_wp2
          go_roundw
          case rel => exact ⟨x + 1, by omega, by go_num, HD, HN⟩
          case measure => simp [intOf]; omega
    · have HN : Hid (shortB n l v = false) := by
        have e : x = n := by omega
        subst e
        exact HX.out.all
      go_wp2
      go_ret
      exact ⟨ret_bool HN.out.symm, HD.out⟩

set_option maxHeartbeats 1000000 in
theorem geven_any (base b n : Nat) (l : List Int) (w : World) (h : MapAt w 56 base b n l) (hn : n ≤ 12) (_hn1 : 1 ≤ n) (hm : IsMap n l) :
    Calls Try.prog 12 #[.pointer (some ⟨b, 0, none⟩)] w (Quietly w (.bool (evenB n l))) := by
  obtain ⟨g0, cp, hb, hi, hcap⟩ := h.open_
  have z0 := hb.cell (i := 0) rfl
  have z1 := hb.cell (i := 1) rfl
  have HS : Hid (∀ d v, v < n → Calls Try.prog 33 #[.pointer (some ⟨b, 0, none⟩), .int .i64 v] (w.drewN d) (Quietly (w.drewN d) (.bool (shortB n l v)))) :=
    fun d v hv => gshort_any b n v g0 cp l _ z0 z1 hi hn hm hv
  clear h hb hi hm
  go_enter Try.func12, Try.ntmps12
  go_wp2
  go_loopw [10] (fun i wr => ∃ (x d : Nat), x ≤ n ∧ i = .int .i64 x ∧ wr = w.drewN d ∧ Hid (∀ v, v < x → shortB n l v = false)) (fun i _ => n - (intOf i).toNat)
  case atStart => exact ⟨0, 0, Nat.zero_le _, rfl, rfl, fun v hv => absurd hv (by omega)⟩
  case round =>
    obtain ⟨x, d, hx, rfl, rfl, HX⟩ := hrel
    by_cases hlt : x < n
    · obtain ⟨sb, hsb⟩ : ∃ sb, shortB n l x = sb := ⟨_, rfl⟩
      have HS2 := Lib.hid (HS.out d x hlt)
      rw [hsb] at HS2
      cases sb with
      | true =>
        have HN : Hid (evenB n l = false) := even_not hlt hsb
        clear hsb
        go_wp2_with fail
        go_at_call 33
        refine HS2.out.mono ?_
        rintro e w' ⟨rfl, d2, rfl⟩
        go_wp2
        go_ret
        exact ⟨ret_bool HN.out.symm, _, rfl⟩
      | false =>
        have HN : Hid (∀ v, v < x + 1 → shortB n l v = false) := fun v hv => by
          by_cases e : v = x
          · rw [e]; exact hsb
          · exact HX.out v (by omega)
        clear hsb
        go_wp2_with fail
        go_at_call 33
        refine HS2.out.mono ?_
        rintro e w' ⟨rfl, d2, rfl⟩
        go_wp2
        go_roundw
        case rel => exact ⟨x + 1, _, by omega, by go_num, by first | rfl | exact World.drewN_drewN _ _ _, HN⟩
        case measure => simp [intOf]; omega
    · have HN : Hid (evenB n l = true) := even_of fun v hv => HX.out v (by omega)
      go_wp2
      go_ret
      exact ⟨ret_bool HN.out.symm, _, rfl⟩
theorem geven_nil (w : World) : Calls Try.prog 12 #[.pointer none] w (Quietly w (.bool false)) := by
  go_enter Try.func12, Try.ntmps12
  go_wp2
  go_ret
  exact ⟨rfl, 0, rfl⟩

#print axioms geven_any
end Go.Proofs.Ytkgdaelaidlhlaa.Geo
