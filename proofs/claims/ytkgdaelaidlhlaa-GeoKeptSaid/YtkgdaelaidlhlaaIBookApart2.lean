/-
  draybook.Book for ints: Apart: its contract.
-/
import Derived.Test.YtkgdaelaidlhlaaIBookApart
namespace Go.Proofs.Ytkgdaelaidlhlaa.IBook
open Go.ChangeShapes Go.WideShapes Go.ChangeAt Go.RowKit Go.Proofs.Ytkgdaelaidlhlaa.Mem Go.Proofs.Ytkgdaelaidlhlaa.MemI

/-- all stays but the book's own cells and the rows of the lists that are kept; memory below B0 stays -/
def Spares (B0 : Nat) (es : List (Value × List Int)) (w u : World) : Prop := Below B0 w u ∧ ∀ (k : Nat) (cs : Array Value) (t : TypeId) (fr : Nat × Nat), t ≠ 49 → t ≠ 30 → (∀ p ∈ es, p.1.ownBlock ≠ some k) → w.heap[k]? = some (Obj.cells cs t fr) → u.heap[k]? = w.heap[k]?
theorem Spares.of_moves {B0 : Nat} {es : List (Value × List Int)} {w u : World} (h : Moves B0 w u) : Spares B0 es w u := ⟨h.1, fun k cs t fr h1 h2 _ hk => h.2 k cs t fr h1 h2 hk⟩
theorem Spares.drewN {B0 : Nat} {es : List (Value × List Int)} {w u : World} (h : Spares B0 es w u) (d : Nat) : Spares B0 es w (u.drewN d) := ⟨below_drewN h.1 d, h.2⟩
theorem Spares.mark {B0 g j : Nat} {es : List (Value × List Int)} {w u : World} {x : Value} (h : Spares B0 es w u) (hB : B0 ≤ g) (hg : ∃ p ∈ es, p.1.ownBlock = some g) : Spares B0 es w (u.setCell ⟨g, j, none⟩ x) := by
  refine ⟨h.1.setCell hB _, fun k cs t fr h1 h2 h3 hk => (Below.heap_setCell u _ x k ?_).trans (h.2 k cs t fr h1 h2 h3 hk)⟩
  rintro rfl
  obtain ⟨p, hp, hg⟩ := hg
  exact h3 p hp hg
theorem Spares.book {B0 bk i : Nat} {es : List (Value × List Int)} {w u : World} {vs : List Value} {x : Value} (h : Spares B0 es w u) (hB : B0 ≤ bk) (hb : Blk u bk 49 vs) : Spares B0 es w (u.setCell ⟨bk, i, none⟩ x) := by
  refine ⟨h.1.setCell hB _, fun k cs t fr h1 h2 h3 hk => ?_⟩
  have he := h.2 k cs t fr h1 h2 h3 hk
  refine (Below.heap_setCell u _ x k ?_).trans he
  rintro rfl
  rw [hk] at he
  unfold Blk at hb
  rw [hb] at he
  injection he with he
  injection he with _ he
  exact h1 he.symm
theorem Spares.books {B0 bk i i' i'' : Nat} {es : List (Value × List Int)} {w u : World} {vs : List Value} {x x' x'' : Value} (h : Spares B0 es w u) (hB : B0 ≤ bk) (hb : Blk u bk 49 vs) :
    Spares B0 es w (((u.setCell ⟨bk, i, none⟩ x).setCell ⟨bk, i', none⟩ x').setCell ⟨bk, i'', none⟩ x'') :=
  ((h.book hB hb).book hB (hb.put i x)).book hB ((hb.put i x).put i' x')

/-- through Apart's loops -/
def Ap (B0 bk : Nat) (lv wv : Value) (hd : Int) (ls cs : List Value) (es : List (Value × List Int)) (k j : Nat) (w u : World) : Prop := St u B0 bk lv wv hd false ls cs ∧ Marked u B0 es k j ∧ Spares B0 es w u
theorem Ap.drewN {B0 bk : Nat} {lv wv : Value} {hd : Int} {ls cs : List Value} {es : List (Value × List Int)} {k j : Nat} {w u : World} (h : Ap B0 bk lv wv hd ls cs es k j w u) (d : Nat) : Ap B0 bk lv wv hd ls cs es k j w (u.drewN d) :=
  ⟨h.1.keep (below_drewN (Below.refl _ _) d), h.2.1.same (fun _ _ _ => rfl), h.2.2.drewN d⟩
theorem Ap.next {B0 bk k c n : Nat} {lv wv : Value} {hd : Int} {ls cs : List Value} {A : Option Addr} {xs : List Int} {es : List (Value × List Int)} {w u : World} (h : Ap B0 bk lv wv hd ls cs es k c w u) (hk : es[k]? = some (.slice A n c, xs)) : Ap B0 bk lv wv hd ls cs es (k + 1) 0 w u :=
  ⟨h.1, h.2.1.next hk, h.2.2⟩
theorem Ap.put {B0 bk k j c n : Nat} {lv wv : Value} {hd : Int} {ls cs : List Value} {A : Option Addr} {xs : List Int} {es : List (Value × List Int)} {w u : World} (h : Ap B0 bk lv wv hd ls cs es k j w u) (ha : Apart es) (hk : es[k]? = some (.slice A n c, xs)) (hj : j < c) :
    ∃ g x, A = some ⟨g, 0, none⟩ ∧ u.cell? ⟨g, j, none⟩ = some x ∧ u.frozen? ⟨g, j, none⟩ = false ∧ Ap B0 bk lv wv hd ls cs es k (j + 1) w (u.setCell ⟨g, j, none⟩ (.int .i64 (mk k j))) := by
  obtain ⟨g, x, e, h1, ⟨cur, h2⟩, h3, h4, h5⟩ := h.2.1.put ha hk hj
  exact ⟨g, x, e, h3, h4, h.1.mark h2, h5, h.2.2.mark h1 ⟨_, List.mem_of_getElem? hk, by rw [e]; rfl⟩⟩

theorem quietly {f : FuncId} {args : Array Value} {w : World} {n : Nat} {v : Value} (h : Calls Try.prog f args (w.drewN n) fun e w' => e = .returned v ∧ w.drewN n = w') :
    Calls Try.prog f args (w.drewN n) fun e w' => e = .returned v ∧ ∃ d, w' = w.drewN d := h.mono fun _ _ ⟨h1, h2⟩ => ⟨h1, n, h2.symm⟩

set_option maxRecDepth 100000 in
set_option maxHeartbeats 4000000 in
theorem apart_any (w : World) (B0 bk m : Nat) (es : List (Value × List Int)) (h : BookAt w B0 bk es) (hm : es.length = m + 1) (hm4 : m + 1 ≤ 4000) :
    Calls Try.prog 26 #[.pointer (some ⟨bk, 0, none⟩), .func (.func 27) #[] #[]] w fun e w' => e = .returned (.bool true) ∧ Spares B0 es w w' := by
  have HST0 := Lib.hid (stays_any w B0 bk m es h hm)
  have HLEN := Lib.hid hm
  clear h hm
  go_enter Try.func26, Try.ntmps26
  go_wp2_with fail
  refine HST0.out.mono ?_
  rintro e w1 ⟨rfl, ⟨lv, wv, hd, cs, hst, hen⟩, hmv⟩
  have hcl : cs.length = m + 1 := by rw [hen.len]; exact HLEN.out
  obtain ⟨gl, ol, cl, gw, ow, cw, rfl, rfl, q1, q2, q3, q4, q5, hcells⟩ := hst.cells (by rw [List.length_map]; exact HLEN.out) hcl
  have HCELLS := Lib.hid hcells
  have HAP : Hid (Ap B0 bk (.slice (some ⟨gl, ol, none⟩) (m + 1) cl) (.slice (some ⟨gw, ow, none⟩) (m + 1) cw) hd (es.map (·.1)) cs es 0 0 w w1) := ⟨hst, hen.marked, Spares.of_moves hmv⟩
  have HAPART := Lib.hid hen.apart
  clear hst hen hcells hcl hmv HST0
  go_wp2_with fail
  go_loopg [5] (m + 1) (fun g i wr => ∃ k : Nat, g = m + 1 - k ∧ k ≤ m + 1 ∧ i = .int .i64 k ∧ Hid (Ap B0 bk (.slice (some ⟨gl, ol, none⟩) (m + 1) cl) (.slice (some ⟨gw, ow, none⟩) (m + 1) cw) hd (es.map (·.1)) cs es k 0 w wr))
  case atStart => exact ⟨0, rfl, by omega, rfl, HAP⟩
  case round =>
    clear HAP
    obtain ⟨k, rfl, hk, rfl, HA⟩ := hrel
    have z0 := HA.out.1.c0
    by_cases hlt : k < m + 1
    · obtain ⟨⟨v0, xs0⟩, hp⟩ : ∃ p, es[k]? = some p := ⟨_, List.getElem?_eq_getElem (by rw [HLEN.out]; exact hlt)⟩
      obtain ⟨A0, n0, c0, hv0, hn0, hc0, _⟩ := HA.out.2.1 k _ hp
      simp only at hv0
      subst hv0
      have HP := Lib.hid hp
      have HLK : Hid ((es.map (·.1))[k]? = some (.slice A0 n0 c0)) := by rw [List.getElem?_map, hp]; rfl
      have zl := (HCELLS.out wr _ _ HA.out.1).1 k _ HLK.out
      have hc0' : c0 ≤ 9223372036854775807 := by unfold maxLen at hc0; omega
      have hc1 : (0 : Int) ≤ (c0 : Int) := by omega
      have hk0 : (0 : Int) ≤ (k : Int) := by omega
      have hk1 : (k : Int) < (m : Int) + 1 := by omega
      clear hp
      go_wp2_with fail
      go_quiet (fail)
      go_wp2_with fail
      clear z0 zl
      go_loopg [7] c0 (fun g j wi => ∃ t : Nat, g = c0 - t ∧ t ≤ c0 ∧ j = .int .i64 t ∧ Hid (Ap B0 bk (.slice (some ⟨gl, ol, none⟩) (m + 1) cl) (.slice (some ⟨gw, ow, none⟩) (m + 1) cw) hd (es.map (·.1)) cs es k t w wi))
      case atStart => exact ⟨0, rfl, by omega, rfl, HA.out.drewN _⟩
      case round =>
        clear HA
        obtain ⟨t, rfl, ht, rfl, HB1⟩ := hrel
        by_cases htc : t < c0
        · obtain ⟨g, x, rfl, hc, hf, hnext⟩ := HB1.out.put HAPART.out HP.out htc
          have HN := Lib.hid hnext
          clear hnext
          go_wp2_with (go_at_call 27; refine (mark_any k t _ (by omega) (by omega)).mono ?_; rintro e w' ⟨rfl, rfl⟩)
          go_roundg (c0 - (t + 1))
          case measure => omega
          case rel => exact ⟨t + 1, rfl, by omega, by go_num, HN⟩
        · obtain rfl : t = c0 := by omega
          have HN := Lib.hid (HB1.out.next HP.out)
          go_wp2_with fail
          go_roundg (m + 1 - (k + 1))
          case measure => omega
          case rel => exact ⟨k + 1, rfl, by omega, by go_num, HN⟩
    · have HA' : Hid (Ap B0 bk (.slice (some ⟨gl, ol, none⟩) (m + 1) cl) (.slice (some ⟨gw, ow, none⟩) (m + 1) cw) hd (es.map (·.1)) cs es (m + 1) 0 w wr) := by
        have e : k = m + 1 := by omega
        subst e
        exact HA
      go_wp2_with fail
      clear z0 HA
      go_loopg [8] (m + 1) (fun g i wi => ∃ k : Nat, g = m + 1 - k ∧ k ≤ m + 1 ∧ i = .int .i64 k ∧ Hid (Ap B0 bk (.slice (some ⟨gl, ol, none⟩) (m + 1) cl) (.slice (some ⟨gw, ow, none⟩) (m + 1) cw) hd (es.map (·.1)) cs es (m + 1) 0 w wi))
      case atStart => exact ⟨0, rfl, by omega, rfl, HA'⟩
      case round =>
        clear HA'
        obtain ⟨k2, rfl, hk2, rfl, HC⟩ := hrel
        have z0 := HC.out.1.c0
        by_cases hlt2 : k2 < m + 1
        · obtain ⟨⟨v0, xs0⟩, hp⟩ : ∃ p, es[k2]? = some p := ⟨_, List.getElem?_eq_getElem (by rw [HLEN.out]; exact hlt2)⟩
          obtain ⟨A0, n0, c0, hv0, hn0, hc0, _⟩ := HC.out.2.1 k2 _ hp
          simp only at hv0
          subst hv0
          have HP := Lib.hid hp
          have HLK : Hid ((es.map (·.1))[k2]? = some (.slice A0 n0 c0)) := by rw [List.getElem?_map, hp]; rfl
          have zl := (HCELLS.out _ _ _ HC.out.1).1 k2 _ HLK.out
          have hc0' : c0 ≤ 9223372036854775807 := by unfold maxLen at hc0; omega
          have hc1 : (0 : Int) ≤ (c0 : Int) := by omega
          have hk0 : (0 : Int) ≤ (k2 : Int) := by omega
          have hk1 : (k2 : Int) < (m : Int) + 1 := by omega
          clear hp
          go_wp2_with fail
          go_quiet (fail)
          go_wp2_with fail
          clear z0 zl
          go_loopg [10] c0 (fun g j wj => ∃ t : Nat, g = c0 - t ∧ t ≤ c0 ∧ j = .int .i64 t ∧ Hid (Ap B0 bk (.slice (some ⟨gl, ol, none⟩) (m + 1) cl) (.slice (some ⟨gw, ow, none⟩) (m + 1) cw) hd (es.map (·.1)) cs es (m + 1) 0 w wj))
          case atStart => exact ⟨0, rfl, by omega, rfl, HC.out.drewN _⟩
          case round =>
            clear HC
            obtain ⟨t, rfl, ht, rfl, HD1⟩ := hrel
            by_cases htc : t < c0
            · obtain ⟨g, rfl, hc⟩ := HD1.out.2.1.read hlt2 HP.out htc
              have ht0 : (0 : Int) ≤ (t : Int) := by omega
              have ht1 : (t : Int) < (c0 : Int) := by omega
              go_wp2_with fail
              go_quiet ((go_at_call 27; exact quietly (mark_any k2 t _ (by omega) (by omega))))
              go_wp2_with fail
              go_roundg (c0 - (t + 1))
              case measure => omega
              case rel => exact ⟨t + 1, rfl, by omega, by go_num, HD1.out.drewN _⟩
            · go_wp2_with fail
              go_roundg (m + 1 - (k2 + 1))
              case measure => omega
              case rel => exact ⟨k2 + 1, rfl, by omega, by go_num, HD1⟩
        · have f0 := HC.out.1.free 0
          have f1 := HC.out.1.free 1
          have f2 := HC.out.1.free 2
          have z1 := HC.out.1.c1
          have z2 := HC.out.1.c2
          have hbk := HC.out.1.2.1
          have HBEL := Lib.hid HC.out.2.2
          have HBLK := Lib.hid HC.out.1.1
          go_wp2_with fail
          go_ret
          exact ⟨rfl, HBEL.out.books hbk HBLK.out⟩

#print axioms apart_any
end Go.Proofs.Ytkgdaelaidlhlaa.IBook
