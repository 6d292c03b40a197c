/-
  draybook.Book for ints: Stays: its contract.
-/
import Derived.Test.YtkgdaelaidlhlaaIBookKeep
namespace Go.Proofs.Ytkgdaelaidlhlaa.IBook
open Go.ChangeShapes Go.WideShapes Go.ChangeAt Go.RowKit Go.Proofs.Ytkgdaelaidlhlaa.Mem Go.Proofs.Ytkgdaelaidlhlaa.MemI

theorem St.cells {w : World} {B0 bk m : Nat} {lv wv : Value} {held : Int} {bad : Bool} {ls cs : List Value} (h : St w B0 bk lv wv held bad ls cs) (hl : ls.length = m + 1) (hc : cs.length = m + 1) :
    ∃ gl ol cl gw ow cw, lv = .slice (some ⟨gl, ol, none⟩) (m + 1) cl ∧ wv = .slice (some ⟨gw, ow, none⟩) (m + 1) cw ∧ m + 1 ≤ cl ∧ cl ≤ maxLen ∧ m + 1 ≤ cw ∧ cw ≤ maxLen ∧ m + 1 ≤ maxLen ∧
      ∀ u hd' b', St u B0 bk lv wv hd' b' ls cs → (∀ i x, ls[i]? = some x → u.cell? ⟨gl, ol + i, none⟩ = some x) ∧ (∀ i x, cs[i]? = some x → u.cell? ⟨gw, ow + i, none⟩ = some x) := by
  obtain ⟨h1, h2, h3, h4, h5⟩ := h
  obtain ⟨hm, ⟨_, hh⟩ | ⟨gl, cl, pre, post, rfl, hg, hb, hc1, hcm⟩⟩ := h3
  · rw [hh] at hl; cases hl
  obtain ⟨hm', ⟨_, hh⟩ | ⟨gw, cw, pre', post', rfl, hg', hb', hc1', hcm'⟩⟩ := h4
  · rw [hh] at hc; cases hc
  refine ⟨gl, pre.length, cl, gw, pre'.length, cw, by rw [hl], by rw [hc], by omega, hcm, by omega, hcm', by omega, ?_⟩
  rintro u hd' b' ⟨_, _, k3, k4, _⟩
  obtain ⟨_, ⟨_, hh⟩ | ⟨gl', cl', qre, qost, e1, _, qb, _⟩⟩ := k3
  · rw [hh] at hl; cases hl
  obtain ⟨_, ⟨_, hh⟩ | ⟨gw', cw', qre', qost', e2, _, qb', _⟩⟩ := k4
  · rw [hh] at hc; cases hc
  injection e1 with e1
  injection e1 with e1
  injection e1 with e3 e4
  injection e2 with e2
  injection e2 with e2
  injection e2 with e5 e6
  subst e3
  subst e5
  rw [e4, e6]
  exact ⟨fun i x hx => qb.cell (mid_at hx), fun i x hx => qb'.cell (mid_at hx)⟩
theorem Ents.at_ {w : World} {B0 i : Nat} {es : List (Value × List Int)} {cs : List Value} {p : Value × List Int} (h : Ents w B0 es cs) (hi : es[i]? = some p) :
    ∃ cv, cs[i]? = some cv ∧ Own w B0 3 p.1 p.2.length (intsV p.2) ∧ Own w B0 3 cv p.2.length (intsV p.2) := by
  induction es generalizing cs i with
  | nil => cases hi
  | cons q r ih =>
    match q, cs, i, h, hi with
    | (v, xs), cv :: s, 0, h, hi =>
      have : (v, xs) = p := by simpa using hi
      subst this
      exact ⟨cv, rfl, h.1, h.2.1⟩
    | (v, xs), cv :: s, i + 1, h, hi =>
      obtain ⟨cv', h1, h2⟩ := ih h.2.2.2 (i := i) (by simpa using hi)
      exact ⟨cv', by simpa using h1, h2⟩

/-- what Stays leaves: the book as it was -/
def Stayed (w : World) (B0 bk : Nat) (es : List (Value × List Int)) (e : Ending) (w' : World) : Prop := e = .returned (.bool true) ∧ BookAt w' B0 bk es ∧ Moves B0 w w'

set_option maxRecDepth 100000 in
set_option maxHeartbeats 4000000 in
theorem stays_any (w : World) (B0 bk m : Nat) (es : List (Value × List Int)) (h : BookAt w B0 bk es) (hm : es.length = m + 1) :
    Calls Try.prog 34 #[.pointer (some ⟨bk, 0, none⟩)] w (Stayed w B0 bk es) := by
  obtain ⟨lv, wv, hd, cs, hst, hen⟩ := h
  have hcl : cs.length = m + 1 := by rw [hen.len]; exact hm
  obtain ⟨gl, ol, cl, gw, ow, cw, rfl, rfl, q1, q2, q3, q4, q5, hcells⟩ := hst.cells (by rw [List.length_map]; exact hm) hcl
  have HCELLS := Lib.hid hcells
  have HLEN := Lib.hid hm
  have HDROP : Hid (Drop B0 bk (.slice (some ⟨gl, ol, none⟩) (m + 1) cl) (.slice (some ⟨gw, ow, none⟩) (m + 1) cw) hd (es.map (·.1)) cs es w w) := ⟨hst, hen, Moves.refl _ _⟩
  have q5' : m + 1 ≤ 9223372036854775807 := by unfold maxLen at q5; omega
  clear hst hen hcells hm hcl
  go_enter Try.func34, Try.ntmps34
  go_wp2
  go_loopg [3] (m + 1) (fun g i wr => ∃ k : Nat, g = m + 1 - k ∧ k ≤ m + 1 ∧ i = .int .i64 k ∧ Hid (Drop B0 bk (.slice (some ⟨gl, ol, none⟩) (m + 1) cl) (.slice (some ⟨gw, ow, none⟩) (m + 1) cw) hd (es.map (·.1)) cs es w wr))
  case atStart => exact ⟨0, rfl, by omega, rfl, HDROP⟩
  case round =>
    clear HDROP
    obtain ⟨k, rfl, hk, rfl, HDR⟩ := hrel
    have z0 := HDR.out.1.c0
    have z1 := HDR.out.1.c1
    have z3 := HDR.out.1.c3
    have zf := HDR.out.1.free 3
    by_cases hlt : k < m + 1
    · obtain ⟨⟨v0, xs0⟩, hp⟩ : ∃ p, es[k]? = some p := ⟨_, List.getElem?_eq_getElem (by rw [HLEN.out]; exact hlt)⟩
      obtain ⟨cv0, hcv, ho, hco⟩ := HDR.out.2.1.at_ hp
      obtain ⟨A0, c0, hv0, _, hr0⟩ := ho.read
      obtain ⟨C0, d0, hw0, _, hs0⟩ := hco.read
      simp only at hv0
      subst hv0
      subst hw0
      obtain ⟨n0, hn0⟩ : ∃ n0, xs0.length = n0 := ⟨_, rfl⟩
      simp only [hn0] at hp hcv
      have HP := Lib.hid hp
      have HN0 := Lib.hid hn0
      have HLK : Hid ((es.map (·.1))[k]? = some (.slice A0 n0 c0)) := by rw [List.getElem?_map, hp]; rfl
      have HCK := Lib.hid hcv
      clear ho hco hr0 hs0 hp hcv hn0
      have L1 : ∀ u, Drop B0 bk (.slice (some ⟨gl, ol, none⟩) (m + 1) cl) (.slice (some ⟨gw, ow, none⟩) (m + 1) cw) hd (es.map (·.1)) cs es w u → Ints u u.heap.size A0 n0 xs0 ∧ Ints u u.heap.size C0 n0 xs0 := by
        intro u hu
        obtain ⟨cv', hcv', o1, o2⟩ := hu.2.1.at_ HP.out
        rw [HCK.out] at hcv'
        injection hcv' with hcv'
        subst hcv'
        obtain ⟨A', c', e', _, h1⟩ := o1.read
        obtain ⟨C', d', e2', _, h2⟩ := o2.read
        simp only [HN0.out] at e' e2' h1 h2
        injection e' with e'
        injection e2' with e2'
        subst e'
        subst e2'
        exact ⟨h1, h2⟩
      have L2 : ∀ u, Drop B0 bk (.slice (some ⟨gl, ol, none⟩) (m + 1) cl) (.slice (some ⟨gw, ow, none⟩) (m + 1) cw) hd (es.map (·.1)) cs es w u →
          u.cell? ⟨bk, 0, none⟩ = some (.slice (some ⟨gl, ol, none⟩) (m + 1) cl) ∧ u.cell? ⟨bk, 1, none⟩ = some (.slice (some ⟨gw, ow, none⟩) (m + 1) cw) ∧ u.cell? ⟨bk, 3, none⟩ = some (.bool false) ∧ u.frozen? ⟨bk, 3, none⟩ = false ∧
            u.cell? ⟨gl, ol + k, none⟩ = some (.slice A0 n0 c0) ∧ u.cell? ⟨gw, ow + k, none⟩ = some (.slice C0 n0 d0) ∧ Drop B0 bk (.slice (some ⟨gl, ol, none⟩) (m + 1) cl) (.slice (some ⟨gw, ow, none⟩) (m + 1) cw) hd (es.map (·.1)) cs es w u := by
        intro u hu
        obtain ⟨y0, y1⟩ := HCELLS.out u _ _ hu.1
        exact ⟨hu.1.c0, hu.1.c1, hu.1.c3, hu.1.free 3, y0 k _ HLK.out, y1 k _ HCK.out, hu⟩
      have HL1 := Lib.hid L1
      have HL2 := Lib.hid L2
      have hk0 : (0 : Int) ≤ (k : Int) := by omega
      have hk1 : (k : Int) < (m : Int) + 1 := by omega
      clear L1 L2
      go_upto_region 4 with fail
      go_region_held3 (fun u => u.cell? ⟨bk, 0, none⟩ = some (.slice (some ⟨gl, ol, none⟩) (m + 1) cl) ∧ u.cell? ⟨bk, 1, none⟩ = some (.slice (some ⟨gw, ow, none⟩) (m + 1) cw) ∧ u.cell? ⟨bk, 3, none⟩ = some (.bool false) ∧ u.frozen? ⟨bk, 3, none⟩ = false ∧
          u.cell? ⟨gl, ol + k, none⟩ = some (.slice A0 n0 c0) ∧ u.cell? ⟨gw, ow + k, none⟩ = some (.slice C0 n0 d0) ∧ Drop B0 bk (.slice (some ⟨gl, ol, none⟩) (m + 1) cl) (.slice (some ⟨gw, ow, none⟩) (m + 1) cw) hd (es.map (·.1)) cs es w u)
        (first
          | exact HL2.out _ HDR.out.drew
          | exact HL2.out _ (HDR.out.drewN _)
          | exact HL2.out _ (HDR.out.drewN _).put3
          | exact HL2.out _ (HDR.out.put3.drewN _)
          | exact HL2.out _ HDR.out.put3.drew)
        (first
          | (go_at_call 23; (with_reducible refine (same_yes A0 C0 n0 c0 n0 d0 xs0 _ _ _ (HL1.out _ (by first | assumption | exact HDR.out.drew)).1 (HL1.out _ (by first | assumption | exact HDR.out.drew)).2).mono ?_); rintro e w' ⟨rfl, d, rfl⟩))
      all_goals
        go_wp2_with fail
        go_roundg (m + 1 - (k + 1))
        case measure => omega
        case rel => exact ⟨k + 1, rfl, by omega, by go_num, by first | exact HDR.out.put3.drew | exact (HDR.out.drewN _).put3 | exact HDR.out.put3.drewN _⟩
    · have HE : Hid (Stayed w B0 bk es (.returned (.bool true)) wr) := ⟨rfl, ⟨_, _, _, _, HDR.out.1, HDR.out.2.1⟩, HDR.out.2.2⟩
      go_wp2
      go_ret
      exact HE.out

#print axioms stays_any
end Go.Proofs.Ytkgdaelaidlhlaa.IBook
