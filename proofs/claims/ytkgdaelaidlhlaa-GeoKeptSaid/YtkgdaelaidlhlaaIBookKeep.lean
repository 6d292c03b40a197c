/-
  draybook.Book for ints: Keep: its contract.
-/
import Derived.Test.YtkgdaelaidlhlaaIBookMem
import Derived.Deep.RegionHeld3
import Derived.Deep.LoopGhost
import Derived.Deep.DeepCutAuto
import Derived.Deep.RegionLaw
namespace Go.Proofs.Ytkgdaelaidlhlaa.IBook
open Go.ChangeShapes Go.WideShapes Go.ChangeAt Go.RowKit Go.Proofs.Ytkgdaelaidlhlaa.Mem Go.Proofs.Ytkgdaelaidlhlaa.MemI

theorem infoSlice : (Try.prog.info? 30).map (fun i => (i.zero, i.size, i.bytes)) = some (some (.slice none 0 0), 1, 24) := by kernel_rfl

theorem tail_form {w : World} {base n : Nat} {e : TypeId} {v : Value} {vs : List Value} (h : Tail w base e v vs) (hn : vs.length = n) : ∃ A c, v = .slice A n c ∧ n ≤ c ∧ c ≤ maxLen := by
  obtain ⟨A, c, e, h1, h2, _⟩ := h.read
  rw [hn] at e h1
  exact ⟨A, c, e, h1, h2⟩
theorem snoc_len {α : Type} {l : List α} {x : α} {n : Nat} (h : l.length = n) : (l ++ [x]).length = n + 1 := by rw [List.length_append, h]; rfl

/-- what stays through one drop of the first list -/
def Drop (B0 bk : Nat) (lv wv : Value) (held : Int) (ls cs : List Value) (es : List (Value × List Int)) (w u : World) : Prop := St u B0 bk lv wv held false ls cs ∧ Ents u B0 es cs ∧ Moves B0 w u
theorem Drop.mk {B0 bk : Nat} {lv wv : Value} {held : Int} {ls cs : List Value} {es : List (Value × List Int)} {w u : World} (h1 : St u B0 bk lv wv held false ls cs) (h2 : Ents u B0 es cs) (h3 : Moves B0 w u) : Drop B0 bk lv wv held ls cs es w u := ⟨h1, h2, h3⟩
theorem Drop.drew {B0 bk : Nat} {lv wv : Value} {held : Int} {ls cs : List Value} {es : List (Value × List Int)} {w u : World} (h : Drop B0 bk lv wv held ls cs es w u) : Drop B0 bk lv wv held ls cs es w u.drew :=
  ⟨h.1.drew, h.2.1.moves (Moves.refl _ _).drew, h.2.2.drew⟩
theorem Drop.drewN {B0 bk : Nat} {lv wv : Value} {held : Int} {ls cs : List Value} {es : List (Value × List Int)} {w u : World} (h : Drop B0 bk lv wv held ls cs es w u) (d : Nat) : Drop B0 bk lv wv held ls cs es w (u.drewN d) :=
  ⟨h.1.keep (below_drewN (Below.refl _ _) d), h.2.1.moves ((Moves.refl _ _).drewN d), h.2.2.drewN d⟩
theorem Drop.put3 {B0 bk : Nat} {lv wv : Value} {held : Int} {ls cs : List Value} {es : List (Value × List Int)} {w u : World} (h : Drop B0 bk lv wv held ls cs es w u) : Drop B0 bk lv wv held ls cs es w (u.setCell ⟨bk, 3, none⟩ (.bool false)) :=
  ⟨h.1.set3 false, h.2.1.moves (h.1.put 3 _).2.2.2, h.2.2.trans (h.1.put 3 _).2.2.2⟩
/-- the first list and its copy, where they stand -/
theorem St.first {w : World} {B0 bk : Nat} {lv wv v0 cv0 : Value} {held : Int} {bad : Bool} {ls cs : List Value} (h : St w B0 bk lv wv held bad (v0 :: ls) (cv0 :: cs)) :
    ∃ gl ol cl gw ow cw, lv = .slice (some ⟨gl, ol, none⟩) (ls.length + 1) cl ∧ wv = .slice (some ⟨gw, ow, none⟩) (cs.length + 1) cw ∧ ls.length + 1 ≤ cl ∧ cl ≤ maxLen ∧ cs.length + 1 ≤ cw ∧ cw ≤ maxLen ∧ gl ≠ bk ∧ gw ≠ bk ∧
      ∀ u hd' b', St u B0 bk lv wv hd' b' (v0 :: ls) (cv0 :: cs) → u.cell? ⟨gl, ol, none⟩ = some v0 ∧ u.cell? ⟨gw, ow, none⟩ = some cv0 := by
  obtain ⟨h1, h2, h3, h4, h5⟩ := h
  obtain ⟨hm, ⟨_, hh⟩ | ⟨gl, cl, pre, post, rfl, hg, hb, hc, hcm⟩⟩ := h3
  · cases hh
  obtain ⟨hm', ⟨_, hh⟩ | ⟨gw, cw, pre', post', rfl, hg', hb', hc', hcm'⟩⟩ := h4
  · cases hh
  simp only [List.length_cons] at hc hc'
  refine ⟨gl, pre.length, cl, gw, pre'.length, cw, rfl, rfl, by omega, hcm, by omega, hcm', fun e => Blk_ne hb h1 (by decide) e, fun e => Blk_ne hb' h1 (by decide) e, ?_⟩
  rintro u hd' b' ⟨_, _, k3, k4, _⟩
  obtain ⟨_, ⟨_, hh⟩ | ⟨gl', cl', qre, qost, e1, _, qb, _⟩⟩ := k3
  · cases hh
  obtain ⟨_, ⟨_, hh⟩ | ⟨gw', cw', qre', qost', e2, _, qb', _⟩⟩ := k4
  · cases hh
  injection e1 with e1
  injection e1 with e1
  injection e1 with e3 e4
  injection e2 with e2
  injection e2 with e2
  injection e2 with e5 e6
  subst e3
  subst e5
  rw [e4, e6]
  exact ⟨qb.cell (mid_at (j := 0) rfl), qb'.cell (mid_at (j := 0) rfl)⟩

theorem BookAt.open_ {w : World} {B0 bk m : Nat} {es : List (Value × List Int)} (h : BookAt w B0 bk es) (hm : es.length = m + 1) :
    ∃ v0 xs0 rest cv0 crest hd gl ol cl gw ow cw, es = (v0, xs0) :: rest ∧ rest.length = m ∧ crest.length = m ∧
      St w B0 bk (.slice (some ⟨gl, ol, none⟩) (m + 1) cl) (.slice (some ⟨gw, ow, none⟩) (m + 1) cw) hd false (v0 :: rest.map (·.1)) (cv0 :: crest) ∧ Ents w B0 es (cv0 :: crest) ∧
      m + 1 ≤ cl ∧ cl ≤ maxLen ∧ m + 1 ≤ cw ∧ cw ≤ maxLen ∧
      ∀ u hd' b', St u B0 bk (.slice (some ⟨gl, ol, none⟩) (m + 1) cl) (.slice (some ⟨gw, ow, none⟩) (m + 1) cw) hd' b' (v0 :: rest.map (·.1)) (cv0 :: crest) → u.cell? ⟨gl, ol, none⟩ = some v0 ∧ u.cell? ⟨gw, ow, none⟩ = some cv0 := by
  obtain ⟨lv, wv, hd, cs', hst, hen⟩ := h
  match es, cs', hen, hst, hm with
  | (v0, xs0) :: rest, cv0 :: crest, hen, hst, hm =>
    have h1 : rest.length = m := by simpa using hm
    have h2 : crest.length = m := by have := hen.len; simp only [List.length_cons] at this; omega
    have h3 : (rest.map (·.1)).length = m := by rw [List.length_map]; exact h1
    have hst' : St w B0 bk lv wv hd false (v0 :: rest.map (·.1)) (cv0 :: crest) := hst
    obtain ⟨gl, ol, cl, gw, ow, cw, rfl, rfl, hq1, hq2, hq3, hq4, _, _, hcells⟩ := hst'.first
    rw [h3] at hq1
    rw [h2] at hq3
    rw [h3, h2] at hst' hcells
    exact ⟨v0, xs0, rest, cv0, crest, hd, gl, ol, cl, gw, ow, cw, rfl, h1, h2, hst', hen, hq1, hq2, hq3, hq4, hcells⟩
theorem St.tail_l {w : World} {B0 bk gl ol m cl : Nat} {wv x y : Value} {held : Int} {bad : Bool} {r cs : List Value} (h : St w B0 bk (.slice (some ⟨gl, ol, none⟩) (m + 1) cl) wv held bad (x :: y :: r) cs) (hm : r.length + 1 = m) (hc : m + 1 ≤ cl) :
    St (w.setCell ⟨bk, 0, none⟩ (.slice (some ⟨gl, ol + 1, none⟩) m (cl - 1))) B0 bk (.slice (some ⟨gl, ol + 1, none⟩) m (cl - 1)) wv held bad (y :: r) cs := by
  obtain ⟨A, c, e, h1, h2, h3⟩ := h.rest_l
  injection e with e1 e2 e3
  subst e1
  subst e3
  rw [if_neg (by omega), Option.map_some, add_at, hm] at h3
  exact h3
theorem St.tail_w {w : World} {B0 bk gl ol m cl : Nat} {lv x y : Value} {held : Int} {bad : Bool} {r ls : List Value} (h : St w B0 bk lv (.slice (some ⟨gl, ol, none⟩) (m + 1) cl) held bad ls (x :: y :: r)) (hm : r.length + 1 = m) (hc : m + 1 ≤ cl) :
    St (w.setCell ⟨bk, 1, none⟩ (.slice (some ⟨gl, ol + 1, none⟩) m (cl - 1))) B0 bk lv (.slice (some ⟨gl, ol + 1, none⟩) m (cl - 1)) held bad ls (y :: r) := by
  obtain ⟨A, c, e, h1, h2, h3⟩ := h.rest_w
  injection e with e1 e2 e3
  subst e1
  subst e3
  rw [if_neg (by omega), Option.map_some, add_at, hm] at h3
  exact h3

/-- the first list dropped -/
theorem Drop.done {B0 bk gl ol cl gw ow cw m : Nat} {hd : Int} {v0 cv0 c1 : Value} {p0 p1 : Value × List Int} {r : List (Value × List Int)} {cr : List Value} {w u : World}
    (h : Drop B0 bk (.slice (some ⟨gl, ol, none⟩) (m + 1) cl) (.slice (some ⟨gw, ow, none⟩) (m + 1) cw) hd (v0 :: (p1 :: r).map (·.1)) (cv0 :: c1 :: cr) (p0 :: p1 :: r) w u)
    (h1 : (p1 :: r).length = m) (h2 : (c1 :: cr).length = m) (h3 : m + 1 ≤ cl) (h4 : m + 1 ≤ cw) (X : Int) :
    BookAt (((u.setCell ⟨bk, 2, none⟩ (.int .i64 X)).setCell ⟨bk, 0, none⟩ (.slice (some ⟨gl, ol + 1, none⟩) m (cl - 1))).setCell ⟨bk, 1, none⟩ (.slice (some ⟨gw, ow + 1, none⟩) m (cw - 1))) B0 bk (p1 :: r) ∧
    Moves B0 w (((u.setCell ⟨bk, 2, none⟩ (.int .i64 X)).setCell ⟨bk, 0, none⟩ (.slice (some ⟨gl, ol + 1, none⟩) m (cl - 1))).setCell ⟨bk, 1, none⟩ (.slice (some ⟨gw, ow + 1, none⟩) m (cw - 1))) := by
  obtain ⟨s1, e1, m1⟩ := h
  have s2 := s1.set2 X
  have s3 := s2.tail_l (r := r.map (·.1)) (by rw [List.length_map]; simpa using h1) h3
  have s4 := s3.tail_w (r := cr) (by simpa using h2) h4
  have m2 := (s1.put 2 (.int .i64 X)).2.2.2
  have m3 := (s2.put 0 (.slice (some ⟨gl, ol + 1, none⟩) m (cl - 1))).2.2.2
  have m4 := (s3.put 1 (.slice (some ⟨gw, ow + 1, none⟩) m (cw - 1))).2.2.2
  have mm := (m2.trans m3).trans m4
  obtain ⟨v, xs⟩ := p0
  exact ⟨⟨_, _, X, _, s4, (e1.2.2.2).moves mm⟩, m1.trans mm⟩
theorem BookAt.drew {w : World} {B0 bk : Nat} {es : List (Value × List Int)} (h : BookAt w B0 bk es) : BookAt w.drew B0 bk es := by
  obtain ⟨lv, wv, hd, cs, h1, h2⟩ := h
  exact ⟨lv, wv, hd, cs, h1.drew, h2.moves (Moves.refl _ _).drew⟩

/-- what Keep leaves: of all that was kept, the list handed in with it, the last ones -/
def Kept (w : World) (B0 bk : Nat) (all : List (Value × List Int)) (e : Ending) (w' : World) : Prop :=
  e = .returned (.tuple #[]) ∧ Moves B0 w w' ∧ ∃ k, k < all.length ∧ BookAt w' B0 bk (all.drop k) ∧ (all.drop k).length ≤ 4000

set_option maxRecDepth 100000 in
set_option maxHeartbeats 4000000 in
theorem keep_any (w : World) (B0 bk : Nat) (es : List (Value × List Int)) (A : Option Addr) (c : Nat) (xs : List Int) (h : BookAt w B0 bk es) (hl : es.length ≤ 4000) (hB : B0 ≤ w.heap.size)
    (hv : Own w B0 3 (.slice A xs.length c) xs.length (intsV xs)) (hd : ∀ p ∈ es, ∀ g, p.1.ownBlock = some g → (Value.slice A xs.length c).ownBlock ≠ some g) (hs : xs.length * 8 ≤ 140737488355328) :
    Calls Try.prog 25 #[.pointer (some ⟨bk, 0, none⟩), .slice A xs.length c] w (Kept w B0 bk (es ++ [(.slice A xs.length c, xs)])) := by
  obtain ⟨lv, wv, held, cs, hst, hen⟩ := h
  obtain ⟨n, hn⟩ : ∃ n, es.length = n := ⟨_, rfl⟩
  obtain ⟨ls, hls⟩ : ∃ ls, es.map (·.1) = ls := ⟨_, rfl⟩
  have hln : ls.length = n := by rw [← hls, List.length_map]; exact hn
  rw [hls] at hst
  rw [hn] at hl
  obtain ⟨Al, cl, rfl, hcl, hclm, hrl⟩ := hst.2.2.1.read
  rw [hln] at hst hcl
  have c0 := hst.c0
  have HST := Lib.hid hst
  have HEN := Lib.hid hen
  have HV := Lib.hid hv
  have HD := Lib.hid hd
  have HLS := Lib.hid hls
  have HLN := Lib.hid hln
  have HT : Hid (Tail (w.alloc (Obj.cells #[Value.slice A xs.length c] 30)) B0 30 (.slice Al n cl) ls) := (hst.alloc _).2.2.1
  clear hst hen hv hd hrl hls hln hn
  go_enter Try.func25, Try.ntmps25
  go_upto_region 1 with (at_builtin; refine wpList_append_tail (o := ⟨some 11, _, _, _, _, _⟩) rfl (.tmp 8) (.tmp 10) Try.underlying47 infoSlice rfl rfl HT.out rfl (u := .slice A xs.length c) (by go_simp) rfl rfl (by rw [HLN.out]; unfold maxLen; omega) (by rw [HLN.out]; omega) (by simp; omega) ?_; intro v1 w1 HV1 HG1 HA1 _; obtain ⟨A1, c1, rfl, hc1, hcm1⟩ := tail_form HV1.out (snoc_len HLN.out); obtain ⟨q0, q1, hst2, hmv2⟩ := (HST.out.alloc _).push_l (by simp; omega) HV1.out HG1.out HA1.out; have HST2 := Lib.hid hst2; have HMV2 := Lib.hid hmv2; clear hst2 hmv2 HG1 HA1 HV1 HT)
  have hB2 : B0 ≤ (w1.setCell ⟨bk, 0, none⟩ (.slice A1 (n + 1) c1)).heap.size := by have := HMV2.out.1.size; simp only [World.size_alloc] at this; omega
  have HV2 : Hid (Own (w1.setCell ⟨bk, 0, none⟩ (.slice A1 (n + 1) c1)) B0 3 (.slice A xs.length c) xs.length (intsV xs)) := Own.moves (HV.out.alloc _) HMV2.out
  have HMW : Hid (Moves B0 w (w1.setCell ⟨bk, 0, none⟩ (.slice A1 (n + 1) c1))) := Moves.trans (Moves.of_below ((Below.refl _ _).alloc (Nat.le_refl _) _) hB) HMV2.out
  clear q0 q1 HMV2 c0
  generalize w1.setCell ⟨bk, 0, none⟩ (.slice A1 (n + 1) c1) = w2 at *
  have hcsn : cs.length = n := by rw [HEN.out.len, ← HLN.out, ← HLS.out, List.length_map]
  obtain ⟨Aw, cw, rfl, hcw, hcwm⟩ := tail_form HST2.out.2.2.2.1 hcsn
  have HCN := Lib.hid hcsn
  clear hcsn
  have k2 := HST2.out.c1
  have f2 := HST2.out.free 1
  have HRX : Hid (Reads w2.drew w2.heap.size A xs.length (intsV xs)) := by
    obtain ⟨A', c', e', _, hr⟩ := HV2.out.read
    injection e' with e1
    subst e1
    exact hr
  go_cut [] (fun wx => ∃ cv wv', Hid (St wx B0 bk (.slice A1 (n + 1) c1) wv' held false (ls ++ [.slice A xs.length c]) (cs ++ [cv])) ∧ Hid (Own wx B0 3 cv xs.length (intsV xs)) ∧ Hid (Moves B0 w wx))
  case first =>
    go_region_law (first
      | (refine step_append_copy (by rfl) _ _ Try.underlying30 infoInt rfl (by rfl) (by rfl) HRX.out (by rfl) (intsV_one xs) (by unfold maxLen; omega) (by omega) ?_; intro cv w3 HCV HB3 _; obtain ⟨Ac, cc, rfl, hcc, _⟩ := HCV.out.read; have HST3 := Lib.hid (HST2.out.drew.keep HB3.out); have k3 := HST3.out.c1; have f3 := HST3.out.free 1; have k3' := (HST3.out.alloc (Obj.cells #[.slice Ac xs.length cc] 30)).c1; have hs3 := HB3.out.size)
      | (refine step_append_tail (by rfl) _ _ Try.underlying47 infoSlice rfl (by rfl) ((HST3.out.alloc _).2.2.2.1) (by rfl) (ad := ⟨w3.heap.size, 0, none⟩) (u := .slice Ac xs.length cc) (by go_simp) (by rfl) rfl (by rw [HCN.out]; unfold maxLen; omega) (by rw [HCN.out]; omega) (by simp at hs3 ⊢; omega) ?_; intro v4 w4 HV4 HG4 HA4 _; obtain ⟨A4, c4, rfl, hc4, hcm4⟩ := tail_form HV4.out (snoc_len HCN.out); obtain ⟨q4, r4, hst4, hmv4⟩ := (HST3.out.alloc _).push_w (by simp at hs3 ⊢; omega) HV4.out HG4.out HA4.out; have HST4 := Lib.hid hst4; have HMV4 := Lib.hid hmv4; clear hst4 hmv4))
    all_goals
      go_wp2_with fail
      go_meet
      have HM3 : Moves B0 w (w3.alloc (Obj.cells #[.slice Ac xs.length cc] 30)) := (HMW.out.drew.trans ((Moves.of_below (w := w2.drew) HB3.out hB2))).alloc (by simp at hs3; omega) _
      exact ⟨.slice Ac xs.length cc, .slice A4 (n + 1) c4, HST4, Own.moves ((HCV.out.lower (by simpa using hB2)).alloc _) HMV4.out, HM3.trans HMV4.out⟩
  case rest =>
    obtain ⟨cv, wv', HST5, HCV5, HMW5⟩ := hcut
    have HEN5 : Hid (Ents wc B0 (es ++ [(.slice A xs.length c, xs)]) (cs ++ [cv])) := (HEN.out.moves HMW5.out).snoc (Own.moves HV.out HMW5.out) HCV5.out HD.out
    have HMAP : Hid ((es ++ [(Value.slice A xs.length c, xs)]).map (·.1) = ls ++ [.slice A xs.length c]) := by rw [List.map_append, HLS.out]; rfl
    have HALL : Hid ((es ++ [(Value.slice A xs.length c, xs)]).length = n + 1) := snoc_len (by rw [← HLN.out, ← HLS.out, List.length_map])
    have k5 := HST5.out.c2
    have f5 := HST5.out.free 2
    clear k2 f2 HRX HST HST2 HV2 HMW HEN HV HCV5 HLS HD
    generalize es ++ [(Value.slice A xs.length c, xs)] = all at *
    have HS6 : Hid (BookAt (wc.setCell ⟨bk, 2, none⟩ (.int .i64 (wrap64 (wrap64 (held + (c : Int)) + 1)))) B0 bk all) := ⟨_, _, _, _, by rw [HMAP.out]; exact HST5.out.set2 _, HEN5.out.moves (HST5.out.put 2 _).2.2.2⟩
    have HM6 : Hid (Moves B0 w (wc.setCell ⟨bk, 2, none⟩ (.int .i64 (wrap64 (wrap64 (held + (c : Int)) + 1))))) := HMW5.out.trans (HST5.out.put 2 _).2.2.2
    go_wp2_with fail
    clear k5 f5 HST5 HMW5 HEN5 HMAP HCN
    go_loopg [] (n + 1) (fun g wr => ∃ k, g = n + 1 - k ∧ k ≤ n ∧ Hid (BookAt wr B0 bk (all.drop k)) ∧ Hid (Moves B0 w wr))
    case atStart => exact ⟨0, rfl, by omega, HS6, HM6⟩
    case round =>
      clear HS6 HM6
      obtain ⟨k, rfl, hk, HBK, HMW⟩ := hrel
      obtain ⟨m, hm⟩ : ∃ m, n - k = m := ⟨_, rfl⟩
      have hlen : (all.drop k).length = m + 1 := by rw [List.length_drop, HALL.out]; omega
      obtain ⟨v0, xs0, rest, cv0, crest, hd, gl, ol, cl, gw, ow, cw, hdr, hrl, hcrl, hst, hen, hq1, hq2, hq3, hq4, hcells⟩ := HBK.out.open_ hlen
      have HDR := Lib.hid hdr
      rw [hdr] at hen
      have HRL := Lib.hid hrl
      have HCRL := Lib.hid hcrl
      have HST := Lib.hid hst
      have HEN := Lib.hid hen
      have HCELLS := Lib.hid hcells
      have HM := Lib.hid hm
      have hmn : m ≤ n := by omega
      obtain ⟨y0, y1⟩ := hcells wr _ _ hst
      have k0 := hst.c0
      have k1 := hst.c1
      have k2 := hst.c2
      have k3 := hst.c3
      have f0 := hst.free 0
      have f1 := hst.free 1
      have f2 := hst.free 2
      have f3 := hst.free 3
      clear hdr hrl hcrl hst hen hcells hlen hm
      by_cases hgo : 1 ≤ m ∧ (1000000 < hd ∨ 4000 < m + 1)
      · obtain ⟨hm1, hor⟩ := hgo
        obtain ⟨p1, r, hr1⟩ : ∃ p1 r, rest = p1 :: r := by
          match rest, HRL.out with
          | [], h => simp at h; omega
          | p1 :: r, _ => exact ⟨p1, r, rfl⟩
        subst hr1
        obtain ⟨c1', cr, hcr1⟩ : ∃ c1' cr, crest = c1' :: cr := by
          match crest, HCRL.out with
          | [], h => simp at h; omega
          | c1' :: cr, _ => exact ⟨c1', cr, rfl⟩
        subst hcr1
        obtain ⟨A0, c0, hv0, hc0, hr0⟩ := HEN.out.1.read
        subst hv0
        obtain ⟨C0, d0, hw0, hd0, hs0⟩ := HEN.out.2.1.read
        subst hw0
        obtain ⟨n0, hn0⟩ : ∃ n0, xs0.length = n0 := ⟨_, rfl⟩
        clear hr0 hs0
        have HN0 := Lib.hid hn0
        rw [hn0] at HST HEN HCELLS HDR y0 y1 hc0 hd0
        clear hn0
        have HDROP : Hid (Drop B0 bk (.slice (some ⟨gl, ol, none⟩) (m + 1) cl) (.slice (some ⟨gw, ow, none⟩) (m + 1) cw) hd (.slice A0 n0 c0 :: (p1 :: r).map (·.1)) (.slice C0 n0 d0 :: c1' :: cr) ((.slice A0 n0 c0, xs0) :: p1 :: r) w wr) := ⟨HST.out, HEN.out, HMW.out⟩
        have L1 : ∀ u, Drop B0 bk (.slice (some ⟨gl, ol, none⟩) (m + 1) cl) (.slice (some ⟨gw, ow, none⟩) (m + 1) cw) hd (.slice A0 n0 c0 :: (p1 :: r).map (·.1)) (.slice C0 n0 d0 :: c1' :: cr) ((.slice A0 n0 c0, xs0) :: p1 :: r) w u →
            Ints u u.heap.size A0 n0 xs0 ∧ Ints u u.heap.size C0 n0 xs0 := by
          intro u hu
          obtain ⟨o1, o2, _⟩ := hu.2.1
          obtain ⟨A', c', e', _, h1⟩ := o1.read
          obtain ⟨C', d', e2', _, h2⟩ := o2.read
          rw [HN0.out] at e' e2' h1 h2
          injection e' with e'
          injection e2' with e2'
          subst e'
          subst e2'
          exact ⟨h1, h2⟩
        have L2 : ∀ u, Drop B0 bk (.slice (some ⟨gl, ol, none⟩) (m + 1) cl) (.slice (some ⟨gw, ow, none⟩) (m + 1) cw) hd (.slice A0 n0 c0 :: (p1 :: r).map (·.1)) (.slice C0 n0 d0 :: c1' :: cr) ((.slice A0 n0 c0, xs0) :: p1 :: r) w u →
            u.cell? ⟨bk, 0, none⟩ = some (.slice (some ⟨gl, ol, none⟩) (m + 1) cl) ∧ u.cell? ⟨bk, 1, none⟩ = some (.slice (some ⟨gw, ow, none⟩) (m + 1) cw) ∧ u.cell? ⟨bk, 3, none⟩ = some (.bool false) ∧ u.frozen? ⟨bk, 3, none⟩ = false ∧
              u.cell? ⟨gl, ol, none⟩ = some (.slice A0 n0 c0) ∧ u.cell? ⟨gw, ow, none⟩ = some (.slice C0 n0 d0) ∧ Drop B0 bk (.slice (some ⟨gl, ol, none⟩) (m + 1) cl) (.slice (some ⟨gw, ow, none⟩) (m + 1) cw) hd (.slice A0 n0 c0 :: (p1 :: r).map (·.1)) (.slice C0 n0 d0 :: c1' :: cr) ((.slice A0 n0 c0, xs0) :: p1 :: r) w u := by
          intro u hu
          obtain ⟨z0, z1⟩ := HCELLS.out u _ _ hu.1
          exact ⟨hu.1.c0, hu.1.c1, hu.1.c3, hu.1.free 3, z0, z1, hu⟩
        have HL1 := Lib.hid L1
        have HL2 := Lib.hid L2
        clear L1 L2
        by_cases hbig : 1000000 < hd
        all_goals
          try (have h4 : 4000 < m + 1 := by omega)
          clear hor
          go_upto_region 4 with fail
          go_cut [] (fun wx => Hid (Drop B0 bk (.slice (some ⟨gl, ol, none⟩) (m + 1) cl) (.slice (some ⟨gw, ow, none⟩) (m + 1) cw) hd (.slice A0 n0 c0 :: (p1 :: r).map (·.1)) (.slice C0 n0 d0 :: c1' :: cr) ((.slice A0 n0 c0, xs0) :: p1 :: r) w wx))
          case first =>
            go_region_held3 (fun u => u.cell? ⟨bk, 0, none⟩ = some (.slice (some ⟨gl, ol, none⟩) (m + 1) cl) ∧ u.cell? ⟨bk, 1, none⟩ = some (.slice (some ⟨gw, ow, none⟩) (m + 1) cw) ∧ u.cell? ⟨bk, 3, none⟩ = some (.bool false) ∧ u.frozen? ⟨bk, 3, none⟩ = false ∧
              u.cell? ⟨gl, ol, none⟩ = some (.slice A0 n0 c0) ∧ u.cell? ⟨gw, ow, none⟩ = some (.slice C0 n0 d0) ∧ Drop B0 bk (.slice (some ⟨gl, ol, none⟩) (m + 1) cl) (.slice (some ⟨gw, ow, none⟩) (m + 1) cw) hd (.slice A0 n0 c0 :: (p1 :: r).map (·.1)) (.slice C0 n0 d0 :: c1' :: cr) ((.slice A0 n0 c0, xs0) :: p1 :: r) w u)
              (first
                | exact HL2.out _ HDROP.out.drew
                | exact HL2.out _ (HDROP.out.drewN _)
                | exact HL2.out _ (HDROP.out.drewN _).put3
                | exact HL2.out _ (HDROP.out.put3.drewN _)
                | exact HL2.out _ HDROP.out.put3.drew)
              (first
                | (go_at_call 23; (with_reducible refine (same_yes A0 C0 n0 c0 n0 d0 xs0 _ _ _ (HL1.out _ (by first | assumption | exact HDROP.out.drew)).1 (HL1.out _ (by first | assumption | exact HDROP.out.drew)).2).mono ?_); rintro e w' ⟨rfl, d, rfl⟩))
            all_goals
              go_wp2_with fail
              go_meet
              first | exact HDROP.out.put3.drew | exact (HDROP.out.drewN _).put3 | exact HDROP.out.put3.drewN _
          case rest =>
            have HDZ := HL2.out _ hcut.out
            obtain ⟨z0, z1, z3, zf, zl, zw, zd⟩ := HDZ
            have z2 := zd.1.c2
            have zf0 := zd.1.free 0
            have zf1 := zd.1.free 1
            have zf2 := zd.1.free 2
            have HDONE := Lib.hid (zd.done HRL.out HCRL.out hq1 hq3)
            have HNEXT : Hid (all.drop (k + 1) = p1 :: r) := by rw [← List.drop_drop, HDR.out]; rfl
            have hne1 : ¬ cl = 1 := by omega
            have hne2 : ¬ cw = 1 := by omega
            have hi0 : (0 : Int) < (m : Int) + 1 := by omega
            have hi1 : (1 : Int) ≤ (m : Int) + 1 := by omega
            clear zd k0 k1 k2 k3 f0 f1 f2 f3 y0 y1 HDROP HL1 HL2
            go_wp2_with fail
            go_region
            go_wp2_with fail
            go_roundg (n + 1 - (k + 1))
            case measure => omega
            case rel => exact ⟨k + 1, rfl, by have := HM.out; omega, by rw [HNEXT.out]; exact (HDONE.out _).1.drew, (HDONE.out _).2.drew⟩
      · have HE : Hid (Kept w B0 bk all (.returned (.tuple #[])) wr) := by
          refine ⟨rfl, HMW.out, k, by rw [HALL.out]; omega, HBK.out, ?_⟩
          rw [HDR.out, List.length_cons, HRL.out]
          omega
        by_cases hm1 : 1 ≤ m
        · have h1 : ¬ 1000000 < hd := by omega
          have h2 : ¬ 4000 < m + 1 := by omega
          clear hgo
          go_wp2
          go_end0
          exact HE.out
        · clear hgo
          go_wp2
          go_end0
          exact HE.out

#print axioms keep_any
end Go.Proofs.Ytkgdaelaidlhlaa.IBook
