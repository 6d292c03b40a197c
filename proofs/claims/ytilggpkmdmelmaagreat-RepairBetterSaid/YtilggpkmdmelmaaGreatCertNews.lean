/-
  WordsCrt, CertNew: one text.
-/
import Derived.Test.YtilggpkmdmelmaaGreatWords
import Derived.Test.YtilggpkmdmelmaaGreatPlanSmalls
namespace Go.Proofs.YtilggpkmdmelmaaGreat.Rec
open Go.ChangeShapes Go.WideShapes Go.ChangeAt Go.RowKit Go.Proofs.YtilggpkmdmelmaaGreat.Mem Go.Proofs.YtilggpkmdmelmaaGreat.FleetMath
structure CM where
  vs : List Vis
  a : Option Addr
  n : Nat
  c : Nat
abbrev CM.v (r : CM) : Value := .slice r.a r.n r.c
abbrev cmL (r : CM) : List Value := [r.v]
def cmsV (l : List CM) : List Value := l.flatMap cmL
theorem cmsV_len (l : List CM) : (cmsV l).length = l.length * 1 := by
  induction l with
  | nil => rfl
  | cons x r ih => simp only [cmsV, List.flatMap_cons, List.length_append, List.length_cons, List.length_nil] at ih ⊢; omega
theorem cmsV_append (l m : List CM) : cmsV (l ++ m) = cmsV l ++ cmsV m := by simp [cmsV]
theorem cmL_one (r : CM) : ∀ u ∈ cmL r, u.oneCell' = true := by
  intro u hu
  simp only [List.mem_cons, List.not_mem_nil, or_false] at hu
  subst hu
  rfl
theorem cmsV_at {l : List CM} {i : Nat} {x : CM} (h : l[i]? = some x) : (cmsV l)[i * 1 + 0]? = some x.v := by
  induction l generalizing i with
  | nil => cases h
  | cons y r ih =>
    cases i with
    | zero => simp at h; subst h; rfl
    | succ i =>
      have := ih (i := i) (by simpa using h)
      rw [show (i + 1) * 1 + 0 = (i * 1 + 0) + 1 by omega]
      exact this
structure Crts (w : World) (B : Nat) (A : Option Addr) (n : Nat) (l : List CM) : Prop where
  rows : Recs w B A n 1 (cmsV l)
  each : ∀ r ∈ l, Viss w B r.a r.n r.vs ∧ r.n ≤ r.c ∧ r.n * 48 ≤ 140737488351232
section
variable {w w' : World} {B B' n i : Nat} {A : Option Addr} {l : List CM}
theorem Crts.keep (h : Crts w B A n l) (hb : Below B w w') : Crts w' B A n l := ⟨Recs.keep h.rows hb, fun r hr => ⟨Recs.keep (h.each r hr).1 hb, (h.each r hr).2⟩⟩
theorem Crts.more (h : Crts w B A n l) (hB : B ≤ B') : Crts w B' A n l := ⟨Recs.more h.rows hB, fun r hr => ⟨Recs.more (h.each r hr).1 hB, (h.each r hr).2⟩⟩
theorem Crts.length (h : Crts w B A n l) : l.length = n := by have := h.rows.1; rw [cmsV_len] at this; omega
theorem Crts.at_ (h : Crts w B A n l) (hi : i < n) : ∃ b off x, A = some ⟨b, off, none⟩ ∧ b < B ∧ l[i]? = some x ∧ l.drop i = x :: l.drop (i + 1) ∧ w.cell? ⟨b, off + i, none⟩ = some (.slice x.a x.n x.c) ∧ Viss w B x.a x.n x.vs ∧ x.n ≤ x.c ∧ x.n * 48 ≤ 140737488351232 := by
  obtain ⟨b, off, e, hb, hc⟩ := Recs.at_ h.rows hi
  have hlt : i < l.length := by rw [h.length]; exact hi
  have hx := List.getElem?_eq_getElem hlt
  have h0 := hc 0 _ (cmsV_at hx)
  rw [Nat.mul_one, Nat.add_zero] at h0
  exact ⟨b, off, _, e, hb, hx, List.drop_eq_getElem_cons hlt, h0, h.each _ (List.getElem_mem hlt)⟩
theorem Crts.cells {b off : Nat} {x : CM} (h : Crts w B (some ⟨b, off, none⟩) n l) (hx : l[i]? = some x) : b < B ∧ w.cell? ⟨b, off + i, none⟩ = some (.slice x.a x.n x.c) ∧ Viss w B x.a x.n x.vs ∧ x.n ≤ x.c ∧ x.n * 48 ≤ 140737488351232 := by
  have hlt := (List.getElem?_eq_some_iff.1 hx).1
  obtain ⟨b', off', y, e, hb, hy, _, h0, h1⟩ := h.at_ (i := i) (by rw [← h.length]; exact hlt)
  injection e with e
  injection e with e1 e2
  subst e1 e2
  rw [hx] at hy
  injection hy with hy
  subst hy
  exact ⟨hb, h0, h1⟩
end
theorem infoVs : (Tryz.prog.info? 92).map (fun i => (i.zero, i.size, i.bytes)) = some (some (.slice none 0 0), 1, 24) := by kernel_rfl
end Go.Proofs.YtilggpkmdmelmaaGreat.Rec

namespace Go.Proofs.YtilggpkmdmelmaaGreat.Cert
open Go.ChangeShapes Go.WideShapes Go.ChangeAt Go.RowKit Go.Proofs.YtilggpkmdmelmaaGreat.Mem Go.Proofs.YtilggpkmdmelmaaGreat.FleetMath Go.Proofs.YtilggpkmdmelmaaGreat.PlanMath Go.Proofs.YtilggpkmdmelmaaGreat.Rec Go.Proofs.YtilggpkmdmelmaaGreat.Plan
set_option linter.unusedVariables false
structure NewC (w0 w : World) (v : Value) (l : List CM) : Prop where
  old : Below w0.heap.size w0 w
  own : OwnK w w0.heap.size 92 1 v l.length (cmsV l)
  each : ∀ r ∈ l, OwnK w w0.heap.size 102 6 r.v r.n (vissV r.vs) ∧ Two r.v v
  apart : l.Pairwise fun a b => Two b.v a.v
section
variable {w0 w w' : World} {v v' u u' : Value} {l : List CM}
theorem NewC.nil (w0 : World) : NewC w0 w0 (.slice none 0 0) [] := ⟨Below.refl _ _, OwnK.nil _ _ _ _, (fun r h => by cases h), List.Pairwise.nil⟩
theorem NewC.keep (h : NewC w0 w v l) (hb : Below w.heap.size w w') : NewC w0 w' v l :=
  ⟨h.old.trans (hb.mono h.old.size), h.own.keep hb (Nat.le_refl _), fun r hr => ⟨(h.each r hr).1.keep hb (Nat.le_refl _), (h.each r hr).2⟩, h.apart⟩
structure RowC (w0 w : World) (v : Value) (l : List CM) (r : CM) : Prop where
  cert : NewC w0 w v l
  own : OwnK w w0.heap.size 102 6 r.v r.n (vissV r.vs)
  two : Two r.v v
  far : ∀ q ∈ l, Two r.v q.v
theorem NewC.row {r : CM} (h : NewC w0 w v l) (hb : Below w.heap.size w w') (ho : OwnK w' w.heap.size 102 6 r.v r.n (vissV r.vs)) : RowC w0 w' v l r :=
  ⟨h.keep hb, ho.lower h.old.size, (fun g hg hv => by have h1 := (own_blk ho hg).1; have h2 := (own_blk h.own hv).2; omega), fun q hq g hg hv => by have h1 := (own_blk ho hg).1; have h2 := (own_blk (h.each q hq).1 hv).2; omega⟩
theorem RowC.keep {r : CM} (h : RowC w0 w v l r) (hb : Below w.heap.size w w') : RowC w0 w' v l r := ⟨h.cert.keep hb, h.own.keep hb (Nat.le_refl _), h.two, h.far⟩
theorem RowC.push {r : CM} (h : RowC w0 w v l r) (ho : OwnK w' w0.heap.size 92 1 v' (l.length + 1) (cmsV l ++ cmL r)) (hg : w.grownBy w' v.ownBlock)
    (hn : v'.ownBlock = v.ownBlock ∨ v'.ownBlock = some w.heap.size) : NewC w0 w' v' (l ++ [r]) := by
  refine ⟨h.cert.own.below h.cert.old hg h.cert.old.size (Nat.le_refl _), ?_, fun q hq => ?_, List.pairwise_append.2 ⟨h.cert.apart, List.pairwise_singleton _ _, fun a ha b hb => by
    obtain rfl : b = r := by simpa using hb
    exact h.far a ha⟩⟩
  · rw [List.length_append, cmsV_append]
    have e : cmsV [r] = cmL r := by simp [cmsV]
    rw [e]
    exact ho
  · rcases List.mem_append.1 hq with hq | hq
    · obtain ⟨h1, h2⟩ := h.cert.each q hq
      exact ⟨h1.other hg fun g hv hu => h2 g hv hu, h2.grown h1 hn⟩
    · obtain rfl : q = r := by simpa using hq
      exact ⟨h.own.other hg fun g hv hu => h.two g hv hu, h.two.grown h.own hn⟩
theorem own_turn {base n g cap k j : Nat} {e : TypeId} {vs : List Value} (h : OwnK w base e k (.slice (some ⟨g, 0, none⟩) n cap) n vs) (hj : j < n * k) :
    (∃ u, vs[j]? = some u ∧ w.cell? ⟨g, j, none⟩ = some u) ∧ w.frozen? ⟨g, j, none⟩ = false ∧ base ≤ g ∧ ∀ x, OwnK (w.setCell ⟨g, j, none⟩ x) base e k (.slice (some ⟨g, 0, none⟩) n cap) n (vs.set j x) := by
  obtain ⟨⟨hl, h⟩, hm⟩ := h
  rcases h with ⟨h, _⟩ | ⟨g', cap', cur, h, hg, hh, hnc, hcm, hcs, htk⟩
  · cases h
  · injection h with h1 h2 h3
    injection h1 with h1
    injection h1 with h1
    subst h1
    subst h3
    obtain ⟨u, hx⟩ : ∃ u, vs[j]? = some u := ⟨_, List.getElem?_eq_getElem (by omega)⟩
    refine ⟨⟨u, hx, ?_⟩, by simp [World.frozen?, hh], hg, fun x => ⟨⟨?_, .inr ⟨g, cap, cur.setIfInBounds j x, rfl, hg, ?_, hnc, hcm, ?_, ?_⟩⟩, hm⟩⟩
    · rw [cell_of_row w g j cur e (0, 0) hh]
      have hx' := hx
      rw [← htk, List.getElem?_take, if_pos hj] at hx'
      simpa using hx'
    · rw [List.length_set]; exact hl
    · simp [World.setCell, Array.getElem?_modify, hh]
    · simpa using hcs
    · rw [← htk, Array.toList_setIfInBounds, List.take_set]
theorem own_else {base n g k j : Nat} {e : TypeId} {vs : List Value} {x : Value} (h : OwnK w base e k v n vs) (hn : v.ownBlock ≠ some g) : OwnK (w.setCell ⟨g, j, none⟩ x) base e k v n vs := by
  rcases h.1.2 with ⟨e1, e2⟩ | ⟨b, cap, cur, e1, hb, hh, hr⟩
  · exact ⟨⟨h.1.1, .inl ⟨e1, e2⟩⟩, h.2⟩
  · refine ⟨⟨h.1.1, .inr ⟨b, cap, cur, e1, hb, ?_, hr⟩⟩, h.2⟩
    rw [Below.heap_setCell w _ _ b (by
      rw [e1] at hn
      intro hbg
      have hbg' : b = g := hbg
      exact hn (by rw [hbg']; rfl))]
    exact hh
theorem cm_v (r : CM) : r.v = .slice r.a r.n r.c := rfl
theorem NewC.turn {i j g : Nat} {r : CM} {vs : List Vis} {x : Value} (h : NewC w0 w v l) (hi : l[i]? = some r) (ha : r.a = some ⟨g, 0, none⟩) (hj : j < r.n * 6) (hvs : (vissV r.vs).set j x = vissV vs) :
    (∃ u, w.cell? ⟨g, j, none⟩ = some u) ∧ w.frozen? ⟨g, j, none⟩ = false ∧ w0.heap.size ≤ g ∧ NewC w0 (w.setCell ⟨g, j, none⟩ x) v (l.set i ⟨vs, r.a, r.n, r.c⟩) := by
  have hr := List.mem_of_getElem? hi
  obtain ⟨ho, ht⟩ := h.each r hr
  have ho' := ho
  rw [cm_v, ha] at ho'
  have hblk : r.v.ownBlock = some g := by rw [cm_v, ha]; rfl
  obtain ⟨⟨u, _, hu⟩, hf, hg, hput⟩ := own_turn ho' hj
  have hlen : (l.set i ⟨vs, r.a, r.n, r.c⟩).length = l.length := List.length_set
  have hap : ∀ k q, k ≠ i → l[k]? = some q → q.v.ownBlock ≠ some g := by
    intro k q hk hq hqg
    have hlk := (List.getElem?_eq_some_iff.1 hq)
    have hli := (List.getElem?_eq_some_iff.1 hi)
    obtain ⟨hlk1, hlk2⟩ := hlk
    obtain ⟨hli1, hli2⟩ := hli
    have hp := List.pairwise_iff_getElem.1 h.apart
    rcases Nat.lt_or_gt_of_ne hk with hlt | hgt
    · have := hp k i hlk1 hli1 hlt
      rw [hlk2, hli2] at this
      exact this g hblk hqg
    · have := hp i k hli1 hlk1 hgt
      rw [hlk2, hli2] at this
      exact this g hqg hblk
  refine ⟨⟨u, hu⟩, hf, hg, h.old.setCell hg _, ?_, fun q hq => ?_, ?_⟩
  · rw [hlen]
    have e : cmsV (l.set i ⟨vs, r.a, r.n, r.c⟩) = cmsV l := by
      have hm : ∀ (l : List CM) (i : Nat), l[i]? = some r → cmsV (l.set i ⟨vs, r.a, r.n, r.c⟩) = cmsV l := by
        intro l
        induction l with
        | nil => intro i h; cases h
        | cons y t ih =>
          intro i h
          cases i with
          | zero =>
            simp only [List.getElem?_cons_zero, Option.some.injEq] at h
            subst h
            rfl
          | succ i =>
            have e1 : ∀ t, cmsV (y :: t) = cmL y ++ cmsV t := fun t => by simp [cmsV]
            rw [List.set_cons_succ, e1, e1, ih i (by simpa using h)]
      exact hm l i hi
    rw [e]
    exact own_else h.own fun hv => ht g hblk hv
  · rw [List.mem_iff_getElem?] at hq
    obtain ⟨k, hq⟩ := hq
    by_cases hk : k = i
    · subst hk
      rw [List.getElem?_set_self (List.getElem?_eq_some_iff.1 hi).1] at hq
      injection hq with hq
      subst hq
      have h1 := hput x
      rw [hvs] at h1
      refine ⟨?_, ht⟩
      rw [cm_v]
      simp only [ha]
      exact h1
    · rw [List.getElem?_set_ne (fun e => hk e.symm)] at hq
      obtain ⟨h1, h2⟩ := h.each q (List.mem_of_getElem? hq)
      exact ⟨own_else h1 (hap k q hk hq), h2⟩
  · rw [List.pairwise_iff_getElem]
    intro a b ha' hb' hab
    have hp := List.pairwise_iff_getElem.1 h.apart a b (by rw [hlen] at ha'; exact ha') (by rw [hlen] at hb'; exact hb') hab
    have hv : ∀ k (hk : k < l.length) (hk' : k < (l.set i ⟨vs, r.a, r.n, r.c⟩).length), ((l.set i ⟨vs, r.a, r.n, r.c⟩)[k]).v = (l[k]).v := by
      intro k hk hk'
      rw [List.getElem_set]
      split
      · rename_i e
        subst e
        have := (List.getElem?_eq_some_iff.1 hi).2
        rw [this]
      · rfl
    rw [hv a (by rw [hlen] at ha'; exact ha') ha', hv b (by rw [hlen] at hb'; exact hb') hb']
    exact hp
end
end Go.Proofs.YtilggpkmdmelmaaGreat.Cert
