/-
  WordsCrt, CertNew: one text.
-/
import Derived.Test.YtkpnmpjnpcjohaaGreatWords
import Derived.Test.YtkpnmpjnpcjohaaGreatPlanSmalls
namespace Go.Proofs.YtkpnmpjnpcjohaaGreat.Rec
open Go.ChangeShapes Go.WideShapes Go.ChangeAt Go.RowKit Mem FleetMath
structure CM where
  vs : List Vis
  a : Option Addr
  n : Nat
  c : Nat
abbrev CM.v (r : CM) : Value := .slice r.a r.n r.c
abbrev cmL (r : CM) : List Value := [r.v]
def cmsV (l : List CM) : List Value := l.flatMap cmL
theorem cmsV_len (l : List CM) : (cmsV l).length = l.length * 1 := by
  induction l with
  | nil => rfl
  | cons x r ih => simp only [cmsV, List.flatMap_cons, List.length_append, List.length_cons, List.length_nil] at ih ⊢; omega
theorem cmsV_append (l m : List CM) : cmsV (l ++ m) = cmsV l ++ cmsV m := by simp [cmsV]
theorem cmL_one (r : CM) : ∀ u ∈ cmL r, u.oneCell' = true := by
  intro u hu
  simp only [List.mem_cons, List.not_mem_nil, or_false] at hu
  subst hu
  rfl
theorem cmsV_at {l : List CM} {i : Nat} {x : CM} (h : l[i]? = some x) : (cmsV l)[i * 1 + 0]? = some x.v := by
  induction l generalizing i with
  | nil => cases h
  | cons y r ih =>
    cases i with
    | zero => simp at h; subst h; rfl
    | succ i =>
      have := ih (i := i) (by simpa using h)
      rw [show (i + 1) * 1 + 0 = (i * 1 + 0) + 1 by omega]
      exact this
structure Crts (w : World) (B : Nat) (A : Option Addr) (n : Nat) (l : List CM) : Prop where
  rows : Recs w B A n 1 (cmsV l)
  each : ∀ r ∈ l, Viss w B r.a r.n r.vs ∧ r.n ≤ r.c ∧ r.n * 48 ≤ 140737488351232
section
variable {w w' : World} {B B' n i : Nat} {A : Option Addr} {l : List CM}
theorem Crts.keep (h : Crts w B A n l) (hb : Below B w w') : Crts w' B A n l := ⟨Recs.keep h.rows hb, fun r hr => ⟨Recs.keep (h.each r hr).1 hb, (h.each r hr).2⟩⟩
theorem Crts.length (h : Crts w B A n l) : l.length = n := by have := h.rows.1; rw [cmsV_len] at this; omega
theorem Crts.at_ (h : Crts w B A n l) (hi : i < n) : ∃ b off x, A = some ⟨b, off, none⟩ ∧ b < B ∧ l[i]? = some x ∧ l.drop i = x :: l.drop (i + 1) ∧ w.cell? ⟨b, off + i, none⟩ = some (.slice x.a x.n x.c) ∧ Viss w B x.a x.n x.vs ∧ x.n ≤ x.c ∧ x.n * 48 ≤ 140737488351232 := by
  obtain ⟨b, off, e, hb, hc⟩ := Recs.at_ h.rows hi
  have hlt : i < l.length := by rw [h.length]; exact hi
  have hx := List.getElem?_eq_getElem hlt
  have h0 := hc 0 _ (cmsV_at hx)
  rw [Nat.mul_one, Nat.add_zero] at h0
  exact ⟨b, off, _, e, hb, hx, List.drop_eq_getElem_cons hlt, h0, h.each _ (List.getElem_mem hlt)⟩
theorem Crts.cells {b off : Nat} {x : CM} (h : Crts w B (some ⟨b, off, none⟩) n l) (hx : l[i]? = some x) : b < B ∧ w.cell? ⟨b, off + i, none⟩ = some (.slice x.a x.n x.c) ∧ Viss w B x.a x.n x.vs ∧ x.n ≤ x.c ∧ x.n * 48 ≤ 140737488351232 := by
  have hlt := (List.getElem?_eq_some_iff.1 hx).1
  obtain ⟨b', off', y, e, hb, hy, _, h0, h1⟩ := h.at_ (i := i) (by rw [← h.length]; exact hlt)
  injection e with e
  injection e with e1 e2
  subst e1 e2
  rw [hx] at hy
  injection hy with hy
  subst hy
  exact ⟨hb, h0, h1⟩
end
theorem infoVs : (Tryz.prog.info? 164).map (fun i => (i.zero, i.size, i.bytes)) = some (some (.slice none 0 0), 1, 24) := by kernel_rfl
end Go.Proofs.YtkpnmpjnpcjohaaGreat.Rec

namespace Go.Proofs.YtkpnmpjnpcjohaaGreat.Cert
open Go.ChangeShapes Go.WideShapes Go.ChangeAt Go.RowKit Mem FleetMath PlanMath Rec Plan
set_option linter.unusedVariables false
structure NewC (w0 w : World) (v : Value) (l : List CM) : Prop where
  old : Below w0.heap.size w0 w
  own : OwnK w w0.heap.size 164 1 v l.length (cmsV l)
  each : ∀ r ∈ l, OwnK w w0.heap.size 245 6 r.v r.n (vissV r.vs) ∧ Two r.v v
  apart : l.Pairwise fun a b => Two b.v a.v
section
variable {w0 w w' : World} {v v' u u' : Value} {l : List CM}
theorem NewC.keep (h : NewC w0 w v l) (hb : Below w.heap.size w w') : NewC w0 w' v l :=
  ⟨h.old.trans (hb.mono h.old.size), h.own.keep hb (Nat.le_refl _), fun r hr => ⟨(h.each r hr).1.keep hb (Nat.le_refl _), (h.each r hr).2⟩, h.apart⟩
structure RowC (w0 w : World) (v : Value) (l : List CM) (r : CM) : Prop where
  cert : NewC w0 w v l
  own : OwnK w w0.heap.size 245 6 r.v r.n (vissV r.vs)
  two : Two r.v v
  far : ∀ q ∈ l, Two r.v q.v
theorem NewC.row {r : CM} (h : NewC w0 w v l) (hb : Below w.heap.size w w') (ho : OwnK w' w.heap.size 245 6 r.v r.n (vissV r.vs)) : RowC w0 w' v l r :=
  ⟨h.keep hb, ho.lower h.old.size, (fun g hg hv => by have h1 := (own_blk ho hg).1; have h2 := (own_blk h.own hv).2; omega), fun q hq g hg hv => by have h1 := (own_blk ho hg).1; have h2 := (own_blk (h.each q hq).1 hv).2; omega⟩
theorem RowC.keep {r : CM} (h : RowC w0 w v l r) (hb : Below w.heap.size w w') : RowC w0 w' v l r := ⟨h.cert.keep hb, h.own.keep hb (Nat.le_refl _), h.two, h.far⟩
theorem RowC.push {r : CM} (h : RowC w0 w v l r) (ho : OwnK w' w0.heap.size 164 1 v' (l.length + 1) (cmsV l ++ cmL r)) (hg : w.grownBy w' v.ownBlock)
    (hn : v'.ownBlock = v.ownBlock ∨ v'.ownBlock = some w.heap.size) : NewC w0 w' v' (l ++ [r]) := by
  refine ⟨h.cert.own.below h.cert.old hg h.cert.old.size (Nat.le_refl _), ?_, fun q hq => ?_, List.pairwise_append.2 ⟨h.cert.apart, List.pairwise_singleton _ _, fun a ha b hb => by
    obtain rfl : b = r := by simpa using hb
    exact h.far a ha⟩⟩
  · rw [List.length_append, cmsV_append]
    have e : cmsV [r] = cmL r := by simp [cmsV]
    rw [e]
    exact ho
  · rcases List.mem_append.1 hq with hq | hq
    · obtain ⟨h1, h2⟩ := h.cert.each q hq
      exact ⟨h1.other hg fun g hv hu => h2 g hv hu, h2.grown h1 hn⟩
    · obtain rfl : q = r := by simpa using hq
      exact ⟨h.own.other hg fun g hv hu => h.two g hv hu, h.two.grown h.own hn⟩
end
end Go.Proofs.YtkpnmpjnpcjohaaGreat.Cert
