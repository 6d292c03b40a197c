/-
  Any orders taken out of any plan, which stays; what is answered shares nothing with it: PlanTakes, walked.
-/
import Derived.Test.YtbnhbbjmocclmaaPlanUse
import Derived.Test.YtbnhbbjmocclmaaPlanKSpoil
import Derived.Test.YtbnhbbjmocclmaaPlanRWithout
import Derived.Test.YtbnhbbjmocclmaaBooks
namespace Go.Proofs.Ytbnhbbjmocclmaa.Plan
open Go.ChangeShapes Go.WideShapes Go.ChangeAt Go.RowKit Go.Proofs.Ytbnhbbjmocclmaa.Mem Go.Proofs.Ytbnhbbjmocclmaa.MemI Go.Proofs.Ytbnhbbjmocclmaa.FleetMath Go.Proofs.Ytbnhbbjmocclmaa.PlanMath Go.Proofs.Ytbnhbbjmocclmaa.Rec Go.Proofs.Ytbnhbbjmocclmaa.Frames
set_option linter.unusedVariables false
set_option linter.unusedSimpArgs false

theorem use_rwithout (W u : World) (A : Option Addr) (n c : Nat) (l : List RM) (A2 : Option Addr) (m c2 : Nat) (os : List Int) (p : List Rte) (h : Plns u u.heap.size A n l) (hn : n * 40 ≤ 140737488351232) (ho : Ints u u.heap.size A2 m os) (hu : Below W.heap.size W u) (hp : withoutP (l.map (·.rt)) os = p) :
    Calls Try.prog 27 #[.slice A n c, .slice A2 m c2] u fun e u' => ∃ B k l', e = .returned (.slice B p.length k) ∧ Below u.heap.size u u' ∧ Below W.heap.size W u' ∧ Plns u' u'.heap.size B p.length l' ∧ l'.map (·.rt) = p ∧ l'.length = p.length ∧ NewP u u' (.slice B p.length k) l' := by
  have hl := h.length
  refine (rwithout_any A n c l A2 m c2 os u h hn ho).mono ?_
  rintro e u' ⟨v, l', rfl, hv⟩
  have hr : l'.map (·.rt) = p := by
    rw [hv.rts, List.take_of_length_le (by omega), ← hp]
    unfold withoutP
    rw [List.map_map]
    rfl
  obtain ⟨B, k, l'', rfl, hb, h1, h2, h3, h4⟩ := made_any ⟨l', hv.plan, hr, hv.fits⟩
  exact ⟨B, k, l'', rfl, hb, Below.then hu hb, h1, h2, h3, h4⟩
set_option maxRecDepth 100000 in
set_option maxHeartbeats 4000000 in
theorem planTakes_w (A : Option Addr) (n c : Nat) (l : List RM) (A2 : Option Addr) (m c2 : Nat) (os : List Int) (W : World) (fp : PlnOk W A n c l) (hle : m ≤ c2) (hr : c2 * 8 ≤ 140737488351232) (ho : os.length = m ∧ Ints W W.heap.size A2 m os ∧ ∀ z ∈ os, wfI z) :
    Calls Try.prog 5 #[.slice A n c, .slice A2 m c2] W (fun e w' => e = .returned (.bool true) ∧ Below W.heap.size W w') := by
  have HP := Lib.hid fp.plns
  have hn40 : n * 40 ≤ 140737488351232 := by have := fp.le; have := fp.few; omega
  have hm8 : m * 8 ≤ 140737488351232 := by omega
  have HO := Lib.hid ho.2.1
  have HW2 := Lib.hid ho.2.2
  have HW1 : Hid (∀ r ∈ l, ∀ s ∈ r.rt.stops, (Lit.int .i64 s.ord).wf = true) := fun r hr s hs => (fp.each r hr).ords s hs
  clear fp ho hr hle
  obtain ⟨p, hp⟩ : ∃ p, withoutP (l.map (·.rt)) os = p := ⟨_, rfl⟩
  have HPP := Lib.hid hp
  have hpl : p.length = n := by rw [← hp]; unfold withoutP; rw [List.length_map, List.length_map]; exact HP.out.length
  have HPL := Lib.hid hpl
  clear hp hpl
  go_enter Try.func5, Try.ntmps5
  go_wp2_with fail
  refine (use_copy W _ A n c l (by exact HP.out) hn40 (by exact Below.refl _ _)).mono ?_
  rintro e w1 ⟨B1, k1, l1, rfl, hb1, hw1, hp1, hl1⟩
  have H1 := Lib.hid hw1
  have C1 := Lib.hid hp1
  have E1 := Lib.hid hl1
  clear hb1 hw1 hp1 hl1
  go_wp2_with fail
  refine (MemI.roomy_any A2 m c2 os _ (-2) (by exact (Reads.keep HO.out H1.out).more H1.out.size) hm8).mono ?_
  rintro e w2 ⟨rfl, hb2, hq2⟩
  have H2 := Lib.hid (Below.then H1.out hb2)
  have C2 := Lib.hid (C1.out.next hb2)
  have Q2 := Lib.hid hq2
  have G2 := Lib.hid (room_front hq2 HO.out.length hm8)
  clear hb2 hq2 H1 C1
  go_wp2_with fail
  refine (use_without W _ A n c l _ m (m + 80) os p (by exact (HP.out.keep H2.out).more H2.out.size) hn40 (by exact G2.out) HW1.out HW2.out (by exact H2.out) HPP.out).mono ?_
  rintro e w3 ⟨B3, k3, l3, rfl, hb3, hw3, hp3, hl3, hk3, hn3⟩
  rw [HPL.out] at hp3 hk3 hn3 ⊢
  have H3 := Lib.hid hw3
  have C3 := Lib.hid (C2.out.next hb3)
  have Q3 := Lib.hid (Q2.out.below hb3 Q2.out.lt)
  have P3 := Lib.hid hp3
  have E3 := Lib.hid hl3
  have K3 := Lib.hid hk3
  have N3 := Lib.hid hn3
  have H2k := H2
  have C2k := C2
  clear hb3 hw3 hp3 hl3 hk3 hn3 H2 Q2 G2
  go_wp2_with fail
  refine (use_without W _ A n c l A2 m c2 os p (by exact (HP.out.keep H3.out).more H3.out.size) hn40 (by exact (Reads.keep HO.out H3.out).more H3.out.size) HW1.out HW2.out (by exact H3.out) HPP.out).mono ?_
  rintro e w4 ⟨B4, k4, l4, rfl, hb4, hw4, hp4, hl4, hk4, hn4⟩
  rw [HPL.out] at hp4 hk4 hn4 ⊢
  have H4 := Lib.hid hw4
  have C4 := Lib.hid (C3.out.next hb4)
  have Q4 := Lib.hid (Q3.out.below hb4 Q3.out.lt)
  have P34 := Lib.hid (P3.out.next hb4)
  have L34 := Lib.hid hb4
  have P4 := Lib.hid hp4
  have E4 := Lib.hid hl4
  have K4 := Lib.hid hk4
  have N4 := Lib.hid hn4
  clear hb4 hw4 hp4 hl4 hk4 hn4 H3 C3 Q3 P3
  go_wp2_with fail
  refine (use_rwithout W _ B1 n k1 l1 A2 m c2 os p (by exact C4.out) hn40 (by exact (Reads.keep HO.out H4.out).more H4.out.size) (by exact H4.out) (by rw [E1.out]; exact HPP.out)).mono ?_
  rintro e w5 ⟨B5, k5, l5, rfl, hb5, hw5, hp5, hl5, hk5, hn5⟩
  rw [HPL.out] at hp5 hk5 hn5 ⊢
  have H5 := Lib.hid hw5
  have Q5 := Lib.hid (Q4.out.below hb5 Q4.out.lt)
  have P35 := Lib.hid (P34.out.next hb5)
  have P45 := Lib.hid (P4.out.next hb5)
  have L35 := Lib.hid (Below.then L34.out hb5)
  have L45 := Lib.hid hb5
  have P5 := Lib.hid hp5
  have E5 := Lib.hid hl5
  have K5 := Lib.hid hk5
  have N5 := Lib.hid hn5
  have F4 : Hid (∀ r ∈ l4, r.n * 16 ≤ 140737488351232) := fun r hr => (P4.out.each r hr).2.2
  have F5 : Hid (∀ r ∈ l5, r.n * 16 ≤ 140737488351232) := fun r hr => (hp5.each r hr).2.2
  clear hb5 hw5 hp5 hl5 hk5 hn5 H4 C4 Q4 P34 P4 L34
  go_wp2_with fail
  refine (use_routes W _ B3 B5 n k3 k5 l3 l5 _ _ (by exact P35.out) (by exact P5.out) (by rw [E3.out, E5.out]) (by exact H5.out)).mono ?_
  rintro e w6 ⟨rfl, hb6, hw6⟩
  have H6 := Lib.hid hw6
  have Q6 := Lib.hid (Q5.out.below hb6 Q5.out.lt)
  have P46 := Lib.hid (P45.out.next hb6)
  have P56 := Lib.hid (P5.out.next hb6)
  have L36 := Lib.hid (Below.then L35.out hb6)
  have L46 := Lib.hid (Below.then L45.out hb6)
  have L56 := Lib.hid hb6
  clear hb6 hw6 H5 Q5 P35 P45 P5 L35 L45
  go_wp2_with fail
  refine (use_routes W _ B4 B5 n k4 k5 l4 l5 _ _ (by exact P46.out) (by exact P56.out) (by rw [E4.out, E5.out]) (by exact H6.out)).mono ?_
  rintro e w7 ⟨rfl, hb7, hw7⟩
  have H7 := Lib.hid hw7
  have Q7 := Lib.hid (Q6.out.below hb7 Q6.out.lt)
  have L37 := Lib.hid (Below.then L36.out hb7)
  have L47 := Lib.hid (Below.then L46.out hb7)
  have L57 := Lib.hid (Below.then L56.out hb7)
  clear hb7 hw7 H6 Q6 P46 P56 L36 L46 L56
  go_wp2_with fail
  refine (MemI.intact_yes A2 _ m c2 os _ (-2) _ (by exact Reads.keep HO.out H7.out) hm8 (by exact Q7.out)).mono ?_
  rintro e w8 ⟨rfl, d8, hw8⟩
  have hb8 : Below w7.heap.size w7 w8 := by rw [hw8]; exact below_drewN _ _
  have H8 := Lib.hid (Below.then H7.out hb8)
  have L38 := Lib.hid (Below.then L37.out hb8)
  have L48 := Lib.hid (Below.then L47.out hb8)
  have L58 := Lib.hid (Below.then L57.out hb8)
  clear hb8 hw8 H7 Q7 L37 L47 L57
  go_wp2_with fail
  refine (spoil_any w2 w3 _ B3 n k3 l3 K3.out (by exact N3.out) (by exact L38.out)).mono ?_
  rintro e w9 ⟨rfl, hb9, hs9, hf9⟩
  have H9 := Lib.hid (Below.then H2k.out hb9)
  have C9 := Lib.hid (C2k.out.next hb9)
  have S34 := L48.out.size
  have A4 := N4.out.after (w' := w9) F4.out fun g hg hg2 => (hf9 g (by exact hg)).trans (L48.out.block g hg2)
  have A5 := N5.out.after (w' := w9) F5.out fun g hg hg2 => (hf9 g (Nat.le_trans N4.out.old.size hg)).trans (L58.out.block g hg2)
  rw [K4.out] at A4
  rw [K5.out] at A5
  obtain ⟨A4', c4', e4, hp4⟩ := A4
  obtain ⟨A5', c5', e5, hp5⟩ := A5
  injection e4 with e41 _ e42
  injection e5 with e51 _ e52
  rw [← e41] at hp4
  rw [← e51] at hp5
  have P4' := Lib.hid hp4
  have P5' := Lib.hid hp5
  clear e41 e42 e51 e52 hp4 hp5 hb9 hs9 hf9 S34 H8 L38 L48 L58 N3 N4 N5
  go_wp2_with fail
  refine (use_routes W _ B4 B5 n k4 k5 l4 l5 _ _ (by exact P4'.out) (by exact P5'.out) (by rw [E4.out, E5.out]) (by exact H9.out)).mono ?_
  rintro e wa ⟨rfl, hba, hwa⟩
  have Ha := Lib.hid hwa
  have Ca := Lib.hid (C9.out.next hba)
  clear hba hwa H9 C9 P4' P5'
  go_wp2_with fail
  refine (use_routes W _ A B1 n c k1 l l1 _ _ (by exact HP.out.keep Ha.out) (by exact Ca.out) E1.out.symm (by exact Ha.out)).mono ?_
  rintro e wb ⟨rfl, hbb, hwb⟩
  have Hb := Lib.hid hwb
  clear hbb hwb Ha Ca
  go_wp2_with fail
  refine (use_runs W _ (by exact Hb.out)).mono ?_
  rintro e wc ⟨rfl, hwc⟩
  have Hc := Lib.hid hwc
  clear hwc Hb
  go_wp2
  go_ret
  exact ⟨rfl, Hc.out⟩
#print axioms planTakes_w
end Go.Proofs.Ytbnhbbjmocclmaa.Plan
