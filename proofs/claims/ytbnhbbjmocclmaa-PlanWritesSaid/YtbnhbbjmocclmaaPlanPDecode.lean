/-
  The program's plan.Decode, walked.
-/
import Derived.Test.YtbnhbbjmocclmaaPlanPRead
import Derived.Test.YtbnhbbjmocclmaaPlanPRight
namespace Go.Proofs.Ytbnhbbjmocclmaa.Plan
open Go.ChangeShapes Go.WideShapes Go.ChangeAt Go.RowKit Go.Proofs.Ytbnhbbjmocclmaa.Mem Go.Proofs.Ytbnhbbjmocclmaa.FleetMath Go.Proofs.Ytbnhbbjmocclmaa.PlanMath Go.Proofs.Ytbnhbbjmocclmaa.Rec Go.Proofs.Ytbnhbbjmocclmaa.WireMath Go.Proofs.Ytbnhbbjmocclmaa.Wire
set_option linter.unusedVariables false

theorem OwnK.save {w w' : World} {g base k n : Nat} {e : TypeId} {v : Value} {vs : List Value} (h : OwnK w base e k v n vs) (hs : Save g w w') (hn : ∀ q, v.ownBlock = some q → q ≠ g) : OwnK w' base e k v n vs := by
  obtain ⟨⟨h1, h2⟩, h3⟩ := h
  refine ⟨⟨h1, ?_⟩, h3⟩
  rcases h2 with h2 | ⟨q, cap, cur, e, hq, hh, hr⟩
  · exact .inl h2
  · have hlt : q < w.heap.size := by
      rcases Nat.lt_or_ge q w.heap.size with hlt | hge
      · exact hlt
      · rw [Array.getElem?_eq_none hge] at hh; cases hh
    exact .inr ⟨q, cap, cur, e, hq, (hs.other q hlt (hn q (by rw [e]; rfl))).trans hh, hr⟩
/-- Decode's state ahead of route k -/
structure DS (w wr : World) (g p n : Nat) (xs : List UInt8) (r : Rd) (ls : List Rte) (l' : List RM) : Prop where
  fill : Fill w wr p n l'
  rd : RProg wr g xs r
  rts : l'.map (·.rt) = ls
  fits : ∀ r ∈ l', r.n * 16 ≤ 140737488351232
  far : w.heap.size ≤ g ∧ g < p
  rows : ∀ r ∈ l', ∀ q, r.v.ownBlock = some q → q ≠ g
theorem DS.save {w wr w' : World} {g p n : Nat} {xs : List UInt8} {r r' : Rd} {ls : List Rte} {l' : List RM} (h : DS w wr g p n xs r ls l') (hs : Save g wr w') (hr : RProg w' g xs r') : DS w w' g p n xs r' ls l' := by
  obtain ⟨h1, h2⟩ := h.far
  refine ⟨⟨h.fill.old.trans (hs.below.mono h1), h.fill.ge, h.fill.le, hs.blk h.fill.blk (by omega), fun x hx => ⟨OwnK.save (h.fill.each x hx).1 hs (h.rows x hx), (h.fill.each x hx).2⟩⟩, hr, h.rts, h.fits, h.far, h.rows⟩
theorem DS.next {w wr w' : World} {g p n s m : Nat} {xs : List UInt8} {r r' : Rd} {ls : List Rte} {l' : List RM} {x : Rte} (h : DS w wr g p n xs r ls l') (hn : l'.length < n) (hs : Save g wr w') (hr : RProg w' g xs r') (hb : Blk w' s 23 (stpsV x.stops)) (hg : wr.heap.size ≤ s) (hm : x.stops.length = m) (h80 : m ≤ 80) :
    DS w (put3 w' p (l'.length * 3) ⟨x, some ⟨s, 0, none⟩, m, m⟩) g p n xs r' (ls ++ [x]) (l' ++ [⟨x, some ⟨s, 0, none⟩, m, m⟩]) := by
  obtain ⟨h1, h2⟩ := h.far
  have hp := h.fill.blk.lt
  have hw := h.fill.old.size
  have ho : OwnK w' w.heap.size 23 2 (.slice (some ⟨s, 0, none⟩) m m) m (stpsV x.stops) := own_of_blk hb (by omega) (by rw [stpsV_len, hm]) (by unfold maxLen; omega)
  have ht : Two (.slice (some ⟨s, 0, none⟩) m m) (.slice (some ⟨p, 0, none⟩) n n) := by
    intro q hq e
    have e1 : s = q := by simpa [Value.ownBlock] using hq
    have e2 : p = q := by simpa [Value.ownBlock] using e
    omega
  have hD := h.save hs hr
  refine ⟨hD.fill.put (r := ⟨x, some ⟨s, 0, none⟩, m, m⟩) hn ho ht, ?_, ?_, fun y hy => ?_, h.far, fun y hy q hq => ?_⟩
  · obtain ⟨⟨A, c, b1, b2, b3⟩, b4, b5⟩ := hr
    have hne : g ≠ p := by omega
    have hle : g ≤ p := by omega
    exact ⟨⟨A, c, (Below.heap_setCell _ _ _ _ hne).trans ((Below.heap_setCell _ _ _ _ hne).trans ((Below.heap_setCell _ _ _ _ hne).trans b1)), Reads.keep b2 ((((Below.refl g w').setCell hle _).setCell hle _).setCell hle _), b3⟩, b4, b5⟩
  · rw [List.map_append, h.rts]
    rfl
  · rcases List.mem_append.1 hy with hy | hy
    · exact h.fits y hy
    · obtain rfl : y = _ := by simpa using hy
      show m * 16 ≤ _
      omega
  · rcases List.mem_append.1 hy with hy | hy
    · exact h.rows y hy q hq
    · obtain rfl : y = _ := by simpa using hy
      have e1 : s = q := by simpa [Value.ownBlock] using hq
      have := h.rd.lt
      omega
theorem DS.cells {w wr : World} {g p n k : Nat} {xs : List UInt8} {r : Rd} {ls : List Rte} {l' : List RM} (h : DS w wr g p n xs r ls l') (hl : l'.length = k) (hk : k < n) : (∃ u, wr.cell? ⟨p, k * 3, none⟩ = some u) ∧ wr.frozen? ⟨p, k * 3, none⟩ = false ∧ (∃ u, wr.cell? ⟨p, k * 3 + 1, none⟩ = some u) ∧ wr.frozen? ⟨p, k * 3 + 1, none⟩ = false ∧ (∃ u, wr.cell? ⟨p, k * 3 + 2, none⟩ = some u) ∧ wr.frozen? ⟨p, k * 3 + 2, none⟩ = false := by
  subst hl
  have := h.fill.next hk
  obtain ⟨a0, b0⟩ := this 0 (by omega)
  obtain ⟨a1, b1⟩ := this 1 (by omega)
  obtain ⟨a2, b2⟩ := this 2 (by omega)
  exact ⟨a0, b0, a1, b1, a2, b2⟩
theorem made_nil {w w' : World} (h : Below w.heap.size w w') : Made w w' (.slice none 0 0) [] := ⟨[], ⟨h, OwnK.nil _ _ _ _, fun r hr => by cases hr⟩, rfl, fun r hr => by cases hr⟩

set_option maxRecDepth 100000 in
set_option maxHeartbeats 4000000 in
theorem pdecode_any (A : Option Addr) (m c : Nat) (xs : List UInt8) (w : World) (hb : Bytes w w.heap.size A m xs) (hm : m ≤ 140737488355328) :
    Calls Try.prog 18 #[.slice A m c] w (fun e w' => ∃ v, e = .returned (.tuple #[v, .int .i64 (decodeP xs).2]) ∧ Made w w' v (decodeP xs).1) := by
  have HBY := Lib.hid hb
  obtain ⟨v1, r1, h1⟩ : ∃ v r1, rdCount xs 8 ⟨0, 0, 0⟩ = (v, r1) := ⟨_, _, rfl⟩
  have hin := rdCount_in xs (most := 8) (by omega) ⟨0, 0, 0⟩
  rw [h1] at hin
  obtain ⟨n, rfl⟩ : ∃ n : Nat, v1 = (n : Int) := ⟨v1.toNat, by have := hin.1; simp only at this; omega⟩
  have hn8 : n ≤ 8 := by have := hin.2; simp only at this; omega
  have HPL : Hid (rdPlan xs = rdRtes xs n r1) := by
    show _ = _
    unfold rdPlan
    rw [h1]
    rfl
  have H1 := Lib.hid h1
  have hmk : ∀ u : World, (Instr.makeSlice 28 (.int .i64 (n : Int)) (.int .i64 (n : Int))).run Try.prog u = .ok (.slice (some ⟨u.heap.size, 0, none⟩) n n) (u.alloc (.cells (madeCells #[.int .i64 0, .int .i64 0, .slice none 0 0] (n * 3)) 26)) := fun u => by
    obtain ⟨i0, hi, hz0, hz1, hz2⟩ := info_parts infoRte'
    have h := run_make (P := Try.prog) u 28 26 i0 (.agg #[.int .i64 0, .int .i64 0, .slice none 0 0]) Try.underlying28 hi hz0 .i64 .i64 (n : Int) (n : Int) (by omega) (Int.le_refl _) (by rw [hz2]; omega) (by omega)
    rw [Int.toNat_natCast, hz1] at h
    exact h
  clear hb h1 hin
  go_enter Try.func18, Try.ntmps18
  go_wp2_with fail
  refine (Wire.pread_any _ _ _ xs _ (by exact HBY.out) hm).mono ?_
  rintro e w1 ⟨g, rfl, hg, hr1, hb1⟩
  have HR1 := Lib.hid hr1
  have HB1 := Lib.hid hb1
  have HG := Lib.hid hg
  clear hr1 hb1 hg
  go_wp2_with fail
  refine (pcount_any g xs ⟨0, 0, 0⟩ 8 _ (by exact HR1.out)).mono ?_
  rintro e w2 ⟨rfl, hr2, hs2⟩
  rw [H1.out] at hr2 ⊢
  have HB2 := Lib.hid (HB1.out.trans (hs2.below.mono HG.out))
  have HDS : Hid (DS w (w2.alloc (.cells (madeCells #[.int .i64 0, .int .i64 0, .slice none 0 0] (n * 3)) 26)) g w2.heap.size n xs (rdRtes xs 0 r1).2 (rdRtes xs 0 r1).1 []) :=
    ⟨Fill.start HB2.out, hr2.below ((Below.refl _ _).alloc (Nat.le_refl _) _), rfl, (fun r h => by cases h), ⟨HG.out, hr2.lt⟩, (fun r h => by cases h)⟩
  clear hr2 hs2 HR1 HB1 HB2
  go_wp2_with fail
  clear hmk
  go_loopw [15] (fun i wr => ∃ (k : Nat) (l' : List RM), k ≤ n ∧ i = .int .i64 k ∧ Hid (DS w wr g w2.heap.size n xs (rdRtes xs k r1).2 (rdRtes xs k r1).1 l')) (fun i _ => n - (intOf i).toNat)
  case atStart => exact ⟨0, [], Nat.zero_le _, rfl, HDS⟩
  case round =>
    clear HDS
    obtain ⟨k, l', hk, rfl, HS⟩ := hrel
    have hlk : l'.length = k := by have := congrArg List.length HS.out.rts; rw [List.length_map, rdRtes_len] at this; exact this
    have HLK := Lib.hid hlk
    clear hlk
    by_cases hlt : k < n
    · go_wp2_with fail
      refine (pread1_any g xs _ _ (by exact HS.out.rd)).mono ?_
      rintro e w3 ⟨s, m3, rfl, hgs, h80, hlen, hbk, hr3, hs3⟩
      obtain ⟨⟨z0, g0⟩, f0, ⟨z1, g1⟩, f1, ⟨z2, g2⟩, f2⟩ := (HS.out.save hs3 hr3).cells HLK.out hlt
      have HN := Lib.hid (HS.out.next (by rw [HLK.out]; exact hlt) hs3 hr3 hbk hgs hlen h80)
      rw [HLK.out, ← rdRtes_succ_fst, ← rdRtes_succ_snd] at HN
      obtain ⟨rt, hrt⟩ : ∃ rt, (rdRte xs (rdRtes xs k r1).2).1 = rt := ⟨_, rfl⟩
      rw [hrt] at HN ⊢
      clear hgs h80 hlen hbk hr3 hs3 hrt
      go_wp2_with fail
      go_roundw
      case rel => exact ⟨k + 1, _, by omega, by go_num, HN⟩
      case measure => simp [intOf]; omega
    · have hke : k = n := by omega
      subst hke
      have HD := Lib.hid (HS.out.fill.done HLK.out (by unfold maxLen; omega))
      obtain ⟨wy, hwy⟩ : ∃ y, (rdEnd xs (rdRtes xs k r1).2).1 = y := ⟨_, rfl⟩
      have HWY := Lib.hid hwy
      clear hwy
      go_wp2_with fail
      refine (pend_any g xs _ _ (by exact HS.out.rd)).mono ?_
      rintro e w3 ⟨rfl, hr3, hs3⟩
      have HS3 := Lib.hid (HS.out.save hs3 hr3)
      rw [HWY.out]
      clear hr3 hs3 HS HD
      by_cases h0 : wy = 0
      · subst h0
        have HM := Lib.hid (HS3.out.fill.done HLK.out (by unfold maxLen; omega))
        obtain ⟨A7, c7, hv7, _, hpn⟩ := HM.out.plns HS3.out.fits
        rw [HLK.out] at hv7 hpn
        injection hv7 with e1 _ e3
        subst e1 e3
        have HPN := Lib.hid hpn
        have HD : Hid (decodeP xs = if rightP (l'.map (·.rt)) then (l'.map (·.rt), 0) else ([], 4)) := by
          show _ = _
          unfold decodeP
          rw [HPL.out, HWY.out, if_pos rfl, ← HS3.out.rts]
        clear hpn
        go_wp2_with fail
        refine (pright_any _ _ _ l' _ (by exact HPN.out)).mono ?_
        rintro e w4 ⟨rfl, hb4⟩
        have HB4 := Lib.hid (HS3.out.fill.old.trans (hb4.mono HS3.out.fill.old.size))
        have HM4 := Lib.hid (HM.out.keep hb4)
        clear hb4
        obtain ⟨rv, hrv⟩ : ∃ r, rightP (l'.map (·.rt)) = r := ⟨_, rfl⟩
        rw [hrv]
        have HRV := Lib.hid hrv
        clear hrv
        cases rv with
        | false =>
          have HF : Hid (decodeP xs = ([], 4)) := by have h := HD.out; rw [HRV.out] at h; exact h
          go_wp2_with fail
          go_ret2
          refine ⟨.slice none 0 0, by rw [HF.out]; rfl, ?_⟩
          rw [HF.out]
          exact made_nil HB4.out
        | true =>
          have HF : Hid (decodeP xs = (l'.map (·.rt), 0)) := by have h := HD.out; rw [HRV.out] at h; exact h
          go_wp2_with fail
          go_ret2
          refine ⟨.slice (some ⟨w2.heap.size, 0, none⟩) k k, by rw [HF.out]; rfl, ?_⟩
          rw [HF.out]
          exact ⟨l', HM4.out, rfl, HS3.out.fits⟩
      · have HF : Hid (decodeP xs = ([], wy)) := by
          show _ = _
          unfold decodeP
          rw [HPL.out, HWY.out, if_neg h0]
        have e0 : (wy == 0) = false := by simpa using h0
        go_wp2_with fail
        go_ret2
        refine ⟨.slice none 0 0, by rw [HF.out]; rfl, ?_⟩
        rw [HF.out]
        exact made_nil HS3.out.fill.old
#print axioms pdecode_any
end Go.Proofs.Ytbnhbbjmocclmaa.Plan
