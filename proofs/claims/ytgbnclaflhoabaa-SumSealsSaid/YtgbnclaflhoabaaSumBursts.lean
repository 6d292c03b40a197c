/-
  SumBursts walked.
-/
import Derived.Test.YtgbnclaflhoabaaSumRuns
namespace Go.Proofs.Ytgbnclaflhoabaa.SumWalks
open Go.ChangeShapes Go.WideShapes Go.ChangeAt Go.RowKit Go.Proofs.Ytgbnclaflhoabaa.SumMath Go.Proofs.Ytgbnclaflhoabaa.Mem

/-- the row of the call's own behind a slice that is not empty -/
theorem Own_row {w : World} {base n : Nat} {e : TypeId} {v : Value} {vs : List Value} (h : Own w base e v n vs) (hn : 0 < n) : ∃ g cap, v = .slice (some ⟨g, 0, none⟩) n cap ∧ base ≤ g ∧ n ≤ cap := by
  rcases h.1.2 with ⟨_, rfl⟩ | ⟨g, cap, cur, rfl, hg, _, hnc, _⟩
  · omega
  · exact ⟨g, cap, rfl, hg, hnc⟩
theorem Own_at {w : World} {base n g cap k : Nat} {e : TypeId} {vs : List Value} (h : Own w base e (.slice (some ⟨g, 0, none⟩) n cap) n vs) (hk : k < n) :
    ∃ u, vs[k]? = some u ∧ w.cell? ⟨g, k, none⟩ = some u ∧ w.frozen? ⟨g, k, none⟩ = false ∧ ∀ x, Own (w.setCell ⟨g, k, none⟩ x) base e (.slice (some ⟨g, 0, none⟩) n cap) n (vs.set k x) := by
  obtain ⟨⟨hl, h⟩, hm⟩ := h
  have hl' : vs.length = n := by omega
  rcases h with ⟨h, _⟩ | ⟨g', cap', cur, h, hg, hh, hnc, hcm, hcs, htk⟩
  · cases h
  · injection h with h1 h2 h3
    injection h1 with h1
    injection h1 with h1
    subst h1
    subst h3
    obtain ⟨u, hx⟩ : ∃ u, vs[k]? = some u := ⟨_, List.getElem?_eq_getElem (by omega)⟩
    have htk' : cur.toList.take n = vs := by rw [← htk, Nat.mul_one]
    refine ⟨u, hx, ?_, by simp [World.frozen?, hh], fun x => ⟨⟨?_, .inr ⟨g, cap, cur.setIfInBounds k x, rfl, hg, ?_, hnc, hcm, ?_, ?_⟩⟩, hm⟩⟩
    · rw [cell_of_row w g k cur e (0, 0) hh]
      have hx' := hx
      rw [← htk', List.getElem?_take, if_pos hk] at hx'
      simpa using hx'
    · rw [List.length_set]; exact hl
    · simp [World.setCell, Array.getElem?_modify, hh]
    · simpa using hcs
    · rw [Nat.mul_one, ← htk', Array.toList_setIfInBounds, List.take_set]

theorem Own_reads {w : World} {base n c : Nat} {e : TypeId} {A : Option Addr} {vs : List Value} (h : Own w base e (.slice A n c) n vs) : Reads w w.heap.size A n vs := by
  obtain ⟨A', c', e', _, hr⟩ := h.read
  injection e' with e1
  subst e1
  exact hr
theorem open_bool (A : Option Addr) (n c : Nat) (xs : List UInt8) (b : Bool) (w : World) (h : Bytes w w.heap.size A n xs) (hc : n ≤ c) (hr : n ≤ 140737488355328) (hb : isSealed xs = b) :
    Calls Try.prog 11 #[.slice A n c] w fun e w' => ∃ A' n' c', e = .returned (.tuple #[.slice A' n' c', .bool b]) ∧ Below w.heap.size w w' := by
  refine (open_any A n c xs w h hc hr).mono ?_
  rintro e w' ⟨v, rfl, hbel, ho⟩
  obtain ⟨A', c', rfl, _, _⟩ := ho.read
  exact ⟨A', _, c', by rw [hb], hbel⟩
theorem bit_byte (r : Nat) (h : r < 8) : ∃ m : UInt8, m.toNat = 2 ^ r ∧ (2 : Int) ^ r % 256 = (m.toNat : Int) := by
  have h2 : 2 ^ r < 2 ^ 8 := Nat.pow_lt_pow_right (by omega) h
  have e : (UInt8.ofNat (2 ^ r)).toNat = 2 ^ r := by rw [UInt8.toNat_ofNat']; exact Nat.mod_eq_of_lt h2
  refine ⟨UInt8.ofNat (2 ^ r), e, ?_⟩
  rw [e]
  have : ((2 ^ r : Nat) : Int) = (2 : Int) ^ r := by simp
  rw [this]
  have h3 : (2 : Int) ^ r < 256 := by rw [← this]; omega
  have h4 : (0 : Int) ≤ (2 : Int) ^ r := by rw [← this]; omega
  omega
theorem bytesV_set (ys : List UInt8) (j : Nat) (u : UInt8) : bytesV (ys.set j u) = (bytesV ys).set j (.int .u8 (u.toNat : Int)) := by
  unfold bytesV
  rw [List.map_set]

set_option maxHeartbeats 4000000 in
theorem sumBursts_walk (A : Option Addr) (n c : Nat) (xs : List UInt8) (a x : Int) (W : World) (hc : n ≤ c) (hr : c ≤ 140737488351232) (h : Bytes W W.heap.size A n xs) (_ : (Lit.int .i64 a).wf = true) (hx : (Lit.int .u32 x).wf = true) :
    Calls Try.prog 8 #[.slice A n c, .int .i64 a, .int .u32 x] W fun e w' => e = .returned (.bool true) ∧ Below W.heap.size W w' := by
  have hxb : 0 ≤ x ∧ x ≤ 4294967295 := by
    have h' := hx
    simp [Lit.wf, IntKind.min, IntKind.max, IntKind.signed, IntKind.bits] at h'
    omega
  obtain ⟨hx0, hx1⟩ := hxb
  have H := Lib.hid h
  clear h hx
  go_enter Try.func8, Try.ntmps8
  go_wp2_with fail
  refine (seal_any A n c xs W H.out (by omega)).mono ?_
  rintro e w1 ⟨v, rfl, hb1, ho1⟩
  obtain ⟨g, cap, rfl, hg, hcap⟩ := Own_row ho1 (by omega)
  have HB1 := Lib.hid hb1
  have HO1 := Lib.hid ho1
  clear hb1 ho1
  by_cases h0 : x = 0
  · subst h0
    go_wp2_with fail
    refine (runs_any _).mono ?_
    rintro e w2 ⟨rfl, hb2⟩
    have HB2 := Lib.hid hb2
    clear hb2
    go_wp2_with fail
    go_ret
    exact ⟨rfl, HB1.out.trans (HB2.out.mono HB1.out.size)⟩
  · have hne : (x == 0) = false := by simpa using h0
    clear h0
    go_wp2_with fail
    refine (within_any _ _ _ _ (by omega) (by omega) (by omega)).mono ?_
    rintro e w' ⟨bit, hbit, rfl, rfl⟩
    obtain ⟨hbit0, hbit1⟩ := hbit
    go_wp2_with fail
    go_loopw [9, 10] (fun t i wr => ∃ (k : Nat) (ys : List UInt8) (mask : BitVec 32) (tb : Bool), k ≤ 32 ∧ i = .int .i64 k ∧ t = .bool tb ∧ Hid (Below W.heap.size W wr) ∧ Hid (Own wr W.heap.size 5 (.slice (some ⟨g, 0, none⟩) (n + 4) cap) (n + 4) (bytesV ys)) ∧
      Hid (reg ones ys = iter 32 ones ^^^ iter (8 * ys.length - bit) mask) ∧ Hid (∀ j, k ≤ j → mask.getLsbD j = false) ∧ Hid (tb = !decide (mask = 0))) (fun _ i _ => 32 - (intOf i).toNat)
    case atStart =>
      refine ⟨0, sealed xs, 0, false, by omega, rfl, rfl, HB1, HO1, sealed_reg xs _, ?_, ?_⟩
      · intro j _; simp
      · simp [Hid]
    case round =>
      obtain ⟨k, ys, mask, tb, hk, rfl, rfl, HB, HO, HR, HM, HT⟩ := hrel
      have HL : Hid (ys.length = n + 4) := by have := HO.out.len; rwa [bytesV_len] at this
      by_cases hlt : k < 32
      · have HM' : Hid (∀ j, k + 1 ≤ j → mask.getLsbD j = false) := fun j hj => HM.out j (by omega)
        by_cases hin : bit + k < 8 * (n + 4)
        · obtain ⟨j, hj⟩ : ∃ j : Nat, (bit + k) / 8 = j := ⟨_, rfl⟩
          obtain ⟨r, hr'⟩ : ∃ r : Nat, (bit + k) % 8 = r := ⟨_, rfl⟩
          have hjn : j < n + 4 := by omega
          have hr8 : r < 8 := by omega
          obtain ⟨u, hu, hcell, hfr, hput⟩ := Own_at (k := j) HO.out hjn
          obtain ⟨y, hy, rfl⟩ := bytesV_get hu
          have HPUT := Lib.hid hput
          have HYY := Lib.hid hy
          have HJ := Lib.hid hj
          have HRR := Lib.hid hr'
          have e1 : ((bit : Int) + (k : Int)).tdiv 8 = (j : Int) := by rw [Int.tdiv_eq_ediv_of_nonneg (by omega)]; omega
          have e2 : ((bit : Int) + (k : Int)).tmod 8 = (r : Int) := by rw [Int.tmod_eq_emod_of_nonneg (by omega)]; omega
          have e3 : ((bit : Int) + (k : Int)) / 8 = (j : Int) := by omega
          have e4 : ((bit : Int) + (k : Int)) % 8 = (r : Int) := by omega
          have e5 : IntKind.i64.wrap ((bit : Int) + (k : Int)) = (bit : Int) + (k : Int) := IntWalk.i64_in _ (by omega)
          have hj0 : (0 : Int) ≤ (j : Int) := by omega
          have hj1 : (j : Int) < (n : Int) + 4 := by omega
          have hr0 : (0 : Int) ≤ (r : Int) := by omega
          have hr1 : (r : Int) ≤ 8 := by omega
          obtain ⟨m, hm1, hm2⟩ := bit_byte r hr8
          have HV : Hid (Own (wr.setCell ⟨g, j, none⟩ (.int .u8 (bits .xor .u8 (y.toNat : Int) ((2 : Int) ^ r % 256)))) W.heap.size 5 (.slice (some ⟨g, 0, none⟩) (n + 4) cap) (n + 4) (bytesV (ys.set j (y ^^^ m)))) := by
            rw [hm2, bx8, bytesV_set]
            exact hput _
          have HRN : Hid (reg ones (ys.set j (y ^^^ m)) = iter 32 ones ^^^ iter (8 * (ys.set j (y ^^^ m)).length - bit) (mask ^^^ 1#32 <<< k)) := by
            have := reg_burst ys ones (iter 32 ones) bit k y m mask hlt (by rw [HL.out]; exact hin) (by rw [hj]; exact hy) (by rw [hr']; exact hm1) HR.out
            rw [hj] at this
            exact this
          obtain ⟨hmn, hmo⟩ := mask_on hlt HM.out
          have HMO := Lib.hid hmo
          have HMN : Hid (true = !decide (mask ^^^ 1#32 <<< k = 0)) := by rw [decide_eq_false hmn]; rfl
          clear hu hput hy hj hr' hm1 hm2 hmn hmo
          go_wp2
          · go_region
            go_wp2_with fail
            go_roundw
            case rel => exact ⟨k + 1, ys.set j (y ^^^ m), _, true, by omega, by go_num, rfl, (HB.out.setCell hg _).drew, HV, HRN, HMO, HMN⟩
            case measure => simp [intOf]; omega
          · go_roundw
            case rel => exact ⟨k + 1, ys, mask, tb, by omega, by go_num, rfl, HB, HO, HR, HM', HT⟩
            case measure => simp [intOf]; omega
        · go_wp2
          all_goals
            go_roundw
            case rel => exact ⟨k + 1, ys, mask, tb, by omega, by go_num, rfl, HB, HO, HR, HM', HT⟩
            case measure => simp [intOf]; omega
      · have HIS : Hid (isSealed ys = !tb) := by
          have e := HR.out
          rw [HL.out] at e
          rw [burst_seen ys (n + 4) bit mask HL.out (by omega) e, HT.out, Bool.not_not]
          exact rfl
        have HRD : Hid (Bytes wr wr.heap.size (some ⟨g, 0, none⟩) (n + 4) ys) := Own_reads HO.out
        clear HR HM HT
        cases tb
        · go_wp2_with fail
          refine (open_bool _ _ _ ys true wr HRD.out hcap (by omega) HIS.out).mono ?_
          rintro e w2 ⟨A2, n2, c2, rfl, hb2⟩
          have HB2 := Lib.hid hb2
          clear hb2
          go_wp2_with fail
          refine (runs_any _).mono ?_
          rintro e w3 ⟨rfl, hb3⟩
          have HB3 := Lib.hid hb3
          clear hb3
          go_wp2_with fail
          go_ret
          exact ⟨rfl, (HB.out.trans (HB2.out.mono HB.out.size)).trans (HB3.out.mono (Nat.le_trans HB.out.size HB2.out.size))⟩
        · go_wp2_with fail
          refine (open_bool _ _ _ ys false wr HRD.out hcap (by omega) HIS.out).mono ?_
          rintro e w2 ⟨A2, n2, c2, rfl, hb2⟩
          have HB2 := Lib.hid hb2
          clear hb2
          go_wp2_with fail
          refine (runs_any _).mono ?_
          rintro e w3 ⟨rfl, hb3⟩
          have HB3 := Lib.hid hb3
          clear hb3
          go_wp2_with fail
          go_ret
          exact ⟨rfl, (HB.out.trans (HB2.out.mono HB.out.size)).trans (HB3.out.mono (Nat.le_trans HB.out.size HB2.out.size))⟩

#print axioms sumBursts_walk
end Go.Proofs.Ytgbnclaflhoabaa.SumWalks
