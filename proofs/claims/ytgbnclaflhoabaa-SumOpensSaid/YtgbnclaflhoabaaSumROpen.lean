/-
  The document's own opening: its contract.
-/
import Derived.Test.YtgbnclaflhoabaaSumOpen
namespace Go.Proofs.Ytgbnclaflhoabaa.SumWalks
open Go.ChangeShapes Go.WideShapes Go.ChangeAt Go.RowKit Go.Proofs.Ytgbnclaflhoabaa.SumMath Go.Proofs.Ytgbnclaflhoabaa.Mem

theorem nums_word {c : BitVec 32} {a0 a1 a2 a3 : UInt8} {y : Int} (hy : (c.toNat : Int) = y) :
    c = word a0 a1 a2 a3 ↔ ((a0.toNat : Int) = y % 256 ∧ (a1.toNat : Int) = y / 256 % 256 ∧ (a2.toNat : Int) = y / 65536 % 256 ∧ (a3.toNat : Int) = y / 16777216) := by
  have h := word_nat a0 a1 a2 a3
  have h0 := a0.toNat_lt
  have h1 := a1.toNat_lt
  have h2 := a2.toNat_lt
  have h3 := a3.toNat_lt
  have hc := c.isLt
  constructor
  · rintro rfl
    omega
  · intro e
    exact BitVec.eq_of_toNat_eq (by omega)

set_option maxHeartbeats 1000000 in
theorem ropen_any (A : Option Addr) (n c : Nat) (xs : List UInt8) (w : World) (h : Bytes w w.heap.size A n xs) (hc : n ≤ c) (hr : n ≤ 140737488355328) :
    Calls Try.prog 22 #[.slice A n c] w (Opens w xs) := by
  by_cases hn : n < 4
  · have HN : Hid (isSealed xs = false) := isSealed_short xs (by rw [h.length]; exact hn)
    go_enter Try.func22, Try.ntmps22
    go_wp2
    go_ret2
    exact opens_no HN.out (Below.refl _ _)
  · obtain ⟨m, rfl⟩ : ∃ m, n = m + 4 := ⟨n - 4, by omega⟩
    obtain ⟨a0, a1, a2, a3, hx⟩ := last_four xs (by rw [h.length]; omega)
    rw [h.length, Nat.add_sub_cancel] at hx
    obtain ⟨b, off, rfl, hb, hcell⟩ := h.2.2 (by omega)
    have HF : Hid (Bytes w w.heap.size (some ⟨b, off, none⟩) m (xs.take m)) := h.front (by omega)
    have at4 : ∀ j u, [a0, a1, a2, a3][j]? = some u → w.cell? ⟨b, off + (m + j), none⟩ = some (.int .u8 (u.toNat : Int)) := by
      intro j u hu
      refine hcell (m + j) _ (bytesV_at ?_)
      have hl : (xs.take m).length = m := by rw [List.length_take, h.length]; omega
      rw [hx, List.getElem?_append_right (by omega), hl, Nat.add_sub_cancel_left]
      exact hu
    have c0 : w.cell? ⟨b, off + m, none⟩ = some (.int .u8 (a0.toNat : Int)) := at4 0 _ rfl
    have c1 : w.cell? ⟨b, off + (m + 1), none⟩ = some (.int .u8 (a1.toNat : Int)) := at4 1 _ rfl
    have c2 : w.cell? ⟨b, off + (m + 2), none⟩ = some (.int .u8 (a2.toNat : Int)) := at4 2 _ rfl
    have c3 : w.cell? ⟨b, off + (m + 3), none⟩ = some (.int .u8 (a3.toNat : Int)) := at4 3 _ rfl
    have HX := Lib.hid hx
    have H := Lib.hid h
    clear hx h hcell hn at4
    obtain ⟨y, hy⟩ : ∃ y : Int, ((crc 0#32 (xs.take m)).toNat : Int) = y := ⟨_, rfl⟩
    have hyb : 0 ≤ y ∧ y ≤ 4294967295 := by rw [← hy]; exact lt32 _
    obtain ⟨hy0, hy1⟩ := hyb
    have HY := Lib.hid hy
    have hadd := radd_any 0 0#32 rfl (some ⟨b, off, none⟩) m c (xs.take m) _ w HF.out
    rw [hy] at hadd
    have HADD := Lib.hid hadd
    have HW := Lib.hid (nums_word (a0 := a0) (a1 := a1) (a2 := a2) (a3 := a3) hy)
    clear hy hadd
    have HNO : ¬ ((a0.toNat : Int) = y % 256 ∧ (a1.toNat : Int) = y / 256 % 256 ∧ (a2.toNat : Int) = y / 65536 % 256 ∧ (a3.toNat : Int) = y / 16777216) → Hid (isSealed xs = false) := fun hno => by
      rw [HX.out, sealed_iff]
      have e : ¬ crc 0#32 (xs.take m) = word a0 a1 a2 a3 := fun e => hno (HW.out.1 e)
      simpa [Hid] using e
    have HYES : ((a0.toNat : Int) = y % 256 ∧ (a1.toNat : Int) = y / 256 % 256 ∧ (a2.toNat : Int) = y / 65536 % 256 ∧ (a3.toNat : Int) = y / 16777216) → Hid (isSealed xs = true) := fun hyes => by
      rw [HX.out, sealed_iff]
      have e : crc 0#32 (xs.take m) = word a0 a1 a2 a3 := HW.out.2 hyes
      simpa [Hid] using e
    obtain ⟨t0, ht0⟩ : ∃ t : Bool, ((a0.toNat : Int) != y % 256) = t := ⟨_, rfl⟩
    obtain ⟨t1, ht1⟩ : ∃ t : Bool, ((a1.toNat : Int) != y / 256 % 256) = t := ⟨_, rfl⟩
    obtain ⟨t2, ht2⟩ : ∃ t : Bool, ((a2.toNat : Int) != y / 65536 % 256) = t := ⟨_, rfl⟩
    obtain ⟨t3, ht3⟩ : ∃ t : Bool, ((a3.toNat : Int) != y / 16777216) = t := ⟨_, rfl⟩
    have HA : Hid (Bytes (w.alloc (Obj.cells #[] 5)) w.heap.size (some ⟨b, off, none⟩) m (xs.take m)) := HF.out.alloc (Nat.le_refl _) _
    have HO : Hid (Own (w.alloc (Obj.cells #[] 5)) w.heap.size 5 (.slice (some ⟨w.heap.size, 0, none⟩) 0 0) 0 []) := Own.new w _ _ [] (Nat.le_refl _) (Nat.zero_le _)
    have HB : Below w.heap.size w (w.alloc (Obj.cells #[] 5)) := (Below.refl _ _).alloc (Nat.le_refl _) _
    by_cases hall : (a0.toNat : Int) = y % 256 ∧ (a1.toNat : Int) = y / 256 % 256 ∧ (a2.toNat : Int) = y / 65536 % 256 ∧ (a3.toNat : Int) = y / 16777216
    · have HN := HYES hall
      obtain ⟨e0, e1, e2, e3⟩ := hall
      have f0 : t0 = false := by rw [← ht0, e0]; simp
      have f1 : t1 = false := by rw [← ht1, e1]; simp
      have f2 : t2 = false := by rw [← ht2, e2]; simp
      have f3 : t3 = false := by rw [← ht3, e3]; simp
      rw [f0] at ht0; rw [f1] at ht1; rw [f2] at ht2; rw [f3] at ht3
      clear e0 e1 e2 e3 f0 f1 f2 f3 HNO HYES
      go_enter Try.func22, Try.ntmps22
      go_wp2_with fail
      refine HADD.out.mono ?_
      rintro e w' ⟨rfl, rfl⟩
      go_wp2_with (at_builtin; refine wpList_append_b (o := ⟨some 59, _, _, _, _, _⟩) rfl (.tmp 55) (.tmp 58) Try.underlying24 infoByte rfl rfl HO.out rfl HA.out rfl (bytesV_one _) (by unfold maxLen; omega) (by omega) HB (by simp) (by simp) (Nat.le_refl _) ?_; intro v1 w1 HV HB1 HZ1 _)
      go_ret2
      refine ⟨v1, by rw [HN.out]; rfl, HB1, ?_⟩
      have e : opened xs = xs.take m := by unfold opened; rw [if_pos HN.out, H.out.length, Nat.add_sub_cancel]
      have hl : (xs.take m).length = m := HF.out.length
      have ho := HV.out
      rw [Nat.zero_add, List.nil_append] at ho
      rw [e, hl]
      exact ho
    · have HN := HNO hall
      have hbad : ¬ (t0 = false ∧ t1 = false ∧ t2 = false ∧ t3 = false) := by
        rintro ⟨rfl, rfl, rfl, rfl⟩
        exact hall ⟨by simpa using ht0, by simpa using ht1, by simpa using ht2, by simpa using ht3⟩
      have HBAD := Lib.hid hbad
      clear HYES HNO hall hbad
      go_enter Try.func22, Try.ntmps22
      go_wp2_with fail
      refine HADD.out.mono ?_
      rintro e w' ⟨rfl, rfl⟩
      cases t0
      · cases t1
        · cases t2
          · cases t3
            · exact absurd ⟨rfl, rfl, rfl, rfl⟩ HBAD.out
            · go_wp2
              go_ret2
              exact opens_no HN.out (Below.refl _ _)
          · go_wp2
            go_ret2
            exact opens_no HN.out (Below.refl _ _)
        · go_wp2
          go_ret2
          exact opens_no HN.out (Below.refl _ _)
      · go_wp2
        go_ret2
        exact opens_no HN.out (Below.refl _ _)

#print axioms ropen_any
end Go.Proofs.Ytgbnclaflhoabaa.SumWalks
