/-
  SumSeals walked.
-/
import Derived.Test.YtgbnclaflhoabaaSumRuns
import Derived.Test.YtgbnclaflhoabaaSumBursts
import Derived.Test.YtgbnclaflhoabaaBytesRoomy
import Derived.Test.YtgbnclaflhoabaaBookApart2
namespace Go.Proofs.Ytgbnclaflhoabaa.SumWalks
open Go.ChangeShapes Go.WideShapes Go.ChangeAt Go.RowKit Go.Proofs.Ytgbnclaflhoabaa.SumMath Go.Proofs.Ytgbnclaflhoabaa.Mem Go.Proofs.Ytgbnclaflhoabaa.Book

theorem keep_val (w : World) (B0 bk : Nat) (es : List (Value × List UInt8)) (A : Option Addr) (n c : Nat) (xs : List UInt8) (hn : xs.length = n) (h : BookAt w B0 bk es) (hl : es.length ≤ 4000) (hB : B0 ≤ w.heap.size)
    (hv : Own w B0 5 (.slice A n c) n (bytesV xs)) (hd : ∀ p ∈ es, ∀ g, p.1.ownBlock = some g → (Value.slice A n c).ownBlock ≠ some g) (hs : n ≤ 140737488355328) :
    Calls Try.prog 19 #[.pointer (some ⟨bk, 0, none⟩), .slice A n c] w (Kept w B0 bk (es ++ [(.slice A n c, xs)])) := by
  subst hn
  exact keep_any w B0 bk es A c xs h hl hB hv hd hs
theorem Own_range {w : World} {base n : Nat} {e : TypeId} {v : Value} {vs : List Value} (h : Own w base e v n vs) : ∀ g, v.ownBlock = some g → base ≤ g ∧ g < w.heap.size := h.1.lt
theorem book_new (W : World) : BookAt (W.alloc (.cells #[.slice none 0 0, .slice none 0 0, .int .i64 0, .bool false] 36)) W.heap.size W.heap.size [] :=
  ⟨.slice none 0 0, .slice none 0 0, 0, [], ⟨Blk.new W _ _, Nat.le_refl _, Tail.nil _ _ _, Tail.nil _ _ _, fun g h => by cases h⟩, trivial⟩
theorem seal_val (A : Option Addr) (n c : Nat) (xs : List UInt8) (w : World) (h : Bytes w w.heap.size A n xs) (hr : n + 4 ≤ 140737488355328) :
    Calls Try.prog 10 #[.slice A n c] w fun e w' => ∃ A' c', e = .returned (.slice A' (n + 4) c') ∧ n + 4 ≤ c' ∧ Below w.heap.size w w' ∧ Own w' w.heap.size 5 (.slice A' (n + 4) c') (n + 4) (bytesV (sealed xs)) := by
  refine (seal_any A n c xs w h hr).mono ?_
  rintro e w' ⟨v, rfl, hb, ho⟩
  obtain ⟨A', c', rfl, hc, _⟩ := ho.read
  exact ⟨A', c', rfl, hc, hb, ho⟩
theorem rseal_val (A : Option Addr) (n c : Nat) (xs : List UInt8) (w : World) (h : Bytes w w.heap.size A n xs) (hr : n + 4 ≤ 140737488355328) :
    Calls Try.prog 17 #[.slice A n c] w fun e w' => ∃ A' c', e = .returned (.slice A' (n + 4) c') ∧ Below w.heap.size w w' ∧ Own w' w.heap.size 5 (.slice A' (n + 4) c') (n + 4) (bytesV (sealed xs)) := by
  refine (rseal_any A n c xs w h hr).mono ?_
  rintro e w' ⟨v, rfl, hb, ho⟩
  obtain ⟨A', c', rfl, hc, _⟩ := ho.read
  exact ⟨A', c', rfl, hb, ho⟩
theorem opened_sealed (xs : List UInt8) : opened (sealed xs) = xs := by
  unfold opened
  rw [if_pos (isSealed_sealed xs), sealed_length, Nat.add_sub_cancel]
  unfold sealed
  exact List.take_left
theorem open_sealed (A : Option Addr) (n c : Nat) (xs : List UInt8) (w : World) (hn : xs.length = n) (h : Bytes w w.heap.size A (n + 4) (sealed xs)) (hc : n + 4 ≤ c) (hr : n + 4 ≤ 140737488355328) :
    Calls Try.prog 11 #[.slice A (n + 4) c] w fun e w' => ∃ A' c', e = .returned (.tuple #[.slice A' n c', .bool true]) ∧ Below w.heap.size w w' ∧ Own w' w.heap.size 5 (.slice A' n c') n (bytesV xs) := by
  refine (open_any A (n + 4) c (sealed xs) w h hc hr).mono ?_
  rintro e w' ⟨v, rfl, hb, ho⟩
  rw [opened_sealed, hn] at ho
  rw [isSealed_sealed]
  obtain ⟨A', c', rfl, _, _⟩ := ho.read
  exact ⟨A', c', rfl, hb, ho⟩

theorem BookAt_moves {w w' : World} {B0 bk : Nat} {es : List (Value × List UInt8)} (h : BookAt w B0 bk es) (hb : Below w.heap.size w w') (hB : B0 ≤ w.heap.size) : BookAt w' B0 bk es := by
  obtain ⟨lv, wv, hd, cs, h1, h2⟩ := h
  exact ⟨lv, wv, hd, cs, h1.keep hb, h2.moves (Moves.of_below hb hB)⟩
theorem BookAt_drewN {w : World} {B0 bk : Nat} {es : List (Value × List UInt8)} (h : BookAt w B0 bk es) (d : Nat) : BookAt (w.drewN d) B0 bk es := by
  obtain ⟨lv, wv, hd, cs, h1, h2⟩ := h
  exact ⟨lv, wv, hd, cs, h1.keep (below_drewN (Below.refl _ _) d), h2.moves ((Moves.refl _ _).drewN d)⟩
theorem Own_drewN {w : World} {base n : Nat} {e : TypeId} {v : Value} {vs : List Value} (h : Own w base e v n vs) (d : Nat) : Own (w.drewN d) base e v n vs := h.same fun _ _ _ => rfl
/-- what Keep leaves, as the caller uses it -/
def KeptOf (w : World) (B0 bk : Nat) (es : List (Value × List UInt8)) (x : Value × List UInt8) (e : Ending) (w' : World) : Prop :=
  e = .returned (.tuple #[]) ∧ Moves B0 w w' ∧ ∃ es' m, BookAt w' B0 bk es' ∧ es'.length = m + 1 ∧ m + 1 ≤ 4000 ∧ ∀ p ∈ es', p ∈ es ∨ p = x
theorem keep_of (w : World) (B0 bk : Nat) (es : List (Value × List UInt8)) (A : Option Addr) (n c : Nat) (xs : List UInt8) (hn : xs.length = n) (h : BookAt w B0 bk es) (hl : es.length ≤ 4000) (hB : B0 ≤ w.heap.size)
    (hv : Own w B0 5 (.slice A n c) n (bytesV xs)) (hd : ∀ p ∈ es, ∀ g, p.1.ownBlock = some g → (Value.slice A n c).ownBlock ≠ some g) (hs : n ≤ 140737488355328) :
    Calls Try.prog 19 #[.pointer (some ⟨bk, 0, none⟩), .slice A n c] w (KeptOf w B0 bk es (.slice A n c, xs)) := by
  refine (keep_val w B0 bk es A n c xs hn h hl hB hv hd hs).mono ?_
  rintro e w' ⟨he, hm, k, hk, hb, hl'⟩
  have hlen : ((es ++ [(Value.slice A n c, xs)]).drop k).length = (es ++ [(Value.slice A n c, xs)]).length - k - 1 + 1 := by rw [List.length_drop]; omega
  refine ⟨he, hm, _, _, hb, hlen, by omega, fun p hp => ?_⟩
  rcases List.mem_append.1 (List.mem_of_mem_drop hp) with h1 | h1
  · exact .inl h1
  · exact .inr (by simpa using h1)

/-- a slice of the call's own that lies from block a up to block b -/
def Between (v : Value) (a b : Nat) : Prop := ∀ g, v.ownBlock = some g → a ≤ g ∧ g < b
theorem Between.ne {v v' : Value} {a b a' b' : Nat} (h : Between v a b) (h' : Between v' a' b') (hb : b ≤ a') : ∀ g, v.ownBlock = some g → v'.ownBlock ≠ some g := fun g h1 h2 => by
  have := h g h1
  have := h' g h2
  omega

set_option maxRecDepth 100000 in
set_option maxHeartbeats 8000000 in
theorem sumSeals_walk (A : Option Addr) (n c : Nat) (xs : List UInt8) (W : World) (hc : n ≤ c) (hr : c ≤ 140737488351232) (h : Bytes W W.heap.size A n xs) :
    Calls Try.prog 6 #[.slice A n c] W fun e w' => e = .returned (.bool true) ∧ Below W.heap.size W w' := by
  have H := Lib.hid h
  have HL := Lib.hid h.length
  clear h
  go_enter Try.func6, Try.ntmps6
  go_wp2_with fail
  have HP1 : Hid (Bytes (W.alloc (.cells #[.slice none 0 0, .slice none 0 0, .int .i64 0, .bool false] 36)) W.heap.size A n xs) := H.out.alloc (Nat.le_refl _) _
  have HBK1 := Lib.hid (book_new W)
  have HM1 : Hid (Moves W.heap.size W (W.alloc (.cells #[.slice none 0 0, .slice none 0 0, .int .i64 0, .bool false] 36))) := (Moves.refl _ _).alloc (Nat.le_refl _) _
  refine (roomy_any A n c xs _ 177 177 rfl (by exact HP1.out.more (by simp)) (by omega)).mono ?_
  rintro e W2 ⟨rfl, hb2, hf2⟩
  have hs2 : W.heap.size + 1 ≤ W2.heap.size := by have := hb2.size; simpa using this
  have HM2 : Hid (Moves W.heap.size W W2) := HM1.out.trans (Moves.of_below hb2 (by simp))
  have HP2 : Hid (Bytes W2 W.heap.size A n xs) := HP1.out.keep (hb2.mono (by simp))
  have HF2 : Hid (Blk W2 (W.heap.size + 1) 5 (bytesV (xs ++ List.replicate 80 177))) := by rw [World.size_alloc] at hf2; exact hf2
  have HBK2 : Hid (BookAt W2 W.heap.size W.heap.size []) := by
    obtain ⟨lv, wv, hd, cs, h1, h2⟩ := HBK1.out
    exact ⟨lv, wv, hd, cs, h1.keep hb2, h2.moves (Moves.of_below hb2 (by simp))⟩
  clear hb2 hf2 HP1 HBK1 HM1
  go_wp2_with fail
  refine (seal_val _ n _ xs W2 (by exact room_front HF2.out HL.out (by omega)) (by omega)).mono ?_
  rintro e W3 ⟨As, cs, rfl, hcs, hb3, ho3⟩
  have hs3 := hb3.size
  have RS : Hid (Between (.slice As (n + 4) cs) W2.heap.size W3.heap.size) := Own_range ho3
  have OS3 := Lib.hid (ho3.lower (b' := W.heap.size) (by omega))
  have HM3 : Hid (Moves W.heap.size W W3) := HM2.out.trans (Moves.of_below hb3 (by omega))
  have HP3 : Hid (Bytes W3 W.heap.size A n xs) := HP2.out.keep (hb3.mono (by omega))
  have HF3 : Hid (Blk W3 (W.heap.size + 1) 5 (bytesV (xs ++ List.replicate 80 177))) := HF2.out.below hb3 HF2.out.lt
  have HBK3 : Hid (BookAt W3 W.heap.size W.heap.size []) := BookAt_moves HBK2.out hb3 (by omega)
  clear hb3 ho3 HM2 HP2 HF2 HBK2
  go_wp2_with fail
  refine (seal_val _ n _ xs W3 (by exact room_front HF3.out HL.out (by omega)) (by omega)).mono ?_
  rintro e W4 ⟨At, ct, rfl, hct, hb4, ho4⟩
  have hs4 := hb4.size
  have RT : Hid (Between (.slice At (n + 4) ct) W3.heap.size W4.heap.size) := Own_range ho4
  have OT4 := Lib.hid (ho4.lower (b' := W.heap.size) (by omega))
  have OS4 : Hid (Own W4 W.heap.size 5 (.slice As (n + 4) cs) (n + 4) (bytesV (sealed xs))) := Own.keep OS3.out hb4 (Nat.le_refl _)
  have HM4 : Hid (Moves W.heap.size W W4) := HM3.out.trans (Moves.of_below hb4 (by omega))
  have HP4 : Hid (Bytes W4 W.heap.size A n xs) := HP3.out.keep (hb4.mono (by omega))
  have HF4 : Hid (Blk W4 (W.heap.size + 1) 5 (bytesV (xs ++ List.replicate 80 177))) := HF3.out.below hb4 HF3.out.lt
  have HBK4 : Hid (BookAt W4 W.heap.size W.heap.size []) := BookAt_moves HBK3.out hb4 (by omega)
  clear hb4 ho4 HM3 HP3 HF3 HBK3 OS3
  go_wp2_with fail
  refine (open_sealed As n cs xs W4 HL.out (by exact Own_reads OS4.out) hcs (by omega)).mono ?_
  rintro e W5 ⟨Aa, ca, rfl, hb5, ho5⟩
  have hs5 := hb5.size
  have RA : Hid (Between (.slice Aa n ca) W4.heap.size W5.heap.size) := Own_range ho5
  have OA5 := Lib.hid (ho5.lower (b' := W.heap.size) (by omega))
  have OS5 : Hid (Own W5 W.heap.size 5 (.slice As (n + 4) cs) (n + 4) (bytesV (sealed xs))) := Own.keep OS4.out hb5 (Nat.le_refl _)
  have OT5 : Hid (Own W5 W.heap.size 5 (.slice At (n + 4) ct) (n + 4) (bytesV (sealed xs))) := Own.keep OT4.out hb5 (Nat.le_refl _)
  have HM5 : Hid (Moves W.heap.size W W5) := HM4.out.trans (Moves.of_below hb5 (by omega))
  have HP5 : Hid (Bytes W5 W.heap.size A n xs) := HP4.out.keep (hb5.mono (by omega))
  have HF5 : Hid (Blk W5 (W.heap.size + 1) 5 (bytesV (xs ++ List.replicate 80 177))) := HF4.out.below hb5 HF4.out.lt
  have HBK5 : Hid (BookAt W5 W.heap.size W.heap.size []) := BookAt_moves HBK4.out hb5 (by omega)
  clear hb5 ho5 HM4 HP4 HF4 HBK4 OS4 OT4
  go_wp2_with fail
  refine (open_sealed As n cs xs W5 HL.out (by exact Own_reads OS5.out) hcs (by omega)).mono ?_
  rintro e W6 ⟨Ab, cb, rfl, hb6, ho6⟩
  have hs6 := hb6.size
  have RB : Hid (Between (.slice Ab n cb) W5.heap.size W6.heap.size) := Own_range ho6
  have OB6 := Lib.hid (ho6.lower (b' := W.heap.size) (by omega))
  have OS6 : Hid (Own W6 W.heap.size 5 (.slice As (n + 4) cs) (n + 4) (bytesV (sealed xs))) := Own.keep OS5.out hb6 (Nat.le_refl _)
  have OT6 : Hid (Own W6 W.heap.size 5 (.slice At (n + 4) ct) (n + 4) (bytesV (sealed xs))) := Own.keep OT5.out hb6 (Nat.le_refl _)
  have OA6 : Hid (Own W6 W.heap.size 5 (.slice Aa n ca) n (bytesV xs)) := Own.keep OA5.out hb6 (Nat.le_refl _)
  have HM6 : Hid (Moves W.heap.size W W6) := HM5.out.trans (Moves.of_below hb6 (by omega))
  have HP6 : Hid (Bytes W6 W.heap.size A n xs) := HP5.out.keep (hb6.mono (by omega))
  have HF6 : Hid (Blk W6 (W.heap.size + 1) 5 (bytesV (xs ++ List.replicate 80 177))) := HF5.out.below hb6 HF5.out.lt
  have HBK6 : Hid (BookAt W6 W.heap.size W.heap.size []) := BookAt_moves HBK5.out hb6 (by omega)
  clear hb6 ho6 HM5 HP5 HF5 HBK5 OS5 OT5 OA5
  go_wp2_with fail
  refine (rseal_val A n c xs W6 (by exact HP6.out.more (by omega)) (by omega)).mono ?_
  rintro e W7 ⟨Ar, cr, rfl, hb7, ho7⟩
  have hs7 := hb7.size
  have OR7 := Lib.hid ho7
  have OS7 : Hid (Own W7 W.heap.size 5 (.slice As (n + 4) cs) (n + 4) (bytesV (sealed xs))) := Own.keep OS6.out hb7 (Nat.le_refl _)
  have OT7 : Hid (Own W7 W.heap.size 5 (.slice At (n + 4) ct) (n + 4) (bytesV (sealed xs))) := Own.keep OT6.out hb7 (Nat.le_refl _)
  have OA7 : Hid (Own W7 W.heap.size 5 (.slice Aa n ca) n (bytesV xs)) := Own.keep OA6.out hb7 (Nat.le_refl _)
  have OB7 : Hid (Own W7 W.heap.size 5 (.slice Ab n cb) n (bytesV xs)) := Own.keep OB6.out hb7 (Nat.le_refl _)
  have HM7 : Hid (Moves W.heap.size W W7) := HM6.out.trans (Moves.of_below hb7 (by omega))
  have HP7 : Hid (Bytes W7 W.heap.size A n xs) := HP6.out.keep (hb7.mono (by omega))
  have HF7 : Hid (Blk W7 (W.heap.size + 1) 5 (bytesV (xs ++ List.replicate 80 177))) := HF6.out.below hb7 HF6.out.lt
  have HBK7 : Hid (BookAt W7 W.heap.size W.heap.size []) := BookAt_moves HBK6.out hb7 (by omega)
  clear hb7 ho7 HM6 HP6 HF6 HBK6 OS6 OT6 OA6 OB6
  go_wp2_with fail
  refine (same_yes _ _ _ _ _ _ (sealed xs) _ _ _ (Own_reads OS7.out) (Own_reads OR7.out)).mono ?_
  rintro e w' ⟨rfl, d1, rfl⟩
  go_wp2_with fail
  refine (same_yes _ _ _ _ _ _ (sealed xs) W7.heap.size W7.heap.size _ (by exact Reads.drewN (Own_reads OT7.out) _) (by exact Reads.drewN (Own_reads OS7.out) _)).mono ?_
  rintro e w' ⟨rfl, d2, rfl⟩
  go_wp2_with fail
  refine (same_yes _ _ _ _ _ _ xs W7.heap.size W.heap.size _ (by exact Reads.drewN (Own_reads OA7.out) _) (by exact HP7.out.drewN _)).mono ?_
  rintro e w' ⟨rfl, d3, rfl⟩
  go_wp2_with fail
  refine (same_yes _ _ _ _ _ _ xs W7.heap.size W.heap.size _ (by exact Reads.drewN (Own_reads OB7.out) _) (by exact HP7.out.drewN _)).mono ?_
  rintro e w' ⟨rfl, d4, rfl⟩
  go_wp2_with fail
  refine (intact_yes A (W.heap.size + 1) n c xs W.heap.size 177 177 _ rfl (by exact HP7.out.drewN _) (by omega) (by exact HF7.out)).mono ?_
  rintro e w' ⟨rfl, d5, rfl⟩
  go_wp2_with fail
  refine (keep_of _ W.heap.size W.heap.size [] As (n + 4) cs (sealed xs) (by rw [sealed_length, HL.out]) (by exact BookAt_drewN HBK7.out _) (by simp) (by simp; omega) (by exact Own_drewN OS7.out _) (by simp) (by omega)).mono ?_
  rintro e W8 ⟨rfl, hm8, es8, m8, hbk8, hl8, hl8', hin8⟩
  have OT8 : Hid (Own W8 W.heap.size 5 (.slice At (n + 4) ct) (n + 4) (bytesV (sealed xs))) := Own.moves (Own_drewN OT7.out _) hm8
  have OA8 : Hid (Own W8 W.heap.size 5 (.slice Aa n ca) n (bytesV xs)) := Own.moves (Own_drewN OA7.out _) hm8
  have OB8 : Hid (Own W8 W.heap.size 5 (.slice Ab n cb) n (bytesV xs)) := Own.moves (Own_drewN OB7.out _) hm8
  have HM8 : Hid (Moves W.heap.size W W8) := (HM7.out.drewN _).trans hm8
  have hs8 := HM8.out.1.size
  have HBK8 := Lib.hid hbk8
  have HL8 := Lib.hid hl8
  have HIN8 : Hid (∀ p ∈ es8, p.1 = .slice As (n + 4) cs) := fun p hp => by
    rcases hin8 p hp with h | h
    · cases h
    · rw [h]
  clear hm8 hbk8 hl8 hin8 OS7 OT7 OA7 OB7 HM7 HP7 HF7 HBK7 OR7
  go_wp2_with fail
  refine (keep_of W8 W.heap.size W.heap.size es8 At (n + 4) ct (sealed xs) (by rw [sealed_length, HL.out]) HBK8.out (by rw [HL8.out]; exact hl8') hs8 OT8.out (fun p hp => by rw [HIN8.out p hp]; exact Between.ne RS.out RT.out (Nat.le_refl _)) (by omega)).mono ?_
  rintro e W9 ⟨rfl, hm9, es9, m9, hbk9, hl9, hl9', hin9⟩
  have OA9 : Hid (Own W9 W.heap.size 5 (.slice Aa n ca) n (bytesV xs)) := Own.moves OA8.out hm9
  have OB9 : Hid (Own W9 W.heap.size 5 (.slice Ab n cb) n (bytesV xs)) := Own.moves OB8.out hm9
  have HM9 : Hid (Moves W.heap.size W W9) := HM8.out.trans hm9
  have hs9 := HM9.out.1.size
  have HBK9 := Lib.hid hbk9
  have HL9 := Lib.hid hl9
  have HIN9 : Hid (∀ p ∈ es9, p.1 = .slice As (n + 4) cs ∨ p.1 = .slice At (n + 4) ct) := fun p hp => by
    rcases hin9 p hp with h | h
    · exact .inl (HIN8.out p h)
    · rw [h]; exact .inr rfl
  clear hm9 hbk9 hl9 hin9 OT8 OA8 OB8 HM8 HBK8 HL8 HIN8
  go_wp2_with fail
  refine (keep_of W9 W.heap.size W.heap.size es9 Aa n ca xs HL.out HBK9.out (by rw [HL9.out]; exact hl9') hs9 OA9.out (fun p hp => by
    rcases HIN9.out p hp with h | h
    · rw [h]; exact Between.ne RS.out RA.out (by omega)
    · rw [h]; exact Between.ne RT.out RA.out (Nat.le_refl _)) (by omega)).mono ?_
  rintro e W10 ⟨rfl, hm10, es10, m10, hbk10, hl10, hl10', hin10⟩
  have OB10 : Hid (Own W10 W.heap.size 5 (.slice Ab n cb) n (bytesV xs)) := Own.moves OB9.out hm10
  have HM10 : Hid (Moves W.heap.size W W10) := HM9.out.trans hm10
  have hs10 := HM10.out.1.size
  have HBK10 := Lib.hid hbk10
  have HL10 := Lib.hid hl10
  have HIN10 : Hid (∀ p ∈ es10, (p.1 = .slice As (n + 4) cs ∨ p.1 = .slice At (n + 4) ct) ∨ p.1 = .slice Aa n ca) := fun p hp => by
    rcases hin10 p hp with h | h
    · exact .inl (HIN9.out p h)
    · rw [h]; exact .inr rfl
  clear hm10 hbk10 hl10 hin10 OA9 OB9 HM9 HBK9 HL9 HIN9
  go_wp2_with fail
  refine (keep_of W10 W.heap.size W.heap.size es10 Ab n cb xs HL.out HBK10.out (by rw [HL10.out]; exact hl10') hs10 OB10.out (fun p hp => by
    rcases HIN10.out p hp with (h | h) | h
    · rw [h]; exact Between.ne RS.out RB.out (by omega)
    · rw [h]; exact Between.ne RT.out RB.out (by omega)
    · rw [h]; exact Between.ne RA.out RB.out (Nat.le_refl _)) (by omega)).mono ?_
  rintro e W11 ⟨rfl, hm11, es11, m11, hbk11, hl11, hl11', _⟩
  have HM11 : Hid (Moves W.heap.size W W11) := HM10.out.trans hm11
  have HBK11 := Lib.hid hbk11
  have HL11 := Lib.hid hl11
  clear hm11 hbk11 hl11 OB10 HM10 HBK10 HL10 HIN10
  go_wp2_with fail
  refine (apart_any W11 W.heap.size W.heap.size m11 es11 HBK11.out HL11.out hl11').mono ?_
  rintro e W12 ⟨rfl, hb12⟩
  have HM12 : Hid (Below W.heap.size W W12) := HM11.out.1.trans hb12
  clear hb12 HM11
  go_wp2_with fail
  refine (runs_any _).mono ?_
  rintro e W13 ⟨rfl, hb13⟩
  have HM13 : Hid (Below W.heap.size W W13) := HM12.out.trans (hb13.mono HM12.out.size)
  clear hb13
  go_wp2_with fail
  go_ret
  exact ⟨rfl, HM13.out⟩

#print axioms sumSeals_walk
end Go.Proofs.Ytgbnclaflhoabaa.SumWalks
