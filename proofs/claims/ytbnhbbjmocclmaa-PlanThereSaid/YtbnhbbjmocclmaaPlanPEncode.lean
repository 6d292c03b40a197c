/-
  The program's plan.Encode, walked.
-/
import Derived.Test.YtbnhbbjmocclmaaPlanCodec
import Derived.Test.YtbnhbbjmocclmaaPlanPRight
import Derived.Test.YtbnhbbjmocclmaaWireAll
namespace Go.Proofs.Ytbnhbbjmocclmaa.Plan
open Go.ChangeShapes Go.WideShapes Go.ChangeAt Go.RowKit Go.Proofs.Ytbnhbbjmocclmaa.Mem Go.Proofs.Ytbnhbbjmocclmaa.FleetMath Go.Proofs.Ytbnhbbjmocclmaa.PlanMath Go.Proofs.Ytbnhbbjmocclmaa.Rec Go.Proofs.Ytbnhbbjmocclmaa.WireMath Go.Proofs.Ytbnhbbjmocclmaa.Wire
set_option linter.unusedVariables false

/-- bytes of the call's own -/
structure EB (w wr : World) (v : Value) (bs : List UInt8) : Prop where
  old : Below w.heap.size w wr
  own : Own wr w.heap.size 5 v bs.length (bytesV bs)
theorem EB.keep {w wr w' : World} {v : Value} {f : List UInt8} (h : EB w wr v f) (hb : Below wr.heap.size wr w') : EB w w' v f := ⟨h.old.trans (hb.mono h.old.size), h.own.keep hb (Nat.le_refl _)⟩
theorem EB.next {w wr w1 : World} {v : Value} {bs : List UInt8} {n : Nat} (h : Below w.heap.size w wr) (hb : Below wr.heap.size wr w1) (ho : Own w1 wr.heap.size 5 v n (bytesV bs)) (hn : n = bs.length) : EB w w1 v bs :=
  ⟨h.trans (hb.mono h.size), by rw [← hn]; exact ho.lower h.size⟩
theorem EB.read {w wr : World} {v : Value} {bs : List UInt8} (h : EB w wr v bs) : ∃ A c, v = .slice A bs.length c ∧ Hid (Bytes wr wr.heap.size A bs.length bs) := by
  obtain ⟨A, c, e, _, h1⟩ := h.own.read
  exact ⟨A, c, e, h1⟩
theorem nil_bytes (w : World) : Bytes w w.heap.size none 0 [] := ⟨rfl, Nat.zero_le _, fun h => absurd h (Nat.lt_irrefl _)⟩

set_option maxRecDepth 100000 in
set_option maxHeartbeats 4000000 in
theorem pwritten_any (A : Option Addr) (n c : Nat) (x : Rte) (w : World) (hl : Stps w w.heap.size A n x.stops) (hx : Wr x) :
    Calls Try.prog 50 #[.agg #[.int .i64 x.drv, .int .i64 x.served, .slice A n c]] w (fun e w' => ∃ v, e = .returned v ∧ EB w w' v (encR x)) := by
  have hm := Recs.le hl
  have HL := Lib.hid hl.length
  have HI := Lib.hid hl
  have HX := Lib.hid hx
  have HB0 : Hid (Below w.heap.size w (w.alloc (.cells #[.int .i64 x.drv, .int .i64 x.served, .slice A n c] 26))) := (Below.refl _ _).alloc (Nat.le_refl _) _
  have HQ0 : Hid (Blk (w.alloc (.cells #[.int .i64 x.drv, .int .i64 x.served, .slice A n c] 26)) w.heap.size 26 [.int .i64 x.drv, .int .i64 x.served, .slice A n c]) := Blk.new _ _ _
  have HHL := Lib.hid (encH_len hx.drv hx.len hx.served)
  have hp1 := (putN_len hx.drv).2
  have hp2 := (putN_len hx.len).2
  have hp3 := (putN_len hx.served).2
  rw [hl.length] at hp2
  clear hl hx
  go_enter Try.func50, Try.ntmps50
  go_wp2_with fail
  refine (pnum_any _ _ _ [] _ _ (by exact nil_bytes _) HX.out.drv (by omega)).mono ?_
  rintro e w1 ⟨v, rfl, hb1, ho1⟩
  have HE1 := Lib.hid (EB.next HB0.out hb1 ho1 (by simp))
  have HQ1 := Lib.hid (HQ0.out.below hb1 HQ0.out.lt)
  obtain ⟨A1, c1, rfl, HR1⟩ := HE1.out.read
  have d1 := HQ1.out.cell (i := 1) rfl
  have d2 := HQ1.out.cell (i := 2) rfl
  clear hb1 ho1 HB0 HQ0
  rw [List.nil_append] at HE1 HR1 ⊢
  go_wp2_with fail
  refine (pnum_any _ _ _ _ _ _ (by exact HR1.out) (by have := HX.out.len; rw [HL.out] at this; exact this) (by omega)).mono ?_
  rintro e w2 ⟨v, rfl, hb2, ho2⟩
  have HE2 := Lib.hid (EB.next HE1.out.old hb2 ho2 (by rw [List.length_append]))
  have HQ2 := Lib.hid (HQ1.out.below hb2 HQ1.out.lt)
  have hl2 : (putN x.drv ++ putN (n : Int)).length ≤ 20 := by rw [List.length_append]; omega
  obtain ⟨bs2, hbs2⟩ : ∃ z, putN x.drv ++ putN (n : Int) = z := ⟨_, rfl⟩
  have HBS2 := Lib.hid hbs2
  rw [hbs2] at HE2 hl2
  obtain ⟨A2, c2, rfl, HR2⟩ := HE2.out.read
  clear hbs2
  have e1 := HQ2.out.cell (i := 1) rfl
  have e2 := HQ2.out.cell (i := 2) rfl
  clear hb2 ho2 HE1 HR1 HQ1 d1 d2
  go_wp2_with fail
  refine (pnum_any _ _ _ _ _ _ (by exact HR2.out) HX.out.served (by omega)).mono ?_
  rintro e w3 ⟨v, rfl, hb3, ho3⟩
  have HE3 := Lib.hid (EB.next HE2.out.old hb3 ho3 (by rw [List.length_append]))
  have HQ3 := Lib.hid (HQ2.out.below hb3 HQ2.out.lt)
  have HE4 : Hid (EB w w3 v (encH x ++ (x.stops.take 0).flatMap encS)) := by
    have h := HE3.out
    rw [List.take_zero, List.flatMap_nil, List.append_nil]
    unfold encH
    rw [HL.out, HBS2.out]
    exact h
  have f2 := HQ3.out.cell (i := 2) rfl
  clear hb3 ho3 HE2 HR2 HQ2 HE3 e1 e2 hl2 hp1 hp2 hp3
  go_wp2_with fail
  go_loopw [3, 21] (fun v i wr => ∃ (j : Nat), j ≤ n ∧ i = .int .i64 j ∧ Hid (EB w wr v (encH x ++ (x.stops.take j).flatMap encS))) (fun _ i _ => n - (intOf i).toNat)
  case atStart => exact ⟨0, Nat.zero_le _, rfl, HE4⟩
  case round =>
    clear HE4 HQ3 f2
    obtain ⟨j, hj, rfl, HE⟩ := hrel
    by_cases hlt : j < n
    · obtain ⟨b, off, s, rfl, hbb, hs, hdr, s0, s1⟩ := Stps.at_ (Recs.keep HI.out HE.out.old) hlt
      have hord := HX.out.ords s (List.mem_of_getElem? hs)
      have HORD := Lib.hid hord
      have hp := (putN_len hord).2
      have hlen : (encH x ++ (x.stops.take j).flatMap encS).length ≤ 910 := by
        have h1 := HHL.out
        have h2 := encSs_len (l := x.stops.take j) fun s hs => HX.out.ords s (List.mem_of_mem_take hs)
        have h3 := HX.out.few
        have h4 : (x.stops.take j).length ≤ 80 := by rw [List.length_take]; omega
        rw [List.length_append]
        omega
      have HT : Hid (encH x ++ (x.stops.take (j + 1)).flatMap encS = (encH x ++ (x.stops.take j).flatMap encS) ++ putN s.ord ++ [flagB s.drop]) := Lib.hid (by
        rw [List.take_add_one, hs, List.flatMap_append]
        simp [encS])
      obtain ⟨bs, hbs⟩ : ∃ z, encH x ++ (x.stops.take j).flatMap encS = z := ⟨_, rfl⟩
      rw [hbs] at HE hlen HT
      obtain ⟨A4, c4, rfl, _⟩ := HE.out.read
      have HEB : Hid (EB w (wr.alloc (.cells #[.int .i64 s.ord, .bool s.drop] 23)).drew (.slice A4 bs.length c4) bs) := HE.out.keep ((Below.refl _ _).alloc (Nat.le_refl _) _).drew
      have HQB : Hid (Blk (wr.alloc (.cells #[.int .i64 s.ord, .bool s.drop] 23)).drew wr.heap.size 23 [.int .i64 s.ord, .bool s.drop]) := Blk.new _ _ _
      have HRB : Hid (Bytes (wr.alloc (.cells #[.int .i64 s.ord, .bool s.drop] 23)).drew (wr.alloc (.cells #[.int .i64 s.ord, .bool s.drop] 23)).drew.heap.size A4 bs.length bs) := by
        obtain ⟨A, c, e, h⟩ := HEB.out.read
        injection e with e1 e2 e3
        rw [e1]
        exact h
      have q0 := HQB.out.cell (i := 0) rfl
      have q1 := HQB.out.cell (i := 1) rfl
      clear hs hdr hbb hbs hord HE
      have hl5 : (bs ++ putN s.ord).length ≤ 920 := by rw [List.length_append]; omega
      have hle5 : bs.length + (putN s.ord).length = (bs ++ putN s.ord).length := by rw [List.length_append]
      obtain ⟨bs5, hbs5⟩ : ∃ z, bs ++ putN s.ord = z := ⟨_, rfl⟩
      rw [hbs5] at hl5 HT hle5
      have HL5 := Lib.hid hle5
      have HC5 : Hid (∀ w : World, ∀ A c, Bytes w w.heap.size A bs.length bs → Calls Try.prog 49 #[.slice A bs.length c, .int .i64 s.ord] w (Makes w 5 bs5.length (bytesV bs5))) := Lib.hid (fun w A c h => by
        have := pnum_any A bs.length c bs s.ord w h HORD.out (by omega)
        rw [hbs5, hle5] at this
        exact this)
      clear hbs5 hle5 hp HORD
      go_wp2
      go_region_law (first | (go_simp; go_at_call 49; refine (HC5.out _ _ _ HRB.out).mono ?_; rintro e w5 ⟨v5, rfl, hb5, ho5⟩; have HE5 := Lib.hid (EB.next HEB.out.old hb5 ho5 rfl); have HQ5 := Lib.hid (HQB.out.below hb5 HQB.out.lt); have r0 := HQ5.out.cell (i := 0) rfl; have r1 := HQ5.out.cell (i := 1) rfl; obtain ⟨A5, c5, rfl, HR5⟩ := HE5.out.read; clear hb5 ho5 HQ5) | (go_simp; go_at_call 72; refine (pflag_any _ _ _ bs5 _ _ HR5.out (by omega)).mono ?_; rintro e w6 ⟨v6, rfl, hb6, ho6⟩; have HE6 := Lib.hid (EB.next (bs := bs5 ++ [flagB s.drop]) HE5.out.old hb6 ho6 (by rw [List.length_append]; rfl)); clear hb6 ho6))
      all_goals
        go_wp2
        go_roundw
        case rel => exact ⟨j + 1, by omega, by go_num, Lib.hid (by rw [HT.out]; exact HE6.out)⟩
        case measure => simp [intOf]; omega
    · have hje : j = n := by omega
      subst hje
      have HF : Hid (EB w wr u3 (encR x)) := by
        have h := HE.out
        rw [List.take_of_length_le (by rw [HL.out]; exact Nat.le_refl _)] at h
        exact h
      clear HE
      go_wp2
      go_ret
      exact ⟨u3, rfl, HF.out⟩
#print axioms pwritten_any

set_option maxRecDepth 100000 in
set_option maxHeartbeats 4000000 in
theorem pencode_any (A : Option Addr) (n c : Nat) (l : List RM) (w : World) (hl : Plns w w.heap.size A n l) :
    Calls Try.prog 21 #[.slice A n c] w (fun e w' => ∃ v, e = .returned v ∧ EB w w' v (encodeP (l.map (·.rt)))) := by
  have hm := Recs.le hl.rows
  have HL := Lib.hid hl.length
  have HI := Lib.hid hl
  clear hl
  go_enter Try.func21, Try.ntmps21
  go_wp2_with fail
  refine (pright_any _ _ _ l _ (by exact HI.out)).mono ?_
  rintro e w1 ⟨rfl, hb1⟩
  have HB1 := Lib.hid hb1
  clear hb1
  obtain ⟨rv, hrv⟩ : ∃ r, rightP (l.map (·.rt)) = r := ⟨_, rfl⟩
  rw [hrv]
  have HRV := Lib.hid hrv
  clear hrv
  cases rv with
  | false =>
    go_wp2_with fail
    go_ret
    refine ⟨.slice none 0 0, rfl, ?_⟩
    unfold encodeP
    rw [HRV.out]
    exact ⟨HB1.out, Own.nil _ _ _⟩
  | true =>
    have h8 := rightP_few HRV.out
    have hn8 : n ≤ 8 := by rw [List.length_map, HL.out] at h8; exact h8
    have HN : Hid (i64 (n : Int)) := i64_small (by omega) (by omega)
    have hp := (putN_len HN.out).2
    clear h8
    go_wp2_with fail
    refine (pnum_any _ _ _ [] _ _ (by exact nil_bytes _) HN.out (by omega)).mono ?_
    rintro e w2 ⟨v, rfl, hb2, ho2⟩
    have HE2 : Hid (EB w w2 v (putN (n : Int) ++ ((l.map (·.rt)).take 0).flatMap encR)) := by
      rw [List.take_zero, List.flatMap_nil, List.append_nil]
      exact EB.next HB1.out hb2 ho2 (by simp)
    clear hb2 ho2 HB1
    go_wp2_with fail
    go_loopw [3, 14] (fun v i wr => ∃ (k : Nat), k ≤ n ∧ i = .int .i64 k ∧ Hid (EB w wr v (putN (n : Int) ++ ((l.map (·.rt)).take k).flatMap encR))) (fun _ i _ => n - (intOf i).toNat)
    case atStart => exact ⟨0, Nat.zero_le _, rfl, HE2⟩
    case round =>
      clear HE2
      obtain ⟨k, hk, rfl, HE⟩ := hrel
      by_cases hlt : k < n
      · obtain ⟨b, off, x, rfl, hbb, hx, hdr, c0, c1, c2, hst, hxc⟩ := (HI.out.keep HE.out.old).at_ hlt
        have HXT := Lib.hid hst
        have HXM : Hid ((l.map (·.rt))[k]? = some x.rt) := Lib.hid (by rw [List.getElem?_map, hx]; rfl)
        have HW := Lib.hid (Wr.of HRV.out (List.mem_of_getElem? HXM.out))
        have hxl := HW.out.encR_len
        have hlen : (putN (n : Int) ++ ((l.map (·.rt)).take k).flatMap encR).length ≤ 7290 := by
          have h1 := encRs_len (l := (l.map (·.rt)).take k) fun r hr => Wr.of HRV.out (List.mem_of_mem_take hr)
          have h2 : ((l.map (·.rt)).take k).length ≤ 8 := by rw [List.length_take]; omega
          rw [List.length_append]
          omega
        have HT : Hid (putN (n : Int) ++ ((l.map (·.rt)).take (k + 1)).flatMap encR = (putN (n : Int) ++ ((l.map (·.rt)).take k).flatMap encR) ++ encR x.rt) := Lib.hid (by
          rw [List.take_add_one, HXM.out, List.flatMap_append]
          simp)
        obtain ⟨bs, hbs⟩ : ∃ z, putN (n : Int) ++ ((l.map (·.rt)).take k).flatMap encR = z := ⟨_, rfl⟩
        rw [hbs] at HE hlen HT
        have HE3 : Hid (EB w (wr.alloc (.cells #[.int .i64 x.rt.drv, .int .i64 x.rt.served, .slice x.a x.n x.c] 26)) u3 bs) := HE.out.keep ((Below.refl _ _).alloc (Nat.le_refl _) _)
        have HS3 : Hid (Stps (wr.alloc (.cells #[.int .i64 x.rt.drv, .int .i64 x.rt.served, .slice x.a x.n x.c] 26)) (wr.alloc (.cells #[.int .i64 x.rt.drv, .int .i64 x.rt.served, .slice x.a x.n x.c] 26)).heap.size x.a x.n x.rt.stops) := Recs.more (Recs.keep HXT.out ((Below.refl _ _).alloc HE.out.old.size _)) HE3.out.old.size
        clear hx hdr hst hbs HE HXT
        go_wp2_with fail
        refine (pwritten_any _ _ _ x.rt _ (by exact HS3.out) HW.out).mono ?_
        rintro e w3 ⟨v3, rfl, he3⟩
        have HE4 := Lib.hid (HE3.out.keep he3.old)
        obtain ⟨A3, c3, rfl, HR3⟩ := he3.read
        clear he3 c0 c1 c2 HS3
        go_wp2_with (at_builtin; refine wpList_append_b (o := ⟨some 21, _, _, _, _, _⟩) rfl (.tmp 18) (.tmp 20) Try.underlying44 infoByte rfl rfl HE4.out.own rfl HR3.out rfl (bytesV_one _) (by unfold maxLen; omega) (by omega) HE4.out.old HE4.out.old.size HE4.out.old.size (Nat.le_refl _) ?_; intro vC wC HO4 HB4 _ HG4; (try simp only [Act.put]))
        have HE5 : Hid (EB w wC vC (bs ++ encR x.rt)) := ⟨HB4, by rw [List.length_append, bytesV_append]; exact HO4.out⟩
        clear HO4 HB4 HG4 HE4 HR3
        go_roundw
        case rel => exact ⟨k + 1, by omega, by go_num, Lib.hid (by rw [HT.out]; exact HE5.out)⟩
        case measure => simp [intOf]; omega
      · have hke : k = n := by omega
        subst hke
        have HF : Hid (EB w wr u3 (encodeP (l.map (·.rt)))) := by
          have h := HE.out
          rw [List.take_of_length_le (by rw [List.length_map, HL.out]; exact Nat.le_refl _)] at h
          unfold encodeP
          rw [HRV.out]
          unfold encP
          rw [List.length_map, HL.out]
          exact h
        clear HE
        go_wp2
        go_ret
        exact ⟨u3, rfl, HF.out⟩
#print axioms pencode_any
end Go.Proofs.Ytbnhbbjmocclmaa.Plan
