/-
  The document's own answer to chapter 9, walked: Encode.
-/
import Derived.Test.YtbnhbbjmocclmaaPlanPEncode
import Derived.Test.YtbnhbbjmocclmaaPlanRRight
import Derived.Test.YtbnhbbjmocclmaaWireAll
import Derived.Test.YtbnhbbjmocclmaaPlanExec
namespace Go.Proofs.Ytbnhbbjmocclmaa.Plan
open Go.ChangeShapes Go.WideShapes Go.ChangeAt Go.RowKit Go.Proofs.Ytbnhbbjmocclmaa.Mem Go.Proofs.Ytbnhbbjmocclmaa.FleetMath Go.Proofs.Ytbnhbbjmocclmaa.PlanMath Go.Proofs.Ytbnhbbjmocclmaa.Rec Go.Proofs.Ytbnhbbjmocclmaa.WireMath Go.Proofs.Ytbnhbbjmocclmaa.Wire
set_option linter.unusedVariables false
set_option linter.unusedSimpArgs false

theorem reads1' {u : World} {B n : Nat} {A : Option Addr} {vs : List Value} (h : Recs u B A n 1 vs) : Reads u B A n vs := ⟨by have := h.1; omega, h.2.1, h.2.2⟩
theorem rnum_row (u : World) (A : Option Addr) (m c : Nat) (bs cs : List UInt8) (v : Int) (hv : i64 v) (hm : m + 10 ≤ 140737488355328) (hl : bs.length = m) (hcs : bs ++ putN v = cs) (h : Bytes u u.heap.size A m bs) :
    Calls Try.prog 57 #[.slice A m c, .int .i64 v] u (fun e w' => ∃ y, e = .returned y ∧ Below u.heap.size u w' ∧ OwnK w' u.heap.size 5 1 y cs.length (bytesV cs)) := by
  subst hl hcs
  refine (rnum_any A _ c bs v u h hv hm).mono ?_
  rintro e w' ⟨y, rfl, hb, ho⟩
  exact ⟨y, rfl, hb, by rw [List.length_append]; exact ho⟩
theorem rflag_row (u : World) (A : Option Addr) (m c : Nat) (bs cs : List UInt8) (f : Bool) (hm : m + 10 ≤ 140737488355328) (hl : bs.length = m) (hcs : bs ++ [flagB f] = cs) (h : Bytes u u.heap.size A m bs) :
    Calls Try.prog 58 #[.slice A m c, .bool f] u (fun e w' => ∃ y, e = .returned y ∧ Below u.heap.size u w' ∧ OwnK w' u.heap.size 5 1 y cs.length (bytesV cs)) := by
  subst hl hcs
  refine (rflag_any A _ c bs f u h (by omega)).mono ?_
  rintro e w' ⟨y, rfl, hb, ho⟩
  exact ⟨y, rfl, hb, by rw [List.length_append]; exact ho⟩

set_option maxRecDepth 100000 in
set_option maxHeartbeats 8000000 in
theorem rencode_any (A : Option Addr) (n c : Nat) (l : List RM) (w : World) (hl : Plns w w.heap.size A n l) :
    Calls Try.prog 31 #[.slice A n c] w (fun e w' => ∃ v, e = .returned v ∧ EB w w' v (encodeP (l.map (·.rt)))) := by
  have hm := Recs.le hl.rows
  have HL := Lib.hid hl.length
  have HI := Lib.hid hl
  clear hl
  go_enter Try.func31, Try.ntmps31
  go_wp2_with fail
  refine (rright_any _ _ _ l _ (by exact HI.out)).mono ?_
  rintro e w1 ⟨rfl, hb1⟩
  have HB1 := Lib.hid hb1
  clear hb1
  obtain ⟨rv, hrv⟩ : ∃ r, rightP (l.map (·.rt)) = r := ⟨_, rfl⟩
  rw [hrv]
  have HRV := Lib.hid hrv
  clear hrv
  cases rv with
  | false =>
    go_wp2_with fail
    go_ret
    refine ⟨.slice none 0 0, rfl, ?_⟩
    unfold encodeP
    rw [HRV.out]
    exact ⟨HB1.out, Own.nil _ _ _⟩
  | true =>
    have h8 := rightP_few HRV.out
    have hn8 : n ≤ 8 := by rw [List.length_map, HL.out] at h8; exact h8
    have HN : Hid (i64 (n : Int)) := i64_small (by omega) (by omega)
    clear h8
    obtain ⟨b0, hb0⟩ : ∃ b, putN (n : Int) = b := ⟨_, rfl⟩
    have hb0l : b0.length ≤ 10 := by rw [← hb0]; exact (putN_len HN.out).2
    have HB0 := Lib.hid hb0
    clear hb0
    go_wp2_with fail
    refine (rnum_row _ none 0 0 [] b0 (n : Int) HN.out (by omega) rfl (by rw [HB0.out]; rfl) (by exact nil_bytes _)).mono ?_
    rintro e w2 ⟨v2, rfl, hb2, ho2⟩
    have HE2 : Hid (EB w w2 v2 (b0 ++ ((l.map (·.rt)).take 0).flatMap encR)) := by
      rw [List.take_zero, List.flatMap_nil, List.append_nil]
      exact EB.next HB1.out hb2 ho2 rfl
    clear hb2 ho2 HB1
    go_wp2_with fail
    go_loopw [3, 4] (fun v i wr => ∃ (k : Nat), k ≤ n ∧ i = .int .i64 k ∧ Hid (EB w wr v (b0 ++ ((l.map (·.rt)).take k).flatMap encR))) (fun _ i _ => n - (intOf i).toNat)
    case atStart => exact ⟨0, Nat.zero_le _, rfl, HE2⟩
    case round =>
      clear HE2
      obtain ⟨k, hk, rfl, HE⟩ := hrel
      by_cases hlt : k < n
      · obtain ⟨b, off, x, rfl, hbb, hx, hdr, c0, c1, c2, hst, hxc⟩ := HI.out.at_ hlt
        have HSTW : Hid (Stps w w.heap.size x.a x.n x.rt.stops) := Lib.hid (HI.out.each x (List.mem_of_getElem? hx)).1
        have HX := Lib.hid hx
        have HXM : Hid ((l.map (·.rt))[k]? = some x.rt) := Lib.hid (by rw [List.getElem?_map, hx]; rfl)
        have HW := Lib.hid (Wr.of HRV.out (List.mem_of_getElem? HXM.out))
        have hnl := Stps.length hst
        have hw := Lib.hid HW.out.len
        rw [hnl] at hw
        have hlen : (b0 ++ ((l.map (·.rt)).take k).flatMap encR).length ≤ 7290 := by
          have h1 := encRs_len (l := (l.map (·.rt)).take k) fun r hr => Wr.of HRV.out (List.mem_of_mem_take hr)
          have h2 : ((l.map (·.rt)).take k).length ≤ 8 := by rw [List.length_take]; omega
          rw [List.length_append]
          omega
        obtain ⟨bs, hbs⟩ : ∃ z, b0 ++ ((l.map (·.rt)).take k).flatMap encR = z := ⟨_, rfl⟩
        have HT : Hid (b0 ++ ((l.map (·.rt)).take (k + 1)).flatMap encR = bs ++ encR x.rt) := Lib.hid (by
          rw [← hbs, List.take_add_one, HXM.out, List.flatMap_append]
          simp)
        rw [hbs] at HE hlen
        obtain ⟨rt, xa, xn, xc⟩ := x
        simp only at c0 c1 c2 hst hxc HSTW HXM HW hnl hw HT
        obtain ⟨A3, c3, rfl, _⟩ := HE.out.read
        obtain ⟨m3, hm3⟩ : ∃ m, bs.length = m := ⟨_, rfl⟩
        rw [hm3] at HE hlen ⊢
        obtain ⟨bs1, h1⟩ : ∃ z, bs ++ putN rt.drv = z := ⟨_, rfl⟩
        obtain ⟨bs2, h2⟩ : ∃ z, bs1 ++ putN (xn : Int) = z := ⟨_, rfl⟩
        obtain ⟨bs3, h3⟩ : ∃ z, bs2 ++ putN rt.served = z := ⟨_, rfl⟩
        have l1 : bs1.length ≤ 7300 := by have := (putN_len HW.out.drv).2; rw [← h1, List.length_append]; omega
        have l2 : bs2.length ≤ 7310 := by have := (putN_len hw.out).2; rw [← h2, List.length_append]; omega
        have l3 : bs3.length ≤ 7320 := by have := (putN_len HW.out.served).2; rw [← h3, List.length_append]; omega
        obtain ⟨m1, hm1⟩ : ∃ m, bs1.length = m := ⟨_, rfl⟩
        obtain ⟨m2, hm2⟩ : ∃ m, bs2.length = m := ⟨_, rfl⟩
        obtain ⟨m4, hm4⟩ : ∃ m, bs3.length = m := ⟨_, rfl⟩
        rw [hm1] at l1
        rw [hm2] at l2
        rw [hm4] at l3
        have HT3 : Hid (bs3 = bs ++ encH rt) := Lib.hid (by rw [← h3, ← h2, ← h1, ← hnl]; simp [encH])
        have K1 : Hid (∀ (u : World) (A c), Bytes u u.heap.size A m3 bs → Calls Try.prog 57 #[.slice A m3 c, .int .i64 rt.drv] u (fun e w' => ∃ y, e = .returned y ∧ Below u.heap.size u w' ∧ OwnK w' u.heap.size 5 1 y m1 (bytesV bs1))) := Lib.hid (fun u A c h => by have := rnum_row u A m3 c bs bs1 _ HW.out.drv (by omega) hm3 h1 h; rw [hm1] at this; exact this)
        have K2 : Hid (∀ (u : World) (A c), Bytes u u.heap.size A m1 bs1 → Calls Try.prog 57 #[.slice A m1 c, .int .i64 (xn : Int)] u (fun e w' => ∃ y, e = .returned y ∧ Below u.heap.size u w' ∧ OwnK w' u.heap.size 5 1 y m2 (bytesV bs2))) := Lib.hid (fun u A c h => by have := rnum_row u A m1 c bs1 bs2 _ hw.out (by omega) hm1 h2 h; rw [hm2] at this; exact this)
        have K3 : Hid (∀ (u : World) (A c), Bytes u u.heap.size A m2 bs2 → Calls Try.prog 57 #[.slice A m2 c, .int .i64 rt.served] u (fun e w' => ∃ y, e = .returned y ∧ Below u.heap.size u w' ∧ OwnK w' u.heap.size 5 1 y m4 (bytesV bs3))) := Lib.hid (fun u A c h => by have := rnum_row u A m2 c bs2 bs3 _ HW.out.served (by omega) hm2 h3 h; rw [hm4] at this; exact this)
        have HROW : Hid (∀ u, Below wr.drew.heap.size wr.drew u → Bytes u u.heap.size A3 m3 bs) := Lib.hid (fun u hu => by
          have h := (HE.out.keep ((Below.refl wr.heap.size wr).drew.trans hu)).read
          obtain ⟨A', c', e, hr⟩ := h
          injection e with e1 e2 _
          rw [← e1, hm3] at hr
          exact hr.out)
        have HCW : Hid (∀ u, Below w.heap.size w u → u.cell? ⟨b, off + k * 3, none⟩ = some (.int .i64 rt.drv) ∧ u.cell? ⟨b, off + k * 3 + 1, none⟩ = some (.int .i64 rt.served) ∧ u.cell? ⟨b, off + k * 3 + 2, none⟩ = some (.slice xa xn xc)) := Lib.hid (fun u hu => ⟨(hu.cell (p := ⟨b, off + k * 3, none⟩) hbb).trans c0, (hu.cell (p := ⟨b, off + k * 3 + 1, none⟩) hbb).trans c1, (hu.cell (p := ⟨b, off + k * 3 + 2, none⟩) hbb).trans c2⟩)
        obtain ⟨xd, hxd⟩ : ∃ z, rt.drv = z := ⟨_, rfl⟩
        obtain ⟨xs, hxs⟩ : ∃ z, rt.served = z := ⟨_, rfl⟩
        rw [hxd] at K1 HCW
        rw [hxs] at K3 HCW
        have hxm := Recs.le hst
        have HNL := Lib.hid hnl
        have HOLD := Lib.hid HE.out.old
        have HM4 := Lib.hid hm4
        clear hx hdr hst hbs hm1 hm2 hm4 h1 h2 h3 hm3 hnl hw HX hxd hxs HE c0 c1 c2
        go_upto_region 7 with fail
        refine wp_region_steps (rowRF w.heap.size 1 5 [18, 19, 20, 21, 22, 23, 24, 25, 26, 27, 28, 29, 30, 31, 32, 33, 34, 35, 36, 37, 3] [.slice A3 m3 c3, .slice (some ⟨b, off, none⟩) n c, .int .i64 (k : Int), .pointer (some ⟨b, off + k * 3, none⟩), .pointer (some ⟨b, off + k * 3, none⟩), .int .i64 xd, undef, .slice (some ⟨b, off, none⟩) n c, .int .i64 (k : Int), .pointer (some ⟨b, off + k * 3, none⟩), .pointer (some ⟨b, off + k * 3 + 2, none⟩), .slice xa xn xc, .int .i64 (xn : Int), undef, .slice (some ⟨b, off, none⟩) n c, .int .i64 (k : Int), .pointer (some ⟨b, off + k * 3, none⟩), .pointer (some ⟨b, off + k * 3 + 1, none⟩), .int .i64 xs, undef, undef] [(6, m1, bytesV bs1), (13, m2, bytesV bs2), (19, m4, bytesV bs3), (20, m4, bytesV bs3)] 19 20) (by kernel_rfl) (by kernel_rfl) (by kernel_rfl) (fun j hj => if_neg (by simp at hj; omega)) (by kernel_rfl) rowRF.mon ?_ ?_
        · refine ⟨?_, ?_, ?_, ?_, ?_, ?_, ?_, ?_, ?_, ?_, ?_, ?_, ?_, ?_, ?_, ?_, ?_, ?_, ?_, ?_, ?_, trivial⟩
          · exact rowRF.pureStep rfl 18 rfl rfl (by simp) _ rfl (by kernel_rfl) fun listed a u D hI hr hn => exec_move (.inl rfl) (hI.yet hn 3 (by kernel_rfl))
          · exact rowRF.pureStep rfl 19 rfl rfl (by simp) _ rfl (by kernel_rfl) fun listed a u D hI hr hn => exec_move (.inl rfl) (hI.out 0 (by kernel_rfl))
          · exact rowRF.pureStep rfl 20 rfl rfl (by simp) _ rfl (by kernel_rfl) fun listed a u D hI hr hn => exec_move (.inl rfl) (hI.out 4 (by kernel_rfl))
          · exact rowRF.pureStep rfl 21 rfl rfl (by simp) _ rfl (by kernel_rfl) fun listed a u D hI hr hn => exec_index_rte rfl (rowRF.val hI hr hn 1 (by kernel_rfl) (by decide) rfl (by kernel_rfl) rfl) (rowRF.val hI hr hn 2 (by kernel_rfl) (by decide) rfl (by kernel_rfl) rfl) hlt hm
          · exact rowRF.pureStep rfl 22 rfl rfl (by simp) _ rfl (by kernel_rfl) fun listed a u D hI hr hn => exec_r0 rfl (rowRF.val hI hr hn 3 (by kernel_rfl) (by decide) rfl (by kernel_rfl) rfl)
          · exact rowRF.pureStep rfl 23 rfl rfl (by simp) _ rfl (by kernel_rfl) fun listed a u D hI hr hn => exec_load rfl (rowRF.val hI hr hn 4 (by kernel_rfl) (by decide) rfl (by kernel_rfl) rfl) (run_load_pi (HCW.out u (HOLD.out.trans (((Below.refl _ wr).drew.trans hI.old).mono HOLD.out.size))).1)
          · refine rowRF.callStep (n := m1) (vs := bytesV bs1) rfl 24 rfl rfl (by simp) (by kernel_rfl) HOLD.out.size fun listed a u D hI hr hn => ?_
            have hrw := HROW.out u hI.old
            refine ⟨_, _, op_call2 rfl ((rowRF.val hI hr hn 0 (by kernel_rfl) (by decide) rfl (by kernel_rfl) rfl)) (rowRF.val hI hr hn 5 (by kernel_rfl) (by decide) rfl (by kernel_rfl) rfl) rfl, ?_⟩
            exact K1.out u _ _ hrw
          · exact rowRF.pureStep rfl 25 rfl rfl (by simp) _ rfl (by kernel_rfl) fun listed a u D hI hr hn => exec_move (.inl rfl) (hI.out 0 (by kernel_rfl))
          · exact rowRF.pureStep rfl 26 rfl rfl (by simp) _ rfl (by kernel_rfl) fun listed a u D hI hr hn => exec_move (.inl rfl) (hI.out 4 (by kernel_rfl))
          · exact rowRF.pureStep rfl 27 rfl rfl (by simp) _ rfl (by kernel_rfl) fun listed a u D hI hr hn => exec_index_rte rfl (rowRF.val hI hr hn 7 (by kernel_rfl) (by decide) rfl (by kernel_rfl) rfl) (rowRF.val hI hr hn 8 (by kernel_rfl) (by decide) rfl (by kernel_rfl) rfl) hlt hm
          · exact rowRF.pureStep rfl 28 rfl rfl (by simp) _ rfl (by kernel_rfl) fun listed a u D hI hr hn => exec_r2 rfl (rowRF.val hI hr hn 9 (by kernel_rfl) (by decide) rfl (by kernel_rfl) rfl)
          · exact rowRF.pureStep rfl 29 rfl rfl (by simp) _ rfl (by kernel_rfl) fun listed a u D hI hr hn => exec_load rfl (rowRF.val hI hr hn 10 (by kernel_rfl) (by decide) rfl (by kernel_rfl) rfl) (run_load_ps (HCW.out u (HOLD.out.trans (((Below.refl _ wr).drew.trans hI.old).mono HOLD.out.size))).2.2)
          · exact rowRF.pureStep rfl 30 rfl rfl (by simp) _ rfl (by kernel_rfl) fun listed a u D hI hr hn => exec_len_st rfl (rowRF.val hI hr hn 11 (by kernel_rfl) (by decide) rfl (by kernel_rfl) rfl)
          · refine rowRF.callStep (n := m2) (vs := bytesV bs2) rfl 31 rfl rfl (by simp) (by kernel_rfl) HOLD.out.size fun listed a u D hI hr hn => ?_
            obtain ⟨A9, c9, e0, _, hrw⟩ := rowRF.row (n := m1) (vs := bytesV bs1) hI hr hn 6 (by kernel_rfl) (by decide) rfl (by kernel_rfl)
            refine ⟨_, _, op_call2 rfl e0 (rowRF.val hI hr hn 12 (by kernel_rfl) (by decide) rfl (by kernel_rfl) rfl) rfl, ?_⟩
            exact K2.out u _ _ (reads1' hrw)
          · exact rowRF.pureStep rfl 32 rfl rfl (by simp) _ rfl (by kernel_rfl) fun listed a u D hI hr hn => exec_move (.inl rfl) (hI.out 0 (by kernel_rfl))
          · exact rowRF.pureStep rfl 33 rfl rfl (by simp) _ rfl (by kernel_rfl) fun listed a u D hI hr hn => exec_move (.inl rfl) (hI.out 4 (by kernel_rfl))
          · exact rowRF.pureStep rfl 34 rfl rfl (by simp) _ rfl (by kernel_rfl) fun listed a u D hI hr hn => exec_index_rte rfl (rowRF.val hI hr hn 14 (by kernel_rfl) (by decide) rfl (by kernel_rfl) rfl) (rowRF.val hI hr hn 15 (by kernel_rfl) (by decide) rfl (by kernel_rfl) rfl) hlt hm
          · exact rowRF.pureStep rfl 35 rfl rfl (by simp) _ rfl (by kernel_rfl) fun listed a u D hI hr hn => exec_r1 rfl (rowRF.val hI hr hn 16 (by kernel_rfl) (by decide) rfl (by kernel_rfl) rfl)
          · exact rowRF.pureStep rfl 36 rfl rfl (by simp) _ rfl (by kernel_rfl) fun listed a u D hI hr hn => exec_load rfl (rowRF.val hI hr hn 17 (by kernel_rfl) (by decide) rfl (by kernel_rfl) rfl) (run_load_pi (HCW.out u (HOLD.out.trans (((Below.refl _ wr).drew.trans hI.old).mono HOLD.out.size))).2.1)
          · refine rowRF.callStep (n := m4) (vs := bytesV bs3) rfl 37 rfl rfl (by simp) (by kernel_rfl) HOLD.out.size fun listed a u D hI hr hn => ?_
            obtain ⟨A9, c9, e0, _, hrw⟩ := rowRF.row (n := m2) (vs := bytesV bs2) hI hr hn 13 (by kernel_rfl) (by decide) rfl (by kernel_rfl)
            refine ⟨_, _, op_call2 rfl e0 (rowRF.val hI hr hn 18 (by kernel_rfl) (by decide) rfl (by kernel_rfl) rfl) rfl, ?_⟩
            exact K3.out u _ _ (reads1' hrw)
          · exact rowRF.takeStep (n := m4) (vs := bytesV bs3) rfl 3 rfl rfl (by simp) (by kernel_rfl) rfl (by decide) (by kernel_rfl) rfl (by kernel_rfl) (.inr rfl)
        · intro listed a u D hI hall
          have hrow := rowRF.done (n := m4) (vs := bytesV bs3) hI hall (by simp) (by decide) rfl (by kernel_rfl)
          have hold := hI.old
          have hl := hI.fill [18, 19, 20, 21, 22, 23, 24, 25, 26, 27, 28, 29, 30, 31, 32, 33, 34, 35, 36, 37, 3] (by kernel_rfl)
          clear hI hall
          obtain ⟨σ, hσ⟩ : ∃ σ : Nat → Value, ∀ t, a.tmps.getD t undef = σ t := ⟨_, fun _ => rfl⟩
          simp only [hσ] at hl hrow
          clear hσ
          simp only [List.foldl_cons, List.foldl_nil, List.setIfInBounds_toArray, List.set_cons_zero, List.set_cons_succ] at hl
          subst hl
          have HE7 : Hid (EB w u (σ 3) (bs3 ++ (rt.stops.take 0).flatMap encS)) := by
            rw [List.take_zero, List.flatMap_nil, List.append_nil]
            exact ⟨HOLD.out.trans (((Below.refl wr.heap.size wr).drew.trans hold).mono HOLD.out.size), by rw [HM4.out]; exact hrow⟩
          clear hrow hold K1 K2 K3 HROW HOLD
          go_wp2_with fail
          go_loopw [3, 5] (fun v i wx => ∃ (j : Nat), j ≤ xn ∧ i = .int .i64 j ∧ Hid (EB w wx v (bs3 ++ (rt.stops.take j).flatMap encS))) (fun _ i _ => xn - (intOf i).toNat)
          case atStart => exact ⟨0, Nat.zero_le _, rfl, HE7⟩
          case round =>
            clear HE7
            obtain ⟨j, hj, rfl, HE⟩ := hrel
            obtain ⟨_, _, q2⟩ := HCW.out _ HE.out.old
            by_cases hlt2 : j < xn
            · obtain ⟨bb, oo, s, rfl, hbs, hs, _, s0, s1⟩ := Stps.at_ HSTW.out hlt2
              have HSW : Hid (∀ u, Below w.heap.size w u → u.cell? ⟨bb, oo + j * 2, none⟩ = some (.int .i64 s.ord) ∧ u.cell? ⟨bb, oo + j * 2 + 1, none⟩ = some (.bool s.drop)) := Lib.hid (fun u hu => ⟨(hu.cell (p := ⟨bb, oo + j * 2, none⟩) hbs).trans s0, (hu.cell (p := ⟨bb, oo + j * 2 + 1, none⟩) hbs).trans s1⟩)
              have hord := HW.out.ords s (List.mem_of_getElem? hs)
              have hlen5 : (bs3 ++ (rt.stops.take j).flatMap encS).length ≤ 8400 := by
                have h2 := encSs_len (l := rt.stops.take j) fun s hs => HW.out.ords s (List.mem_of_mem_take hs)
                have h3 := HW.out.few
                have h4 : (rt.stops.take j).length ≤ 80 := by rw [List.length_take]; omega
                have h5 := HM4.out
                rw [List.length_append]
                omega
              have HT4' : bs3 ++ (rt.stops.take (j + 1)).flatMap encS = (bs3 ++ (rt.stops.take j).flatMap encS) ++ putN s.ord ++ [flagB s.drop] := by
                rw [List.take_add_one, hs, List.flatMap_append]
                simp [encS]
              obtain ⟨bs5, hbs5⟩ : ∃ z, bs3 ++ (rt.stops.take j).flatMap encS = z := ⟨_, rfl⟩
              rw [hbs5] at HE hlen5 HT4'
              obtain ⟨A4, c4, rfl, _⟩ := HE.out.read
              obtain ⟨m5, hm5⟩ : ∃ m, bs5.length = m := ⟨_, rfl⟩
              rw [hm5] at HE hlen5 ⊢
              obtain ⟨bs6, h6⟩ : ∃ z, bs5 ++ putN s.ord = z := ⟨_, rfl⟩
              obtain ⟨bs7, h7⟩ : ∃ z, bs6 ++ [flagB s.drop] = z := ⟨_, rfl⟩
              rw [h6, h7] at HT4'
              have HT4 := Lib.hid HT4'
              have l6 : bs6.length ≤ 8420 := by have := (putN_len hord).2; rw [← h6, List.length_append]; omega
              obtain ⟨m6, hm6⟩ : ∃ m, bs6.length = m := ⟨_, rfl⟩
              obtain ⟨m7, hm7⟩ : ∃ m, bs7.length = m := ⟨_, rfl⟩
              rw [hm6] at l6
              have K4 : Hid (∀ (u : World) (A c), Bytes u u.heap.size A m5 bs5 → Calls Try.prog 57 #[.slice A m5 c, .int .i64 s.ord] u (fun e w' => ∃ y, e = .returned y ∧ Below u.heap.size u w' ∧ OwnK w' u.heap.size 5 1 y m6 (bytesV bs6))) := Lib.hid (fun u A c h => by have := rnum_row u A m5 c bs5 bs6 _ hord (by omega) hm5 h6 h; rw [hm6] at this; exact this)
              have K5 : Hid (∀ (u : World) (A c), Bytes u u.heap.size A m6 bs6 → Calls Try.prog 58 #[.slice A m6 c, .bool s.drop] u (fun e w' => ∃ y, e = .returned y ∧ Below u.heap.size u w' ∧ OwnK w' u.heap.size 5 1 y m7 (bytesV bs7))) := Lib.hid (fun u A c h => by have := rflag_row u A m6 c bs6 bs7 s.drop (by omega) hm6 h7 h; rw [hm7] at this; exact this)
              have HROW2 : Hid (∀ u, Below wr.drew.heap.size wr.drew u → Bytes u u.heap.size A4 m5 bs5) := Lib.hid (fun u hu => by
                have h := (HE.out.keep ((Below.refl wr.heap.size wr).drew.trans hu)).read
                obtain ⟨A', c', e, hr⟩ := h
                injection e with e1 e2 _
                rw [← e1, hm5] at hr
                exact hr.out)
              obtain ⟨so, hso⟩ : ∃ z, s.ord = z := ⟨_, rfl⟩
              obtain ⟨sd, hsd⟩ : ∃ z, s.drop = z := ⟨_, rfl⟩
              rw [hso, hsd] at HSW
              rw [hso] at K4
              rw [hsd] at K5
              have HOLD := Lib.hid HE.out.old
              have HM7 := Lib.hid hm7
              clear hs s0 s1 hbs5 hm5 hm6 hm7 h6 h7 hord hso hsd HE HT4'
              go_upto_region 11 with fail
              refine wp_region_steps (rowRF w.heap.size 1 5 [48, 49, 50, 51, 52, 53, 54, 55, 56, 57, 58, 59, 60, 61, 62, 63, 64, 65, 66, 67, 68, 3] [.slice A4 m5 c4, .slice (some ⟨b, off, none⟩) n c, .int .i64 (k : Int), .pointer (some ⟨b, off + k * 3, none⟩), .pointer (some ⟨b, off + k * 3 + 2, none⟩), .slice (some ⟨bb, oo, none⟩) xn xc, .int .i64 (j : Int), .pointer (some ⟨bb, oo + j * 2, none⟩), .pointer (some ⟨bb, oo + j * 2, none⟩), .int .i64 so, undef, .slice (some ⟨b, off, none⟩) n c, .int .i64 (k : Int), .pointer (some ⟨b, off + k * 3, none⟩), .pointer (some ⟨b, off + k * 3 + 2, none⟩), .slice (some ⟨bb, oo, none⟩) xn xc, .int .i64 (j : Int), .pointer (some ⟨bb, oo + j * 2, none⟩), .pointer (some ⟨bb, oo + j * 2 + 1, none⟩), .bool sd, undef, undef] [(10, m6, bytesV bs6), (20, m7, bytesV bs7), (21, m7, bytesV bs7)] 20 21) (by kernel_rfl) (by kernel_rfl) (by kernel_rfl) (fun j hj => if_neg (by simp at hj; omega)) (by kernel_rfl) rowRF.mon ?_ ?_
              · refine ⟨?_, ?_, ?_, ?_, ?_, ?_, ?_, ?_, ?_, ?_, ?_, ?_, ?_, ?_, ?_, ?_, ?_, ?_, ?_, ?_, ?_, ?_, trivial⟩
                · exact rowRF.pureStep rfl 48 rfl rfl (by simp) _ rfl (by kernel_rfl) fun listed a u D hI hr hn => exec_move (.inl rfl) (hI.yet hn 3 (by kernel_rfl))
                · exact rowRF.pureStep rfl 49 rfl rfl (by simp) _ rfl (by kernel_rfl) fun listed a u D hI hr hn => exec_move (.inl rfl) (hI.out 0 (by kernel_rfl))
                · exact rowRF.pureStep rfl 50 rfl rfl (by simp) _ rfl (by kernel_rfl) fun listed a u D hI hr hn => exec_move (.inl rfl) (hI.out 4 (by kernel_rfl))
                · exact rowRF.pureStep rfl 51 rfl rfl (by simp) _ rfl (by kernel_rfl) fun listed a u D hI hr hn => exec_index_rte rfl (rowRF.val hI hr hn 1 (by kernel_rfl) (by decide) rfl (by kernel_rfl) rfl) (rowRF.val hI hr hn 2 (by kernel_rfl) (by decide) rfl (by kernel_rfl) rfl) hlt hm
                · exact rowRF.pureStep rfl 52 rfl rfl (by simp) _ rfl (by kernel_rfl) fun listed a u D hI hr hn => exec_r2 rfl (rowRF.val hI hr hn 3 (by kernel_rfl) (by decide) rfl (by kernel_rfl) rfl)
                · exact rowRF.pureStep rfl 53 rfl rfl (by simp) _ rfl (by kernel_rfl) fun listed a u D hI hr hn => exec_load rfl (rowRF.val hI hr hn 4 (by kernel_rfl) (by decide) rfl (by kernel_rfl) rfl) (run_load_ps (HCW.out u (HOLD.out.trans (((Below.refl _ wr).drew.trans hI.old).mono HOLD.out.size))).2.2)
                · exact rowRF.pureStep rfl 54 rfl rfl (by simp) _ rfl (by kernel_rfl) fun listed a u D hI hr hn => exec_move (.inl rfl) (hI.out 5 (by kernel_rfl))
                · exact rowRF.pureStep rfl 55 rfl rfl (by simp) _ rfl (by kernel_rfl) fun listed a u D hI hr hn => exec_index_st rfl (rowRF.val hI hr hn 5 (by kernel_rfl) (by decide) rfl (by kernel_rfl) rfl) (rowRF.val hI hr hn 6 (by kernel_rfl) (by decide) rfl (by kernel_rfl) rfl) hlt2 hxm
                · exact rowRF.pureStep rfl 56 rfl rfl (by simp) _ rfl (by kernel_rfl) fun listed a u D hI hr hn => exec_s0 rfl (rowRF.val hI hr hn 7 (by kernel_rfl) (by decide) rfl (by kernel_rfl) rfl)
                · exact rowRF.pureStep rfl 57 rfl rfl (by simp) _ rfl (by kernel_rfl) fun listed a u D hI hr hn => exec_load rfl (rowRF.val hI hr hn 8 (by kernel_rfl) (by decide) rfl (by kernel_rfl) rfl) (run_load_pi (HSW.out u (HOLD.out.trans (((Below.refl _ wr).drew.trans hI.old).mono HOLD.out.size))).1)
                · refine rowRF.callStep (n := m6) (vs := bytesV bs6) rfl 58 rfl rfl (by simp) (by kernel_rfl) HOLD.out.size fun listed a u D hI hr hn => ?_
                  have hrw := HROW2.out u hI.old
                  refine ⟨_, _, op_call2 rfl ((rowRF.val hI hr hn 0 (by kernel_rfl) (by decide) rfl (by kernel_rfl) rfl)) (rowRF.val hI hr hn 9 (by kernel_rfl) (by decide) rfl (by kernel_rfl) rfl) rfl, ?_⟩
                  exact K4.out u _ _ hrw
                · exact rowRF.pureStep rfl 59 rfl rfl (by simp) _ rfl (by kernel_rfl) fun listed a u D hI hr hn => exec_move (.inl rfl) (hI.out 0 (by kernel_rfl))
                · exact rowRF.pureStep rfl 60 rfl rfl (by simp) _ rfl (by kernel_rfl) fun listed a u D hI hr hn => exec_move (.inl rfl) (hI.out 4 (by kernel_rfl))
                · exact rowRF.pureStep rfl 61 rfl rfl (by simp) _ rfl (by kernel_rfl) fun listed a u D hI hr hn => exec_index_rte rfl (rowRF.val hI hr hn 11 (by kernel_rfl) (by decide) rfl (by kernel_rfl) rfl) (rowRF.val hI hr hn 12 (by kernel_rfl) (by decide) rfl (by kernel_rfl) rfl) hlt hm
                · exact rowRF.pureStep rfl 62 rfl rfl (by simp) _ rfl (by kernel_rfl) fun listed a u D hI hr hn => exec_r2 rfl (rowRF.val hI hr hn 13 (by kernel_rfl) (by decide) rfl (by kernel_rfl) rfl)
                · exact rowRF.pureStep rfl 63 rfl rfl (by simp) _ rfl (by kernel_rfl) fun listed a u D hI hr hn => exec_load rfl (rowRF.val hI hr hn 14 (by kernel_rfl) (by decide) rfl (by kernel_rfl) rfl) (run_load_ps (HCW.out u (HOLD.out.trans (((Below.refl _ wr).drew.trans hI.old).mono HOLD.out.size))).2.2)
                · exact rowRF.pureStep rfl 64 rfl rfl (by simp) _ rfl (by kernel_rfl) fun listed a u D hI hr hn => exec_move (.inl rfl) (hI.out 5 (by kernel_rfl))
                · exact rowRF.pureStep rfl 65 rfl rfl (by simp) _ rfl (by kernel_rfl) fun listed a u D hI hr hn => exec_index_st rfl (rowRF.val hI hr hn 15 (by kernel_rfl) (by decide) rfl (by kernel_rfl) rfl) (rowRF.val hI hr hn 16 (by kernel_rfl) (by decide) rfl (by kernel_rfl) rfl) hlt2 hxm
                · exact rowRF.pureStep rfl 66 rfl rfl (by simp) _ rfl (by kernel_rfl) fun listed a u D hI hr hn => exec_s1 rfl (rowRF.val hI hr hn 17 (by kernel_rfl) (by decide) rfl (by kernel_rfl) rfl)
                · exact rowRF.pureStep rfl 67 rfl rfl (by simp) _ rfl (by kernel_rfl) fun listed a u D hI hr hn => exec_load rfl (rowRF.val hI hr hn 18 (by kernel_rfl) (by decide) rfl (by kernel_rfl) rfl) (run_load_pb (HSW.out u (HOLD.out.trans (((Below.refl _ wr).drew.trans hI.old).mono HOLD.out.size))).2)
                · refine rowRF.callStep (n := m7) (vs := bytesV bs7) rfl 68 rfl rfl (by simp) (by kernel_rfl) HOLD.out.size fun listed a u D hI hr hn => ?_
                  obtain ⟨A9, c9, e0, _, hrw⟩ := rowRF.row (n := m6) (vs := bytesV bs6) hI hr hn 10 (by kernel_rfl) (by decide) rfl (by kernel_rfl)
                  refine ⟨_, _, op_call2 rfl e0 (rowRF.val hI hr hn 19 (by kernel_rfl) (by decide) rfl (by kernel_rfl) rfl) rfl, ?_⟩
                  exact K5.out u _ _ (reads1' hrw)
                · exact rowRF.takeStep (n := m7) (vs := bytesV bs7) rfl 3 rfl rfl (by simp) (by kernel_rfl) rfl (by decide) (by kernel_rfl) rfl (by kernel_rfl) (.inr rfl)
              · intro listed a u D hI hall
                have hrow := rowRF.done (n := m7) (vs := bytesV bs7) hI hall (by simp) (by decide) rfl (by kernel_rfl)
                have hold := hI.old
                have hl := hI.fill [48, 49, 50, 51, 52, 53, 54, 55, 56, 57, 58, 59, 60, 61, 62, 63, 64, 65, 66, 67, 68, 3] (by kernel_rfl)
                clear hI hall
                obtain ⟨σ, hσ⟩ : ∃ σ : Nat → Value, ∀ t, a.tmps.getD t undef = σ t := ⟨_, fun _ => rfl⟩
                simp only [hσ] at hl hrow
                clear hσ
                simp only [List.foldl_cons, List.foldl_nil, List.setIfInBounds_toArray, List.set_cons_zero, List.set_cons_succ] at hl
                subst hl
                have HE7 : Hid (EB w u (σ 3) bs7) := ⟨HOLD.out.trans (((Below.refl wr.heap.size wr).drew.trans hold).mono HOLD.out.size), by rw [HM7.out]; exact hrow⟩
                clear hrow hold K4 K5 HROW2 HOLD q2
                go_wp2_with fail
                go_roundw
                case rel => exact ⟨j + 1, by omega, by go_num, Lib.hid (by rw [HT4.out]; exact HE7.out)⟩
                case measure => simp [intOf]; omega
            · have hje : j = xn := by omega
              have HF : Hid (EB w wr u3 (b0 ++ ((l.map (·.rt)).take (k + 1)).flatMap encR)) := by
                have h := HE.out
                rw [List.take_of_length_le (by rw [HNL.out]; omega)] at h
                rw [HT.out, show bs ++ encR rt = bs3 ++ rt.stops.flatMap encS by rw [HT3.out]; simp [encR]]
                exact h
              clear HE
              go_wp2
              go_roundw
              case rel => exact ⟨k + 1, by omega, by go_num, HF⟩
              case measure => simp [intOf]; omega
      · have hke : k = n := by omega
        subst hke
        have HF : Hid (EB w wr u3 (encodeP (l.map (·.rt)))) := by
          have h := HE.out
          rw [List.take_of_length_le (by rw [List.length_map, HL.out]; exact Nat.le_refl _)] at h
          unfold encodeP
          rw [HRV.out]
          unfold encP
          rw [List.length_map, HL.out, HB0.out]
          exact h
        clear HE
        go_wp2
        go_ret
        exact ⟨u3, rfl, HF.out⟩
#print axioms rencode_any
end Go.Proofs.Ytbnhbbjmocclmaa.Plan
