/-
  The document's own answer to chapter 4, walked: Closed.
-/
import Derived.Test.YtkgdaelaidlhlaaGeoMem
import Derived.Test.YtkgdaelaidlhlaaTail
import Derived.Deep.RegionHeld3
import Derived.Deep.LoopGhost
import Derived.Deep.DeepCutAuto
import Derived.Deep.RegionLaw
namespace Go.Proofs.Ytkgdaelaidlhlaa.Geo
open Go.ChangeShapes Go.WideShapes Go.ChangeAt Go.RowKit Go.Proofs.Ytkgdaelaidlhlaa.Mem Go.Proofs.Ytkgdaelaidlhlaa.MemI Go.Proofs.Ytkgdaelaidlhlaa.GeoMath

/-- what Closed leaves: a new map, the closing of the one that was handed in -/
def ClosedOk (t : TypeId) (w : World) (n : Nat) (l : List Int) (e : Ending) (w' : World) : Prop :=
  Below w.heap.size w w' ∧ ∃ b l', e = .returned (.pointer (some ⟨b, 0, none⟩)) ∧ MapAt w' t w.heap.size b n l' ∧ Least n l l'
/-- on the way: the new map, what is known of its times -/
def Clos (w : World) (t : TypeId) (b n : Nat) (l cur : List Int) (wr : World) : Prop := Below w.heap.size w wr ∧ MapAt wr t w.heap.size b n cur ∧ OnWay n l cur
theorem Clos.drewN {w wr : World} {t : TypeId} {b n : Nat} {l cur : List Int} (h : Clos w t b n l cur wr) (d : Nat) : Clos w t b n l cur (wr.drewN d) := ⟨below_drewN h.1 d, h.2.1.drewN d, h.2.2⟩
theorem Clos.drew {w wr : World} {t : TypeId} {b n : Nat} {l cur : List Int} (h : Clos w t b n l cur wr) : Clos w t b n l cur wr.drew := ⟨h.1.drew, h.2.1.same fun _ _ _ => rfl, h.2.2⟩

set_option maxRecDepth 100000 in
set_option maxHeartbeats 2000000 in
theorem rclosed_any (base b n : Nat) (l : List Int) (w : World) (h : MapAt w 60 base b n l) (hn : n ≤ 12) (hn1 : 1 ≤ n) (hm : IsMap n l) :
    Calls Try.prog 21 #[.pointer (some ⟨b, 0, none⟩)] w (ClosedOk 60 w n l) := by
  obtain ⟨g0, cp, hb, hi, hcap⟩ := h.open_
  have z0 := hb.cell (i := 0) rfl
  have z1 := hb.cell (i := 1) rfl
  have HBK : Hid (∀ wr, Below w.heap.size w wr → wr.cell? ⟨b, 0, none⟩ = some (.int .i64 n)) := fun wr hw => (hw.cell (p := ⟨b, 0, none⟩) hb.lt).trans z0
  have z0a : (w.alloc (Obj.cells #[] 3)).cell? ⟨b, 0, none⟩ = some (.int .i64 n) := (World.cell?_alloc_lt w _ _ hb.lt).trans z0
  have z1a : (w.alloc (Obj.cells #[] 3)).cell? ⟨b, 1, none⟩ = some (.slice (some ⟨g0, 0, none⟩) (n * n) cp) := (World.cell?_alloc_lt w _ _ hb.lt).trans z1
  have HI := Lib.hid hi
  have HO : Hid (Own (w.alloc (Obj.cells #[] 3)).drew w.heap.size 3 (.slice (some ⟨w.heap.size, 0, none⟩) 0 0) 0 []) := (Own.new w w.heap.size _ [] (Nat.le_refl _) (Nat.zero_le _)).same fun _ _ _ => rfl
  have HRX : Hid (Reads (w.alloc (Obj.cells #[] 3)).drew w.heap.size (some ⟨g0, 0, none⟩) (n * n) (intsV l)) := Reads.drew (Reads.alloc hi (Nat.le_refl _) _)
  have HBL : Hid (Below w.heap.size w (w.alloc (Obj.cells #[] 3)).drew) := ((Below.refl _ _).alloc (Nat.le_refl _) _).drew
  have HG : Hid (OnWay n l l) := OnWay.refl hm
  have hsq : n * n ≤ 144 := by
    have : n * n ≤ 12 * 12 := Nat.mul_le_mul hn hn
    omega
  have hsq0 : 0 < n * n := Nat.mul_pos hn1 hn1
  clear h hb hi hm
  go_enter Try.func21, Try.ntmps21
  go_upto_region 1 with fail
  go_cut [3] (fun v wx => ∃ b', v = .pointer (some ⟨b', 0, none⟩) ∧ Hid (Clos w 60 b' n l l wx))
  case first =>
    go_region_law (refine step_append_own (by rfl) _ _ Try.underlying30 infoInt rfl (by rfl) (base := w.heap.size) HO.out (by rfl) HRX.out (by rfl) (intsV_one l) (by unfold maxLen; omega) (by omega) (w0 := w) (B0 := w.heap.size) HBL.out (by simp) (by simp) (Nat.le_refl _) ?_; intro v1 w1 HV HB1 HZ1; have HV2 := HV.out; rw [Nat.zero_add, List.nil_append] at HV2; obtain ⟨g1, c1, rfl, hg1, hcp1⟩ := HV2.row hsq0; clear HV; replace HV2 := Lib.hid HV2; have z0b := HBK.out w1 HB1.out)
    all_goals
      go_wp2_with fail
      go_meet
      refine ⟨_, rfl, HB1.out.alloc HB1.out.size _, ⟨g1, c1, Blk.new w1 _ _, HB1.out.size, hcp1, HV2.out.alloc _⟩, HG.out⟩
  case rest =>
    obtain ⟨b', rfl, HC0⟩ := hcut
    clear z0 z1 z0a z1a HO HRX HBL HG HI
    go_wp2
    go_loopg [4] (2 * l.sum.toNat + 1) (fun g tv wr => ∃ (cur : List Int) (tb : Bool), g = 2 * cur.sum.toNat + (if tb then 1 else 0) ∧ tv = .bool tb ∧ Hid (Clos w 60 b' n l cur wr) ∧ Hid (tb = false → Tri n cur))
    case atStart => exact ⟨l, true, by simp, rfl, HC0, fun h => by cases h⟩
    case round =>
      clear HC0
      obtain ⟨p, tb, rfl, rfl, HP, HT⟩ := hrel
      cases tb with
      | false =>
        have HR : Hid (ClosedOk 60 w n l (.returned (.pointer (some ⟨b', 0, none⟩))) wr) := ⟨HP.out.1, b', p, rfl, HP.out.2.1, HP.out.2.2, HT.out rfl⟩
        go_wp2
        go_ret
        exact HR.out
      | true =>
        clear HT
        go_wp2
        go_loopw [4, 5] (fun tv i wi => ∃ (cur : List Int) (tb : Bool) (x : Nat), x ≤ n ∧ tv = .bool tb ∧ i = .int .i64 x ∧ Hid (Clos w 60 b' n l cur wi) ∧ Hid (Pass n p cur tb x 0 0)) (fun _ i _ => n - (intOf i).toNat)
        case atStart => exact ⟨p, false, 0, Nat.zero_le _, rfl, rfl, HP, Pass.start n p⟩
        case round =>
          obtain ⟨cur, tb, x, hx, rfl, rfl, HC, HPA⟩ := hrel
          have z0 := HBK.out _ HC.out.1
          by_cases hlt : x < n
          · clear HP
            go_wp2
            go_loopw [4, 6] (fun tv i wi => ∃ (cur : List Int) (tb : Bool) (y : Nat), y ≤ n ∧ tv = .bool tb ∧ i = .int .i64 y ∧ Hid (Clos w 60 b' n l cur wi) ∧ Hid (Pass n p cur tb x y 0)) (fun _ i _ => n - (intOf i).toNat)
            case atStart => exact ⟨cur, tb, 0, Nat.zero_le _, rfl, rfl, HC, HPA⟩
            case round =>
              clear HC HPA z0
              obtain ⟨cur, tb, y, hy, rfl, rfl, HC, HPA⟩ := hrel
              have z0 := HBK.out _ HC.out.1
              by_cases hlt2 : y < n
              · go_wp2
                go_loopw [4, 7] (fun tv i wi => ∃ (cur : List Int) (tb : Bool) (z : Nat), z ≤ n ∧ tv = .bool tb ∧ i = .int .i64 z ∧ Hid (Clos w 60 b' n l cur wi) ∧ Hid (Pass n p cur tb x y z)) (fun _ i _ => n - (intOf i).toNat)
                case atStart => exact ⟨cur, tb, 0, Nat.zero_le _, rfl, rfl, HC, HPA⟩
                case round =>
                  clear HC HPA z0
                  obtain ⟨cur, tb, z, hz, rfl, rfl, HC, HPA⟩ := hrel
                  have z0 := HBK.out _ HC.out.1
                  by_cases hlt3 : z < n
                  · obtain ⟨g, c, hb, hbb, hi, hcap, hput⟩ := HC.out.2.1.put (by decide)
                    have z1 := hb.cell (i := 1) rfl
                    obtain ⟨q, r, i, j, k, f1, f2, f3, f4, f5, ⟨b1, b2, b3, b4, b5⟩, ⟨u1, u2, u3⟩, ⟨c1, c2, c3⟩, hidx, hidx2⟩ := tri_facts hn hlt hlt3 hlt2 hi
                    have HMAP := Lib.hid HC.out.2.2.map
                    have l1 := HMAP.out.T_lo hlt hlt2
                    have l2 := HMAP.out.T_hi hlt hlt2
                    have l3 := HMAP.out.T_lo hlt hlt3
                    have l4 := HMAP.out.T_hi hlt hlt3
                    have l5 := HMAP.out.T_lo hlt3 hlt2
                    have l6 := HMAP.out.T_hi hlt3 hlt2
                    obtain ⟨t1, ht1⟩ : ∃ t, T n cur x y = t := ⟨_, rfl⟩
                    obtain ⟨t2, ht2⟩ : ∃ t, T n cur x z = t := ⟨_, rfl⟩
                    obtain ⟨t3, ht3⟩ : ∃ t, T n cur z y = t := ⟨_, rfl⟩
                    by_cases hlt4 : t2 + t3 < t1
                    · obtain ⟨hg, hfz, hput⟩ := hput i (t2 + t3) (by rw [hidx]; exact idx_lt hlt hlt2)
                      have HCN : Hid (Clos w 60 b' n l (cur.set i (t2 + t3)) (wr.setCell ⟨g, i, none⟩ (.int .i64 (t2 + t3)))) := by
                        refine ⟨HC.out.1.setCell hg _, hput, ?_⟩
                        rw [hidx]
                        exact HC.out.2.2.step hlt hlt3 hlt2 (by rw [ht2, ht3]) (by rw [ht1]; exact hlt4)
                      have HPN : Hid (Pass n p (cur.set i (t2 + t3)) true x y (z + 1)) := by
                        rw [hidx]
                        exact HPA.out.step HMAP.out hlt hlt2 (by rw [ht1]; exact hlt4)
                      rw [ht1] at l1 l2 c1
                      rw [ht2] at l3 l4 c2
                      rw [ht3] at l5 l6 c3
                      clear ht1 ht2 ht3 hidx hidx2 hput hi hb
                      go_wp2
                      go_quiet (fail)
                      go_wp2
                      go_quiet (fail)
                      go_wp2
                      go_region
                      go_wp2_with fail
                      go_roundw
                      case rel => exact ⟨cur.set i (t2 + t3), true, z + 1, by omega, rfl, by go_num, by first | exact HCN.out.drewN _ | exact (HCN.out.drewN _).drew, HPN⟩
                      case measure => simp [intOf]; omega
                    · have HPN : Hid (Pass n p cur tb x y (z + 1)) := HPA.out.more (by rw [ht1, ht2, ht3]; omega)
                      rw [ht1] at l1 l2 c1
                      rw [ht2] at l3 l4 c2
                      rw [ht3] at l5 l6 c3
                      clear ht1 ht2 ht3 hidx hidx2 hput hi hb
                      go_wp2
                      go_quiet (fail)
                      go_wp2
                      go_quiet (fail)
                      go_wp2
                      go_roundw
                      case rel => exact ⟨cur, tb, z + 1, by omega, rfl, by go_num, HC.out.drewN _, HPN⟩
                      case measure => simp [intOf]; omega
                  · have HPN : Hid (Pass n p cur tb x (y + 1) 0) := by
                      have e : z = n := by omega
                      subst e
                      exact HPA.out.next
                    go_wp2
                    go_roundw
                    case rel => exact ⟨cur, tb, y + 1, by omega, rfl, by go_num, HC, HPN⟩
                    case measure => simp [intOf]; omega
              · have HPN : Hid (Pass n p cur tb (x + 1) 0 0) := by
                  have e : y = n := by omega
                  subst e
                  exact HPA.out.row
                go_wp2
                go_roundw
                case rel => exact ⟨cur, tb, x + 1, by omega, rfl, by go_num, HC, HPN⟩
                case measure => simp [intOf]; omega
          · have HE : Hid ((tb = false → Tri n cur) ∧ 2 * cur.sum + (if tb then 1 else 0) < 2 * p.sum + 1) := by
              have e : x = n := by omega
              subst e
              exact HPA.out.end_
            have hs1 := HC.out.2.2.map.sum
            go_wp2
            go_roundg (2 * cur.sum.toNat + (if tb then 1 else 0))
            case measure =>
              have := HE.out.2
              cases tb <;> simp at this ⊢ <;> omega
            case rel => exact ⟨cur, tb, rfl, rfl, HC, HE.out.1⟩

#print axioms rclosed_any
end Go.Proofs.Ytkgdaelaidlhlaa.Geo
