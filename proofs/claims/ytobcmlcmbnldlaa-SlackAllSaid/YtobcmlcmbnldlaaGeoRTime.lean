/-
  The document's own answer to chapter 4, walked: Time.
-/
import Derived.Test.YtobcmlcmbnldlaaGeoMem
namespace Go.Proofs.Ytobcmlcmbnldlaa.Geo
open Go.ChangeShapes Go.WideShapes Go.ChangeAt Go.RowKit Go.Proofs.Ytobcmlcmbnldlaa.Mem Go.Proofs.Ytobcmlcmbnldlaa.MemI Go.Proofs.Ytobcmlcmbnldlaa.GeoMath

set_option maxHeartbeats 400000 in
theorem rtime_any (base b n : Nat) (l : List Int) (a c : Int) (w : World) (h : MapAt w 106 base b n l) (hn : n ≤ 12) :
    Calls Try.prog 37 #[.pointer (some ⟨b, 0, none⟩), .int .i64 a, .int .i64 c] w (Quietly w (.tuple #[.int .i64 (timeV n l a c), .bool (placeB n a && placeB n c)])) := by
  obtain ⟨g0, cp, hb, hi, hcap⟩ := h.open_
  have z0 := hb.cell (i := 0) rfl
  have z1 := hb.cell (i := 1) rfl
  have HI := Lib.hid hi
  clear h hb hi
  by_cases hbad : a < 0 ∨ (n : Int) ≤ a ∨ c < 0 ∨ (n : Int) ≤ c
  · have HN := Lib.hid (place_no (l := l) hbad)
    by_cases h1 : a < 0
    · clear hbad
      go_enter Try.func37, Try.ntmps37
      go_wp2
      go_ret2
      exact ⟨ret_pair HN.out.1 HN.out.2, 0, rfl⟩
    by_cases h2 : (n : Int) ≤ a
    · clear hbad
      go_enter Try.func37, Try.ntmps37
      go_wp2
      go_ret2
      exact ⟨ret_pair HN.out.1 HN.out.2, 0, rfl⟩
    by_cases h3 : c < 0
    · clear hbad
      go_enter Try.func37, Try.ntmps37
      go_wp2
      go_ret2
      exact ⟨ret_pair HN.out.1 HN.out.2, 0, rfl⟩
    have h4 : (n : Int) ≤ c := by omega
    clear hbad
    go_enter Try.func37, Try.ntmps37
    go_wp2
    go_ret2
    exact ⟨ret_pair HN.out.1 HN.out.2, 0, rfl⟩
  · obtain ⟨x, rfl⟩ : ∃ x : Nat, a = x := ⟨a.toNat, by omega⟩
    obtain ⟨y, rfl⟩ : ∃ y : Nat, c = y := ⟨c.toNat, by omega⟩
    have hx : x < n := by omega
    have hy : y < n := by omega
    clear hbad
    have HN := Lib.hid (place_yes (l := l) hx hy)
    obtain ⟨hc, hg⟩ := Ints.T_at0 HI.out hx hy
    obtain ⟨q, i, hq, hqi, hq0, hq1, hi0, hi1, hi2⟩ := idx_facts hn hx hy
    rw [← hi2] at hc
    have hic : (i : Int) < (n : Int) * (n : Int) := hi1
    clear hi2
    go_enter Try.func37, Try.ntmps37
    go_wp2
    go_quiet (fail)
    go_wp2
    go_ret2
    exact ⟨ret_pair HN.out.1 HN.out.2, _, rfl⟩

#print axioms rtime_any
end Go.Proofs.Ytobcmlcmbnldlaa.Geo
