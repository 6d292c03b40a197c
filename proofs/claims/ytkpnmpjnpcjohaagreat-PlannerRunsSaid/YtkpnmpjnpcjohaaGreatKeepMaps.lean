import Derived.Test.YtkpnmpjnpcjohaaGreatGeoNews
import Derived.Test.YtkpnmpjnpcjohaaGreatDealRs
namespace Go.Proofs.YtkpnmpjnpcjohaaGreat.Keep
open Go.ChangeShapes Go.WideShapes Go.ChangeAt Go.RowKit Mem GeoMath FleetMath Rec Geo Deal
structure Sl where
  a : Option Addr
  n : Nat
  c : Nat
  h : n ≤ c
abbrev Sl.v (s : Sl) : Value := .slice s.a s.n s.c
def mapOf (nn : Int) (ts : List Int) : Option Mp := if newE nn ts = 0 then some ⟨nn.toNat, ts⟩ else none
theorem kgnew (nn v : Int) (A : Option Addr) (k c : Nat) (xs : List Int) (w : World) (h : Ints w w.heap.size A k xs) (hv : newE nn xs = v) :
    Calls Tryz.prog 10 #[.int .i64 nn, .slice A k c] w fun e w' => ∃ q, e = .returned (.tuple #[.pointer q, .int .i64 v]) ∧ q.isNone = (v != 0) ∧ Below w.heap.size w w' ∧ MapP w' 92 w.heap.size (.pointer q) (mapOf nn xs) := by
  refine (gnew_any nn A k c xs w h).mono ?_
  subst hv
  rintro e w' ⟨hb, ⟨h1, rfl⟩ | ⟨h1, b, n', e1, rfl, hm⟩⟩
  · exact ⟨none, rfl, by simpa using h1, hb, .inl ⟨rfl, by simp [mapOf, h1]⟩⟩
  · subst e1
    have h2 := newE_ok h1
    exact ⟨some ⟨b, 0, none⟩, by rw [h1], by simp [h1], hb, .inr ⟨b, n', xs, rfl, by simp [mapOf, h1], hm, h2⟩⟩
end Go.Proofs.YtkpnmpjnpcjohaaGreat.Keep
