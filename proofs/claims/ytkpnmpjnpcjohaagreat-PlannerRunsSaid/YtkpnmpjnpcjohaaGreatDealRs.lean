/-
  DealRefs, DealRDriver, DealRKnown: one text.
-/
import Derived.Test.YtkpnmpjnpcjohaaGreatGeoSmalls
import Derived.Test.YtkpnmpjnpcjohaaGreatSpanAll
import Derived.Test.YtkpnmpjnpcjohaaGreatWords
import Derived.Test.YtkpnmpjnpcjohaaGreatMaths
namespace Go.Proofs.YtkpnmpjnpcjohaaGreat.Deal
open Go.ChangeShapes Go.WideShapes Go.ChangeAt Go.RowKit Mem GeoMath FleetMath Rec Geo Span
def MapP (w : World) (t : TypeId) (base : Nat) (pv : Value) (m : Option Mp) : Prop :=
  (pv = .pointer none ∧ m = none) ∨ ∃ b n l, pv = .pointer (some ⟨b, 0, none⟩) ∧ m = some ⟨n, l⟩ ∧ MapAt w t base b n l ∧ 1 ≤ n ∧ n ≤ 12 ∧ IsMap n l
theorem MapP.keep {w w' : World} {t : TypeId} {base : Nat} {pv : Value} {m : Option Mp} (h : MapP w t base pv m) (hb : Below w.heap.size w w') : MapP w' t base pv m := by
  rcases h with h | ⟨b, n, l, h1, h2, h3, h4⟩
  · exact .inl h
  · exact .inr ⟨b, n, l, h1, h2, h3.keep hb (Nat.le_refl _), h4⟩
theorem MapP.lower {w : World} {t : TypeId} {base base' : Nat} {pv : Value} {m : Option Mp} (h : MapP w t base pv m) (hb : base' ≤ base) : MapP w t base' pv m := by
  rcases h with h | ⟨b, n, l, h1, h2, h3, h4⟩
  · exact .inl h
  · exact .inr ⟨b, n, l, h1, h2, h3.lower hb, h4⟩
def OBox (u : World) (g : Nat) (o : FleetMath.Ord) : Prop := Blk u g 31 [.int .i64 o.id, .int .i64 o.size, .int .i64 o.pick.place, .int .i64 o.pick.win.fr, .int .i64 o.pick.win.to, .int .i64 o.pick.serv, .int .i64 o.drop.place, .int .i64 o.drop.win.fr, .int .i64 o.drop.win.to, .int .i64 o.drop.serv]
theorem OBox.below {u u' : World} {g : Nat} {o : FleetMath.Ord} (h : OBox u g o) (hb : Below u.heap.size u u') : OBox u' g o := Blk.below h hb (Blk.lt h)
theorem OBox.cells {u : World} {g : Nat} {o : FleetMath.Ord} (h : OBox u g o) : u.cell? ⟨g, 0, none⟩ = some (.int .i64 o.id) ∧ u.cell? ⟨g, 1, none⟩ = some (.int .i64 o.size) ∧ u.cell? ⟨g, 2, none⟩ = some (.int .i64 o.pick.place) ∧ u.cell? ⟨g, 3, none⟩ = some (.int .i64 o.pick.win.fr) ∧ u.cell? ⟨g, 4, none⟩ = some (.int .i64 o.pick.win.to) ∧ u.cell? ⟨g, 5, none⟩ = some (.int .i64 o.pick.serv) ∧
    u.cell? ⟨g, 6, none⟩ = some (.int .i64 o.drop.place) ∧ u.cell? ⟨g, 7, none⟩ = some (.int .i64 o.drop.win.fr) ∧ u.cell? ⟨g, 8, none⟩ = some (.int .i64 o.drop.win.to) ∧ u.cell? ⟨g, 9, none⟩ = some (.int .i64 o.drop.serv) :=
  ⟨Blk.cell h rfl, Blk.cell h rfl, Blk.cell h rfl, Blk.cell h rfl, Blk.cell h rfl, Blk.cell h rfl, Blk.cell h rfl, Blk.cell h rfl, Blk.cell h rfl, Blk.cell h rfl⟩
end Go.Proofs.YtkpnmpjnpcjohaaGreat.Deal

namespace Go.Proofs.YtkpnmpjnpcjohaaGreat.Deal
open Go.ChangeShapes Go.WideShapes Go.ChangeAt Go.RowKit Mem GeoMath FleetMath Rec Geo Span
def DBox (u : World) (g : Nat) (d : Drv) : Prop := Blk u g 33 [.int .i64 d.id, .int .i64 d.room, .int .i64 d.home, .int .i64 d.win.fr, .int .i64 d.win.to, .bool d.retired]
theorem DBox.below {u u' : World} {g : Nat} {d : Drv} (h : DBox u g d) (hb : Below u.heap.size u u') : DBox u' g d := Blk.below h hb (Blk.lt h)
theorem DBox.cells {u : World} {g : Nat} {d : Drv} (h : DBox u g d) : u.cell? ⟨g, 0, none⟩ = some (.int .i64 d.id) ∧ u.cell? ⟨g, 1, none⟩ = some (.int .i64 d.room) ∧ u.cell? ⟨g, 2, none⟩ = some (.int .i64 d.home) ∧ u.cell? ⟨g, 3, none⟩ = some (.int .i64 d.win.fr) ∧ u.cell? ⟨g, 4, none⟩ = some (.int .i64 d.win.to) ∧ u.cell? ⟨g, 5, none⟩ = some (.bool d.retired) :=
  ⟨Blk.cell h rfl, Blk.cell h rfl, Blk.cell h rfl, Blk.cell h rfl, Blk.cell h rfl, Blk.cell h rfl⟩
abbrev siteV (s : Site) : Value := .agg #[.int .i64 s.place, .int .i64 s.win.fr, .int .i64 s.win.to, .int .i64 s.serv]
theorem timeV_time {n : Nat} {l : List Int} {a b : Int} : timeV n l a b = time ⟨n, l⟩ a b ∧ (placeB n a && placeB n b) = (isPlace ⟨n, l⟩ a && isPlace ⟨n, l⟩ b) := by
  have h : ∀ x, placeB n x = isPlace ⟨n, l⟩ x := fun x => rfl
  refine ⟨?_, by rw [h, h]⟩
  unfold timeV time
  rw [h, h]
  by_cases h1 : isPlace ⟨n, l⟩ a = true <;> by_cases h2 : isPlace ⟨n, l⟩ b = true <;> simp [h1, h2]
theorem time_bounds {n : Nat} {l : List Int} (h : IsMap n l) (a b : Int) : 0 ≤ time ⟨n, l⟩ a b ∧ time ⟨n, l⟩ a b ≤ 1000000 := by
  unfold time
  split
  · rename_i hp
    simp only [isPlace, decide_eq_true_eq] at hp
    exact ⟨h.T_lo (by omega) (by omega), h.T_hi (by omega) (by omega)⟩
  · omega
def SBox (u : World) (g : Nat) (s : Site) : Prop := Blk u g 29 [.int .i64 s.place, .int .i64 s.win.fr, .int .i64 s.win.to, .int .i64 s.serv]
theorem SBox.below {u u' : World} {g : Nat} {s : Site} (h : SBox u g s) (hb : Below u.heap.size u u') : SBox u' g s := Blk.below h hb (Blk.lt h)
theorem SBox.cells {u : World} {g : Nat} {s : Site} (h : SBox u g s) : u.cell? ⟨g, 0, none⟩ = some (.int .i64 s.place) ∧ u.cell? ⟨g, 1, none⟩ = some (.int .i64 s.win.fr) ∧ u.cell? ⟨g, 2, none⟩ = some (.int .i64 s.win.to) ∧ u.cell? ⟨g, 3, none⟩ = some (.int .i64 s.serv) :=
  ⟨Blk.cell h rfl, Blk.cell h rfl, Blk.cell h rfl, Blk.cell h rfl⟩
end Go.Proofs.YtkpnmpjnpcjohaaGreat.Deal

namespace Go.Proofs.YtkpnmpjnpcjohaaGreat.Deal
open Go.ChangeShapes Go.WideShapes Go.ChangeAt Go.RowKit Mem GeoMath FleetMath Rec Geo Span
def KnownTo (m : Option Mp) (os : List FleetMath.Ord) (k : Nat) : Prop := (∀ o ∈ os.take k, ordE m o = 0) ∧ Dist (os.take k)
theorem KnownTo.next {m : Option Mp} {os : List FleetMath.Ord} {k : Nat} {o : FleetMath.Ord} (h : KnownTo m os k) (ho : os[k]? = some o) (h0 : ordE m o = 0) (hd : ∀ j p, j < k → os[j]? = some p → p.id ≠ o.id) : KnownTo m os (k + 1) := by
  unfold KnownTo
  rw [List.take_add_one, ho]
  refine ⟨fun x hx => ?_, ?_⟩
  · rcases List.mem_append.1 hx with hx | hx
    · exact h.1 x hx
    · simp at hx; rw [hx]; exact h0
  · refine List.pairwise_append.2 ⟨h.2, by simp, fun x hx y hy => ?_⟩
    simp at hy
    subst hy
    obtain ⟨j, hj⟩ := List.getElem?_of_mem hx
    rw [List.getElem?_take] at hj
    split at hj
    · rename_i hlt; exact hd j x hlt hj
    · cases hj
theorem KnownTo.all {m : Option Mp} {os : List FleetMath.Ord} (h : KnownTo m os os.length) (hl : os.length ≤ 40) : known m os = true := by
  unfold KnownTo at h
  rw [List.take_length] at h
  exact known_iff.2 ⟨hl, h.1, h.2⟩
theorem known_wrong {m : Option Mp} {os : List FleetMath.Ord} {k : Nat} {o : FleetMath.Ord} (ho : os[k]? = some o) (h0 : ordE m o ≠ 0) : known m os = false := by
  cases h : known m os
  · rfl
  · exact absurd ((known_iff.1 h).2.1 o (List.mem_of_getElem? ho)) h0
theorem known_twice {m : Option Mp} {os : List FleetMath.Ord} {j k : Nat} {o p : FleetMath.Ord} (hjk : j < k) (hp : os[j]? = some p) (ho : os[k]? = some o) (he : p.id = o.id) : known m os = false := by
  cases h : known m os
  · rfl
  · have hd := (known_iff.1 h).2.2
    have hlj := (List.getElem?_eq_some_iff.1 hp).1
    have hlk := (List.getElem?_eq_some_iff.1 ho).1
    have := List.pairwise_iff_getElem.1 hd j k hlj hlk hjk
    rw [(List.getElem?_eq_some_iff.1 hp).2, (List.getElem?_eq_some_iff.1 ho).2] at this
    exact absurd he this
end Go.Proofs.YtkpnmpjnpcjohaaGreat.Deal
