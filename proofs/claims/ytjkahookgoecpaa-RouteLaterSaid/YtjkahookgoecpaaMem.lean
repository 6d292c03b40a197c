/-
  Words for memory: a slice of one-cell elements that reads as a list of values; a slice of bytes that reads as a list of bytes; a block that is known whole; appends and slice expressions over them.
-/
import Derived.Test.YtjkahookgoecpaaRows
import Derived.WalkKit
import Derived.ProofKit
import Derived.Below
import Derived.IntWalk
import Derived.Lib.Hide
import Derived.OpenShut
import Derived.RegionTactic
import Derived.Deep.QuietTactic
import Derived.BigQuiet
import Derived.Laws.CopyOwn
import Derived.Laws.MakeOwn
import Derived.OwnWalk
import Derived.Maps.AppendAt
import Derived.Deep.AppendLies
namespace Go.Proofs.Ytjkahookgoecpaa.Mem
open Go.ChangeShapes Go.WideShapes Go.ChangeAt Go.RowKit

/-- the slice at A, of length n, reads as the values vs (one cell each): nil, empty or not; it lies below block B -/
def Reads (w : World) (B : Nat) (A : Option Addr) (n : Nat) (vs : List Value) : Prop :=
  vs.length = n ∧ n ≤ maxLen ∧
    (0 < n → ∃ b off, A = some ⟨b, off, none⟩ ∧ b < B ∧ ∀ j u, vs[j]? = some u → w.cell? ⟨b, off + j, none⟩ = some u)

theorem add_at (b off j : Nat) : (Addr.mk b off none).add j = ⟨b, off + j, none⟩ := by
  by_cases h0 : j = 0
  · subst h0; simp [Addr.add]
  · simp [Addr.add, h0]

section
variable {w w' : World} {B B' n : Nat} {A : Option Addr} {vs : List Value}
theorem Reads.len (h : Reads w B A n vs) : vs.length = n := h.1
theorem Reads.le (h : Reads w B A n vs) : n ≤ 9223372036854775807 := by have := h.2.1; unfold maxLen at this; omega
theorem Reads.none_ : Reads w B A 0 [] := ⟨rfl, Nat.zero_le _, fun h => absurd h (by omega)⟩
theorem Reads.at_ {k : Nat} (h : Reads w B A n vs) (hk : k < n) :
    ∃ b off u, A = some ⟨b, off, none⟩ ∧ vs[k]? = some u ∧ w.cell? ⟨b, off + k, none⟩ = some u ∧ b < B ∧ vs.drop k = u :: vs.drop (k + 1) := by
  obtain ⟨hl, _, hc⟩ := h
  obtain ⟨b, off, e, hb, hc⟩ := hc (by omega)
  have hlt : k < vs.length := by omega
  have hu := List.getElem?_eq_getElem hlt
  exact ⟨b, off, vs[k], e, hu, hc k _ hu, hb, List.drop_eq_getElem_cons hlt⟩
theorem Reads.same (h : Reads w B A n vs) (hk : ∀ p : Addr, p.block < B → w'.cell? p = w.cell? p) : Reads w' B A n vs := by
  obtain ⟨h1, h2, h3⟩ := h
  refine ⟨h1, h2, fun hn => ?_⟩
  obtain ⟨b, off, e, hlt, hc⟩ := h3 hn
  exact ⟨b, off, e, hlt, fun j u hu => (hk ⟨b, off + j, none⟩ hlt).trans (hc j u hu)⟩
theorem Reads.keep (h : Reads w B A n vs) (hb : Below B w w') : Reads w' B A n vs := h.same fun _ hp => hb.cell hp
theorem Reads.more (h : Reads w B A n vs) (hB : B ≤ B') : Reads w B' A n vs := by
  obtain ⟨h1, h2, h3⟩ := h
  refine ⟨h1, h2, fun hn => ?_⟩
  obtain ⟨b, off, e, hlt, hc⟩ := h3 hn
  exact ⟨b, off, e, by omega, hc⟩
theorem Reads.drew (h : Reads w B A n vs) : Reads w.drew B A n vs := h
theorem Reads.drewN (h : Reads w B A n vs) (d : Nat) : Reads (w.drewN d) B A n vs := h
theorem Reads.alloc (h : Reads w B A n vs) (hB : B ≤ w.heap.size) (o : Obj) : Reads (w.alloc o) B A n vs := h.same fun p hp => World.cell?_alloc_lt w o p (by omega)
/-- what the model's slice expression s[l:h] of a slice with capacity c reads as -/
theorem Reads.part (h : Reads w B A n vs) {l k c : Nat} (h1 : l ≤ k) (h2 : k ≤ n) (h3 : n ≤ c) :
    Reads w B (if c = l then A else A.map (·.add l)) (k - l) ((vs.drop l).take (k - l)) := by
  have hl := h.1
  refine ⟨by rw [List.length_take, List.length_drop]; omega, by have := h.2.1; omega, fun hp => ?_⟩
  obtain ⟨b, off, rfl, hb, hc⟩ := h.2.2 (by omega)
  rw [if_neg (by omega)]
  refine ⟨b, off + l, by rw [Option.map_some, add_at], hb, fun j u hu => ?_⟩
  rw [List.getElem?_take] at hu
  split at hu
  · rw [List.getElem?_drop] at hu
    rw [Nat.add_assoc]
    exact hc _ u hu
  · cases hu
theorem Reads.front (h : Reads w B A n vs) {k : Nat} (h2 : k ≤ n) : Reads w B A k (vs.take k) := by
  have hl := h.1
  refine ⟨by rw [List.length_take]; omega, by have := h.2.1; omega, fun hp => ?_⟩
  obtain ⟨b, off, e, hb, hc⟩ := h.2.2 (by omega)
  refine ⟨b, off, e, hb, fun j u hu => ?_⟩
  rw [List.getElem?_take] at hu
  split at hu
  · exact hc _ u hu
  · cases hu
end

/-- values of bytes -/
def bytesV (xs : List UInt8) : List Value := xs.map fun b => .int .u8 (b.toNat : Int)
abbrev Bytes (w : World) (B : Nat) (A : Option Addr) (n : Nat) (xs : List UInt8) : Prop := Reads w B A n (bytesV xs)
theorem bytesV_len (xs : List UInt8) : (bytesV xs).length = xs.length := by simp [bytesV]
theorem bytesV_at {xs : List UInt8} {j : Nat} {u : UInt8} (h : xs[j]? = some u) : (bytesV xs)[j]? = some (.int .u8 (u.toNat : Int)) := by simp [bytesV, h]
theorem bytesV_get {xs : List UInt8} {j : Nat} {v : Value} (h : (bytesV xs)[j]? = some v) : ∃ u, xs[j]? = some u ∧ v = .int .u8 (u.toNat : Int) := by
  simp only [bytesV, List.getElem?_map, Option.map_eq_some_iff] at h
  obtain ⟨u, hu, rfl⟩ := h
  exact ⟨u, hu, rfl⟩
theorem bytesV_append (xs ys : List UInt8) : bytesV (xs ++ ys) = bytesV xs ++ bytesV ys := by simp [bytesV]
theorem bytesV_drop (xs : List UInt8) (k : Nat) : bytesV (xs.drop k) = (bytesV xs).drop k := by simp [bytesV]
theorem bytesV_take (xs : List UInt8) (k : Nat) : bytesV (xs.take k) = (bytesV xs).take k := by simp [bytesV]
theorem bytesV_one (xs : List UInt8) : ∀ v ∈ bytesV xs, v.oneCell' = true := by
  intro v hv
  simp only [bytesV, List.mem_map] at hv
  obtain ⟨x, _, rfl⟩ := hv
  rfl
theorem Bytes.length {w : World} {B n : Nat} {A : Option Addr} {xs : List UInt8} (h : Bytes w B A n xs) : xs.length = n := by have := h.1; rwa [bytesV_len] at this
theorem Bytes.at_ {w : World} {B n k : Nat} {A : Option Addr} {xs : List UInt8} (h : Bytes w B A n xs) (hk : k < n) :
    ∃ b off u, A = some ⟨b, off, none⟩ ∧ xs[k]? = some u ∧ w.cell? ⟨b, off + k, none⟩ = some (.int .u8 (u.toNat : Int)) ∧ b < B ∧ xs.drop k = u :: xs.drop (k + 1) := by
  obtain ⟨b, off, v, e, hv, hc, hb, _⟩ := Reads.at_ h hk
  obtain ⟨u, hu, rfl⟩ := bytesV_get hv
  have hlt : k < xs.length := by have := h.length; omega
  refine ⟨b, off, u, e, hu, hc, hb, ?_⟩
  rw [List.drop_eq_getElem_cons hlt]
  rw [List.getElem?_eq_getElem hlt] at hu
  injection hu with hu
  rw [hu]
theorem Bytes.front {w : World} {B n k : Nat} {A : Option Addr} {xs : List UInt8} (h : Bytes w B A n xs) (hk : k ≤ n) : Bytes w B A k (xs.take k) := by
  have := Reads.front h hk
  rwa [← bytesV_take] at this
theorem Bytes.part {w : World} {B n l k c : Nat} {A : Option Addr} {xs : List UInt8} (h : Bytes w B A n xs) (h1 : l ≤ k) (h2 : k ≤ n) (h3 : n ≤ c) :
    Bytes w B (if c = l then A else A.map (·.add l)) (k - l) ((xs.drop l).take (k - l)) := by
  have := Reads.part h h1 h2 h3
  rwa [← bytesV_drop, ← bytesV_take] at this

/-- block g holds just these values, of element type t; each may be written -/
def Blk (w : World) (g : Nat) (t : TypeId) (vs : List Value) : Prop := w.heap[g]? = some (.cells vs.toArray t (0, 0))
section
variable {w w' : World} {g : Nat} {t : TypeId} {vs : List Value}
theorem Blk.lt (h : Blk w g t vs) : g < w.heap.size := by
  rcases Nat.lt_or_ge g w.heap.size with hlt | hge
  · exact hlt
  · unfold Blk at h; rw [Array.getElem?_eq_none hge] at h; cases h
theorem Blk.cell (h : Blk w g t vs) {i : Nat} {u : Value} (hu : vs[i]? = some u) : w.cell? ⟨g, i, none⟩ = some u := by
  have := cell_of_row w g i vs.toArray t (0, 0) h
  rw [this]; simpa using hu
theorem Blk.free (h : Blk w g t vs) (i : Nat) : w.frozen? ⟨g, i, none⟩ = false := by
  unfold Blk at h
  simp [World.frozen?, h]
theorem Blk.put (h : Blk w g t vs) (i : Nat) (u : Value) : Blk (w.setCell ⟨g, i, none⟩ u) g t (vs.set i u) := by
  unfold Blk at h ⊢
  simp [World.setCell, Array.getElem?_modify, h]
theorem Blk.below {B : Nat} (h : Blk w g t vs) (hb : Below B w w') (hg : g < B) : Blk w' g t vs := (hb.block g hg).trans h
theorem Blk.new (w : World) (t : TypeId) (vs : List Value) : Blk (w.alloc (.cells vs.toArray t)) w.heap.size t vs := heap_alloc_new w _
theorem Blk.reads (h : Blk w g t vs) {n : Nat} (hn : n ≤ vs.length) (hm : n ≤ maxLen) : Reads w w.heap.size (some ⟨g, 0, none⟩) n (vs.take n) := by
  refine ⟨by rw [List.length_take]; omega, hm, fun _ => ⟨g, 0, rfl, h.lt, fun j u hu => ?_⟩⟩
  rw [List.getElem?_take] at hu
  rw [Nat.zero_add]
  split at hu
  · exact h.cell hu
  · cases hu
end

theorem ret_bool {a b : Bool} (h : a = b) : Ending.returned (.bool a) = .returned (.bool b) := by rw [h]
theorem ret_i {k : IntKind} {a b : Int} (h : a = b) : Ending.returned (.int k a) = .returned (.int k b) := by rw [h]
/-- it answers v, and does nothing but read -/
def Quietly (w : World) (v : Value) (e : Ending) (w' : World) : Prop := e = .returned v ∧ ∃ d, w' = w.drewN d

#print axioms Bytes.part
end Go.Proofs.Ytjkahookgoecpaa.Mem
