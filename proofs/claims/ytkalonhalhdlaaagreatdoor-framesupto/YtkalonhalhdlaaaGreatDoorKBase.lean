/-
  Which blocks have turned, which not; rows that one owns behind that.
-/
import Derived.Test.YtkalonhalhdlaaaGreatDoorLRow
import Derived.BigQuiet
import Derived.Deep.QuietTactic
namespace Go.Proofs.YtkalonhalhdlaaaGreatDoor
open Go.RowKit

/-- Nothing that was there has turned, but blocks in X. -/
structure Keeps (X : Nat → Prop) (w w' : World) : Prop where
  os : w'.os = w.os
  tape : w'.tape = w.tape
  output : w'.output = w.output
  size : w.heap.size ≤ w'.heap.size
  block : ∀ k, k < w.heap.size → ¬ X k → w'.heap[k]? = w.heap[k]?

theorem Keeps.refl (X : Nat → Prop) (w : World) : Keeps X w w := ⟨rfl, rfl, rfl, Nat.le_refl _, fun _ _ _ => rfl⟩
theorem Keeps.trans {X : Nat → Prop} {a b c : World} (h : Keeps X a b) (k : Keeps X b c) : Keeps X a c :=
  ⟨k.os.trans h.os, k.tape.trans h.tape, k.output.trans h.output, Nat.le_trans h.size k.size, fun i hi hx => (k.block i (Nat.lt_of_lt_of_le hi h.size) hx).trans (h.block i hi hx)⟩
theorem Keeps.mono {X Y : Nat → Prop} {a b : World} (h : Keeps X a b) (hXY : ∀ k, X k → Y k) : Keeps Y a b :=
  ⟨h.os, h.tape, h.output, h.size, fun i hi hx => h.block i hi fun hh => hx (hXY i hh)⟩
theorem Keeps.of {X : Nat → Prop} {w w' : World} (h : Below w.heap.size w w') : Keeps X w w' := ⟨h.os, h.tape, h.output, h.size, fun k hk _ => h.block k hk⟩
theorem Keeps.alloc {X : Nat → Prop} {a w : World} (h : Keeps X a w) (o : Obj) : Keeps X a (w.alloc o) :=
  h.trans (Keeps.of ((Below.refl _ w).alloc (Nat.le_refl _) o))
theorem Keeps.drew {X : Nat → Prop} {a w : World} (h : Keeps X a w) : Keeps X a w.drew := ⟨h.os, h.tape, h.output, h.size, h.block⟩
theorem Keeps.drewN {X : Nat → Prop} {a w : World} (h : Keeps X a w) (n : Nat) : Keeps X a (w.drewN n) := ⟨h.os, h.tape, h.output, h.size, h.block⟩
theorem Keeps.setCell {X : Nat → Prop} {a w : World} (h : Keeps X a w) {p : Addr} (hp : X p.block) (u : Value) : Keeps X a (w.setCell p u) :=
  h.trans ⟨rfl, rfl, rfl, by simp [World.setCell], fun k _ hx => Below.heap_setCell _ _ _ _ (fun e => hx (e ▸ hp))⟩
theorem Keeps.setB {b : Nat} {a w : World} (h : Keeps (· = b) a w) (off : Nat) (u : Value) : Keeps (· = b) a (w.setCell ⟨b, off, none⟩ u) := h.setCell (p := ⟨b, off, none⟩) rfl u
/-- A store into a block that was not there. -/
theorem Keeps.setNew {X : Nat → Prop} {a w : World} (h : Keeps X a w) {p : Addr} (hp : a.heap.size ≤ p.block) (u : Value) : Keeps X a (w.setCell p u) :=
  ⟨h.os, h.tape, h.output, by rw [show (w.setCell p u).heap.size = w.heap.size by simp [World.setCell]]; exact h.size, fun k hk hx => (Below.heap_setCell _ _ _ _ (by omega)).trans (h.block k hk hx)⟩
theorem Keeps.below {w w' : World} (h : Keeps (fun _ => False) w w') : Below w.heap.size w w' := ⟨h.os, h.tape, h.output, h.size, fun k hk => h.block k hk id⟩
theorem Keeps.cell {X : Nat → Prop} {w w' : World} (h : Keeps X w w') {p : Addr} (hp : p.block < w.heap.size) (hx : ¬ X p.block) : w'.cell? p = w.cell? p := World.cell?_of_block (w := w) (h.block p.block hp hx)
theorem Seg.keeps {X : Nat → Prop} {w w' : World} {b off : Nat} {l : List UInt8} (h : Seg w b off l) (hk : Keeps X w w') (hb : b < w.heap.size) (hx : ¬ X b) : Seg w' b off l :=
  fun i hi => by rw [hk.cell (p := ⟨b, off + i, none⟩) hb hx]; exact h i hi
theorem ownsRow_keeps {X : Nat → Prop} {w w' : World} {b0 : Nat} {e : TypeId} {size : Nat} {v : Value} {n : Nat} {xs : List Value} (h : w.ownsRow b0 e size v n xs) (hk : Keeps X w w') (hx : ∀ k, X k → ∀ c fz, w.heap[k]? ≠ some (.cells c e fz)) : w'.ownsRow b0 e size v n xs := by
  obtain ⟨h1, h2⟩ := h
  refine ⟨h1, ?_⟩
  rcases h2 with h2 | ⟨g, cap, cur, e1, e2, e3, e4⟩
  · exact Or.inl h2
  · exact Or.inr ⟨g, cap, cur, e1, e2, by rw [hk.block g (Array.getElem?_eq_some_iff.1 e3).1 (fun hg => hx g hg _ _ e3)]; exact e3, e4⟩
theorem Keeps.grown {w w' : World} {row : Option Nat} (h : w.grownBy w' row) : Keeps (fun k => some k = row) w w' := ⟨h.os, h.tape, h.output, h.size, fun k hk hx => h.block k hk hx⟩
/-- What a value's block is: one of those that may turn, or new. -/
def Mine (X : Nat → Prop) (n : Nat) (v : Value) : Prop := ∀ k, v.ownBlock = some k → X k ∨ n ≤ k
theorem Mine.nil (X : Nat → Prop) (n : Nat) : Mine X n (.slice none 0 0) := fun k h => by simp [Value.ownBlock] at h
theorem ownsRow_isRow {w : World} {base : Nat} {e : TypeId} {size : Nat} {v : Value} {n : Nat} {xs : List Value} (h : w.ownsRow base e size v n xs) {k : Nat} (hk : v.ownBlock = some k) : ∃ c, w.heap[k]? = some (.cells c e (0, 0)) := by
  rcases h.2 with ⟨hv, _⟩ | ⟨g, cap, cur, hv, _, hg, _⟩
  · rw [hv] at hk; simp [Value.ownBlock] at hk
  · rw [hv] at hk
    simp [Value.ownBlock] at hk
    subst hk
    exact ⟨cur, hg⟩
theorem size_setCell (w : World) (p : Addr) (u : Value) : (w.setCell p u).heap.size = w.heap.size := by
  show (w.heap.modify _ _).size = _
  rw [Array.size_modify]
theorem alloc1_s (w : World) (o : Obj) : (w.alloc o).heap.size = w.heap.size + 1 := by
  show (w.heap.push o).size = _
  rw [Array.size_push]
theorem alloc1_a (w : World) (o : Obj) : (w.alloc o).heap[w.heap.size]? = some o := by
  show (w.heap.push o)[w.heap.size]? = some o
  rw [Array.getElem?_push]
  simp
theorem news1 (w : World) (u : Value) (e : TypeId) : ∀ j x, [u][j]? = some x → (w.alloc (.cells #[u] e)).cell? ((⟨w.heap.size, 0, none⟩ : Addr).add j) = some x := by
  intro j x hj
  rcases j with _ | j
  · simp at hj
    subst hj
    rw [Go.WideShapes.add_plain, Lib.cell_of_heap (alloc1_a w _)]
    rfl
  · simp at hj
theorem news2 (w : World) (a b : Value) (e : TypeId) : ∀ j x, [a, b][j]? = some x → (w.alloc (.cells #[a, b] e)).cell? ((⟨w.heap.size, 0, none⟩ : Addr).add j) = some x := by
  intro j x hj
  rcases j with _ | _ | j
  · simp at hj
    subst hj
    rw [Go.WideShapes.add_plain, Lib.cell_of_heap (alloc1_a w _)]
    rfl
  · simp at hj
    subst hj
    rw [Go.WideShapes.add_plain, Lib.cell_of_heap (alloc1_a w _)]
    rfl
  · simp at hj
theorem Seg.take {w : World} {b off : Nat} {l : List UInt8} (h : Seg w b off l) (n : Nat) : Seg w b off (l.take n) := by
  intro i hi
  have hi2 : i < n ∧ i < l.length := by rw [List.length_take] at hi; omega
  rw [h i hi2.2]
  simp [List.getD, hi2.1]
end Go.Proofs.YtkalonhalhdlaaaGreatDoor
