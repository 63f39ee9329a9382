/-
  Blocks and their cells, one by one.
-/
import Derived.Test.YtkalonhalhdlaaaGreatDoorKBase
namespace Go.Proofs.YtkalonhalhdlaaaGreatDoor
open Go.RowKit

/-- A block whose cells are known, one of them written. -/
theorem block_set {w : World} {F j : Nat} {cs : Array Value} {t : TypeId} {fz : Nat × Nat} (h : w.heap[F]? = some (.cells cs t fz)) (v : Value) : (w.setCell ⟨F, j, none⟩ v).heap[F]? = some (.cells (cs.setIfInBounds j v) t fz) := by
  skip
  simp [World.setCell, Array.getElem?_modify, h]
theorem alloc2_s (w : World) (o p : Obj) : ((w.alloc o).alloc p).heap.size = w.heap.size + 2 := by rw [alloc1_s, alloc1_s]
end Go.Proofs.YtkalonhalhdlaaaGreatDoor
