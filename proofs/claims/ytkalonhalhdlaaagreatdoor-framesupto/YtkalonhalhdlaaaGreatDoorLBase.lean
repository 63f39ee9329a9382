/-
  Small words that all texts use: bytes in memory; facts kept out of sight of the walk.
-/
import Derived.WalkKit
namespace Go.Proofs.YtkalonhalhdlaaaGreatDoor
open Go.RowKit

theorem hide {p : Prop} (h : p) : Hid p := h
theorem unhide {p : Prop} (h : Hid p) : p := h

/-- Bytes in memory. -/
def Seg (w : World) (b off : Nat) (l : List UInt8) : Prop := ∀ i, i < l.length → w.cell? ⟨b, off + i, none⟩ = some (.int .u8 ((l.getD i 0).toNat : Int))

theorem ret_int {k : IntKind} {a b : Int} (h : a = b) : Ending.returned (.int k a) = .returned (.int k b) := by rw [h]
theorem ret_bool {a b : Bool} (h : a = b) : Ending.returned (.bool a) = .returned (.bool b) := by rw [h]

theorem Seg.below {w w' : World} {b off : Nat} {l : List UInt8} (h : Seg w b off l) {B : Nat} (hb : Below B w w') (hB : b < B) : Seg w' b off l :=
  fun i hi => by rw [hb.cell (p := ⟨b, off + i, none⟩) hB]; exact h i hi
end Go.Proofs.YtkalonhalhdlaaaGreatDoor
