/-
  A text as bytes of its own.
-/
import Derived.Test.YtkalonhalhdlaaaGreatDoorProg
import Derived.Test.YtkalonhalhdlaaaGreatDoorVRows
import Derived.Lib.ConvBytes
namespace Go.Proofs.YtkalonhalhdlaaaGreatDoor
open Go.RowKit

theorem conv_bytes (w : World) (s : ByteArray) : (convert 9 28 (.string s)).run Tryz.prog w = .ok (.slice (some ⟨w.heap.size, 0, none⟩) s.size (grownCap w s.size 0 5)) (Lib.bytesWorld w 5 s) :=
  Lib.run_convert_string_bytes w 9 28 5 s Tryz.underlying9 Tryz.underlying28 Tryz.underlying5
theorem bytesWorld_below (w : World) (s : ByteArray) : Below w.heap.size w (Lib.bytesWorld w 5 s) := by
  refine ⟨?_, ?_, ?_, by rw [Lib.bytesWorld_size]; omega, fun k hk => Lib.bytesWorld_at_old w _ s k hk⟩
  all_goals rfl
theorem bytesWorld_seg (w : World) (l : List UInt8) : Seg (Lib.bytesWorld w 5 ⟨l.toArray⟩) w.heap.size 0 l := by
  intro i hi
  rw [Nat.zero_add, Lib.bytesWorld_cell w _ _ i (by simpa [ByteArray.size] using hi)]
theorem bytesWorld_seg2 (w : World) (s : ByteArray) : Seg (Lib.bytesWorld w 5 s) w.heap.size 0 s.data.toList := by
  intro i hi
  have hl : s.data.toList.length = s.size := by rw [Array.length_toList]; rfl
  rw [Nat.zero_add, Lib.bytesWorld_cell w _ _ i (by omega)]

end Go.Proofs.YtkalonhalhdlaaaGreatDoor
