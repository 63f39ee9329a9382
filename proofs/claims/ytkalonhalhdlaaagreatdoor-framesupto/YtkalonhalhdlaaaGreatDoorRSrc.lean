/-
  Bytes that are handed over; where there are none, their address may be any.
-/
import Derived.Test.YtkalonhalhdlaaaGreatDoorFCells
import Derived.Test.YtkalonhalhdlaaaGreatDoorGWrite2
namespace Go.Proofs.YtkalonhalhdlaaaGreatDoor
open Go.RowKit

def SrcE (w : World) (q : Option Addr) (l : List UInt8) : Prop := (q = none ∧ l = []) ∨ ∃ ad : Addr, q = some ad ∧ ∀ j u, (Lib.byteCells l)[j]? = some u → w.cell? (ad.add j) = some u
theorem SrcIs.e {w : World} {q : Option Addr} {l : List UInt8} (h : SrcIs w q l) : SrcE w q l := by
  rcases h with h | ⟨b, off, e, _, h⟩
  · exact .inl h
  · exact .inr ⟨⟨b, off, none⟩, e, h.news⟩
theorem SrcE.below {w w' : World} {q : Option Addr} {l : List UInt8} (h : SrcE w q l) {B : Nat} (hb : Below B w w') (hB : w.heap.size ≤ B) : SrcE w' q l := by
  rcases h with h | ⟨ad, e, h⟩
  · exact .inl h
  · refine .inr ⟨ad, e, fun j u hj => ?_⟩
    have hc := h j u hj
    have hlt := World.block_lt_of_cell? w _ hc
    rw [hb.cell (p := ad.add j) (Nat.lt_of_lt_of_le hlt hB)]
    exact hc
theorem SrcE.conv {w : World} {p : Option Addr} {l : List UInt8} (h : SrcE w p l) (cap : Nat) : (convert 28 9 (.slice p l.length cap)).run Tryz.prog w = .ok (.string ⟨l.toArray⟩) w := by
  have hin : Lib.BytesIn w p l.length (nums l) := by
    rcases h with ⟨rfl, rfl⟩ | ⟨ad, rfl, hseg⟩
    · exact Lib.BytesIn.nil _ _ _
    · refine Lib.BytesIn.of_cells fun i hi => ?_
      have hl : (Lib.byteCells l)[i]? = some (.int .u8 ((l.getD i 0).toNat : Int)) := by
        simp [Lib.byteCells, List.getD, hi]
      rw [hseg i _ hl, nums_getD l i hi]
  have := hin.convert (nums_length _) cap 28 5 9 Tryz.underlying28 Tryz.underlying5 Tryz.underlying9
  rw [this]
  have e : strOfNums (nums l) = ⟨(Lib.bytesOf (nums l)).toArray⟩ := rfl
  rw [e, bytesOf_nums]
end Go.Proofs.YtkalonhalhdlaaaGreatDoor
