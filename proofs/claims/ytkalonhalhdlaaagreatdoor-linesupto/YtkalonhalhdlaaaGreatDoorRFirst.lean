/-
  What is asked ahead of any script: the document's examples, as they lie in memory.
-/
import Derived.Test.YtkalonhalhdlaaaGreatDoorRFramed
import Derived.Lib.SlBytesConst
import Derived.Great.BuildSlice
namespace Go.Proofs.YtkalonhalhdlaaaGreatDoor
open Go.RowKit

theorem conv_same (w : World) (o1 o2 o3 o4 : Obj) : (convert 28 28 (.slice (some ⟨w.heap.size + 1 + 1 + 1 + 1, 0, none⟩) 1 1)).run Tryz.prog (((((w.alloc o1).alloc o2).alloc o3).alloc o4).alloc (.cells #[.int .u8 97] 5)) = .ok (.slice (some ⟨w.heap.size + 1 + 1 + 1 + 1, 0, none⟩) 1 1) (((((w.alloc o1).alloc o2).alloc o3).alloc o4).alloc (.cells #[.int .u8 97] 5 (1, 2))) := by
  have h := Lib.run_convert_bytes_const (P := Tryz.prog) ((((w.alloc o1).alloc o2).alloc o3).alloc o4) 28 5 #[.int .u8 97] 1 1 Tryz.underlying28 Tryz.underlying5
  simp only [alloc1_s] at h
  exact h

/-- A step of noughts. -/
def opZ : OpV := ⟨0, 0, 0, 0, ⟨#[]⟩, .slice none 0 0, ⟨0, 0, false, 0, 0, []⟩, none, 0, 0, 0, 0, 0, 0, 0⟩
/-- The document's examples as steps; the lists that they name lie in three blocks. -/
def firstOps (g2 g3 g4 : Nat) : List OpV := [
  { opZ with kind := 1, s := ⟨#[49, 50, 51, 52, 53, 54, 55, 56, 57]⟩ },
  { opZ with kind := 2, lv := .slice (some ⟨g2, 0, none⟩) 1 1 },
  { opZ with kind := 3 },
  { opZ with kind := 5, lv := .slice (some ⟨g3, 0, none⟩) 2 2 },
  { opZ with kind := 10, a := 8, f := ⟨3, 1, true, 5, 2, [97]⟩, fq := some ⟨g4, 0, none⟩, fc := 1 },
  { opZ with kind := 11, a := 8, s := ⟨#[3, 63]⟩ },
  { opZ with kind := 20, c0 := 8, c1 := 2, c2 := 5, c3 := 3, c4 := 4, c5 := 3 },
  { opZ with kind := 20, c0 := 8, c1 := 2, c2 := 5, c3 := 3, c4 := 4, c5 := 1 },
  { opZ with kind := 21 },
  { opZ with kind := 30, b := 1 },
  { opZ with kind := 30, a := 1 },
  { opZ with kind := 23, s := ⟨#[97]⟩ },
  { opZ with kind := 23, s := ⟨#[98]⟩ },
  { opZ with kind := 23, s := ⟨#[99]⟩ },
  { opZ with kind := 32 },
  { opZ with kind := 30, b := 1, d := 1 },
  { opZ with kind := 30, a := 1 },
  { opZ with kind := 30, b := 1 },
  { opZ with kind := 25, a := 1 },
  { opZ with kind := 31, a := 1 },
  { opZ with kind := 28 }]
def opsCells (os : List OpV) : List Value := (os.map opCells).flatten

theorem infoOp : (Tryz.prog.info? 34).map (fun i => (i.zero, i.size, i.bytes)) = some (some (.agg #[.int .i64 0, .int .i64 0, .int .i64 0, .int .i64 0, .string ⟨#[]⟩, .slice none 0 0, .int .i64 0, .int .i64 0, .bool false, .int .i64 0, .int .i64 0, .slice none 0 0, .int .i64 0, .int .i64 0, .int .i64 0, .int .i64 0, .int .i64 0, .int .i64 0]), 18, 184) := by kernel_rfl

theorem first_fill (g2 g3 g4 : Nat) : Instr.fill (fun i => some (i * 18, 18)) ((Array.range (21 * 18)).map ((Value.cells (.agg #[.int .i64 0, .int .i64 0, .int .i64 0, .int .i64 0, .string ⟨#[]⟩, .slice none 0 0, .int .i64 0, .int .i64 0, .bool false, .int .i64 0, .int .i64 0, .slice none 0 0, .int .i64 0, .int .i64 0, .int .i64 0, .int .i64 0, .int .i64 0, .int .i64 0]))[· % (Value.cells (.agg #[.int .i64 0, .int .i64 0, .int .i64 0, .int .i64 0, .string ⟨#[]⟩, .slice none 0 0, .int .i64 0, .int .i64 0, .bool false, .int .i64 0, .int .i64 0, .slice none 0 0, .int .i64 0, .int .i64 0, .int .i64 0, .int .i64 0, .int .i64 0, .int .i64 0])).size]!)) (((firstOps g2 g3 g4).map opV).zipIdx.map (fun x => (x.2, x.1))) = some (opsCells (firstOps g2 g3 g4)).toArray := by
  kernel_rfl

/-- A list of steps in memory. -/
def OpsAt (w : World) (g : Nat) (os : List OpV) : Prop := ∀ j v, (opsCells os)[j]? = some v → w.cell? ⟨g, j, none⟩ = some v
end Go.Proofs.YtkalonhalhdlaaaGreatDoor
