/-
  A hunter in memory, and what its small methods do to it (NewHunter, onlyBits, add, abort): as in plain words (LPure); every other block stands as it stood.
-/
import Derived.Test.YtkalonhalhdlaaaGreatDoorLBits
import Derived.Test.YtkalonhalhdlaaaGreatDoorVRows
import Derived.BigQuiet
import Derived.Deep.QuietTactic
namespace Go.Proofs.YtkalonhalhdlaaaGreatDoor
open Go.RowKit

/-- A hunter's cells. -/
def hCells (h : HS) : List Value := .bool h.on :: .int .i64 h.ones :: .int .i64 h.len :: Lib.byteCells h.held
def HunterAt (w : World) (b : Nat) (h : HS) : Prop := w.heap[b]? = some (.cells (hCells h).toArray 106 (0, 0))

section
variable {w : World} {b : Nat} {h : HS}
theorem HunterAt.lt (k : HunterAt w b h) : b < w.heap.size := (Array.getElem?_eq_some_iff.1 k).1
theorem HunterAt.cellOn (k : HunterAt w b h) : w.cell? ⟨b, 0, none⟩ = some (.bool h.on) := by
  have e : w.heap[b]? = _ := k
  simp [World.cell?, e, hCells]
theorem HunterAt.cellOnes (k : HunterAt w b h) : w.cell? ⟨b, 1, none⟩ = some (.int .i64 h.ones) := by
  have e : w.heap[b]? = _ := k
  simp [World.cell?, e, hCells]
theorem HunterAt.cellLen (k : HunterAt w b h) : w.cell? ⟨b, 2, none⟩ = some (.int .i64 h.len) := by
  have e : w.heap[b]? = _ := k
  simp [World.cell?, e, hCells]
theorem HunterAt.cellHeld (k : HunterAt w b h) (i : Nat) (hi : i < h.held.length) : w.cell? ⟨b, 3 + i, none⟩ = some (.int .u8 ((h.held.getD i 0).toNat : Int)) := by
  have e : w.heap[b]? = _ := k
  simp [World.cell?, e, hCells, Lib.byteCells, Nat.add_comm 3 i, hi]
theorem HunterAt.seg (k : HunterAt w b h) (n m : Nat) (hn : n + m ≤ h.held.length) : Seg w b (3 + n) ((h.held.drop n).take m) := by
  intro i hi
  simp at hi
  have := k.cellHeld (n + i) (by omega)
  rw [Nat.add_assoc, this]
  have h1 : n + i < h.held.length := by omega
  have h2 : i < m := by omega
  simp [List.getD, h1, h2, List.getElem?_drop]
theorem HunterAt.frozen (k : HunterAt w b h) (i : Nat) : w.frozen? ⟨b, i, none⟩ = false := by
  have e : w.heap[b]? = _ := k
  simp [World.frozen?, e]
theorem HunterAt.setOn (k : HunterAt w b h) (v : Bool) : HunterAt (w.setCell ⟨b, 0, none⟩ (.bool v)) b { h with on := v } := by
  have e : w.heap[b]? = _ := k
  show (w.setCell ⟨b, 0, none⟩ (.bool v)).heap[b]? = _
  simp [World.setCell, Array.getElem?_modify, e, hCells]
theorem HunterAt.setOnes (k : HunterAt w b h) (n : Nat) : HunterAt (w.setCell ⟨b, 1, none⟩ (.int .i64 n)) b { h with ones := n } := by
  have e : w.heap[b]? = _ := k
  show (w.setCell ⟨b, 1, none⟩ (.int .i64 n)).heap[b]? = _
  simp [World.setCell, Array.getElem?_modify, e, hCells]
theorem HunterAt.setLen (k : HunterAt w b h) (n : Nat) : HunterAt (w.setCell ⟨b, 2, none⟩ (.int .i64 n)) b { h with len := n } := by
  have e : w.heap[b]? = _ := k
  show (w.setCell ⟨b, 2, none⟩ (.int .i64 n)).heap[b]? = _
  simp [World.setCell, Array.getElem?_modify, e, hCells]
theorem HunterAt.setHeld (k : HunterAt w b h) (i : Nat) (x : UInt8) : HunterAt (w.setCell ⟨b, 3 + i, none⟩ (.int .u8 (x.toNat : Int))) b { h with held := h.held.set i x } := by
  have e : w.heap[b]? = _ := k
  show (w.setCell ⟨b, 3 + i, none⟩ (.int .u8 (x.toNat : Int))).heap[b]? = _
  simp [World.setCell, Array.getElem?_modify, e, hCells, Lib.byteCells, Nat.add_comm 3 i, List.map_set]
theorem HunterAt.alloc (k : HunterAt w b h) (o : Obj) : HunterAt (w.alloc o) b h := by
  show (w.alloc o).heap[b]? = _
  rw [Below.heap_alloc _ _ _ k.lt]; exact k
theorem HunterAt.drew (k : HunterAt w b h) : HunterAt w.drew b h := k
theorem HunterAt.keeps {X : Nat → Prop} {w' : World} (k : HunterAt w b h) (hk : Keeps X w w') (hx : ¬ X b) : HunterAt w' b h := by
  show w'.heap[b]? = _
  rw [hk.block b k.lt hx]; exact k
theorem HunterAt.setOther (k : HunterAt w b h) {p : Addr} (hp : p.block ≠ b) (u : Value) : HunterAt (w.setCell p u) b h := by
  show (w.setCell p u).heap[b]? = _
  rw [Below.heap_setCell _ _ _ _ (fun e => hp e.symm)]; exact k
end

theorem zeroHunter (w : World) : (zeroValue 106).run Tryz.prog w = .ok (.agg (hCells fresh).toArray) w := by kernel_rfl

set_option maxRecDepth 100000 in
theorem newHunter_any (w : World) :
    Calls Tryz.prog 28 #[] w fun e w' => e = .returned (.pointer (some ⟨w.heap.size, 0, none⟩)) ∧ HunterAt w' w.heap.size fresh ∧ Below w.heap.size w w' := by
  have hz := zeroHunter
  go_enter Tryz.func28, Tryz.ntmps28
  go_wp2
  go_ret
  refine ⟨rfl, ?_, (Below.refl _ w).alloc (Nat.le_refl _) _⟩
  exact Array.getElem?_push_size

theorem shB_val (x : UInt8) (bit : Bool) (v : Int) (hv : v = if bit then 1 else 0) :
    bits .or .u8 ((x.toNat : Int) / 2) (v * 128 % 256) = ((shB x bit).toNat : Int) := by
  have hx : x.toNat < 256 := x.toNat_lt
  subst hv
  cases bit
  · have := u8_or_nat (x.toNat / 2) 0 (by omega) (by omega)
    simp at this
    simp [this, shB]
    omega
  · have h1 := u8_or_nat (x.toNat / 2) 128 (by omega) (by omega)
    have h2 := nat_join 7 128 (x.toNat / 2) (by omega) (by omega)
    rw [Nat.or_comm] at h2
    rw [h2] at h1
    have e : ((if true then 1 else 0 : Int) * 128 % 256) = 128 := by decide
    rw [e]
    have h3 : bits .or .u8 ((x.toNat : Int) / 2) 128 = ((128 + x.toNat / 2 : Nat) : Int) := by simpa using h1
    rw [h3]
    simp [shB]
    omega

set_option maxHeartbeats 1000000 in
set_option maxRecDepth 100000 in
theorem add_any (b : Nat) (h : HS) (bit : Bool) (v : Int) (hv : Hid (v = if bit then 1 else 0)) (w : World) (k : HunterAt w b h) (ok : h.ok) :
    Calls Tryz.prog 157 #[.pointer (some ⟨b, 0, none⟩), .int .u8 v] w fun e w' => e = .returned (.tuple #[]) ∧ HunterAt w' b (addH h bit) ∧ Keeps (· = b) w w' := by
  have c0 := k.cellOn
  have c2 := k.cellLen
  by_cases hon : h.on = false
  · rw [hon] at c0
    have e0 : addH h bit = h := by simp [addH, hon]
    rw [e0]
    go_enter Tryz.func157, Tryz.ntmps157
    go_wp2
    first | go_end0 | refine bodyPost_ret (results_none rfl _ _ _) rfl ?_
    exact ⟨rfl, k, Keeps.refl _ _⟩
  · simp only [Bool.not_eq_false] at hon
    rw [hon] at c0
    obtain ⟨ok1, ok2, ok3⟩ := ok
    have f0 := k.frozen
    by_cases hl : h.len = 542
    · rw [hl] at c2
      have e0 : addH h bit = { h with len := 535 } := by simp [addH, hon, lenA, hl]
      rw [e0]
      clear e0 hon hl
      go_enter Tryz.func157, Tryz.ntmps157
      go_wp2
      go_end0
      exact ⟨rfl, (k.setLen 534).setLen 535, ((Keeps.refl _ w).setB _ _).setB _ _⟩
    · have g1 : ((h.len : Int) == 542) = false := by simp; omega
      by_cases h8 : h.len / 8 < 66
      · have c3 := k.cellHeld (h.len / 8) (by omega)
        have e0 : addH h bit = { h with len := h.len + 1, held := h.held.set (h.len / 8) (shB (h.held.getD (h.len / 8) 0) bit) } := by simp [addH, hon, lenA, hl, h8]
        rw [e0]
        clear e0 hon
        generalize h.held.getD (h.len / 8) 0 = x at c3
        have hx8 : x.toNat < 256 := x.toNat_lt
        have hsh := hide (shB_val x bit v hv.out)
        have g2 : (h.len : Int) / 8 < 66 := by omega
        go_enter Tryz.func157, Tryz.ntmps157
        go_wp2
        go_region
        all_goals go_wp2
        all_goals go_end0
        all_goals rw [unhide hsh]
        all_goals exact ⟨rfl, (((k.setHeld (h.len / 8) (shB x bit)).setLen (h.len + 1)).drew), (((Keeps.refl _ w).setB _ _).setB _ _).drew⟩
      · have g2 : ¬ (h.len : Int) / 8 < 66 := by omega
        have e0 : addH h bit = { h with len := h.len + 1 } := by simp [addH, hon, lenA, hl, h8]
        rw [e0]
        clear e0 hon
        go_enter Tryz.func157, Tryz.ntmps157
        go_wp2
        go_end0
        exact ⟨rfl, k.setLen (h.len + 1), (Keeps.refl _ w).setB _ _⟩
end Go.Proofs.YtkalonhalhdlaaaGreatDoor
