/-
  What one call of tetherlaw's pick, mark, lent and whole does.
-/
import Derived.Test.YtkalonhalhdlaaaGreatDoorKBase
import Derived.Lib.BufferWrite
import Derived.Deep.WholeRow
namespace Go.Proofs.YtkalonhalhdlaaaGreatDoor
open Go.RowKit

theorem lawPick_any (c n : Int) (w : World) (hc : -9223372036854775808 ≤ c ∧ c ≤ 9223372036854775807) (hn : 0 < n) (hn2 : n ≤ 9223372036854775807) :
    Calls Tryz.prog 16 #[.int .i64 c, .int .i64 n] w fun e w' => (∃ r : Nat, (r : Int) < n ∧ e = .returned (.int .i64 r)) ∧ w' = w := by
  by_cases h0 : c < 0
  · go_enter Tryz.func16, Tryz.ntmps16
    go_wp2
    go_ret
    have h1 : (-(c + 1)).tmod n = (-(c + 1)) % n := Int.tmod_eq_emod_of_nonneg (by omega)
    have h2 : -((c + 1).tmod n) = (-(c + 1)) % n := by rw [← h1, Int.neg_tmod]
    have h3 := Int.emod_nonneg (-(c + 1)) (show n ≠ 0 by omega)
    have h4 := Int.emod_lt_of_pos (-(c + 1)) hn
    refine ⟨⟨((-(c + 1)) % n).toNat, by omega, ?_⟩, rfl⟩
    show Ending.returned (.int .i64 (-((c + 1).tmod n))) = _
    rw [h2]
    exact ret_int (by omega)
  · go_enter Tryz.func16, Tryz.ntmps16
    go_wp2
    go_ret
    have h3 := Int.emod_nonneg c (show n ≠ 0 by omega)
    have h4 := Int.emod_lt_of_pos c hn
    refine ⟨⟨(c % n).toNat, by omega, ?_⟩, rfl⟩
    show Ending.returned (.int .i64 (c % n)) = _
    exact ret_int (by omega)

/-- What the caller writes into the n-th list. -/
def markN (n : Nat) : Nat := 200 + n / 4 % 50
theorem mark_any (n : Nat) (w : World) (hn : n ≤ maxLen) :
    Calls Tryz.prog 23 #[.int .i64 (n : Int)] w fun e w' => e = .returned (.int .u8 (markN n : Nat)) ∧ w' = w := by
  unfold maxLen at hn
  go_enter Tryz.func23, Tryz.ntmps23
  go_wp2
  go_ret
  refine ⟨?_, rfl⟩
  apply congrArg Ending.returned
  simp [markN]

/-- A row of bytes, a block of its own. -/
def RowIs (w : World) (g : Nat) (l : List UInt8) : Prop := w.heap[g]? = some (.cells (Lib.byteCells l).toArray 5 (0, 0))
section
variable {w : World} {g : Nat} {l : List UInt8}
theorem RowIs.lt (h : RowIs w g l) : g < w.heap.size := (Array.getElem?_eq_some_iff.1 h).1
theorem RowIs.cell (h : RowIs w g l) (i : Nat) (hi : i < l.length) : w.cell? ⟨g, i, none⟩ = some (.int .u8 ((l.getD i 0).toNat : Int)) := by
  rw [Lib.cell_of_heap h]
  simp [Lib.byteCells, List.getD, hi]
theorem RowIs.fz (h : RowIs w g l) (i : Nat) : w.frozen? ⟨g, i, none⟩ = false := Lib.frozen_of_heap h i
theorem RowIs.set (h : RowIs w g l) (i : Nat) (x : UInt8) : RowIs (w.setCell ⟨g, i, none⟩ (.int .u8 (x.toNat : Int))) g (l.set i x) := by
  unfold RowIs at *
  simp [World.setCell, Array.getElem?_modify, h, Lib.byteCells]
theorem RowIs.seg (h : RowIs w g l) : Seg w g 0 l := fun i hi => by rw [Nat.zero_add]; exact h.cell i hi
theorem RowIs.below {w' : World} {B : Nat} (h : RowIs w g l) (hb : Below B w w') (hB : g < B) : RowIs w' g l := by
  unfold RowIs
  rw [hb.block g hB]; exact h
theorem RowIs.keeps {w' : World} {X : Nat → Prop} (h : RowIs w g l) (hb : Keeps X w w') (hB : ¬ X g) : RowIs w' g l := by
  unfold RowIs
  rw [hb.block g h.lt hB]; exact h
end
/-- What is lent: the bytes, and eight more behind. -/
def lentL (s : ByteArray) : List UInt8 := s.data.toList ++ List.replicate 8 77
theorem lentL_length (s : ByteArray) : (lentL s).length = s.size + 8 := by simp [lentL]
theorem make_row (n : Nat) (hn : n ≤ 1099511627784) (w : World) : (Instr.makeSlice 28 (.int .i64 (n : Int)) (.int .i64 (n : Int))).run Tryz.prog w = .ok (.slice (some ⟨w.heap.size, 0, none⟩) n n) (w.alloc (.cells (Lib.byteCells (List.replicate n 0)).toArray 5)) := by
  obtain ⟨i0, hi, hz0, hz1, hz2⟩ := info_parts infoByte
  rw [run_make w 28 5 i0 (.int .u8 0) Tryz.underlying28 hi hz0 .i64 .i64 n n (by omega) (Int.le_refl _) (by rw [hz2]; omega) (by omega)]
  have e : madeCells (Value.cells (.int .u8 0)) ((n : Int).toNat * i0.size) = (Lib.byteCells (List.replicate n 0)).toArray := by
    rw [hz1]
    apply Array.ext
    · simp [size_madeCells, Lib.byteCells]
    · intro j h1 h2
      simp [madeCells, Value.cells, Lib.byteCells, Nat.mod_one]
  rw [e]
  simp

theorem toList_nil (s : ByteArray) : s.toList = [] ↔ s.size = 0 := by
  rw [ByteArray.toList_eq]
  constructor
  · intro h
    show s.data.size = 0
    rw [← Array.length_toList, h]
    rfl
  · intro h
    exact List.length_eq_zero_iff.1 (by rw [Array.length_toList]; exact h)
theorem lent_copied (s : ByteArray) : (List.take 0 (Lib.byteCells (List.replicate (s.size + 8) (0 : UInt8))) ++ Lib.byteCells s.data.toList ++ List.drop (0 + s.size) (Lib.byteCells (List.replicate (s.size + 8) (0 : UInt8)))).toArray = (Lib.byteCells (s.data.toList ++ List.replicate 8 0)).toArray := by
  congr 1
  simp [Lib.byteCells]
theorem lent_put (s : ByteArray) (k : Nat) (hk : k < 8) : (s.data.toList ++ (List.replicate k 77 ++ List.replicate (8 - k) (0 : UInt8))).set (s.size + k) 77 = s.data.toList ++ (List.replicate (k + 1) 77 ++ List.replicate (8 - (k + 1)) 0) := by
  have e : s.size = s.data.toList.length := by simp
  rw [e, List.set_append_right _ _ (by omega)]
  congr 1
  have e2 : s.data.toList.length + k - s.data.toList.length = k := by omega
  rw [e2]
  apply List.ext_getElem
  · simp; omega
  · intro i h1 h2
    rw [List.getElem_set]
    simp only [List.getElem_append, List.length_replicate, List.getElem_replicate]
    split
    · rename_i e; subst e; simp
    · split <;> split <;> first | rfl | omega

set_option maxHeartbeats 2000000 in
set_option maxRecDepth 100000 in
theorem lent_nil (s : ByteArray) (raw : Int) (w : World) (h0 : s.size = 0) (h1 : raw.tmod 2 ≠ 0) :
    Calls Tryz.prog 24 #[.string s, .int .i64 raw] w fun e w' => e = .returned (.slice none 0 0) ∧ w' = w := by
  have g0 : s.toList = [] := (toList_nil s).2 h0
  have g1 : (raw.tmod 2 != 0) = true := by simpa using h1
  go_enter Tryz.func24, Tryz.ntmps24
  go_wp2
  go_ret
  exact ⟨rfl, rfl⟩

theorem copy_lent (s : ByteArray) (w : World) : ∃ W1, (Builtin.copy_ #[28, 9] 3 #[.slice (some ⟨w.heap.size, 0, none⟩) (s.size + 8) (s.size + 8), .string s]).run Tryz.prog (w.alloc (.cells (Lib.byteCells (List.replicate (s.size + 8) 0)).toArray 5)) = .ok (.int .i64 s.size) W1 ∧ RowIs W1 w.heap.size (s.data.toList ++ (List.replicate 0 77 ++ List.replicate (8 - 0) 0)) ∧ Below w.heap.size w W1 ∧ W1.heap.size = w.heap.size + 1 := by
  have h := Lib.run_copy_row_string (P := Tryz.prog) (w.alloc (.cells (Lib.byteCells (List.replicate (s.size + 8) 0)).toArray 5)) 28 9 3 5 w.heap.size 0 (s.size + 8) (s.size + 8) s _ 5 Tryz.underlying28 (by kernel_rfl) (alloc1_a w _) (by omega) (by simp [Lib.byteCells])
  rw [World.setRow_alloc_new] at h
  have e := lent_copied s
  refine ⟨_, h, ?_, (Below.refl _ w).alloc (Nat.le_refl _) _, alloc1_s w _⟩
  unfold RowIs
  rw [alloc1_a, e]
  simp

set_option maxHeartbeats 2000000 in
set_option maxRecDepth 100000 in
theorem lent_some (s : ByteArray) (raw : Int) (w : World) (hs : s.size ≤ 1099511627776) (hne : ¬ (s.size = 0 ∧ raw.tmod 2 ≠ 0)) :
    Calls Tryz.prog 24 #[.string s, .int .i64 raw] w fun e w' => e = .returned (.slice (some ⟨w.heap.size, 0, none⟩) s.size (s.size + 8)) ∧ RowIs w' w.heap.size (lentL s) ∧ Below w.heap.size w w' ∧ w'.heap.size = w.heap.size + 1 := by
  have hmk : ∀ w : World, (Instr.makeSlice 28 (.int .i64 ((s.size : Int) + 8)) (.int .i64 ((s.size : Int) + 8))).run Tryz.prog w = .ok (.slice (some ⟨w.heap.size, 0, none⟩) (s.size + 8) (s.size + 8)) (w.alloc (.cells (Lib.byteCells (List.replicate (s.size + 8) 0)).toArray 5)) := make_row (s.size + 8) (by omega)
  obtain ⟨W1, hcp, hrow, hbel, hsz⟩ := copy_lent s w
  have main : ∀ (K : Prop), K → K := fun _ h => h
  by_cases h0 : s.size = 0
  · have g0 : s.toList = [] := (toList_nil s).2 h0
    have g1 : (raw.tmod 2 != 0) = false := by
      by_cases h : raw.tmod 2 = 0
      · simp [h]
      · exact absurd ⟨h0, h⟩ hne
    clear hne h0 main
    go_enter Tryz.func24, Tryz.ntmps24
    go_wp2
    go_loopw [7] (fun v wr => ∃ (k : Nat), k ≤ 8 ∧ v = .int .i64 (s.size + k : Nat) ∧ RowIs wr w.heap.size (s.data.toList ++ (List.replicate k 77 ++ List.replicate (8 - k) 0)) ∧ Below w.heap.size w wr ∧ wr.heap.size = w.heap.size + 1) (fun v _ => s.size + 8 - (intOf v).toNat)
    case atStart => exact ⟨0, Nat.zero_le _, rfl, hrow, hbel, hsz⟩
    case round =>
      clear hrow hbel hsz hcp
      obtain ⟨k, hk, rfl, hrow, hbel, hsz⟩ := hrel
      by_cases hlt : k < 8
      · have c0 := hrow.cell (s.size + k) (by simp; omega)
        have fz := hrow.fz
        have hput := hrow.set (s.size + k) 77
        rw [lent_put s k hlt] at hput
        have HP := hide hput
        have HB := hide ((hbel.setCell (p := ⟨w.heap.size, s.size + k, none⟩) (Nat.le_refl _) (.int .u8 ((77 : UInt8).toNat : Int))))
        have HZ := hide ((size_setCell wr ⟨w.heap.size, s.size + k, none⟩ (.int .u8 ((77 : UInt8).toNat : Int))).trans hsz)
        clear hput
        go_wp2
        go_roundw
        case rel => exact ⟨k + 1, hlt, by go_num, unhide HP, unhide HB, unhide HZ⟩
        case measure => simp [intOf]; omega
      · have e8 : k = 8 := by omega
        subst e8
        have HR : Hid (RowIs wr w.heap.size (lentL s)) := by show RowIs _ _ _; simpa [lentL] using hrow
        clear hrow
        go_wp2
        go_ret
        exact ⟨by simp, unhide HR, hbel, hsz⟩
  · have g0 : ¬ s.toList = [] := fun h => h0 ((toList_nil s).1 h)
    have g1 : s.toList.isEmpty = false := by simpa using g0
    clear hne h0 main
    go_enter Tryz.func24, Tryz.ntmps24
    go_wp2
    go_loopw [7] (fun v wr => ∃ (k : Nat), k ≤ 8 ∧ v = .int .i64 (s.size + k : Nat) ∧ RowIs wr w.heap.size (s.data.toList ++ (List.replicate k 77 ++ List.replicate (8 - k) 0)) ∧ Below w.heap.size w wr ∧ wr.heap.size = w.heap.size + 1) (fun v _ => s.size + 8 - (intOf v).toNat)
    case atStart => exact ⟨0, Nat.zero_le _, rfl, hrow, hbel, hsz⟩
    case round =>
      clear hrow hbel hsz hcp
      obtain ⟨k, hk, rfl, hrow, hbel, hsz⟩ := hrel
      by_cases hlt : k < 8
      · have c0 := hrow.cell (s.size + k) (by simp; omega)
        have fz := hrow.fz
        have hput := hrow.set (s.size + k) 77
        rw [lent_put s k hlt] at hput
        have HP := hide hput
        have HB := hide ((hbel.setCell (p := ⟨w.heap.size, s.size + k, none⟩) (Nat.le_refl _) (.int .u8 ((77 : UInt8).toNat : Int))))
        have HZ := hide ((size_setCell wr ⟨w.heap.size, s.size + k, none⟩ (.int .u8 ((77 : UInt8).toNat : Int))).trans hsz)
        clear hput
        go_wp2
        go_roundw
        case rel => exact ⟨k + 1, hlt, by go_num, unhide HP, unhide HB, unhide HZ⟩
        case measure => simp [intOf]; omega
      · have e8 : k = 8 := by omega
        subst e8
        have HR : Hid (RowIs wr w.heap.size (lentL s)) := by show RowIs _ _ _; simpa [lentL] using hrow
        clear hrow
        go_wp2
        go_ret
        exact ⟨by simp, unhide HR, hbel, hsz⟩
end Go.Proofs.YtkalonhalhdlaaaGreatDoor
