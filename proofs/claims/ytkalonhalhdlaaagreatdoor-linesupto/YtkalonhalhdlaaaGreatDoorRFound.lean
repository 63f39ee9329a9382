/-
  What one call of tetherref.found does: what bits are, as a frame (LMath: foundL), in new memory; nothing that was there turns.
-/
import Derived.Test.YtkalonhalhdlaaaGreatDoorVMath
import Derived.Test.YtkalonhalhdlaaaGreatDoorVHears
namespace Go.Proofs.YtkalonhalhdlaaaGreatDoor
open Go.RowKit

/-- Bits in memory. -/
def SegB (w : World) (b : Nat) (l : List Bool) : Prop := ∀ i, i < l.length → w.cell? ⟨b, i, none⟩ = some (.bool (l.getD i false))

/-- Byte j of the first i bits. -/
def cvL (l : List Bool) (i j : Nat) : Nat := val (((l.take i).drop (8 * j)).take 8)
theorem cvL_lt (l : List Bool) (i j : Nat) : cvL l i j < 256 := by
  have h := val_lt (((l.take i).drop (8 * j)).take 8)
  have h2 : (((l.take i).drop (8 * j)).take 8).length ≤ 8 := List.length_take_le _ _
  have h3 : 2 ^ (((l.take i).drop (8 * j)).take 8).length ≤ 2 ^ 8 := Nat.pow_le_pow_right (by omega) h2
  unfold cvL
  omega
theorem cvL_zero (l : List Bool) (j : Nat) : cvL l 0 j = 0 := by simp [cvL, val]
theorem cvL_other (l : List Bool) (i j : Nat) (hi : i < l.length) (h : j ≠ i / 8) : cvL l (i + 1) j = cvL l i j := by
  unfold cvL
  rw [List.take_succ_eq_append_getElem hi]
  have hl : (l.take i).length = i := by simp; omega
  rcases Nat.lt_or_ge j (i / 8) with h1 | h1
  · rw [take_more _ _ _ _ (by omega)]
  · rw [List.drop_eq_nil_of_le (by simp; omega), List.drop_eq_nil_of_le (by omega)]
theorem cvL_step (l : List Bool) (i : Nat) (hi : i < l.length) : cvL l (i + 1) (i / 8) = cvL l i (i / 8) + (if l[i] then 2 ^ (i % 8) else 0) := by
  unfold cvL
  rw [List.take_succ_eq_append_getElem hi]
  have hl : (l.take i).length = i := by simp; omega
  have hd : ((l.take i).drop (8 * (i / 8))).length = i % 8 := by rw [List.length_drop, hl]; omega
  generalize l.take i = t at hl hd
  generalize l[i] = b
  have e1 : ((t ++ [b]).drop (8 * (i / 8))).take 8 = t.drop (8 * (i / 8)) ++ [b] := by
    rw [List.drop_append_of_le_length (by omega)]
    exact List.take_of_length_le (by simp only [List.length_append, List.length_singleton]; omega)
  have e2 : (t.drop (8 * (i / 8))).take 8 = t.drop (8 * (i / 8)) := List.take_of_length_le (by omega)
  rw [e1, e2, val_append, hd]
  cases b <;> simp [val]
theorem cvL_last (l : List Bool) (n j : Nat) (hl : l.length = 8 * n) (hj : j < n) : UInt8.ofNat (cvL l (8 * n) j) = (packL n l).getD j 0 := by
  rw [packL_getD n l j hj]
  have e : l.take (8 * n) = l := List.take_of_length_le (by omega)
  unfold cvL
  rw [e]

/-- The row of bytes that is being put together. -/
def rowObj (n : Nat) (l : List Bool) (i : Nat) : Obj := .cells ((List.range n).map fun j => Value.int .u8 (cvL l i j : Nat)).toArray 5 (0, 0)
theorem row_cell {w : World} {r n : Nat} {l : List Bool} {i : Nat} (h : w.heap[r]? = some (rowObj n l i)) (j : Nat) (hj : j < n) : w.cell? ⟨r, j, none⟩ = some (.int .u8 (cvL l i j : Nat)) := by
  simp [World.cell?, h, rowObj, hj]
theorem row_frozen {w : World} {r n : Nat} {l : List Bool} {i : Nat} (h : w.heap[r]? = some (rowObj n l i)) (j : Nat) : w.frozen? ⟨r, j, none⟩ = false := by
  simp [World.frozen?, h, rowObj]
theorem row_same {n : Nat} {l : List Bool} {i : Nat} (hi : i < l.length) (hb : l[i] = false) : rowObj n l (i + 1) = rowObj n l i := by
  unfold rowObj
  congr 2
  apply List.map_congr_left
  intro j _
  by_cases e : j = i / 8
  · subst e; rw [cvL_step l i hi, hb]; simp
  · rw [cvL_other l i j hi e]
theorem row_put {w : World} {r n : Nat} {l : List Bool} {i : Nat} (h : w.heap[r]? = some (rowObj n l i)) (hi : i < l.length) (hb : l[i] = true) :
    (w.setCell ⟨r, i / 8, none⟩ (.int .u8 ((cvL l i (i / 8) + 2 ^ (i % 8) : Nat) : Int))).heap[r]? = some (rowObj n l (i + 1)) := by
  simp only [World.setCell, Array.getElem?_modify, if_true, h, Option.map_some, rowObj]
  simp
  congr 1
  apply List.ext_getElem
  · simp
  · intro j h1 h2
    simp at h1
    rw [List.getElem_set]
    split
    · rename_i e
      subst e
      have q : cvL l (i + 1) (i / 8) = cvL l i (i / 8) + 2 ^ (i % 8) := by
        have q := cvL_step l i hi
        rw [hb] at q
        simpa using q
      simp [q]
    · rename_i e
      have q := cvL_other l i j hi (fun q => e q.symm)
      simp [q]
theorem row_seg {w : World} {r n : Nat} {l : List Bool} (h : w.heap[r]? = some (rowObj n l (8 * n))) (hl : l.length = 8 * n) : Seg w r 0 (packL n l) := by
  intro j hj
  rw [packL_length] at hj
  rw [Nat.zero_add, row_cell h j hj, ← cvL_last l n j hl hj]
  have := cvL_lt l (8 * n) j
  simp
  omega

theorem sum_eq (f : List UInt8) (x y : Nat) (hx : x < 256) (hy : y < 256) : [UInt8.ofNat x, UInt8.ofNat y] = sumB f ↔ x + 256 * y = sumL f := by
  have h := sumL_le f
  simp only [sumB, List.cons.injEq, and_true]
  constructor
  · rintro ⟨h1, h2⟩
    have a1 := congrArg UInt8.toNat h1
    have a2 := congrArg UInt8.toNat h2
    simp at a1 a2
    omega
  · intro h1
    constructor
    · congr 1; omega
    · congr 1; omega
theorem found_at (l : List Bool) (n : Nat) (hn : l.length = 8 * n) (h4 : 4 ≤ n) (h66 : n ≤ 66) : foundL l = if cvL l (8 * n) (n - 2) + 256 * cvL l (8 * n) (n - 1) = sumL ((packL n l).take (n - 2)) then (1, (packL n l).take (n - 2)) else (5, []) := by
  have e8 : 8 * n / 8 = n := by omega
  have hd : (packL n l).drop (n - 2) = [UInt8.ofNat (cvL l (8 * n) (n - 2)), UInt8.ofNat (cvL l (8 * n) (n - 1))] := by
    rw [cvL_last l n (n - 2) hn (by omega), cvL_last l n (n - 1) hn (by omega)]
    have hl := packL_length n l
    apply List.ext_getElem
    · simp [hl]; omega
    · intro i h1 h2
      simp at h2
      rw [List.getElem_drop]
      rcases i with _ | _ | i
      · have q : n - 2 < (packL n l).length := by omega
        simp [List.getD, q]
      · have e : n - 2 + (0 + 1) = n - 1 := by omega
        have q : n - 1 < (packL n l).length := by omega
        simp [List.getD, q, e]
      · omega
  unfold foundL
  rw [hn, e8, if_neg (by omega), if_neg (by omega), if_neg (by omega), hd]
  simp only [sum_eq _ _ _ (cvL_lt l (8 * n) (n - 2)) (cvL_lt l (8 * n) (n - 1))]
theorem row_bytes {w : World} {r n base : Nat} {l : List Bool} (h : w.heap[r]? = some (rowObj n l (8 * n))) (hl : l.length = 8 * n) (hb : base ≤ r) (hm : n ≤ maxLen) : Bytes w base (1, (packL n l).take (n - 2)) (some ⟨r, 0, none⟩) n := by
  have e : ((packL n l).take (n - 2)).length = n - 2 := by rw [List.length_take, packL_length]; omega
  unfold Bytes
  rw [e]
  refine ⟨by simp [Lib.byteCells, packL_length], .inr ⟨r, n, _, rfl, hb, h, by omega, hm, by simp, ?_⟩⟩
  apply List.ext_getElem
  · simp [Lib.byteCells, packL_length]
  · intro i h1 h2
    simp [Lib.byteCells, packL_length] at h2
    have q := cvL_last l n i hl (by omega)
    have q2 := cvL_lt l (8 * n) i
    have q3 := congrArg UInt8.toNat q
    simp [List.getD, packL_length, show i < n by omega] at q3
    simp [Lib.byteCells]
    omega
theorem put_val (l : List Bool) (i : Nat) (hi : i < l.length) (hb : l[i] = true) : ((cvL l i (i / 8) : Int) + 2 ^ (i % 8)) % 256 = ((cvL l i (i / 8) + 2 ^ (i % 8) : Nat) : Int) := by
  have h := cvL_lt l (i + 1) (i / 8)
  have q := cvL_step l i hi
  rw [hb, if_pos rfl] at q
  rw [q] at h
  have e : ((cvL l i (i / 8) : Int) + 2 ^ (i % 8)) = ((cvL l i (i / 8) + 2 ^ (i % 8) : Nat) : Int) := by simp
  rw [e]
  omega
theorem alloc2_b (w : World) (o p : Obj) : ((w.alloc o).alloc p).heap[w.heap.size + 1]? = some p := by
  have h := alloc1_a (w.alloc o) p
  rwa [alloc1_s] at h
theorem alloc2_a (w : World) (o p : Obj) : ((w.alloc o).alloc p).heap[w.heap.size]? = some o := by
  rw [Below.heap_alloc _ _ _ (by rw [alloc1_s]; exact Nat.lt_succ_self _)]
  exact alloc1_a w o

theorem make_bytes (n : Nat) (l : List Bool) (hn : n ≤ 100) (w : World) : (Instr.makeSlice 28 (.int .i64 (n : Int)) (.int .i64 (n : Int))).run Tryz.prog w = .ok (.slice (some ⟨w.heap.size, 0, none⟩) n n) (w.alloc (rowObj n l 0)) := by
  obtain ⟨i0, hi, hz0, hz1, hz2⟩ := info_parts infoByte
  rw [run_make w 28 5 i0 (.int .u8 0) Tryz.underlying28 hi hz0 .i64 .i64 n n (by omega) (Int.le_refl _) (by rw [hz2]; omega) (by omega)]
  have e : madeCells (Value.cells (.int .u8 0)) ((n : Int).toNat * i0.size) = ((List.range n).map fun j => Value.int .u8 (cvL l 0 j : Nat)).toArray := by
    rw [hz1]
    apply Array.ext
    · simp [size_madeCells]
    · intro j h1 h2
      simp [madeCells, Value.cells, cvL_zero, Nat.mod_one]
  rw [e]
  simp [rowObj]

set_option maxHeartbeats 1000000 in
set_option maxRecDepth 100000 in
theorem refFound_small (b n cap : Nat) (l : List Bool) (w : World) (hn : l.length = n) (hm : n ≤ maxLen) (h : n < 32 ∨ n % 8 ≠ 0 ∨ 528 < n) :
    Calls Tryz.prog 109 #[.slice (some ⟨b, 0, none⟩) n cap] w fun e w' => ∃ p c, e = .returned (fv (foundL l) p c) ∧ Bytes w' w.heap.size (foundL l) p c ∧ Below w.heap.size w w' := by
  unfold maxLen at hm
  by_cases h1 : n < 32
  · have e1 : foundL l = (3, []) := by simp [foundL, hn, h1]
    rw [e1]
    clear e1
    have g1 : (n : Int) < 32 := by omega
    go_enter Tryz.func109, Tryz.ntmps109
    go_wp2
    exact bodyPost_ret (v := .agg #[.int .i64 3, .slice none 0 0]) (by simp [results, Tryz.results109, go_sem]) rfl ⟨none, 0, rfl, Bytes.none _ _ _, (Below.refl _ w).alloc (Nat.le_refl _) _⟩
  by_cases h2 : n % 8 ≠ 0
  · have e1 : foundL l = (4, []) := by simp [foundL, hn, h1, h2]
    rw [e1]
    clear e1
    have g1 : ¬ (n : Int) < 32 := by omega
    have g2 : ((n : Int) % 8 != 0) = true := by simp; omega
    go_enter Tryz.func109, Tryz.ntmps109
    go_wp2
    exact bodyPost_ret (v := .agg #[.int .i64 4, .slice none 0 0]) (by simp [results, Tryz.results109, go_sem]) rfl ⟨none, 0, rfl, Bytes.none _ _ _, (Below.refl _ w).alloc (Nat.le_refl _) _⟩
  · have h2' : n % 8 = 0 := by omega
    have h3 : 528 < n := by omega
    have e1 : foundL l = (6, []) := by simp [foundL, hn, h1, h2', h3]
    rw [e1]
    clear e1
    have g1 : ¬ (n : Int) < 32 := by omega
    have g2 : ((n : Int) % 8 != 0) = false := by simp; omega
    have g3 : (528 : Int) < (n : Int) := by omega
    go_enter Tryz.func109, Tryz.ntmps109
    go_wp2
    exact bodyPost_ret (v := .agg #[.int .i64 6, .slice none 0 0]) (by simp [results, Tryz.results109, go_sem]) rfl ⟨none, 0, rfl, Bytes.none _ _ _, (Below.refl _ w).alloc (Nat.le_refl _) _⟩

set_option maxHeartbeats 1000000 in
set_option maxRecDepth 100000 in
theorem refFound_frame (b n cap : Nat) (l : List Bool) (w : World) (hn : l.length = 8 * n) (hn4 : 4 ≤ n) (hn66 : n ≤ 66) (hb : b < w.heap.size) (hs : SegB w b l) :
    Calls Tryz.prog 109 #[.slice (some ⟨b, 0, none⟩) (8 * n) cap] w fun e w' => ∃ p c, e = .returned (fv (foundL l) p c) ∧ Bytes w' w.heap.size (foundL l) p c ∧ Below w.heap.size w w' := by
  obtain ⟨m, hm⟩ : ∃ m, m = 8 * n := ⟨_, rfl⟩
  rw [← hm]
  have g1 : ¬ (m : Int) < 32 := by omega
  have g2 : ((m : Int) % 8 != 0) = false := by simp; omega
  have g3 : ¬ (528 : Int) < (m : Int) := by omega
  have g4 : (m : Int) / 8 = (n : Int) := by omega
  have hmk := make_bytes n l (by omega)
  have HM := hide hm
  have HN := hide hn
  clear hm hn
  go_enter Tryz.func109, Tryz.ntmps109
  go_wp2
  go_loopw [5] (fun v wr => ∃ (k : Nat), k ≤ m ∧ v = .int .i64 k ∧ wr.heap[w.heap.size + 1]? = some (rowObj n l k) ∧ wr.heap[w.heap.size]? = some (.cells #[.int .i64 0, .slice none 0 0] 65 (0, 0)) ∧ wr.heap.size = w.heap.size + 2 ∧ Below w.heap.size w wr) (fun v _ => m - (intOf v).toNat)
  case atStart =>
    refine ⟨0, Nat.zero_le _, rfl, ?_, ?_, ?_, ?_⟩
    · exact alloc2_b w _ _
    · exact alloc2_a w _ _
    · exact alloc2_s w _ _
    · exact ((Below.refl _ w).alloc (Nat.le_refl _) _).alloc (Nat.le_of_lt (alloc1_s w _ ▸ Nat.lt_succ_self _)) _
  case round =>
    obtain ⟨k, hk, rfl, hrow, hres, hsz, hbel⟩ := hrel
    by_cases hlt : k < m
    · have hkl : k < l.length := by rw [HN.out, ← HM.out]; exact hlt
      have hcell : wr.cell? ⟨b, k, none⟩ = some (.bool l[k]) := by
        rw [hbel.cell (p := ⟨b, k, none⟩) hb, hs k hkl]
        simp [List.getD, hkl]
      have hk8 : k / 8 < n := by rw [HM.out] at hlt; omega
      by_cases hb1 : l[k] = true
      · rw [hb1] at hcell
        have hc2 := row_cell hrow (k / 8) hk8
        have hfz := row_frozen hrow (k / 8)
        have hput := row_put hrow hkl hb1
        have HV := hide (put_val l k hkl hb1)
        clear hb1
        go_wp2
        go_region
        all_goals go_wp2
        all_goals go_roundw
        case rel => rw [unhide HV]; exact ⟨k + 1, hlt, by go_num, hput, (Below.heap_setCell _ _ _ _ (Nat.ne_of_lt (Nat.lt_succ_self _))).trans hres, (size_setCell _ _ _).trans hsz, (hbel.setCell (p := ⟨w.heap.size + 1, k / 8, none⟩) (Nat.le_succ _) _).drew⟩
        case measure => simp [intOf]; omega
      · have hb0 : l[k] = false := by simpa using hb1
        rw [hb0] at hcell
        have hsame := row_same (n := n) hkl hb0
        rw [← hsame] at hrow
        clear hsame hb0 hb1
        go_wp2
        go_roundw
        case rel => exact ⟨k + 1, hlt, by go_num, hrow, hres, hsz, hbel⟩
        case measure => simp [intOf]; omega
    · have hkm : k = 8 * n := by rw [← HM.out]; omega
      rw [hkm] at hrow
      have hseg := row_seg hrow HN.out
      have hlen2 : ((packL n l).take (n - 2)).length = n - 2 := by rw [List.length_take, packL_length]; omega
      have hsm := refSum_any (w.heap.size + 1) 0 n ((packL n l).take (n - 2)) wr (by unfold maxLen; omega) (hseg.take _)
      rw [hlen2] at hsm
      have c0 := row_cell hrow (n - 2) (by omega)
      have c1 := row_cell hrow (n - 1) (by omega)
      have hx := cvL_lt l (8 * n) (n - 2)
      have hy := cvL_lt l (8 * n) (n - 1)
      have HF := hide (found_at l n HN.out hn4 hn66)
      have HB := hide (row_bytes (base := w.heap.size + 1) hrow HN.out (Nat.le_refl _) (by unfold maxLen; omega))
      have HS := hide hsm
      clear hsm hseg hrow
      generalize cvL l (8 * n) (n - 2) = x at c0 hx HF
      generalize cvL l (8 * n) (n - 1) = y at c1 hy HF
      generalize sumL ((packL n l).take (n - 2)) = sm at HS HF
      go_wp2_with fail
      refine (unhide HS).mono ?_
      rintro e W1 ⟨rfl, hW1⟩
      subst hW1
      clear HS
      have r0 : W1.cell? ⟨w.heap.size, 0, none⟩ = some (.int .i64 0) := by rw [Lib.cell_of_heap hres]; rfl
      have r1 : W1.cell? ⟨w.heap.size, 1, none⟩ = some (.slice none 0 0) := by rw [Lib.cell_of_heap hres]; rfl
      have rf : ∀ i, W1.frozen? ⟨w.heap.size, i, none⟩ = false := fun i => Lib.frozen_of_heap hres i
      have t1 : ((n : Int) - 2 + 1).toNat = n - 1 := by omega
      have t2 : ((n : Int) - 2).toNat = n - 2 := by omega
      have HL := hide hlen2
      clear hlen2 hres
      generalize (packL n l).take (n - 2) = fr at HL HF HB
      by_cases hq : x + 256 * y = sm
      · have h1 : ((x : Int) + 256 * (y : Int) != (sm : Int)) = false := by simp; omega
        have HF2 : Hid (foundL l = (1, fr)) := by show foundL l = (1, fr); rw [unhide HF, if_pos hq]
        clear HF hq
        go_wp2
        go_region
        all_goals go_wp2
        rw [unhide HF2]
        have hbf : Below w.heap.size w (((W1.setCell ⟨w.heap.size, 0, none⟩ (.int .i64 1)).setCell ⟨w.heap.size, 1, none⟩ (.slice (some ⟨w.heap.size + 1, 0, none⟩) (n - 2) n)).drew) :=
          ((hbel.setCell (p := ⟨w.heap.size, 0, none⟩) (Nat.le_refl _) _).setCell (p := ⟨w.heap.size, 1, none⟩) (Nat.le_refl _) _).drew
        have hfin : Bytes (((W1.setCell ⟨w.heap.size, 0, none⟩ (.int .i64 1)).setCell ⟨w.heap.size, 1, none⟩ (.slice (some ⟨w.heap.size + 1, 0, none⟩) (n - 2) n)).drew) w.heap.size (1, fr) (some ⟨w.heap.size + 1, 0, none⟩) n :=
          ownsRow_mono (ownsRow_setCell_below (ownsRow_setCell_below (unhide HB) (Nat.lt_succ_self _) _) (Nat.lt_succ_self _) _) (Nat.le_succ _)
        exact bodyPost_ret (v := .agg #[.int .i64 1, .slice (some ⟨w.heap.size + 1, 0, none⟩) (n - 2) n]) (by simp [results, Tryz.results109, go_sem, r0, r1]) rfl ⟨some ⟨w.heap.size + 1, 0, none⟩, n, by simp [fv, unhide HL], hfin, hbf⟩
      · have h1 : ((x : Int) + 256 * (y : Int) != (sm : Int)) = true := by simp; omega
        have HF2 : Hid (foundL l = (5, [])) := by show foundL l = (5, []); rw [unhide HF, if_neg hq]
        clear HF hq
        go_wp2
        go_region
        all_goals go_wp2
        rw [unhide HF2]
        exact bodyPost_ret (v := .agg #[.int .i64 5, .slice none 0 0]) (by simp [results, Tryz.results109, go_sem, r0, r1]) rfl ⟨none, 0, rfl, Bytes.none _ _ _, ((hbel.setCell (p := ⟨w.heap.size, 0, none⟩) (Nat.le_refl _) _).setCell (p := ⟨w.heap.size, 1, none⟩) (Nat.le_refl _) _).drew⟩

theorem refFound_any (b n cap : Nat) (l : List Bool) (w : World) (hn : l.length = n) (hm : n ≤ maxLen) (hb : b < w.heap.size) (hs : SegB w b l) :
    Calls Tryz.prog 109 #[.slice (some ⟨b, 0, none⟩) n cap] w fun e w' => ∃ p c, e = .returned (fv (foundL l) p c) ∧ Bytes w' w.heap.size (foundL l) p c ∧ Below w.heap.size w w' := by
  by_cases h : n < 32 ∨ n % 8 ≠ 0 ∨ 528 < n
  · exact refFound_small b n cap l w hn hm h
  · have e : n = 8 * (n / 8) := by omega
    rw [e]
    exact refFound_frame b (n / 8) cap l w (by omega) (by omega) (by omega) hb hs
end Go.Proofs.YtkalonhalhdlaaaGreatDoor
