/-
  What the methods of a hunter do that tell something (abort, judge, endFrame) and those that take a bit (hearOne, hearNought, hear): as in plain words (LPure); every block but the hunter's stands as it stood.
-/
import Derived.Test.YtkalonhalhdlaaaLHunt
namespace Go.Proofs.Ytkalonhalhdlaaa
open Go.RowKit

/-- What is told, as a value: its kind, and its bytes in memory from 'base' on. -/
def fv (f : Nat × List UInt8) (p : Option Addr) (cap : Nat) : Value := .agg #[.int .i64 f.1, .slice p f.2.length cap]
def Bytes (w : World) (base : Nat) (f : Nat × List UInt8) (p : Option Addr) (cap : Nat) : Prop := w.ownsRow base 5 1 (.slice p f.2.length cap) f.2.length (Lib.byteCells f.2)
theorem Bytes.none (w : World) (base k : Nat) : Bytes w base (k, []) none 0 := World.ownsRow_nil _ _ _ _
/-- What a method gives that may tell nothing. -/
def told (o : Option (Nat × List UInt8)) : Nat × List UInt8 := o.getD (0, [])

set_option maxHeartbeats 1000000 in
set_option maxRecDepth 100000 in
theorem abort_any (b : Nat) (h : HS) (w : World) (k : HunterAt w b h) :
    Calls Try.prog 25 #[.pointer (some ⟨b, 0, none⟩)] w fun e w' => ∃ p cap, e = .returned (.tuple #[fv (told (abortH h).2) p cap, .bool (abortH h).2.isSome]) ∧ Bytes w' w.heap.size (told (abortH h).2) p cap ∧ HunterAt w' b (abortH h).1 ∧ Keeps (· = b) w w' := by
  have c0 := k.cellOn
  have c2 := k.cellLen
  have f0 := k.frozen
  have hb := k.lt
  by_cases hon : h.on = false
  · rw [hon] at c0
    have e1 : (abortH h).2 = none := by simp [abortH, hon]
    rw [e1]
    clear e1 hon
    go_enter Try.func25, Try.ntmps25
    go_wp2
    exact bodyPost_ret (v := .tuple #[.agg #[.int .i64 0, .slice none 0 0], .bool false]) (by simp [results, Try.results25, go_sem]) rfl ⟨none, 0, rfl, Bytes.none _ _ _, ((k.setOn false).setLen 0).alloc _, (((Keeps.refl _ w).setB _ _).setB _ _).alloc _⟩
  · simp only [Bool.not_eq_false] at hon
    rw [hon] at c0
    by_cases h6 : 6 < h.len
    · have e1 : (abortH h).2 = some (2, []) := by simp [abortH, hon, h6]
      rw [e1]
      clear e1 hon
      have g1 : (6 : Int) < (h.len : Int) := by omega
      go_enter Try.func25, Try.ntmps25
      go_wp2
      exact bodyPost_ret (v := .tuple #[.agg #[.int .i64 2, .slice none 0 0], .bool true]) (by simp [results, Try.results25, go_sem]) rfl ⟨none, 0, rfl, Bytes.none _ _ _, ((k.setOn false).setLen 0).alloc _, (((Keeps.refl _ w).setB _ _).setB _ _).alloc _⟩
    · have e1 : (abortH h).2 = none := by simp [abortH, h6]
      rw [e1]
      clear e1 hon
      have g1 : ¬ (6 : Int) < (h.len : Int) := by omega
      go_enter Try.func25, Try.ntmps25
      go_wp2
      exact bodyPost_ret (v := .tuple #[.agg #[.int .i64 0, .slice none 0 0], .bool false]) (by simp [results, Try.results25, go_sem]) rfl ⟨none, 0, rfl, Bytes.none _ _ _, ((k.setOn false).setLen 0).alloc _, (((Keeps.refl _ w).setB _ _).setB _ _).alloc _⟩

theorem below_drewN {B : Nat} {a w : World} (h : Below B a w) (n : Nat) : Below B a (w.drewN n) := ⟨h.os, h.tape, h.output, h.size, h.block⟩

theorem heldLen : Try.prog.arrayLen 40 = 66 := by kernel_rfl
theorem heldElem : Try.prog.elem 40 = 5 := by kernel_rfl
theorem heldType : Try.prog.underlying 40 = some (.array (Try.prog.arrayLen 40) (Try.prog.elem 40)) := by kernel_rfl

theorem slice_held_h (b : Nat) (i : Int) (h0 : 0 ≤ i) (h1 : i ≤ 66) (w : World) :
    (Instr.sliceAt 40 (.pointer (some ⟨b, 3, none⟩)) none (some (.int .i64 i)) none).run Try.prog w = .ok (.slice (some ⟨b, 3, none⟩) i.toNat 66) w := by
  rw [run_sliceAt_array_h w 40 ⟨b, 3, none⟩ heldType .i64 i h0 (by rw [heldLen]; omega), heldElem, heldLen]
  simp [go_sem]

theorem slice_held_lh (b : Nat) (i j : Int) (h0 : 0 ≤ i) (h1 : i ≤ j) (h2 : j ≤ 66) (h3 : i < 66) (w : World) :
    (Instr.sliceAt 40 (.pointer (some ⟨b, 3, none⟩)) (some (.int .i64 i)) (some (.int .i64 j)) none).run Try.prog w = .ok (.slice (some ⟨b, 3 + i.toNat, none⟩) (j.toNat - i.toNat) (66 - i.toNat)) w := by
  rw [run_sliceAt_array_lh w 40 ⟨b, 3, none⟩ heldType .i64 .i64 i j h0 h1 (by rw [heldLen]; omega), heldElem, heldLen]
  have e : ¬ 66 = i.toNat := by omega
  simp [go_sem, e]

set_option maxHeartbeats 1000000 in
set_option maxRecDepth 100000 in
theorem judge_any (b : Nat) (h : HS) (n : Nat) (hn0 : 0 < n) (hn : n ≤ 536) (w : World) (k : HunterAt w b h) (ok : h.ok) :
    Calls Try.prog 29 #[.pointer (some ⟨b, 0, none⟩), .int .i64 (n : Int)] w fun e w' => ∃ p cap, e = .returned (fv (judgeL h.held n) p cap) ∧ Bytes w' w.heap.size (judgeL h.held n) p cap ∧ Below w.heap.size w w' := by
  by_cases h1 : n < 32
  · have e1 : judgeL h.held n = (3, []) := by simp [judgeL, h1]
    rw [e1]
    clear e1
    have g1 : (n : Int) < 32 := by omega
    go_enter Try.func29, Try.ntmps29
    go_wp2
    exact bodyPost_ret (v := .agg #[.int .i64 3, .slice none 0 0]) (by simp [results, Try.results29, go_sem]) rfl ⟨none, 0, rfl, Bytes.none _ _ _, (Below.refl _ w).alloc (Nat.le_refl _) _⟩
  by_cases h2 : n % 8 ≠ 0
  · have e1 : judgeL h.held n = (4, []) := by simp [judgeL, h1, h2]
    rw [e1]
    clear e1
    have g1 : ¬ (n : Int) < 32 := by omega
    have g2 : ((n : Int) % 8 != 0) = true := by simp; omega
    go_enter Try.func29, Try.ntmps29
    go_wp2
    exact bodyPost_ret (v := .agg #[.int .i64 4, .slice none 0 0]) (by simp [results, Try.results29, go_sem]) rfl ⟨none, 0, rfl, Bytes.none _ _ _, (Below.refl _ w).alloc (Nat.le_refl _) _⟩
  have h2' : n % 8 = 0 := by omega
  by_cases h3 : 528 < n
  · have e1 : judgeL h.held n = (6, []) := by simp [judgeL, h1, h2', h3]
    rw [e1]
    clear e1
    have g1 : ¬ (n : Int) < 32 := by omega
    have g2 : ((n : Int) % 8 != 0) = false := by simp; omega
    have g3 : (528 : Int) < (n : Int) := by omega
    go_enter Try.func29, Try.ntmps29
    go_wp2
    exact bodyPost_ret (v := .agg #[.int .i64 6, .slice none 0 0]) (by simp [results, Try.results29, go_sem]) rfl ⟨none, 0, rfl, Bytes.none _ _ _, (Below.refl _ w).alloc (Nat.le_refl _) _⟩
  have g1 : ¬ (n : Int) < 32 := by omega
  have g2 : ((n : Int) % 8 != 0) = false := by simp; omega
  have g3 : ¬ (528 : Int) < (n : Int) := by omega
  have hs1 := fun wx => slice_held_h b ((n : Int) / 8 - 2) (by omega) (by omega) wx
  have hs2 := fun wx => slice_held_lh b ((n : Int) / 8 - 2) ((n : Int) / 8) (by omega) (by omega) (by omega) (by omega) wx
  have e1 : ((n : Int) / 8 - 2).toNat = n / 8 - 2 := by omega
  have e2 : ((n : Int) / 8).toNat - (n / 8 - 2) = 2 := by omega
  rw [e1] at hs1 hs2
  rw [e2] at hs2
  clear h1 h2 h2' h3 e1 e2
  go_enter Try.func29, Try.ntmps29
  go_wp2
  go_quiet (fail)
  go_wp2_with fail
  clear hs1 hs2
  have hlen : (h.held.take (n / 8 - 2)).length = n / 8 - 2 := by rw [List.length_take, ok.1]; omega
  obtain ⟨W, hW⟩ : ∃ W, W = ((w.alloc (Obj.cells #[Value.int IntKind.i64 0, Value.slice none 0 0] 37)).drewN nq) := ⟨_, rfl⟩
  have kW : HunterAt W b h := by rw [hW]; exact k.alloc _
  have hbW : Below w.heap.size w W := by rw [hW]; exact below_drewN ((Below.refl _ w).alloc (Nat.le_refl _) _) nq
  have hR : W.heap[w.heap.size]? = some (.cells #[.int .i64 0, .slice none 0 0] 37 (0, 0)) := by rw [hW]; exact Array.getElem?_push_size
  rw [← hW]
  clear hW
  have hseg : Seg W b 3 (h.held.take (n / 8 - 2)) := by
    have := kW.seg 0 (n / 8 - 2) (by rw [ok.1]; omega)
    simpa using this
  have hsm := sumOf_any b 3 66 (h.held.take (n / 8 - 2)) W (by unfold maxLen; omega) hseg
  rw [hlen] at hsm
  refine hsm.mono ?_
  rintro e W1 ⟨rfl, hW1⟩
  clear hsm
  have hb1 : Below W.heap.size W W1 := by rw [hW1]; exact (Below.refl _ W).alloc (Nat.le_refl _) _
  have hsg1 : Seg W1 W.heap.size 0 (sumB (h.held.take (n / 8 - 2))) := by rw [hW1]; exact sumObj_seg W _
  have hlt1 : W.heap.size < W1.heap.size := by rw [hW1]; simp
  clear hW1
  have hseg1 := hseg.below hb1 kW.lt
  have hseg2 : Seg W1 b (3 + (n / 8 - 2)) ((h.held.drop (n / 8 - 2)).take 2) := (kW.seg (n / 8 - 2) 2 (by rw [ok.1]; omega)).below hb1 kW.lt
  have hlen2 : ((h.held.drop (n / 8 - 2)).take 2).length = 2 := by rw [List.length_take, List.length_drop, ok.1]; omega
  have hR1 : W1.heap[w.heap.size]? = some (.cells #[.int .i64 0, .slice none 0 0] 37 (0, 0)) := by rw [hb1.block _ (Array.getElem?_eq_some_iff.1 hR).1]; exact hR
  have hbw1 : Below w.heap.size w W1 := hbW.trans (hb1.mono hbW.size)
  have hj : judgeL h.held n = if (h.held.drop (n / 8 - 2)).take 2 = sumB (h.held.take (n / 8 - 2)) then (1, h.held.take (n / 8 - 2)) else (5, []) := by
    have a1 : ¬ n < 32 := by omega
    have a2 : n % 8 = 0 := by simp at g2; omega
    have a3 : ¬ 528 < n := by omega
    have a4 : n / 8 - (n / 8 - 2) = 2 := by omega
    simp [judgeL, a1, a2, a3, List.drop_take, a4]
  have heq := Try.bytes_Equal_all (some ⟨b, 3 + (n / 8 - 2), none⟩) (some ⟨W.heap.size, 0, none⟩) 2 (66 - (n / 8 - 2)) 2 2 (nums ((h.held.drop (n / 8 - 2)).take 2)) (nums (sumB (h.held.take (n / 8 - 2)))) W1 (by rw [nums_length]; exact hlen2) (by rw [nums_length]; rfl) (by have := hseg2.bytesIn; rw [hlen2] at this; exact this) (by have := hsg1.bytesIn; exact this)
  rw [bytesOf_nums, bytesOf_nums] at heq
  have HQ := hide heq
  have HJ := hide hj
  have hlen' := hide hlen
  clear heq hj hseg2 hsg1 hb1 hseg hR hbW kW hlen hlen2
  generalize (h.held.drop (n / 8 - 2)).take 2 = a at HQ HJ
  generalize sumB (h.held.take (n / 8 - 2)) = c at HQ HJ
  generalize h.held.take (n / 8 - 2) = fr at hseg1 HJ hlen'
  go_wp2_with fail
  refine (unhide HQ).mono ?_
  rintro e W2 ⟨rfl, hW2⟩
  subst hW2
  clear HQ
  have r0 : W2.cell? ⟨w.heap.size, 0, none⟩ = some (.int .i64 0) := by rw [Lib.cell_of_heap hR1]; rfl
  have r1 : W2.cell? ⟨w.heap.size, 1, none⟩ = some (.slice none 0 0) := by rw [Lib.cell_of_heap hR1]; rfl
  have rf : ∀ i, W2.frozen? ⟨w.heap.size, i, none⟩ = false := fun i => Lib.frozen_of_heap hR1 i
  by_cases hac : a = c
  · have hac' : (a == c) = true := by simp [hac]
    have HJ2 : Hid (judgeL h.held n = (1, fr)) := by show judgeL h.held n = (1, fr); rw [unhide HJ, if_pos hac]
    clear HJ hac
    go_wp2_with fail
    have hn8 : 2 ≤ n / 8 - 2 := by omega
    refine (Try.bytes_Clone_at ⟨b, 3, none⟩ (n / 8 - 2) 66 (nums fr) W2 (by rw [nums_length]; exact unhide hlen') (by omega) (fun i hi => by rw [Go.WideShapes.add_plain, hseg1 i (by rw [unhide hlen']; exact hi), nums_getD fr i (by rw [unhide hlen']; exact hi)])).mono ?_
    rintro e W3 ⟨v', rfl, hown, _, hb3⟩
    rw [nums_cells] at hown
    obtain ⟨g, cap, rfl⟩ : ∃ g cap, v' = .slice (some ⟨g, 0, none⟩) (n / 8 - 2) cap := by
      rcases hown.2 with ⟨_, h0⟩ | ⟨g, cap, cur, hv, _⟩
      · omega
      · exact ⟨g, cap, hv⟩
    have hltR : w.heap.size < W2.heap.size := (Array.getElem?_eq_some_iff.1 hR1).1
    have hR3 : W3.heap[w.heap.size]? = some (.cells #[.int .i64 0, .slice none 0 0] 37 (0, 0)) := by rw [hb3.block _ hltR]; exact hR1
    have hfin : Bytes ((W3.setCell ⟨w.heap.size, 0, none⟩ (.int .i64 1)).setCell ⟨w.heap.size, 1, none⟩ (.slice (some ⟨g, 0, none⟩) (n / 8 - 2) cap)) w.heap.size (1, fr) (some ⟨g, 0, none⟩) cap := by
      show World.ownsRow _ _ _ _ (.slice _ fr.length _) fr.length _
      rw [unhide hlen']
      exact ownsRow_mono (ownsRow_setCell_below (ownsRow_setCell_below hown (by exact hltR) _) (by exact hltR) _) (Nat.le_of_lt hltR)
    have hbf : Below w.heap.size w ((W3.setCell ⟨w.heap.size, 0, none⟩ (.int .i64 1)).setCell ⟨w.heap.size, 1, none⟩ (.slice (some ⟨g, 0, none⟩) (n / 8 - 2) cap)) :=
      ((hbw1.trans (hb3.mono (Nat.le_of_lt hltR))).setCell (p := ⟨w.heap.size, 0, none⟩) (Nat.le_refl _) _).setCell (p := ⟨w.heap.size, 1, none⟩) (Nat.le_refl _) _
    clear r0 r1 rf hown hb3 hR1 hseg1 hbw1
    have r0 : W3.cell? ⟨w.heap.size, 0, none⟩ = some (.int .i64 0) := by rw [Lib.cell_of_heap hR3]; rfl
    have r1 : W3.cell? ⟨w.heap.size, 1, none⟩ = some (.slice none 0 0) := by rw [Lib.cell_of_heap hR3]; rfl
    have rf : ∀ i, W3.frozen? ⟨w.heap.size, i, none⟩ = false := fun i => Lib.frozen_of_heap hR3 i
    have HF := hide hfin
    have HB := hide hbf
    clear hfin hbf
    go_wp2
    rw [unhide HJ2]
    exact bodyPost_ret (v := .agg #[.int .i64 1, .slice (some ⟨g, 0, none⟩) (n / 8 - 2) cap]) (by simp [results, Try.results29, go_sem, r0, r1]) rfl ⟨some ⟨g, 0, none⟩, cap, by simp [fv, unhide hlen'], unhide HF, unhide HB⟩
  · have hac' : (a == c) = false := by simp [hac]
    have HJ2 : Hid (judgeL h.held n = (5, [])) := by show judgeL h.held n = (5, []); rw [unhide HJ, if_neg hac]
    clear HJ hac
    go_wp2
    rw [unhide HJ2]
    exact bodyPost_ret (v := .agg #[.int .i64 5, .slice none 0 0]) (by simp [results, Try.results29, go_sem, r0, r1]) rfl ⟨none, 0, rfl, Bytes.none _ _ _, (hbw1.setCell (p := ⟨w.heap.size, 0, none⟩) (Nat.le_refl _) _).setCell (p := ⟨w.heap.size, 1, none⟩) (Nat.le_refl _) _⟩
end Go.Proofs.Ytkalonhalhdlaaa
