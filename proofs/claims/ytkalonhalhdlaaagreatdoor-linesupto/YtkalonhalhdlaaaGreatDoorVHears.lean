import Derived.Test.YtkalonhalhdlaaaGreatDoorLHunt
/-
  What the methods of a hunter do that tell something (abort, judge, endFrame) and those that take a bit (hearOne, hearNought, hear): as in plain words (LPure); every block but the hunter's stands as it stood.
-/
namespace Go.Proofs.YtkalonhalhdlaaaGreatDoor
open Go.RowKit

/-- What is told, as a value: its kind, and its bytes in memory from 'base' on. -/
def fv (f : Nat × List UInt8) (p : Option Addr) (cap : Nat) : Value := .agg #[.int .i64 f.1, .slice p f.2.length cap]
def Bytes (w : World) (base : Nat) (f : Nat × List UInt8) (p : Option Addr) (cap : Nat) : Prop := w.ownsRow base 5 1 (.slice p f.2.length cap) f.2.length (Lib.byteCells f.2)
theorem Bytes.none (w : World) (base k : Nat) : Bytes w base (k, []) none 0 := World.ownsRow_nil _ _ _ _
/-- What a method gives that may tell nothing. -/
def told (o : Option (Nat × List UInt8)) : Nat × List UInt8 := o.getD (0, [])

set_option maxHeartbeats 1000000 in
set_option maxRecDepth 100000 in
theorem abort_any (b : Nat) (h : HS) (w : World) (k : HunterAt w b h) :
    Calls Tryz.prog 156 #[.pointer (some ⟨b, 0, none⟩)] w fun e w' => ∃ p cap, e = .returned (.tuple #[fv (told (abortH h).2) p cap, .bool (abortH h).2.isSome]) ∧ Bytes w' w.heap.size (told (abortH h).2) p cap ∧ HunterAt w' b (abortH h).1 ∧ Keeps (· = b) w w' := by
  have c0 := k.cellOn
  have c2 := k.cellLen
  have f0 := k.frozen
  have hb := k.lt
  by_cases hon : h.on = false
  · rw [hon] at c0
    have e1 : (abortH h).2 = none := by simp [abortH, hon]
    rw [e1]
    clear e1 hon
    go_enter Tryz.func156, Tryz.ntmps156
    go_wp2
    exact bodyPost_ret (v := .tuple #[.agg #[.int .i64 0, .slice none 0 0], .bool false]) (by simp [results, Tryz.results156, go_sem]) rfl ⟨none, 0, rfl, Bytes.none _ _ _, ((k.setOn false).setLen 0).alloc _, (((Keeps.refl _ w).setB _ _).setB _ _).alloc _⟩
  · simp only [Bool.not_eq_false] at hon
    rw [hon] at c0
    by_cases h6 : 6 < h.len
    · have e1 : (abortH h).2 = some (2, []) := by simp [abortH, hon, h6]
      rw [e1]
      clear e1 hon
      have g1 : (6 : Int) < (h.len : Int) := by omega
      go_enter Tryz.func156, Tryz.ntmps156
      go_wp2
      exact bodyPost_ret (v := .tuple #[.agg #[.int .i64 2, .slice none 0 0], .bool true]) (by simp [results, Tryz.results156, go_sem]) rfl ⟨none, 0, rfl, Bytes.none _ _ _, ((k.setOn false).setLen 0).alloc _, (((Keeps.refl _ w).setB _ _).setB _ _).alloc _⟩
    · have e1 : (abortH h).2 = none := by simp [abortH, h6]
      rw [e1]
      clear e1 hon
      have g1 : ¬ (6 : Int) < (h.len : Int) := by omega
      go_enter Tryz.func156, Tryz.ntmps156
      go_wp2
      exact bodyPost_ret (v := .tuple #[.agg #[.int .i64 0, .slice none 0 0], .bool false]) (by simp [results, Tryz.results156, go_sem]) rfl ⟨none, 0, rfl, Bytes.none _ _ _, ((k.setOn false).setLen 0).alloc _, (((Keeps.refl _ w).setB _ _).setB _ _).alloc _⟩

theorem below_drewN {B : Nat} {a w : World} (h : Below B a w) (n : Nat) : Below B a (w.drewN n) := ⟨h.os, h.tape, h.output, h.size, h.block⟩

theorem heldLen : Tryz.prog.arrayLen 104 = 66 := by kernel_rfl
theorem heldElem : Tryz.prog.elem 104 = 5 := by kernel_rfl
theorem heldType : Tryz.prog.underlying 104 = some (.array (Tryz.prog.arrayLen 104) (Tryz.prog.elem 104)) := by kernel_rfl

theorem slice_held_h (b : Nat) (i : Int) (h0 : 0 ≤ i) (h1 : i ≤ 66) (w : World) :
    (Instr.sliceAt 104 (.pointer (some ⟨b, 3, none⟩)) none (some (.int .i64 i)) none).run Tryz.prog w = .ok (.slice (some ⟨b, 3, none⟩) i.toNat 66) w := by
  rw [run_sliceAt_array_h w 104 ⟨b, 3, none⟩ heldType .i64 i h0 (by rw [heldLen]; omega), heldElem, heldLen]
  simp [go_sem]

theorem slice_held_lh (b : Nat) (i j : Int) (h0 : 0 ≤ i) (h1 : i ≤ j) (h2 : j ≤ 66) (h3 : i < 66) (w : World) :
    (Instr.sliceAt 104 (.pointer (some ⟨b, 3, none⟩)) (some (.int .i64 i)) (some (.int .i64 j)) none).run Tryz.prog w = .ok (.slice (some ⟨b, 3 + i.toNat, none⟩) (j.toNat - i.toNat) (66 - i.toNat)) w := by
  rw [run_sliceAt_array_lh w 104 ⟨b, 3, none⟩ heldType .i64 .i64 i j h0 h1 (by rw [heldLen]; omega), heldElem, heldLen]
  have e : ¬ 66 = i.toNat := by omega
  simp [go_sem, e]

set_option maxHeartbeats 1000000 in
set_option maxRecDepth 100000 in
theorem judge_any (b : Nat) (h : HS) (n : Nat) (hn0 : 0 < n) (hn : n ≤ 536) (w : World) (k : HunterAt w b h) (ok : h.ok) :
    Calls Tryz.prog 165 #[.pointer (some ⟨b, 0, none⟩), .int .i64 (n : Int)] w fun e w' => ∃ p cap, e = .returned (fv (judgeL h.held n) p cap) ∧ Bytes w' w.heap.size (judgeL h.held n) p cap ∧ Below w.heap.size w w' := by
  by_cases h1 : n < 32
  · have e1 : judgeL h.held n = (3, []) := by simp [judgeL, h1]
    rw [e1]
    clear e1
    have g1 : (n : Int) < 32 := by omega
    go_enter Tryz.func165, Tryz.ntmps165
    go_wp2
    exact bodyPost_ret (v := .agg #[.int .i64 3, .slice none 0 0]) (by simp [results, Tryz.results165, go_sem]) rfl ⟨none, 0, rfl, Bytes.none _ _ _, (Below.refl _ w).alloc (Nat.le_refl _) _⟩
  by_cases h2 : n % 8 ≠ 0
  · have e1 : judgeL h.held n = (4, []) := by simp [judgeL, h1, h2]
    rw [e1]
    clear e1
    have g1 : ¬ (n : Int) < 32 := by omega
    have g2 : ((n : Int) % 8 != 0) = true := by simp; omega
    go_enter Tryz.func165, Tryz.ntmps165
    go_wp2
    exact bodyPost_ret (v := .agg #[.int .i64 4, .slice none 0 0]) (by simp [results, Tryz.results165, go_sem]) rfl ⟨none, 0, rfl, Bytes.none _ _ _, (Below.refl _ w).alloc (Nat.le_refl _) _⟩
  have h2' : n % 8 = 0 := by omega
  by_cases h3 : 528 < n
  · have e1 : judgeL h.held n = (6, []) := by simp [judgeL, h1, h2', h3]
    rw [e1]
    clear e1
    have g1 : ¬ (n : Int) < 32 := by omega
    have g2 : ((n : Int) % 8 != 0) = false := by simp; omega
    have g3 : (528 : Int) < (n : Int) := by omega
    go_enter Tryz.func165, Tryz.ntmps165
    go_wp2
    exact bodyPost_ret (v := .agg #[.int .i64 6, .slice none 0 0]) (by simp [results, Tryz.results165, go_sem]) rfl ⟨none, 0, rfl, Bytes.none _ _ _, (Below.refl _ w).alloc (Nat.le_refl _) _⟩
  have g1 : ¬ (n : Int) < 32 := by omega
  have g2 : ((n : Int) % 8 != 0) = false := by simp; omega
  have g3 : ¬ (528 : Int) < (n : Int) := by omega
  have hs1 := fun wx => slice_held_h b ((n : Int) / 8 - 2) (by omega) (by omega) wx
  have hs2 := fun wx => slice_held_lh b ((n : Int) / 8 - 2) ((n : Int) / 8) (by omega) (by omega) (by omega) (by omega) wx
  have e1 : ((n : Int) / 8 - 2).toNat = n / 8 - 2 := by omega
  have e2 : ((n : Int) / 8).toNat - (n / 8 - 2) = 2 := by omega
  rw [e1] at hs1 hs2
  rw [e2] at hs2
  clear h1 h2 h2' h3 e1 e2
  go_enter Tryz.func165, Tryz.ntmps165
  go_wp2
  go_quiet (fail)
  go_wp2_with fail
  clear hs1 hs2
  have hlen : (h.held.take (n / 8 - 2)).length = n / 8 - 2 := by rw [List.length_take, ok.1]; omega
  obtain ⟨W, hW⟩ : ∃ W, W = ((w.alloc (Obj.cells #[Value.int IntKind.i64 0, Value.slice none 0 0] 65)).drewN nq) := ⟨_, rfl⟩
  have kW : HunterAt W b h := by rw [hW]; exact k.alloc _
  have hbW : Below w.heap.size w W := by rw [hW]; exact below_drewN ((Below.refl _ w).alloc (Nat.le_refl _) _) nq
  have hR : W.heap[w.heap.size]? = some (.cells #[.int .i64 0, .slice none 0 0] 65 (0, 0)) := by rw [hW]; exact Array.getElem?_push_size
  rw [← hW]
  clear hW
  have hseg : Seg W b 3 (h.held.take (n / 8 - 2)) := by
    have := kW.seg 0 (n / 8 - 2) (by rw [ok.1]; omega)
    simpa using this
  have hsm := sumOf_any b 3 66 (h.held.take (n / 8 - 2)) W (by unfold maxLen; omega) hseg
  rw [hlen] at hsm
  refine hsm.mono ?_
  rintro e W1 ⟨rfl, hW1⟩
  clear hsm
  have hb1 : Below W.heap.size W W1 := by rw [hW1]; exact (Below.refl _ W).alloc (Nat.le_refl _) _
  have hsg1 : Seg W1 W.heap.size 0 (sumB (h.held.take (n / 8 - 2))) := by rw [hW1]; exact sumObj_seg W _
  have hlt1 : W.heap.size < W1.heap.size := by rw [hW1]; simp
  clear hW1
  have hseg1 := hseg.below hb1 kW.lt
  have hseg2 : Seg W1 b (3 + (n / 8 - 2)) ((h.held.drop (n / 8 - 2)).take 2) := (kW.seg (n / 8 - 2) 2 (by rw [ok.1]; omega)).below hb1 kW.lt
  have hlen2 : ((h.held.drop (n / 8 - 2)).take 2).length = 2 := by rw [List.length_take, List.length_drop, ok.1]; omega
  have hR1 : W1.heap[w.heap.size]? = some (.cells #[.int .i64 0, .slice none 0 0] 65 (0, 0)) := by rw [hb1.block _ (Array.getElem?_eq_some_iff.1 hR).1]; exact hR
  have hbw1 : Below w.heap.size w W1 := hbW.trans (hb1.mono hbW.size)
  have hj : judgeL h.held n = if (h.held.drop (n / 8 - 2)).take 2 = sumB (h.held.take (n / 8 - 2)) then (1, h.held.take (n / 8 - 2)) else (5, []) := by
    have a1 : ¬ n < 32 := by omega
    have a2 : n % 8 = 0 := by simp at g2; omega
    have a3 : ¬ 528 < n := by omega
    have a4 : n / 8 - (n / 8 - 2) = 2 := by omega
    simp [judgeL, a1, a2, a3, List.drop_take, a4]
  have heq := Tryz.bytes_Equal_all (some ⟨b, 3 + (n / 8 - 2), none⟩) (some ⟨W.heap.size, 0, none⟩) 2 (66 - (n / 8 - 2)) 2 2 (nums ((h.held.drop (n / 8 - 2)).take 2)) (nums (sumB (h.held.take (n / 8 - 2)))) W1 (by rw [nums_length]; exact hlen2) (by rw [nums_length]; rfl) (by have := hseg2.bytesIn; rw [hlen2] at this; exact this) (by have := hsg1.bytesIn; exact this)
  rw [bytesOf_nums, bytesOf_nums] at heq
  have HQ := hide heq
  have HJ := hide hj
  have hlen' := hide hlen
  clear heq hj hseg2 hsg1 hb1 hseg hR hbW kW hlen hlen2
  generalize (h.held.drop (n / 8 - 2)).take 2 = a at HQ HJ
  generalize sumB (h.held.take (n / 8 - 2)) = c at HQ HJ
  generalize h.held.take (n / 8 - 2) = fr at hseg1 HJ hlen'
  go_wp2_with fail
  refine (unhide HQ).mono ?_
  rintro e W2 ⟨rfl, hW2⟩
  subst hW2
  clear HQ
  have r0 : W2.cell? ⟨w.heap.size, 0, none⟩ = some (.int .i64 0) := by rw [Lib.cell_of_heap hR1]; rfl
  have r1 : W2.cell? ⟨w.heap.size, 1, none⟩ = some (.slice none 0 0) := by rw [Lib.cell_of_heap hR1]; rfl
  have rf : ∀ i, W2.frozen? ⟨w.heap.size, i, none⟩ = false := fun i => Lib.frozen_of_heap hR1 i
  by_cases hac : a = c
  · have hac' : (a == c) = true := by simp [hac]
    have HJ2 : Hid (judgeL h.held n = (1, fr)) := by show judgeL h.held n = (1, fr); rw [unhide HJ, if_pos hac]
    clear HJ hac
    go_wp2_with fail
    have hn8 : 2 ≤ n / 8 - 2 := by omega
    refine (Tryz.bytes_Clone_at ⟨b, 3, none⟩ (n / 8 - 2) 66 (nums fr) W2 (by rw [nums_length]; exact unhide hlen') (by omega) (fun i hi => by rw [Go.WideShapes.add_plain, hseg1 i (by rw [unhide hlen']; exact hi), nums_getD fr i (by rw [unhide hlen']; exact hi)])).mono ?_
    rintro e W3 ⟨v', rfl, hown, _, hb3⟩
    rw [nums_cells] at hown
    obtain ⟨g, cap, rfl⟩ : ∃ g cap, v' = .slice (some ⟨g, 0, none⟩) (n / 8 - 2) cap := by
      rcases hown.2 with ⟨_, h0⟩ | ⟨g, cap, cur, hv, _⟩
      · omega
      · exact ⟨g, cap, hv⟩
    have hltR : w.heap.size < W2.heap.size := (Array.getElem?_eq_some_iff.1 hR1).1
    have hR3 : W3.heap[w.heap.size]? = some (.cells #[.int .i64 0, .slice none 0 0] 65 (0, 0)) := by rw [hb3.block _ hltR]; exact hR1
    have hfin : Bytes ((W3.setCell ⟨w.heap.size, 0, none⟩ (.int .i64 1)).setCell ⟨w.heap.size, 1, none⟩ (.slice (some ⟨g, 0, none⟩) (n / 8 - 2) cap)) w.heap.size (1, fr) (some ⟨g, 0, none⟩) cap := by
      show World.ownsRow _ _ _ _ (.slice _ fr.length _) fr.length _
      rw [unhide hlen']
      exact ownsRow_mono (ownsRow_setCell_below (ownsRow_setCell_below hown (by exact hltR) _) (by exact hltR) _) (Nat.le_of_lt hltR)
    have hbf : Below w.heap.size w ((W3.setCell ⟨w.heap.size, 0, none⟩ (.int .i64 1)).setCell ⟨w.heap.size, 1, none⟩ (.slice (some ⟨g, 0, none⟩) (n / 8 - 2) cap)) :=
      ((hbw1.trans (hb3.mono (Nat.le_of_lt hltR))).setCell (p := ⟨w.heap.size, 0, none⟩) (Nat.le_refl _) _).setCell (p := ⟨w.heap.size, 1, none⟩) (Nat.le_refl _) _
    clear r0 r1 rf hown hb3 hR1 hseg1 hbw1
    have r0 : W3.cell? ⟨w.heap.size, 0, none⟩ = some (.int .i64 0) := by rw [Lib.cell_of_heap hR3]; rfl
    have r1 : W3.cell? ⟨w.heap.size, 1, none⟩ = some (.slice none 0 0) := by rw [Lib.cell_of_heap hR3]; rfl
    have rf : ∀ i, W3.frozen? ⟨w.heap.size, i, none⟩ = false := fun i => Lib.frozen_of_heap hR3 i
    have HF := hide hfin
    have HB := hide hbf
    clear hfin hbf
    go_wp2
    rw [unhide HJ2]
    exact bodyPost_ret (v := .agg #[.int .i64 1, .slice (some ⟨g, 0, none⟩) (n / 8 - 2) cap]) (by simp [results, Tryz.results165, go_sem, r0, r1]) rfl ⟨some ⟨g, 0, none⟩, cap, by simp [fv, unhide hlen'], unhide HF, unhide HB⟩
  · have hac' : (a == c) = false := by simp [hac]
    have HJ2 : Hid (judgeL h.held n = (5, [])) := by show judgeL h.held n = (5, []); rw [unhide HJ, if_neg hac]
    clear HJ hac
    go_wp2
    rw [unhide HJ2]
    exact bodyPost_ret (v := .agg #[.int .i64 5, .slice none 0 0]) (by simp [results, Tryz.results165, go_sem, r0, r1]) rfl ⟨none, 0, rfl, Bytes.none _ _ _, (hbw1.setCell (p := ⟨w.heap.size, 0, none⟩) (Nat.le_refl _) _).setCell (p := ⟨w.heap.size, 1, none⟩) (Nat.le_refl _) _⟩
end Go.Proofs.YtkalonhalhdlaaaGreatDoor

/-
  What endFrame does, and what the methods do that take a bit (hearOne, hearNought, hear): as in plain words (LPure); every block but the hunter's stands as it stood.
-/
namespace Go.Proofs.YtkalonhalhdlaaaGreatDoor
open Go.RowKit

set_option maxHeartbeats 1000000 in
set_option maxRecDepth 100000 in
theorem endFrame_any (b : Nat) (h : HS) (w : World) (k : HunterAt w b h) (ok : h.ok) :
    Calls Tryz.prog 158 #[.pointer (some ⟨b, 0, none⟩)] w fun e w' => ∃ p cap, e = .returned (.tuple #[fv (told (endH h).2) p cap, .bool (endH h).2.isSome]) ∧ Bytes w' w.heap.size (told (endH h).2) p cap ∧ HunterAt w' b (endH h).1 ∧ Keeps (· = b) w w' := by
  have c0 := k.cellOn
  have c2 := k.cellLen
  have f0 := k.frozen
  have hb := k.lt
  have hl := ok.2.2
  go_enter Tryz.func158, Tryz.ntmps158
  go_wp2
  go_quiet (fail)
  obtain ⟨W, hW⟩ : ∃ W, W = ((w.alloc (Obj.cells #[Value.int IntKind.i64 0, Value.slice none 0 0] 65)).drewN nq) := ⟨_, rfl⟩
  have kW : HunterAt W b h := by rw [hW]; exact k.alloc _
  have hK : Keeps (· = b) w W := by rw [hW]; exact ((Keeps.refl _ w).alloc _).drewN _
  have hR : W.heap[w.heap.size]? = some (.cells #[.int .i64 0, .slice none 0 0] 65 (0, 0)) := by rw [hW]; exact Array.getElem?_push_size
  rw [← hW]
  clear hW
  clear c0 c2 f0
  have c0 := kW.cellOn
  have c2 := kW.cellLen
  have f0 := kW.frozen
  have hne : w.heap.size ≠ b := by omega
  have r0 : W.cell? ⟨w.heap.size, 0, none⟩ = some (.int .i64 0) := by rw [Lib.cell_of_heap hR]; rfl
  have r1 : W.cell? ⟨w.heap.size, 1, none⟩ = some (.slice none 0 0) := by rw [Lib.cell_of_heap hR]; rfl
  have rf : ∀ i, W.frozen? ⟨w.heap.size, i, none⟩ = false := fun i => Lib.frozen_of_heap hR i
  have ok1 : HS.ok { h with on := true, len := 0 } := ⟨ok.1, ok.2.1, by simp⟩
  by_cases hon : h.on = false
  · have E1 : Hid ((endH h).2 = none) := by show (endH h).2 = none; simp [endH, hon]
    go_wp2
    rw [unhide E1]
    exact bodyPost_ret (v := .tuple #[.agg #[.int .i64 0, .slice none 0 0], .bool false]) (by simp [results, Tryz.results158, go_sem, r0, r1]) rfl ⟨none, 0, rfl, Bytes.none _ _ _, (((kW.setOn true).setLen 0).setOther hne _).setOther hne _, (((hK.setB _ _).setB _ _).setNew (Nat.le_refl _) _).setNew (Nat.le_refl _) _⟩
  · simp only [Bool.not_eq_false] at hon
    by_cases h6 : 6 < h.len
    · have E1 : Hid ((endH h).2 = some (judgeL h.held (h.len - 6))) := by show (endH h).2 = some (judgeL h.held (h.len - 6)); simp [endH, hon, h6]
      have g1 : ¬ ((h.len : Int) - 6 ≤ 0) := by omega
      have kV : HunterAt ((W.setCell ⟨b, 0, none⟩ (.bool true)).setCell ⟨b, 2, none⟩ (.int .i64 0)) b { h with on := true, len := 0 } := (kW.setOn true).setLen 0
      have hKV : Keeps (· = b) w ((W.setCell ⟨b, 0, none⟩ (.bool true)).setCell ⟨b, 2, none⟩ (.int .i64 0)) := (hK.setB _ _).setB _ _
      have hRV : ((W.setCell ⟨b, 0, none⟩ (.bool true)).setCell ⟨b, 2, none⟩ (.int .i64 0)).heap[w.heap.size]? = some (.cells #[.int .i64 0, .slice none 0 0] 65 (0, 0)) := by
        rw [Below.heap_setCell _ _ _ _ hne, Below.heap_setCell _ _ _ _ hne]; exact hR
      have HK := hide kV
      have HKK := hide hKV
      have HRV := hide hRV
      clear kV hKV hRV
      go_wp2_with fail
      have kV := unhide HK
      have hKV := unhide HKK
      have hRV := unhide HRV
      clear HK HKK HRV
      clear kW hK hR c0 c2 f0 r0 r1 rf
      generalize ((W.setCell ⟨b, 0, none⟩ (.bool true)).setCell ⟨b, 2, none⟩ (.int .i64 0)) = V at kV hKV hRV
      have hj := judge_any b { h with on := true, len := 0 } (h.len - 6) (by omega) (by omega) V kV ok1
      rw [show (((h.len - 6 : Nat)) : Int) = (h.len : Int) - 6 by omega] at hj
      refine hj.mono ?_
      rintro e V1 ⟨p, cap, rfl, hby, hb1⟩
      clear hj
      have hltR : w.heap.size < V.heap.size := (Array.getElem?_eq_some_iff.1 hRV).1
      have hR1 : V1.heap[w.heap.size]? = some (.cells #[.int .i64 0, .slice none 0 0] 65 (0, 0)) := by rw [hb1.block _ hltR]; exact hRV
      have k1 : HunterAt V1 b { h with on := true, len := 0 } := kV.keeps (Keeps.of (X := fun _ => False) hb1) (fun hh => hh)
      have hK1 : Keeps (· = b) w V1 := hKV.trans (Keeps.of hb1)
      have E1' : (endH h).2 = some (judgeL h.held (h.len - 6)) := unhide E1
      generalize judgeL h.held (h.len - 6) = f at hby E1'
      have hfin : Bytes ((V1.setCell ⟨w.heap.size, 0, none⟩ (.int .i64 f.1)).setCell ⟨w.heap.size, 1, none⟩ (.slice p f.2.length cap)) w.heap.size f p cap :=
        ownsRow_mono (ownsRow_setCell_below (ownsRow_setCell_below hby (by exact hltR) _) (by exact hltR) _) (Nat.le_of_lt hltR)
      have HF := hide hfin
      have E2 := hide E1'
      clear hfin E1 E1' hby
      have r0 : V1.cell? ⟨w.heap.size, 0, none⟩ = some (.int .i64 0) := by rw [Lib.cell_of_heap hR1]; rfl
      have r1 : V1.cell? ⟨w.heap.size, 1, none⟩ = some (.slice none 0 0) := by rw [Lib.cell_of_heap hR1]; rfl
      have rf : ∀ i, V1.frozen? ⟨w.heap.size, i, none⟩ = false := fun i => Lib.frozen_of_heap hR1 i
      unfold fv
      go_wp2
      rw [unhide E2]
      exact bodyPost_ret (v := .tuple #[.agg #[.int .i64 f.1, .slice p f.2.length cap], .bool true]) (by simp [results, Tryz.results158, go_sem, r0, r1]) rfl ⟨p, cap, rfl, unhide HF, (k1.setOther hne _).setOther hne _, (hK1.setNew (Nat.le_refl _) _).setNew (Nat.le_refl _) _⟩
    · have E1 : Hid ((endH h).2 = none) := by show (endH h).2 = none; simp [endH, h6]
      have g1 : ((h.len : Int) - 6 ≤ 0) := by omega
      go_wp2
      rw [unhide E1]
      exact bodyPost_ret (v := .tuple #[.agg #[.int .i64 0, .slice none 0 0], .bool false]) (by simp [results, Tryz.results158, go_sem, r0, r1]) rfl ⟨none, 0, rfl, Bytes.none _ _ _, (((kW.setOn true).setLen 0).setOther hne _).setOther hne _, (((hK.setB _ _).setB _ _).setNew (Nat.le_refl _) _).setNew (Nat.le_refl _) _⟩
end Go.Proofs.YtkalonhalhdlaaaGreatDoor

/-
  What the methods of a hunter do that take a bit (hearOne, hearNought, hear): as in plain words (LPure); every block but the hunter's stands as it stood.
-/
namespace Go.Proofs.YtkalonhalhdlaaaGreatDoor
open Go.RowKit

/-- A method's own place for its first result, not yet filled. -/
def Blank (w : World) (r : Nat) : Prop := w.heap[r]? = some (.cells #[.int .i64 0, .slice none 0 0] 65 (0, 0))
theorem Blank.new (w : World) : Blank (w.alloc (.cells #[.int .i64 0, .slice none 0 0] 65)) w.heap.size := Array.getElem?_push_size
theorem Blank.lt {w : World} {r : Nat} (h : Blank w r) : r < w.heap.size := (Array.getElem?_eq_some_iff.1 h).1
theorem Blank.keeps {X : Nat → Prop} {w w' : World} {r : Nat} (h : Blank w r) (hk : Keeps X w w') (hx : ¬ X r) : Blank w' r := by
  show w'.heap[r]? = _
  rw [hk.block r h.lt hx]; exact h
theorem Blank.alloc {w : World} {r : Nat} (h : Blank w r) (o : Obj) : Blank (w.alloc o) r := by
  show (w.alloc o).heap[r]? = _
  rw [Below.heap_alloc _ _ _ h.lt]; exact h
theorem Blank.c0 {w : World} {r : Nat} (h : Blank w r) : w.cell? ⟨r, 0, none⟩ = some (.int .i64 0) := by rw [Lib.cell_of_heap h]; rfl
theorem Blank.c1 {w : World} {r : Nat} (h : Blank w r) : w.cell? ⟨r, 1, none⟩ = some (.slice none 0 0) := by rw [Lib.cell_of_heap h]; rfl
theorem Blank.fz {w : World} {r : Nat} (h : Blank w r) (i : Nat) : w.frozen? ⟨r, i, none⟩ = false := Lib.frozen_of_heap h i
theorem bytes_put {w : World} {B r : Nat} {f : Nat × List UInt8} {p : Option Addr} {cap : Nat} (h : Bytes w B f p cap) (hr : r < B) {base : Nat} (hb : base ≤ B) (u v : Value) : Bytes ((w.setCell ⟨r, 0, none⟩ u).setCell ⟨r, 1, none⟩ v) base f p cap :=
  ownsRow_mono (ownsRow_setCell_below (ownsRow_setCell_below h (by exact hr) _) (by exact hr) _) hb

set_option maxHeartbeats 1000000 in
set_option maxRecDepth 100000 in
theorem hearOne_any (b : Nat) (h : HS) (w : World) (k : HunterAt w b h) (ok : h.ok) :
    Calls Tryz.prog 139 #[.pointer (some ⟨b, 0, none⟩)] w fun e w' => ∃ p cap, e = .returned (.tuple #[fv (told (oneH h).2) p cap, .bool (oneH h).2.isSome]) ∧ Bytes w' w.heap.size (told (oneH h).2) p cap ∧ HunterAt w' b (oneH h).1 ∧ Keeps (· = b) w w' := by
  have c1 := k.cellOnes
  have f0 := k.frozen
  have hb := k.lt
  have ho := ok.2.1
  have okU := upH_ok h ok
  have hne : w.heap.size ≠ b := by omega
  by_cases h7 : h.ones = 7
  · rw [h7] at c1
    have hup : upH h = { h with ones := 7 } := by simp [upH, h7]
    have E1 : Hid (oneH h = abortH { h with ones := 7 }) := by show oneH h = _; unfold oneH one2H; rw [hup]; simp
    have kU : HunterAt w b { h with ones := 7 } := by rw [← h7]; exact k
    have HU := hide kU
    clear kU
    clear hup h7
    go_enter Tryz.func139, Tryz.ntmps139
    go_wp2_with fail
    have kU := unhide HU
    have hKU : Keeps (· = b) w w := Keeps.refl _ _
    have hBl := Blank.new w
    clear HU c1 f0
    refine (abort_any b { h with ones := 7 } _ (kU.alloc _)).mono ?_
    rintro e V1 ⟨p, cap, rfl, hby, k1, hK1⟩
    have hBl1 := hBl.keeps hK1 hne
    have hK2 : Keeps (· = b) w V1 := (hKU.alloc _).trans hK1
    have hlt := hBl.lt
    have hE := unhide E1
    generalize abortH { h with ones := 7 } = r at hby k1 hE
    have hfin := hide (bytes_put hby hlt (base := w.heap.size) (Nat.le_of_lt hlt) (.int .i64 (told r.2).1) (.slice p (told r.2).2.length cap))
    have E2 := hide hE
    clear hby hE E1
    have r0 := hBl1.c0
    have r1 := hBl1.c1
    have rf := hBl1.fz
    generalize hto : told r.2 = f at hfin
    generalize hso : r.2.isSome = ok2
    have HT := hide hto
    have HSo := hide hso
    clear hto hso
    unfold fv
    go_wp2
    rw [unhide E2, unhide HT, unhide HSo]
    exact bodyPost_ret (v := .tuple #[.agg #[.int .i64 f.1, .slice p f.2.length cap], .bool ok2]) (by simp [results, Tryz.results139, go_sem, r0, r1]) rfl ⟨p, cap, rfl, unhide hfin, (k1.setOther hne _).setOther hne _, (hK2.setNew (Nat.le_refl _) _).setNew (Nat.le_refl _) _⟩
  by_cases h6 : h.ones = 6
  · rw [h6] at c1
    have hup : upH h = { h with ones := 7 } := by simp [upH, h6]
    have E1 : Hid (oneH h = abortH { h with ones := 7 }) := by show oneH h = _; unfold oneH one2H; rw [hup]; simp
    have kU : HunterAt (w.setCell ⟨b, 1, none⟩ (.int .i64 7)) b { h with ones := 7 } := k.setOnes 7
    have hKU : Keeps (· = b) w (w.setCell ⟨b, 1, none⟩ (.int .i64 7)) := (Keeps.refl _ w).setB _ _
    have hsz : (w.setCell ⟨b, 1, none⟩ (.int .i64 7)).heap.size = w.heap.size := by simp [World.setCell]
    have HU := hide kU
    have HKU := hide hKU
    have HSZ := hide hsz
    clear kU hKU hsz
    clear hup h6
    go_enter Tryz.func139, Tryz.ntmps139
    go_wp2_with fail
    have kU := unhide HU
    have hKU := unhide HKU
    have hsz := unhide HSZ
    clear HU HKU HSZ c1 f0
    generalize (w.setCell ⟨b, 1, none⟩ (.int .i64 7)) = U at kU hKU hsz
    have hBl : Blank (U.alloc (.cells #[.int .i64 0, .slice none 0 0] 65)) w.heap.size := by rw [← hsz]; exact Blank.new U
    refine (abort_any b { h with ones := 7 } _ (kU.alloc _)).mono ?_
    rintro e V1 ⟨p, cap, rfl, hby, k1, hK1⟩
    have hBl1 := hBl.keeps hK1 hne
    have hK2 : Keeps (· = b) w V1 := (hKU.alloc _).trans hK1
    have hlt := hBl.lt
    have hE := unhide E1
    generalize abortH { h with ones := 7 } = r at hby k1 hE
    have hfin := hide (bytes_put hby hlt (base := w.heap.size) (Nat.le_of_lt hlt) (.int .i64 (told r.2).1) (.slice p (told r.2).2.length cap))
    have E2 := hide hE
    clear hby hE E1
    have r0 := hBl1.c0
    have r1 := hBl1.c1
    have rf := hBl1.fz
    generalize hto : told r.2 = f at hfin
    generalize hso : r.2.isSome = ok2
    have HT := hide hto
    have HSo := hide hso
    clear hto hso
    unfold fv
    go_wp2
    rw [unhide E2, unhide HT, unhide HSo]
    exact bodyPost_ret (v := .tuple #[.agg #[.int .i64 f.1, .slice p f.2.length cap], .bool ok2]) (by simp [results, Tryz.results139, go_sem, r0, r1]) rfl ⟨p, cap, rfl, unhide hfin, (k1.setOther hne _).setOther hne _, (hK2.setNew (Nat.le_refl _) _).setNew (Nat.le_refl _) _⟩
  have hup : upH h = { h with ones := h.ones + 1 } := by unfold upH; rw [if_pos (by omega)]
  have g7 : ((h.ones : Int) + 1 == 7) = false := by simp; omega
  have g8 : (h.ones : Int) < 7 := by omega
  have kU : HunterAt (w.setCell ⟨b, 1, none⟩ (.int .i64 ((h.ones : Int) + 1))) b { h with ones := h.ones + 1 } := k.setOnes (h.ones + 1)
  have hKU : Keeps (· = b) w (w.setCell ⟨b, 1, none⟩ (.int .i64 ((h.ones : Int) + 1))) := (Keeps.refl _ w).setB _ _
  have hsz : (w.setCell ⟨b, 1, none⟩ (.int .i64 ((h.ones : Int) + 1))).heap.size = w.heap.size := by simp [World.setCell]
  have HU := hide kU
  have HKU := hide hKU
  have HSZ := hide hsz
  clear kU hKU hsz
  by_cases h5 : h.ones = 5
  · have E1 : Hid (oneH h = ({ h with ones := h.ones + 1 }, none)) := by show oneH h = _; unfold oneH one2H; rw [hup]; simp [h5]
    have g5 : ¬ (h.ones : Int) + 1 ≤ 5 := by omega
    clear hup h5 h6 h7
    go_enter Tryz.func139, Tryz.ntmps139
    go_wp2
    have kU := unhide HU
    have hKU := unhide HKU
    rw [unhide E1]
    exact bodyPost_ret (v := .tuple #[.agg #[.int .i64 0, .slice none 0 0], .bool false]) (by simp [results, Tryz.results139, go_sem]) rfl ⟨none, 0, rfl, Bytes.none _ _ _, kU.alloc _, hKU.alloc _⟩
  · have E1 : Hid (oneH h = (addH { h with ones := h.ones + 1 } true, none)) := by
      show oneH h = _; unfold oneH one2H; rw [hup]
      have a1 : ¬ h.ones + 1 = 7 := by omega
      have a2 : h.ones + 1 ≤ 5 := by omega
      simp only [if_neg a1, if_pos a2]
    have g5 : (h.ones : Int) + 1 ≤ 5 := by omega
    have okU2 : HS.ok { h with ones := h.ones + 1 } := by rw [← hup]; exact okU
    clear hup h5 h6 h7
    go_enter Tryz.func139, Tryz.ntmps139
    go_wp2_with fail
    have kU := unhide HU
    have hKU := unhide HKU
    have hsz := unhide HSZ
    clear HU HKU HSZ c1 f0
    generalize (w.setCell ⟨b, 1, none⟩ (.int .i64 ((h.ones : Int) + 1))) = U at kU hKU hsz
    have hBl : Blank (U.alloc (.cells #[.int .i64 0, .slice none 0 0] 65)) w.heap.size := by rw [← hsz]; exact Blank.new U
    refine (add_any b { h with ones := h.ones + 1 } true 1 rfl _ (kU.alloc _) okU2).mono ?_
    rintro e V1 ⟨rfl, k1, hK1⟩
    have hBl1 := hBl.keeps hK1 hne
    have hK2 : Keeps (· = b) w V1 := (hKU.alloc _).trans hK1
    have r0 := hBl1.c0
    have r1 := hBl1.c1
    have rf := hBl1.fz
    go_wp2
    rw [unhide E1]
    exact bodyPost_ret (v := .tuple #[.agg #[.int .i64 0, .slice none 0 0], .bool false]) (by simp [results, Tryz.results139, go_sem, r0, r1]) rfl ⟨none, 0, rfl, Bytes.none _ _ _, (k1.setOther hne _).setOther hne _, (hK2.setNew (Nat.le_refl _) _).setNew (Nat.le_refl _) _⟩
end Go.Proofs.YtkalonhalhdlaaaGreatDoor

/-
  What hearNought and hear do to a hunter: as in plain words (LPure); every block but the hunter's stands as it stood.
-/
namespace Go.Proofs.YtkalonhalhdlaaaGreatDoor
open Go.RowKit

set_option maxHeartbeats 1000000 in
set_option maxRecDepth 100000 in
theorem hearNought_any (b : Nat) (h : HS) (w : World) (k : HunterAt w b h) (ok : h.ok) :
    Calls Tryz.prog 140 #[.pointer (some ⟨b, 0, none⟩)] w fun e w' => ∃ p cap, e = .returned (.tuple #[fv (told (noughtH h).2) p cap, .bool (noughtH h).2.isSome]) ∧ Bytes w' w.heap.size (told (noughtH h).2) p cap ∧ HunterAt w' b (noughtH h).1 ∧ Keeps (· = b) w w' := by
  have c1 := k.cellOnes
  have hb := k.lt
  have ho := ok.2.1
  have hne : w.heap.size ≠ b := by omega
  have hBl := Blank.new w
  have HBl := hide hBl
  clear hBl
  by_cases h6 : h.ones = 6
  · rw [h6] at c1
    have E1 : Hid (noughtH h = endH h) := by show noughtH h = _; unfold noughtH; rw [if_pos h6]
    clear h6
    go_enter Tryz.func140, Tryz.ntmps140
    go_wp2_with fail
    refine (endFrame_any b h _ (k.alloc _) ok).mono ?_
    rintro e V1 ⟨p, cap, rfl, hby, k1, hK1⟩
    have hBl := unhide HBl
    have hBl1 := hBl.keeps hK1 hne
    have hK2 : Keeps (· = b) w V1 := ((Keeps.refl _ w).alloc _).trans hK1
    have hlt := hBl.lt
    have hE := unhide E1
    generalize endH h = r at hby k1 hE
    have hfin := hide (bytes_put hby hlt (base := w.heap.size) (Nat.le_of_lt hlt) (.int .i64 (told r.2).1) (.slice p (told r.2).2.length cap))
    have E2 := hide hE
    clear hby hE E1 HBl hBl
    have r0 := hBl1.c0
    have r1 := hBl1.c1
    have rf := hBl1.fz
    generalize hto : told r.2 = f at hfin
    generalize hso : r.2.isSome = ok2
    have HT := hide hto
    have HSo := hide hso
    clear hto hso
    unfold fv
    go_wp2
    rw [unhide E2, unhide HT, unhide HSo]
    exact bodyPost_ret (v := .tuple #[.agg #[.int .i64 f.1, .slice p f.2.length cap], .bool ok2]) (by simp [results, Tryz.results140, go_sem, r0, r1]) rfl ⟨p, cap, rfl, unhide hfin, (k1.setOther hne _).setOther hne _, (hK2.setNew (Nat.le_refl _) _).setNew (Nat.le_refl _) _⟩
  have g6 : ((h.ones : Int) == 6) = false := by simp; omega
  by_cases h5 : h.ones = 5
  · have E1 : Hid (noughtH h = (h, none)) := by show noughtH h = _; unfold noughtH; rw [if_neg h6, if_pos h5]
    have g5 : ((h.ones : Int) == 5) = true := by simp; omega
    clear h5 h6
    go_enter Tryz.func140, Tryz.ntmps140
    go_wp2
    rw [unhide E1]
    exact bodyPost_ret (v := .tuple #[.agg #[.int .i64 0, .slice none 0 0], .bool false]) (by simp [results, Tryz.results140, go_sem]) rfl ⟨none, 0, rfl, Bytes.none _ _ _, k.alloc _, (Keeps.refl _ w).alloc _⟩
  · have E1 : Hid (noughtH h = (addH h false, none)) := by show noughtH h = _; unfold noughtH; rw [if_neg h6, if_neg h5]
    have g5 : ((h.ones : Int) == 5) = false := by simp; omega
    clear h5 h6
    go_enter Tryz.func140, Tryz.ntmps140
    go_wp2_with fail
    refine (add_any b h false 0 rfl _ (k.alloc _) ok).mono ?_
    rintro e V1 ⟨rfl, k1, hK1⟩
    have hBl1 := (unhide HBl).keeps hK1 hne
    have hK2 : Keeps (· = b) w V1 := ((Keeps.refl _ w).alloc _).trans hK1
    have r0 := hBl1.c0
    have r1 := hBl1.c1
    have rf := hBl1.fz
    go_wp2
    rw [unhide E1]
    exact bodyPost_ret (v := .tuple #[.agg #[.int .i64 0, .slice none 0 0], .bool false]) (by simp [results, Tryz.results140, go_sem, r0, r1]) rfl ⟨none, 0, rfl, Bytes.none _ _ _, (k1.setOther hne _).setOther hne _, (hK2.setNew (Nat.le_refl _) _).setNew (Nat.le_refl _) _⟩

set_option maxHeartbeats 1000000 in
set_option maxRecDepth 100000 in
theorem hear_one (b : Nat) (h : HS) (w : World) (k : HunterAt w b h) (ok : h.ok) :
    Calls Tryz.prog 108 #[.pointer (some ⟨b, 0, none⟩), .int .i32 49] w fun e w' => ∃ p cap, e = .returned (.tuple #[fv (told (hearH h true).2) p cap, .bool (hearH h true).2.isSome]) ∧ Bytes w' w.heap.size (told (hearH h true).2) p cap ∧ HunterAt w' b (hearH h true).1 ∧ Keeps (· = b) w w' := by
  have hb := k.lt
  have hne : w.heap.size ≠ b := by omega
  have hBl := Blank.new w
  have HBl := hide hBl
  clear hBl
  have E1 : Hid (hearH h true = oneH h) := by show hearH h true = _; simp [hearH]
  go_enter Tryz.func108, Tryz.ntmps108
  go_wp2_with fail
  refine (hearOne_any b h _ (k.alloc _) ok).mono ?_
  rintro e V1 ⟨p, cap, rfl, hby, k1, hK1⟩
  have hBl := unhide HBl
  have hBl1 := hBl.keeps hK1 hne
  have hK2 : Keeps (· = b) w V1 := ((Keeps.refl _ w).alloc _).trans hK1
  have hlt := hBl.lt
  have hE := unhide E1
  generalize oneH h = r at hby k1 hE
  have hfin := hide (bytes_put hby hlt (base := w.heap.size) (Nat.le_of_lt hlt) (.int .i64 (told r.2).1) (.slice p (told r.2).2.length cap))
  have E2 := hide hE
  clear hby hE E1 HBl hBl
  have r0 := hBl1.c0
  have r1 := hBl1.c1
  have rf := hBl1.fz
  generalize hto : told r.2 = f at hfin
  generalize hso : r.2.isSome = ok2
  have HT := hide hto
  have HSo := hide hso
  clear hto hso
  unfold fv
  go_wp2
  rw [unhide E2, unhide HT, unhide HSo]
  exact bodyPost_ret (v := .tuple #[.agg #[.int .i64 f.1, .slice p f.2.length cap], .bool ok2]) (by simp [results, Tryz.results108, go_sem, r0, r1]) rfl ⟨p, cap, rfl, unhide hfin, (k1.setOther hne _).setOther hne _, (hK2.setNew (Nat.le_refl _) _).setNew (Nat.le_refl _) _⟩

set_option maxHeartbeats 1000000 in
set_option maxRecDepth 100000 in
theorem hear_nought (b : Nat) (h : HS) (w : World) (k : HunterAt w b h) (ok : h.ok) :
    Calls Tryz.prog 108 #[.pointer (some ⟨b, 0, none⟩), .int .i32 48] w fun e w' => ∃ p cap, e = .returned (.tuple #[fv (told (hearH h false).2) p cap, .bool (hearH h false).2.isSome]) ∧ Bytes w' w.heap.size (told (hearH h false).2) p cap ∧ HunterAt w' b (hearH h false).1 ∧ Keeps (· = b) w w' := by
  have hb := k.lt
  have hne : w.heap.size ≠ b := by omega
  have hBl := Blank.new w
  have HBl := hide hBl
  clear hBl
  have E1 : Hid (hearH h false = ({ (noughtH h).1 with ones := 0 }, (noughtH h).2)) := by show hearH h false = _; simp [hearH]
  go_enter Tryz.func108, Tryz.ntmps108
  go_wp2_with fail
  refine (hearNought_any b h _ (k.alloc _) ok).mono ?_
  rintro e V1 ⟨p, cap, rfl, hby, k1, hK1⟩
  have hBl := unhide HBl
  have hBl1 := hBl.keeps hK1 hne
  have hK2 : Keeps (· = b) w V1 := ((Keeps.refl _ w).alloc _).trans hK1
  have hlt := hBl.lt
  have hE := unhide E1
  have hf1 := k1.cellOnes
  have hf2 := k1.frozen
  generalize noughtH h = r at hby k1 hE hf1
  have E2 := hide hE
  clear hE E1 HBl hBl
  have r0 := hBl1.c0
  have r1 := hBl1.c1
  have rf := hBl1.fz
  generalize hto : told r.2 = f at hby
  generalize hso : r.2.isSome = ok2
  have HT := hide hto
  have HSo := hide hso
  clear hto hso
  have hltV := hBl1.lt
  have hbV := k1.lt
  unfold fv
  go_wp2
  rw [unhide E2, unhide HT, unhide HSo]
  have hbB : b < (w.alloc (Obj.cells #[Value.int IntKind.i64 0, Value.slice none 0 0] 65)).heap.size := (k.alloc _).lt
  have hfin : Bytes ((((V1.setCell ⟨b, 1, none⟩ (.int .i64 0)).setCell ⟨w.heap.size, 0, none⟩ (.int .i64 f.1)).setCell ⟨w.heap.size, 1, none⟩ (.slice p f.2.length cap)).alloc (Obj.cells #[Value.int IntKind.i64 f.1, .slice p f.2.length cap] 65)) w.heap.size f p cap :=
    World.ownsRow.alloc (bytes_put (B := (w.alloc (Obj.cells #[Value.int IntKind.i64 0, Value.slice none 0 0] 65)).heap.size) (ownsRow_setCell_below hby (by exact hbB) _) hlt (base := w.heap.size) (Nat.le_of_lt hlt) _ _) _
  exact bodyPost_ret (v := .tuple #[.agg #[.int .i64 f.1, .slice p f.2.length cap], .bool ok2]) (by simp [results, Tryz.results108, go_sem, r0, r1, hltV]) rfl ⟨p, cap, rfl, hfin, (((k1.setOnes 0).setOther hne _).setOther hne _).alloc _, (((hK2.setB _ _).setNew (Nat.le_refl _) _).setNew (Nat.le_refl _) _).alloc _⟩
end Go.Proofs.YtkalonhalhdlaaaGreatDoor

/-
  What one call of Feed does to a hunter, given a text of noughts and ones: what is told is in new memory, as in plain words (LPure: feedH); every block but the hunter's stands as it stood.
-/
namespace Go.Proofs.YtkalonhalhdlaaaGreatDoor
open Go.RowKit

/-- What was told, with where its bytes lie. -/
abbrev Told := List ((Nat × List UInt8) × (Option Addr × Nat))
def toldCells : Told → List Value
  | [] => []
  | t :: r => .int .i64 t.1.1 :: .slice t.2.1 t.1.2.length t.2.2 :: toldCells r
theorem toldCells_length (t : Told) : (toldCells t).length = t.length * 2 := by
  induction t with
  | nil => rfl
  | cons x r ih => simp [toldCells, ih]; omega
theorem toldCells_append (a b : Told) : toldCells (a ++ b) = toldCells a ++ toldCells b := by
  induction a with
  | nil => rfl
  | cons x r ih => simp [toldCells, ih]
/-- A list of what was told, in memory from 'base' on. -/
def ToldAt (w : World) (base : Nat) (v : Value) (t : Told) : Prop :=
  w.ownsRow base 65 2 v t.length (toldCells t) ∧ ∀ x ∈ t, Bytes w base x.1 x.2.1 x.2.2

theorem Keeps.iterAt {X : Nat → Prop} {a w : World} (h : Keeps X a w) {k : Nat} (hk : a.heap.size ≤ k) (s : ByteArray) (pos : Nat) : Keeps X a (w.iterAt k s pos) :=
  ⟨h.os, h.tape, h.output, by rw [Lib.iterAt_size]; exact h.size, fun i hi hx => by rw [Lib.iterAt_other _ _ _ _ _ (by omega)]; exact h.block i hi hx⟩
theorem keeps_iterAt (w : World) (k : Nat) (s : ByteArray) (pos : Nat) : Keeps (· = k) w (w.iterAt k s pos) :=
  ⟨rfl, rfl, rfl, by rw [Lib.iterAt_size]; exact Nat.le_refl _, fun i _ hx => Lib.iterAt_other _ _ _ _ _ hx⟩
theorem ToldAt.keeps {X : Nat → Prop} {w w' : World} {base : Nat} {v : Value} {t : Told} (h : ToldAt w base v t) (hk : Keeps X w w') (hx : ∀ k, X k → ∀ c fz, w.heap[k]? ≠ some (.cells c 65 fz) ∧ w.heap[k]? ≠ some (.cells c 5 fz)) : ToldAt w' base v t :=
  ⟨ownsRow_keeps h.1 hk fun k hX c fz => (hx k hX c fz).1, fun x hm => ownsRow_keeps (h.2 x hm) hk fun k hX c fz => (hx k hX c fz).2⟩
theorem iter_keeps {X : Nat → Prop} {w w' : World} {k : Nat} {s : ByteArray} {pos : Nat} (h : w.heap[k]? = some (.stringIter s pos)) (hk : Keeps X w w') (hx : ¬ X k) : w'.heap[k]? = some (.stringIter s pos) := by
  rw [hk.block k (Array.getElem?_eq_some_iff.1 h).1 hx]; exact h

set_option maxHeartbeats 1000000 in
set_option maxRecDepth 100000 in
theorem onlyBits_txt (bs : List Bool) (w : World) :
    Calls Tryz.prog 107 #[.string ⟨(txt bs).toArray⟩] w fun e w' => e = .returned (.bool true) ∧ Below w.heap.size w w' := by
  have hsz0 := txt_size bs
  have hget := txt_get bs
  generalize (⟨(txt bs).toArray⟩ : ByteArray) = s at hsz0 hget
  have HZ : Hid (s.size = bs.length) := hsz0
  have HG : Hid (∀ k (h : k < bs.length) (h' : k < s.size), s[k]'h' = chr bs[k]) := hget
  clear hsz0 hget
  go_enter Tryz.func107, Tryz.ntmps107
  go_wp2
  go_loopw [] (fun wr => ∃ (pos : Nat), pos ≤ bs.length ∧ wr.heap[w.heap.size]? = some (.stringIter s pos) ∧ Below w.heap.size w wr) (fun wr => s.size - wr.iterPos w.heap.size)
  case atStart =>
    refine ⟨0, Nat.zero_le _, ?_, (Below.refl _ w).alloc (Nat.le_refl _) _⟩
    exact World.iter_heap w s 0
  case round =>
    obtain ⟨pos, hpos, hit, hbw⟩ := hrel
    by_cases hp : pos < bs.length
    · have hp' : pos < s.size := by rw [HZ.out]; exact hp
      have hb0 := HG.out pos hp hp'
      generalize bs[pos] = bit at hb0
      have hnx : ∀ ty, (Instr.next (.pointer (some ⟨w.heap.size, 0, none⟩)) true ty).run Tryz.prog wr = _ := fun ty => Lib.run_next_ascii_at wr w.heap.size s pos ty hit hp' (by rw [hb0]; cases bit <;> decide)
      rw [hb0] at hnx
      have hit2 := Lib.iterAt_heap wr w.heap.size s pos (pos + 1) hit
      have hbw2 := Lib.below_iterAt hbw (k := w.heap.size) (Nat.le_refl _) s (pos + 1)
      clear hb0 hp'
      cases bit
      · have e48 : (chr false).toNat = 48 := by decide
        rw [e48] at hnx
        clear e48
        go_wp2
        go_roundw
        case rel => exact ⟨pos + 1, by omega, hit2, hbw2⟩
        case measure =>
          simp only [World.iterPos, hit2, hit]
          have := HZ.out
          omega
      · have e49 : (chr true).toNat = 49 := by decide
        rw [e49] at hnx
        clear e49
        go_wp2
        go_roundw
        case rel => exact ⟨pos + 1, by omega, hit2, hbw2⟩
        case measure =>
          simp only [World.iterPos, hit2, hit]
          have := HZ.out
          omega
    · have hp' : ¬ pos < s.size := by rw [HZ.out]; exact hp
      have hnx : ∀ ty, (Instr.next (.pointer (some ⟨w.heap.size, 0, none⟩)) true ty).run Tryz.prog wr = _ := fun ty => Lib.run_next_end_at wr w.heap.size s pos ty hit hp'
      go_wp2
      go_ret
      exact ⟨rfl, hbw⟩
end Go.Proofs.YtkalonhalhdlaaaGreatDoor

/-
  What one call of Feed does to a hunter, given a text of noughts and ones: what is told is in new memory, as in plain words (LPure: feedH); every block but the hunter's stands as it stood.
-/
namespace Go.Proofs.YtkalonhalhdlaaaGreatDoor
open Go.RowKit

theorem infoFound : (Tryz.prog.info? 65).map (fun i => (i.zero, i.size, i.bytes)) = some (some (.agg #[.int .i64 0, .slice none 0 0]), 2, 32) := by kernel_rfl

theorem feed_step (hc : HS) (bs : List Bool) (pos : Nat) (bit : Bool) (h1 : HS) (t : List (Nat × List UInt8)) (acc : List (Nat × List UInt8)) (hd : bs.drop pos = bit :: bs.drop (pos + 1))
    (e1 : (feedH hc (bs.drop pos)).1 = h1) (e2 : acc ++ (feedH hc (bs.drop pos)).2 = t) :
    (feedH (hearH hc bit).1 (bs.drop (pos + 1))).1 = h1 ∧ (acc ++ (hearH hc bit).2.toList) ++ (feedH (hearH hc bit).1 (bs.drop (pos + 1))).2 = t := by
  rw [hd] at e1 e2
  simp only [feedH] at e1 e2
  exact ⟨e1, by rw [List.append_assoc]; exact e2⟩

theorem Keeps.transNew {X Y : Nat → Prop} {a w w' : World} (h : Keeps X a w) (k : Keeps Y w w') (hY : ∀ i, Y i → a.heap.size ≤ i) : Keeps X a w' :=
  ⟨k.os.trans h.os, k.tape.trans h.tape, k.output.trans h.output, Nat.le_trans h.size k.size, fun i hi hx => (k.block i (Nat.lt_of_lt_of_le hi h.size) (fun hy => by have := hY i hy; omega)).trans (h.block i hi hx)⟩

/-- The bytes of what was told lie apart. -/
def Apart (t : Told) : Prop := t.Pairwise fun x y => ∀ a b, x.2.1 = some a → y.2.1 = some b → a.block ≠ b.block
theorem bytes_lt {w : World} {base : Nat} {f : Nat × List UInt8} {p : Option Addr} {cap : Nat} (h : Bytes w base f p cap) : ∀ a, p = some a → base ≤ a.block ∧ a.block < w.heap.size := by
  intro a ha
  rcases h.2 with ⟨hv, _⟩ | ⟨g, cp, cur, hv, hb, hg, _⟩
  · simp only [Value.slice.injEq] at hv
    rw [hv.1] at ha
    simp at ha
  · simp only [Value.slice.injEq] at hv
    rw [hv.1] at ha
    simp only [Option.some.injEq] at ha
    rw [← ha]
    exact ⟨hb, (Array.getElem?_eq_some_iff.1 hg).1⟩
theorem apart_put {w V : World} {base B : Nat} {v : Value} {ts : Told} {f : Nat × List UInt8} {p : Option Addr} {cap : Nat} (h : Apart ts) (hT : ToldAt w base v ts) (hby : Bytes V B f p cap) (hB : w.heap.size ≤ B) : Apart (ts ++ [(f, (p, cap))]) := by
  refine List.pairwise_append.2 ⟨h, by simp, ?_⟩
  intro x hx y hy a b ha hb
  simp at hy
  subst hy
  have h1 := (bytes_lt (hT.2 x hx) a ha).2
  have h2 := (bytes_lt hby b hb).1
  omega

theorem feed_put {w V w2 : World} {b I B : Nat} {hn : HS} {s : ByteArray} {pos : Nat} {v v' : Value} {ts : Told} {f : Nat × List UInt8} {p : Option Addr} {cap : Nat} {o1 o2 : Obj}
    (k1 : HunterAt V b hn) (hit : V.heap[I]? = some (.stringIter s pos)) (hT : ToldAt V w.heap.size v ts) (hw : Keeps (· = b) w V) (hby : Bytes V B f p cap) (hb : b < w.heap.size) (_hI : w.heap.size ≤ I) (_hne : I ≠ b) (hB : w.heap.size ≤ B)
    (hown' : w2.ownsRow w.heap.size 65 2 v' (ts.length + 1) (toldCells ts ++ [.int .i64 f.1, .slice p f.2.length cap])) (hgrow : ((V.alloc o1).alloc o2).grownBy w2 v.ownBlock) :
    ToldAt w2 w.heap.size v' (ts ++ [(f, (p, cap))]) ∧ HunterAt w2 b hn ∧ w2.heap[I]? = some (.stringIter s pos) ∧ Keeps (· = b) w w2 := by
  have hg := Keeps.grown hgrow
  have hVV : Keeps (fun _ => False) V ((V.alloc o1).alloc o2) := ((Keeps.refl _ V).alloc _).alloc _
  have hrow : ∀ kk, some kk = v.ownBlock → w.heap.size ≤ kk ∧ ∃ c fz, V.heap[kk]? = some (.cells c 65 fz) := by
    intro kk hk
    rcases hT.1.2 with ⟨hv, _⟩ | ⟨g, cp, cur, hv, hgb, hgh, _⟩
    · rw [hv] at hk; simp [Value.ownBlock] at hk
    · rw [hv] at hk
      simp [Value.ownBlock] at hk
      subst hk
      exact ⟨hgb, cur, _, hgh⟩
  have hrowA : ∀ kk, some kk = v.ownBlock → ∃ c fz, ((V.alloc o1).alloc o2).heap[kk]? = some (.cells c 65 fz) := by
    intro kk hk
    obtain ⟨_, c, fz, hc⟩ := hrow kk hk
    exact ⟨c, fz, by rw [hVV.block kk (Array.getElem?_eq_some_iff.1 hc).1 id]; exact hc⟩
  have carry : ∀ {x : Nat × List UInt8} {q : Option Addr} {c : Nat}, Bytes V w.heap.size x q c → Bytes w2 w.heap.size x q c := by
    intro x q c hx
    refine ownsRow_keeps (ownsRow_keeps hx hVV (fun _ h => absurd h id)) hg ?_
    intro kk hk c' fz' hc'
    obtain ⟨c2, fz2, h2⟩ := hrowA kk hk
    rw [h2] at hc'
    simp at hc'
  refine ⟨⟨?_, ?_⟩, ?_, ?_, ?_⟩
  · rw [toldCells_append, List.length_append]
    exact hown'
  · intro x hx
    rcases List.mem_append.1 hx with hx | hx
    · exact carry (hT.2 x hx)
    · simp at hx
      subst hx
      exact carry (ownsRow_mono hby hB)
  · exact ((k1.alloc _).alloc _).keeps hg (fun hk => by have := (hrow b hk).1; omega)
  · refine iter_keeps (iter_keeps hit hVV id) hg (fun hk => ?_)
    obtain ⟨_, c, fz, hc⟩ := hrow I hk
    rw [hc] at hit
    simp at hit
  · exact ((hw.alloc _).alloc _).transNew hg (fun i hi => (hrow i hi).1)

set_option maxHeartbeats 4000000 in
set_option maxRecDepth 1000000 in
theorem feed_apart (b : Nat) (h : HS) (bs : List Bool) (w : World) (k : HunterAt w b h) (ok : h.ok) (hs : bs.length ≤ 1099511627776) :
    Calls Tryz.prog 68 #[.pointer (some ⟨b, 0, none⟩), .string ⟨(txt bs).toArray⟩] w fun e w' => ∃ v t, e = .returned (.tuple #[v, .int .i64 0]) ∧ t.map Prod.fst = (feedH h bs).2 ∧ ToldAt w' w.heap.size v t ∧ Apart t ∧ HunterAt w' b (feedH h bs).1 ∧ Keeps (· = b) w w' := by
  obtain ⟨i0, hi, hz0, hz1, hz2⟩ := info_parts infoFound
  have hob := onlyBits_txt bs w
  have hsz0 := txt_size bs
  have hget := txt_get bs
  generalize (⟨(txt bs).toArray⟩ : ByteArray) = s at hsz0 hget hob
  have HZ : Hid (s.size = bs.length) := hsz0
  have HG : Hid (∀ k (h : k < bs.length) (h' : k < s.size), s[k]'h' = chr bs[k]) := hget
  have HOB := hide hob
  clear hsz0 hget hob
  go_enter Tryz.func68, Tryz.ntmps68
  go_wp2_with fail
  refine (unhide HOB).mono ?_
  rintro e W0 ⟨rfl, hb0⟩
  clear HOB
  have hs0 := hb0.size
  have k0 : HunterAt W0 b h := k.keeps (Keeps.of (X := fun _ => False) hb0) id
  have hblt := k.lt
  go_wp2
  obtain ⟨I, hI⟩ : ∃ I, I = W0.heap.size := ⟨_, rfl⟩
  have hIw : w.heap.size ≤ I := by omega
  have hneI : I ≠ b := by omega
  rw [← hI]
  have HI := hide hI
  clear hI
  go_loopw [6] (fun v wr => ∃ (pos : Nat) (hc : HS) (ts : Told), pos ≤ bs.length ∧ ts.length ≤ pos ∧ hc.ok ∧ HunterAt wr b hc ∧ wr.heap[I]? = some (.stringIter s pos) ∧ ToldAt wr w.heap.size v ts ∧ Apart ts ∧ Keeps (· = b) w wr ∧ (feedH hc (bs.drop pos)).1 = (feedH h bs).1 ∧ ts.map Prod.fst ++ (feedH hc (bs.drop pos)).2 = (feedH h bs).2) (fun _ wr => s.size - wr.iterPos I)
  case atStart =>
    refine ⟨0, h, [], Nat.zero_le _, Nat.le_refl _, ok, k0.alloc _, ?_, ⟨World.ownsRow_nil _ _ _ _, by simp⟩, List.Pairwise.nil, (Keeps.of hb0).alloc _, rfl, rfl⟩
    rw [unhide HI]
    exact World.iter_heap W0 s 0
  case round =>
    obtain ⟨pos, hc, ts, hpos, hts, okc, kc, hit, hT, hap, hw, hf1, hf2⟩ := hrel
    have HAP := hide hap
    clear hap
    have hIlt : I < wr.heap.size := (Array.getElem?_eq_some_iff.1 hit).1
    by_cases hp : pos < bs.length
    · have hp' : pos < s.size := by rw [HZ.out]; exact hp
      have hb0 := HG.out pos hp hp'
      have hdrop : bs.drop pos = bs[pos] :: bs.drop (pos + 1) := List.drop_eq_getElem_cons hp
      have hF := feed_step hc bs pos bs[pos] _ _ _ hdrop hf1 hf2
      clear hf1 hf2 hdrop
      generalize bs[pos] = bit at hb0 hF
      have hnx : ∀ ty, (Instr.next (.pointer (some ⟨I, 0, none⟩)) true ty).run Tryz.prog wr = _ := fun ty => Lib.run_next_ascii_at wr I s pos ty hit hp' (by rw [hb0]; cases bit <;> decide)
      rw [hb0] at hnx
      have hit2 := Lib.iterAt_heap wr I s pos (pos + 1) hit
      have kI : HunterAt (wr.iterAt I s (pos + 1)) b hc := kc.keeps (keeps_iterAt wr I s (pos + 1)) (fun e => hneI e.symm)
      have hTI := hT.keeps (keeps_iterAt wr I s (pos + 1)) (fun k hX c fz => by subst hX; rw [hit]; simp)
      have hwI := hw.iterAt hIw s (pos + 1)
      clear hb0 hp' kc hT hw
      cases bit
      · have e48 : (chr false).toNat = 48 := by decide
        rw [e48] at hnx
        clear e48
        go_wp2_with fail
        refine (hear_nought b hc _ kI okc).mono ?_
        rintro e V ⟨p, cap, rfl, hby, k1, hK1⟩
        clear hnx
        have okn := hearH_ok hc false okc
        have hT1 := hTI.keeps hK1 (fun k hX c fz => by subst hX; rw [kI]; simp)
        have hit3 := iter_keeps hit2 hK1 hneI
        have hwV : Keeps (· = b) w V := hwI.trans hK1
        have hbV := k1.lt
        have hIV : I < V.heap.size := (Array.getElem?_eq_some_iff.1 hit3).1
        have hszV := hK1.size
        generalize hearH hc false = r at hby k1 hF okn
        obtain ⟨hn, o⟩ := r
        cases o with
        | none =>
          have HF := hide hF
          clear hF hby
          simp only [told, fv, Option.getD, Option.isSome]
          go_wp2
          go_roundw
          case rel =>
            have hF := unhide HF
            refine ⟨pos + 1, hn, ts, by omega, by omega, okn, k1.alloc _, ?_, hT1.keeps (X := fun _ => False) (Keeps.of ((Below.refl _ V).alloc (Nat.le_refl _) _)) (fun _ hX => absurd hX id), unhide HAP, hwV.alloc _, by simpa using hF.1, by simpa using hF.2⟩
            rw [Below.heap_alloc _ _ _ hIV]; exact hit3
          case measure =>
            have hh : ∀ o, (V.alloc o).heap[I]? = some (.stringIter s (pos + 1)) := fun o => by rw [Below.heap_alloc _ _ _ hIV]; exact hit3
            simp only [World.iterPos, hit, hh]
            have := HZ.out
            omega
        | some f =>
          have HF := hide hF
          clear hF
          simp only [told, Option.getD] at hby
          simp only [told, fv, Option.getD, Option.isSome]
          go_wp2_with (at_builtin; refine wpList_append_own _ rfl _ _ 63 rfl w.heap.size 65 i0 _ 2 32 Tryz.underlying63 hi hz0 hz1 hz2 rfl (by decide) _ _ _ rfl ((hT1.1.alloc _).alloc _) ⟨V.heap.size + 1, 0, none⟩ 1 1 [.int .i64 f.1, .slice p f.2.length cap] rfl rfl ?noughtc1 ?noughtc2 ?noughtc3 ?noughtc4 ?noughtc5 ?_)
          case noughtc2 => exact ⟨rfl, rfl⟩
          case noughtc3 => unfold maxLen; omega
          case noughtc4 => omega
          case noughtc5 => omega
          intro v' w2 hown' hgrow _
          have AP := hide (apart_put (unhide HAP) hTI hby (Nat.le_refl _))
          have R := hide (feed_put k1 hit3 hT1 hwV hby hblt (by omega) hneI (by rw [Lib.iterAt_size]; omega) hown' hgrow)
          clear hown' hgrow hT1 hby hit3 hTI hit2 kI
          obtain ⟨ao, n', cp, rfl⟩ : ∃ ao n' cp, v' = .slice ao n' cp := by
            rcases (unhide R).1.1.2 with ⟨hv, _⟩ | ⟨g, cp, cur, hv, _⟩
            · exact ⟨_, _, _, hv⟩
            · exact ⟨_, _, _, hv⟩
          go_wp2
          go_roundw
          case rel =>
            have hF := unhide HF
            obtain ⟨R1, R2, R3, R4⟩ := unhide R
            exact ⟨pos + 1, hn, ts ++ [(f, (p, cap))], by omega, by simp; omega, okn, R2, R3, R1, unhide AP, R4, hF.1, by simpa using hF.2⟩
          case measure =>
            obtain ⟨R1, R2, R3, R4⟩ := unhide R
            simp only [World.iterPos, hit, R3]
            have := HZ.out
            omega
      · have e49 : (chr true).toNat = 49 := by decide
        rw [e49] at hnx
        clear e49
        go_wp2_with fail
        refine (hear_one b hc _ kI okc).mono ?_
        rintro e V ⟨p, cap, rfl, hby, k1, hK1⟩
        clear hnx
        have okn := hearH_ok hc true okc
        have hT1 := hTI.keeps hK1 (fun k hX c fz => by subst hX; rw [kI]; simp)
        have hit3 := iter_keeps hit2 hK1 hneI
        have hwV : Keeps (· = b) w V := hwI.trans hK1
        have hbV := k1.lt
        have hIV : I < V.heap.size := (Array.getElem?_eq_some_iff.1 hit3).1
        have hszV := hK1.size
        generalize hearH hc true = r at hby k1 hF okn
        obtain ⟨hn, o⟩ := r
        cases o with
        | none =>
          have HF := hide hF
          clear hF hby
          simp only [told, fv, Option.getD, Option.isSome]
          go_wp2
          go_roundw
          case rel =>
            have hF := unhide HF
            refine ⟨pos + 1, hn, ts, by omega, by omega, okn, k1.alloc _, ?_, hT1.keeps (X := fun _ => False) (Keeps.of ((Below.refl _ V).alloc (Nat.le_refl _) _)) (fun _ hX => absurd hX id), unhide HAP, hwV.alloc _, by simpa using hF.1, by simpa using hF.2⟩
            rw [Below.heap_alloc _ _ _ hIV]; exact hit3
          case measure =>
            have hh : ∀ o, (V.alloc o).heap[I]? = some (.stringIter s (pos + 1)) := fun o => by rw [Below.heap_alloc _ _ _ hIV]; exact hit3
            simp only [World.iterPos, hit, hh]
            have := HZ.out
            omega
        | some f =>
          have HF := hide hF
          clear hF
          simp only [told, Option.getD] at hby
          simp only [told, fv, Option.getD, Option.isSome]
          go_wp2_with (at_builtin; refine wpList_append_own _ rfl _ _ 63 rfl w.heap.size 65 i0 _ 2 32 Tryz.underlying63 hi hz0 hz1 hz2 rfl (by decide) _ _ _ rfl ((hT1.1.alloc _).alloc _) ⟨V.heap.size + 1, 0, none⟩ 1 1 [.int .i64 f.1, .slice p f.2.length cap] rfl rfl ?onec1 ?onec2 ?onec3 ?onec4 ?onec5 ?_)
          case onec2 => exact ⟨rfl, rfl⟩
          case onec3 => unfold maxLen; omega
          case onec4 => omega
          case onec5 => omega
          intro v' w2 hown' hgrow _
          have AP := hide (apart_put (unhide HAP) hTI hby (Nat.le_refl _))
          have R := hide (feed_put k1 hit3 hT1 hwV hby hblt (by omega) hneI (by rw [Lib.iterAt_size]; omega) hown' hgrow)
          clear hown' hgrow hT1 hby hit3 hTI hit2 kI
          obtain ⟨ao, n', cp, rfl⟩ : ∃ ao n' cp, v' = .slice ao n' cp := by
            rcases (unhide R).1.1.2 with ⟨hv, _⟩ | ⟨g, cp, cur, hv, _⟩
            · exact ⟨_, _, _, hv⟩
            · exact ⟨_, _, _, hv⟩
          go_wp2
          go_roundw
          case rel =>
            have hF := unhide HF
            obtain ⟨R1, R2, R3, R4⟩ := unhide R
            exact ⟨pos + 1, hn, ts ++ [(f, (p, cap))], by omega, by simp; omega, okn, R2, R3, R1, unhide AP, R4, hF.1, by simpa using hF.2⟩
          case measure =>
            obtain ⟨R1, R2, R3, R4⟩ := unhide R
            simp only [World.iterPos, hit, R3]
            have := HZ.out
            omega
    · have hp' : ¬ pos < s.size := by rw [HZ.out]; exact hp
      have hnx : ∀ ty, (Instr.next (.pointer (some ⟨I, 0, none⟩)) true ty).run Tryz.prog wr = _ := fun ty => Lib.run_next_end_at wr I s pos ty hit hp'
      have hd : bs.drop pos = [] := List.drop_eq_nil_of_le (by omega)
      rw [hd] at hf1 hf2
      simp only [feedH, List.append_nil] at hf1 hf2
      have HF1 := hide hf1
      have HF2 := hide hf2
      clear hf1 hf2 hd
      go_wp2
      go_ret2
      exact ⟨_, ts, rfl, unhide HF2, hT, unhide HAP, unhide HF1 ▸ kc, hw⟩

theorem feed_txt (b : Nat) (h : HS) (bs : List Bool) (w : World) (k : HunterAt w b h) (ok : h.ok) (hs : bs.length ≤ 1099511627776) :
    Calls Tryz.prog 68 #[.pointer (some ⟨b, 0, none⟩), .string ⟨(txt bs).toArray⟩] w fun e w' => ∃ v t, e = .returned (.tuple #[v, .int .i64 0]) ∧ t.map Prod.fst = (feedH h bs).2 ∧ ToldAt w' w.heap.size v t ∧ HunterAt w' b (feedH h bs).1 ∧ Keeps (· = b) w w' :=
  (feed_apart b h bs w k ok hs).mono fun _ _ ⟨v, t, h1, h2, h3, _, h5, h6⟩ => ⟨v, t, h1, h2, h3, h5, h6⟩
end Go.Proofs.YtkalonhalhdlaaaGreatDoor
