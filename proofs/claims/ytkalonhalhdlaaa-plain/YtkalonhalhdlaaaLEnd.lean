/-
  What endFrame does, and what the methods do that take a bit (hearOne, hearNought, hear): as in plain words (LPure); every block but the hunter's stands as it stood.
-/
import Derived.Test.YtkalonhalhdlaaaLHear
namespace Go.Proofs.Ytkalonhalhdlaaa
open Go.RowKit

set_option maxHeartbeats 1000000 in
set_option maxRecDepth 100000 in
theorem endFrame_any (b : Nat) (h : HS) (w : World) (k : HunterAt w b h) (ok : h.ok) :
    Calls Try.prog 27 #[.pointer (some ⟨b, 0, none⟩)] w fun e w' => ∃ p cap, e = .returned (.tuple #[fv (told (endH h).2) p cap, .bool (endH h).2.isSome]) ∧ Bytes w' w.heap.size (told (endH h).2) p cap ∧ HunterAt w' b (endH h).1 ∧ Keeps (· = b) w w' := by
  have c0 := k.cellOn
  have c2 := k.cellLen
  have f0 := k.frozen
  have hb := k.lt
  have hl := ok.2.2
  go_enter Try.func27, Try.ntmps27
  go_wp2
  go_quiet (fail)
  obtain ⟨W, hW⟩ : ∃ W, W = ((w.alloc (Obj.cells #[Value.int IntKind.i64 0, Value.slice none 0 0] 37)).drewN nq) := ⟨_, rfl⟩
  have kW : HunterAt W b h := by rw [hW]; exact k.alloc _
  have hK : Keeps (· = b) w W := by rw [hW]; exact ((Keeps.refl _ w).alloc _).drewN _
  have hR : W.heap[w.heap.size]? = some (.cells #[.int .i64 0, .slice none 0 0] 37 (0, 0)) := by rw [hW]; exact Array.getElem?_push_size
  rw [← hW]
  clear hW
  clear c0 c2 f0
  have c0 := kW.cellOn
  have c2 := kW.cellLen
  have f0 := kW.frozen
  have hne : w.heap.size ≠ b := by omega
  have r0 : W.cell? ⟨w.heap.size, 0, none⟩ = some (.int .i64 0) := by rw [Lib.cell_of_heap hR]; rfl
  have r1 : W.cell? ⟨w.heap.size, 1, none⟩ = some (.slice none 0 0) := by rw [Lib.cell_of_heap hR]; rfl
  have rf : ∀ i, W.frozen? ⟨w.heap.size, i, none⟩ = false := fun i => Lib.frozen_of_heap hR i
  have ok1 : HS.ok { h with on := true, len := 0 } := ⟨ok.1, ok.2.1, by simp⟩
  by_cases hon : h.on = false
  · have E1 : Hid ((endH h).2 = none) := by show (endH h).2 = none; simp [endH, hon]
    go_wp2
    rw [unhide E1]
    exact bodyPost_ret (v := .tuple #[.agg #[.int .i64 0, .slice none 0 0], .bool false]) (by simp [results, Try.results27, go_sem, r0, r1]) rfl ⟨none, 0, rfl, Bytes.none _ _ _, (((kW.setOn true).setLen 0).setOther hne _).setOther hne _, (((hK.setB _ _).setB _ _).setNew (Nat.le_refl _) _).setNew (Nat.le_refl _) _⟩
  · simp only [Bool.not_eq_false] at hon
    by_cases h6 : 6 < h.len
    · have E1 : Hid ((endH h).2 = some (judgeL h.held (h.len - 6))) := by show (endH h).2 = some (judgeL h.held (h.len - 6)); simp [endH, hon, h6]
      have g1 : ¬ ((h.len : Int) - 6 ≤ 0) := by omega
      have kV : HunterAt ((W.setCell ⟨b, 0, none⟩ (.bool true)).setCell ⟨b, 2, none⟩ (.int .i64 0)) b { h with on := true, len := 0 } := (kW.setOn true).setLen 0
      have hKV : Keeps (· = b) w ((W.setCell ⟨b, 0, none⟩ (.bool true)).setCell ⟨b, 2, none⟩ (.int .i64 0)) := (hK.setB _ _).setB _ _
      have hRV : ((W.setCell ⟨b, 0, none⟩ (.bool true)).setCell ⟨b, 2, none⟩ (.int .i64 0)).heap[w.heap.size]? = some (.cells #[.int .i64 0, .slice none 0 0] 37 (0, 0)) := by
        rw [Below.heap_setCell _ _ _ _ hne, Below.heap_setCell _ _ _ _ hne]; exact hR
      have HK := hide kV
      have HKK := hide hKV
      have HRV := hide hRV
      clear kV hKV hRV
      go_wp2_with fail
      have kV := unhide HK
      have hKV := unhide HKK
      have hRV := unhide HRV
      clear HK HKK HRV
      clear kW hK hR c0 c2 f0 r0 r1 rf
      generalize ((W.setCell ⟨b, 0, none⟩ (.bool true)).setCell ⟨b, 2, none⟩ (.int .i64 0)) = V at kV hKV hRV
      have hj := judge_any b { h with on := true, len := 0 } (h.len - 6) (by omega) (by omega) V kV ok1
      rw [show (((h.len - 6 : Nat)) : Int) = (h.len : Int) - 6 by omega] at hj
      refine hj.mono ?_
      rintro e V1 ⟨p, cap, rfl, hby, hb1⟩
      clear hj
      have hltR : w.heap.size < V.heap.size := (Array.getElem?_eq_some_iff.1 hRV).1
      have hR1 : V1.heap[w.heap.size]? = some (.cells #[.int .i64 0, .slice none 0 0] 37 (0, 0)) := by rw [hb1.block _ hltR]; exact hRV
      have k1 : HunterAt V1 b { h with on := true, len := 0 } := kV.keeps (Keeps.of (X := fun _ => False) hb1) (fun hh => hh)
      have hK1 : Keeps (· = b) w V1 := hKV.trans (Keeps.of hb1)
      have E1' : (endH h).2 = some (judgeL h.held (h.len - 6)) := unhide E1
      generalize judgeL h.held (h.len - 6) = f at hby E1'
      have hfin : Bytes ((V1.setCell ⟨w.heap.size, 0, none⟩ (.int .i64 f.1)).setCell ⟨w.heap.size, 1, none⟩ (.slice p f.2.length cap)) w.heap.size f p cap :=
        ownsRow_mono (ownsRow_setCell_below (ownsRow_setCell_below hby (by exact hltR) _) (by exact hltR) _) (Nat.le_of_lt hltR)
      have HF := hide hfin
      have E2 := hide E1'
      clear hfin E1 E1' hby
      have r0 : V1.cell? ⟨w.heap.size, 0, none⟩ = some (.int .i64 0) := by rw [Lib.cell_of_heap hR1]; rfl
      have r1 : V1.cell? ⟨w.heap.size, 1, none⟩ = some (.slice none 0 0) := by rw [Lib.cell_of_heap hR1]; rfl
      have rf : ∀ i, V1.frozen? ⟨w.heap.size, i, none⟩ = false := fun i => Lib.frozen_of_heap hR1 i
      unfold fv
      go_wp2
      rw [unhide E2]
      exact bodyPost_ret (v := .tuple #[.agg #[.int .i64 f.1, .slice p f.2.length cap], .bool true]) (by simp [results, Try.results27, go_sem, r0, r1]) rfl ⟨p, cap, rfl, unhide HF, (k1.setOther hne _).setOther hne _, (hK1.setNew (Nat.le_refl _) _).setNew (Nat.le_refl _) _⟩
    · have E1 : Hid ((endH h).2 = none) := by show (endH h).2 = none; simp [endH, h6]
      have g1 : ((h.len : Int) - 6 ≤ 0) := by omega
      go_wp2
      rw [unhide E1]
      exact bodyPost_ret (v := .tuple #[.agg #[.int .i64 0, .slice none 0 0], .bool false]) (by simp [results, Try.results27, go_sem, r0, r1]) rfl ⟨none, 0, rfl, Bytes.none _ _ _, (((kW.setOn true).setLen 0).setOther hne _).setOther hne _, (((hK.setB _ _).setB _ _).setNew (Nat.le_refl _) _).setNew (Nat.le_refl _) _⟩
end Go.Proofs.Ytkalonhalhdlaaa
