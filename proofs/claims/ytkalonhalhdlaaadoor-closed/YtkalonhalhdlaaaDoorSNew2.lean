/-
  What one call of New does (further).
-/
import Derived.Test.YtkalonhalhdlaaaDoorSNew
namespace Go.Proofs.YtkalonhalhdlaaaDoor
open Go.Conc Go.RowKit

theorem mkChan (w : World) : (Instr.makeChan 80 (.int .i64 0)).run Tryd.prog w = .ok (.chan (some w.heap.size)) (w.alloc (.chan 0 #[] false 0 0 false)) := by
  have h : (Tryd.prog.info? 98).map (·.bytes) = some 0 := by kernel_rfl
  obtain ⟨i, hi, hb⟩ := Option.map_eq_some_iff.1 h
  simpa using run_makeChan (P := Tryd.prog) (w := w) Tryd.underlying80 hi .i64 0 (by omega) (by rw [hb]; omega)

set_option maxHeartbeats 4000000 in
set_option maxRecDepth 100000 in
theorem new_no (m win tim tri room addr : Int) (w : World) (hb : cfgB m win tim tri room addr = false) :
    Calls Tryd.prog 39 #[.agg #[.int .i64 m, .int .i64 win, .int .i64 tim, .int .i64 tri, .int .i64 room, .int .i64 addr]] w fun e w' => e = .returned (.tuple #[.pointer none, .int .i64 (1 : Nat)]) ∧ Below w.heap.size w w' := by
  have k1 := fun V => configFits_any m win tim tri room addr V
  rw [hb] at k1
  clear hb
  go_enter Tryd.func39, Tryd.ntmps39
  go_wp2_with fail
  refine (k1 _).mono ?_
  rintro e w1 ⟨rfl, hb⟩
  clear k1
  have HB := hide (((Below.refl _ w).alloc (Nat.le_refl _) _).trans (hb.mono (by simp)))
  clear hb
  go_wp2
  go_ret2
  exact ⟨rfl, unhide HB⟩

theorem fresh_at (c : Cfg) (hc : c.ok) (i : Nat) (own : Nat → Nat) (w w1 : World) (h0 : own 0 = 0) (hC : Ctl w) (hs : 0 < w.heap.size) (hb : Below w.heap.size w w1) :
    Below w.heap.size w ((w1.alloc (.chan 0 #[] false 0 0 false)).alloc (.cells (stCells c St.fresh w1.heap.size (.slice none 0 0) (.slice none 0 0) (.slice none 0 0) (.slice none 0 0)) 84)).drew ∧
    Stn ((w1.alloc (.chan 0 #[] false 0 0 false)).alloc (.cells (stCells c St.fresh w1.heap.size (.slice none 0 0) (.slice none 0 0) (.slice none 0 0) (.slice none 0 0)) 84)).drew (ownNew own w.heap.size ((w1.alloc (.chan 0 #[] false 0 0 false)).alloc (.cells (stCells c St.fresh w1.heap.size (.slice none 0 0) (.slice none 0 0) (.slice none 0 0) (.slice none 0 0)) 84)).drew.heap.size (tg i 0)) i (w1.heap.size + 1) c St.fresh false := by
  have hz := hb.size
  have hsz : ((w1.alloc (.chan 0 #[] false 0 0 false)).alloc (.cells (stCells c St.fresh w1.heap.size (.slice none 0 0) (.slice none 0 0) (.slice none 0 0) (.slice none 0 0)) 84)).drew.heap.size = w1.heap.size + 2 := alloc2_s _ _ _
  have hbl : Below w.heap.size w ((w1.alloc (.chan 0 #[] false 0 0 false)).alloc (.cells (stCells c St.fresh w1.heap.size (.slice none 0 0) (.slice none 0 0) (.slice none 0 0) (.slice none 0 0)) 84)).drew :=
    (((hb.alloc (by omega) _).alloc (by rw [alloc1_s]; omega) _)).drew
  refine ⟨hbl, w1.heap.size, _, _, _, _, [], [], [], ?_, ?_, ?_, ?_, Lst.nil _ _ _, Lst.nil _ _ _, Lst.nil _ _ _, World.ownsRow_nil _ _ _ _, fun k hk => by simp [Value.ownBlock] at hk, hC.below hbl hs, ?_, ?_, hc, (fresh_ok hc).fit⟩
  · have := alloc1_a (w1.alloc (.chan 0 #[] false 0 0 false)) (.cells (stCells c St.fresh w1.heap.size (.slice none 0 0) (.slice none 0 0) (.slice none 0 0) (.slice none 0 0)) 84)
    rw [alloc1_s] at this
    exact this
  · rw [hsz]; exact ownNew_new (by omega) (by omega)
  · show ((w1.alloc _).alloc _).heap[w1.heap.size]? = _
    rw [Below.heap_alloc _ _ _ (by rw [alloc1_s]; omega)]
    exact alloc1_a w1 _
  · rw [hsz]; exact ownNew_new (by omega) (by omega)
  · rw [ownNew_old hs]; exact h0
  · intro k hk
    rw [hsz] at hk ⊢
    exact ownNew_0 (by omega) hk

set_option maxHeartbeats 4000000 in
set_option maxRecDepth 100000 in
theorem new_yes (c : Cfg) (hc : c.ok) (i : Nat) (own : Nat → Nat) (w : World) (h0 : own 0 = 0) (hC : Ctl w) (hs : 0 < w.heap.size) :
    Calls Tryd.prog 39 #[.agg #[.int .i64 c.m, .int .i64 c.win, .int .i64 c.tim, .int .i64 c.tri, .int .i64 c.room, .int .i64 c.addr]] w fun e w' => ∃ b, e = .returned (.tuple #[.pointer (some ⟨b, 0, none⟩), .int .i64 (0 : Nat)]) ∧ w.heap.size ≤ b ∧ Below w.heap.size w w' ∧ Stn w' (ownNew own w.heap.size w'.heap.size (tg i 0)) i b c St.fresh false := by
  have k1 := fun V => configFits_any c.m c.win c.tim c.tri c.room c.addr V
  have hb : cfgB c.m c.win c.tim c.tri c.room c.addr = true := by
    have e1 : isMod c.m = true := by have := hc.m; simp [isMod]; omega
    have e2 : isAddr c.addr = true := by have := hc.addr; simp [isAddr]; omega
    have := hc.win1; have := hc.win15; have := hc.winm; have := hc.tim1; have := hc.tim100; have := hc.tri1; have := hc.tri10; have := hc.room1; have := hc.room16
    simp [cfgB, cntB, e1, e2]
    omega
  rw [hb] at k1
  clear hb
  have hmk := mkChan
  go_enter Tryd.func39, Tryd.ntmps39
  go_wp2_with fail
  refine (k1 _).mono ?_
  rintro e w1 ⟨rfl, hb⟩
  obtain ⟨y0, y1, y2, y3, y4, y5⟩ := frBox (boxB hb)
  have HB := hide (((Below.refl _ w).alloc (Nat.le_refl _) _).trans (hb.mono (by simp)))
  have hlt : w.heap.size < w1.heap.size := by have := hb.size; simp at this; omega
  clear hb k1
  go_wp2
  go_region
  all_goals go_wp2
  all_goals go_ret2
  all_goals exact ⟨w1.heap.size + 1, rfl, by omega, fresh_at c hc i own w w1 h0 hC hs (unhide HB)⟩
end Go.Proofs.YtkalonhalhdlaaaDoor
