/-
  What one step on a line does to the law's World: Feed where there is no hunter.
-/
import Derived.Test.YtkalonhalhdlaaaGreatDoorVBts
namespace Go.Proofs.YtkalonhalhdlaaaGreatDoor
open Go.RowKit

set_option maxHeartbeats 4000000 in
set_option maxRecDepth 100000 in
theorem step_none4 {wb : Nat} {o : OpV} {w : World} {ss v2 v3 v4 v5 : Value} {p : Option Addr} {cap : Nat} (hk : o.kind = 4) (hlv : ∃ lp ln lc, o.lv = .slice lp ln lc) (hd : WAt w wb #[.slice p 0 cap, ss, v2, v3, v4, v5]) :
    Calls Tryz.prog 12 #[.pointer (some ⟨wb, 0, none⟩), opV o] w fun e w' => e = .returned (.bool true) ∧ Below w.heap.size w w' := by
  obtain ⟨lp, ln, lc, hlv⟩ := hlv
  obtain ⟨kind, a, b, d, s, lv, ⟨fa, fk, fp, fns, fnr, info⟩, fq, fc, x0, x1, x2, x3, x4, x5⟩ := o
  simp only at hlv hk
  subst hlv hk
  unfold opV
  simp only
  go_enter Tryz.func12, Tryz.ntmps12
  go_upto_region 1 with fail
  obtain ⟨W0, hW0⟩ : ∃ W0, W0 = w.alloc (.cells #[.int .i64 4, .int .i64 a, .int .i64 b, .int .i64 d, .string s, .slice lp ln lc, .int .i64 fa, .int .i64 fk, .bool fp, .int .i64 fns, .int .i64 fnr, .slice fq info.length fc, .int .i64 x0, .int .i64 x1, .int .i64 x2, .int .i64 x3, .int .i64 x4, .int .i64 x5] 34) := ⟨_, rfl⟩
  rw [← hW0]
  have hx0 : W0.heap[w.heap.size]? = some (.cells #[.int .i64 4, .int .i64 a, .int .i64 b, .int .i64 d, .string s, .slice lp ln lc, .int .i64 fa, .int .i64 fk, .bool fp, .int .i64 fns, .int .i64 fnr, .slice fq info.length fc, .int .i64 x0, .int .i64 x1, .int .i64 x2, .int .i64 x3, .int .i64 x4, .int .i64 x5] 34 (0, 0)) := by rw [hW0]; exact alloc1_a _ _
  have hbx : Below w.heap.size w W0 := by rw [hW0]; exact (Below.refl _ w).alloc (Nat.le_refl _) _
  clear hW0
  have y0 : W0.cell? ⟨w.heap.size, 0, none⟩ = some (.int .i64 4) := by rw [Lib.cell_of_heap hx0]; rfl
  have hdx : WAt W0 wb #[.slice p 0 cap, ss, v2, v3, v4, v5] := (hbx.block wb hd.lt).trans hd
  have w0 := hdx.cell 0 _ rfl
  have HB := hide hbx
  clear hx0 hd hdx hbx
  go_wp2
  exact bodyPost_ret (v := .bool true) (by simp [results, Tryz.results12, go_sem]) rfl ⟨rfl, unhide HB⟩
set_option maxHeartbeats 4000000 in
set_option maxRecDepth 100000 in
theorem step_none5 {wb : Nat} {o : OpV} {w : World} {ss v2 v3 v4 v5 : Value} {p : Option Addr} {cap : Nat} (hk : o.kind = 5) (hlv : ∃ lp ln lc, o.lv = .slice lp ln lc) (hd : WAt w wb #[.slice p 0 cap, ss, v2, v3, v4, v5]) :
    Calls Tryz.prog 12 #[.pointer (some ⟨wb, 0, none⟩), opV o] w fun e w' => e = .returned (.bool true) ∧ Below w.heap.size w w' := by
  obtain ⟨lp, ln, lc, hlv⟩ := hlv
  obtain ⟨kind, a, b, d, s, lv, ⟨fa, fk, fp, fns, fnr, info⟩, fq, fc, x0, x1, x2, x3, x4, x5⟩ := o
  simp only at hlv hk
  subst hlv hk
  unfold opV
  simp only
  go_enter Tryz.func12, Tryz.ntmps12
  go_upto_region 1 with fail
  obtain ⟨W0, hW0⟩ : ∃ W0, W0 = w.alloc (.cells #[.int .i64 5, .int .i64 a, .int .i64 b, .int .i64 d, .string s, .slice lp ln lc, .int .i64 fa, .int .i64 fk, .bool fp, .int .i64 fns, .int .i64 fnr, .slice fq info.length fc, .int .i64 x0, .int .i64 x1, .int .i64 x2, .int .i64 x3, .int .i64 x4, .int .i64 x5] 34) := ⟨_, rfl⟩
  rw [← hW0]
  have hx0 : W0.heap[w.heap.size]? = some (.cells #[.int .i64 5, .int .i64 a, .int .i64 b, .int .i64 d, .string s, .slice lp ln lc, .int .i64 fa, .int .i64 fk, .bool fp, .int .i64 fns, .int .i64 fnr, .slice fq info.length fc, .int .i64 x0, .int .i64 x1, .int .i64 x2, .int .i64 x3, .int .i64 x4, .int .i64 x5] 34 (0, 0)) := by rw [hW0]; exact alloc1_a _ _
  have hbx : Below w.heap.size w W0 := by rw [hW0]; exact (Below.refl _ w).alloc (Nat.le_refl _) _
  clear hW0
  have y0 : W0.cell? ⟨w.heap.size, 0, none⟩ = some (.int .i64 5) := by rw [Lib.cell_of_heap hx0]; rfl
  have hdx : WAt W0 wb #[.slice p 0 cap, ss, v2, v3, v4, v5] := (hbx.block wb hd.lt).trans hd
  have w0 := hdx.cell 0 _ rfl
  have HB := hide hbx
  clear hx0 hd hdx hbx
  go_wp2
  exact bodyPost_ret (v := .bool true) (by simp [results, Tryz.results12, go_sem]) rfl ⟨rfl, unhide HB⟩
end Go.Proofs.YtkalonhalhdlaaaGreatDoor
