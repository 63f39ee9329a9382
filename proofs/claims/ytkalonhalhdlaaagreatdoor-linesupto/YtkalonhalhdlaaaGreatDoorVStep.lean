/-
  What one step on a line does to the law's World: Sum, Bits, NewHunter.
-/
import Derived.Test.YtkalonhalhdlaaaGreatDoorVBts
namespace Go.Proofs.YtkalonhalhdlaaaGreatDoor
open Go.RowKit

set_option maxHeartbeats 4000000 in
set_option maxRecDepth 100000 in
theorem step_plain1 {wb : Nat} {o : OpV} {w : World} {Q : World → Prop} (hk : o.kind = 1) (hlv : ∃ lp ln lc, o.lv = .slice lp ln lc)
    (HF : Hid (∀ V, Below w.heap.size w V → Calls Tryz.prog 14 #[.pointer (some ⟨wb, 0, none⟩), opV o] V fun e w' => e = .returned (.bool true) ∧ Q w')) :
    Calls Tryz.prog 12 #[.pointer (some ⟨wb, 0, none⟩), opV o] w fun e w' => e = .returned (.bool true) ∧ Q w' := by
  obtain ⟨lp, ln, lc, hlv⟩ := hlv
  obtain ⟨kind, a, b, d, s, lv, ⟨fa, fk, fp, fns, fnr, info⟩, fq, fc, x0, x1, x2, x3, x4, x5⟩ := o
  simp only at hlv hk
  subst hlv hk
  unfold opV at HF ⊢
  simp only at HF ⊢
  go_enter Tryz.func12, Tryz.ntmps12
  go_upto_region 1 with fail
  obtain ⟨W0, hW0⟩ : ∃ W0, W0 = w.alloc (.cells #[.int .i64 1, .int .i64 a, .int .i64 b, .int .i64 d, .string s, .slice lp ln lc, .int .i64 fa, .int .i64 fk, .bool fp, .int .i64 fns, .int .i64 fnr, .slice fq info.length fc, .int .i64 x0, .int .i64 x1, .int .i64 x2, .int .i64 x3, .int .i64 x4, .int .i64 x5] 34) := ⟨_, rfl⟩
  rw [← hW0]
  have hx0 : W0.heap[w.heap.size]? = some (.cells #[.int .i64 1, .int .i64 a, .int .i64 b, .int .i64 d, .string s, .slice lp ln lc, .int .i64 fa, .int .i64 fk, .bool fp, .int .i64 fns, .int .i64 fnr, .slice fq info.length fc, .int .i64 x0, .int .i64 x1, .int .i64 x2, .int .i64 x3, .int .i64 x4, .int .i64 x5] 34 (0, 0)) := by rw [hW0]; exact alloc1_a _ _
  have hbx : Below w.heap.size w W0 := by rw [hW0]; exact (Below.refl _ w).alloc (Nat.le_refl _) _
  clear hW0
  have y0 : W0.cell? ⟨w.heap.size, 0, none⟩ = some (.int .i64 1) := by rw [Lib.cell_of_heap hx0]; rfl
  have y1 : W0.cell? ⟨w.heap.size, 1, none⟩ = some (.int .i64 a) := by rw [Lib.cell_of_heap hx0]; rfl
  have y2 : W0.cell? ⟨w.heap.size, 2, none⟩ = some (.int .i64 b) := by rw [Lib.cell_of_heap hx0]; rfl
  have y3 : W0.cell? ⟨w.heap.size, 3, none⟩ = some (.int .i64 d) := by rw [Lib.cell_of_heap hx0]; rfl
  have y4 : W0.cell? ⟨w.heap.size, 4, none⟩ = some (.string s) := by rw [Lib.cell_of_heap hx0]; rfl
  have y5 : W0.cell? ⟨w.heap.size, 5, none⟩ = some (.slice lp ln lc) := by rw [Lib.cell_of_heap hx0]; rfl
  have y6 : W0.cell? ⟨w.heap.size, 6, none⟩ = some (.int .i64 fa) := by rw [Lib.cell_of_heap hx0]; rfl
  have y7 : W0.cell? ⟨w.heap.size, 7, none⟩ = some (.int .i64 fk) := by rw [Lib.cell_of_heap hx0]; rfl
  have y8 : W0.cell? ⟨w.heap.size, 8, none⟩ = some (.bool fp) := by rw [Lib.cell_of_heap hx0]; rfl
  have y9 : W0.cell? ⟨w.heap.size, 9, none⟩ = some (.int .i64 fns) := by rw [Lib.cell_of_heap hx0]; rfl
  have y10 : W0.cell? ⟨w.heap.size, 10, none⟩ = some (.int .i64 fnr) := by rw [Lib.cell_of_heap hx0]; rfl
  have y11 : W0.cell? ⟨w.heap.size, 11, none⟩ = some (.slice fq info.length fc) := by rw [Lib.cell_of_heap hx0]; rfl
  have y12 : W0.cell? ⟨w.heap.size, 12, none⟩ = some (.int .i64 x0) := by rw [Lib.cell_of_heap hx0]; rfl
  have y13 : W0.cell? ⟨w.heap.size, 13, none⟩ = some (.int .i64 x1) := by rw [Lib.cell_of_heap hx0]; rfl
  have y14 : W0.cell? ⟨w.heap.size, 14, none⟩ = some (.int .i64 x2) := by rw [Lib.cell_of_heap hx0]; rfl
  have y15 : W0.cell? ⟨w.heap.size, 15, none⟩ = some (.int .i64 x3) := by rw [Lib.cell_of_heap hx0]; rfl
  have y16 : W0.cell? ⟨w.heap.size, 16, none⟩ = some (.int .i64 x4) := by rw [Lib.cell_of_heap hx0]; rfl
  have y17 : W0.cell? ⟨w.heap.size, 17, none⟩ = some (.int .i64 x5) := by rw [Lib.cell_of_heap hx0]; rfl
  have KF := hide (unhide HF W0 hbx)
  clear HF hx0 hbx
  go_wp2_with fail
  refine (unhide KF).mono ?_
  rintro e W1 ⟨rfl, h1⟩
  have HR := hide h1
  clear h1 KF y0 y1 y2 y3 y4 y5 y6 y7 y8 y9 y10 y11 y12 y13 y14 y15 y16 y17
  go_wp2
  exact bodyPost_ret (v := .bool true) (by simp [results, Tryz.results12, go_sem]) rfl ⟨rfl, unhide HR⟩
set_option maxHeartbeats 4000000 in
set_option maxRecDepth 100000 in
theorem step_plain2 {wb : Nat} {o : OpV} {w : World} {Q : World → Prop} (hk : o.kind = 2) (hlv : ∃ lp ln lc, o.lv = .slice lp ln lc)
    (HF : Hid (∀ V, Below w.heap.size w V → Calls Tryz.prog 14 #[.pointer (some ⟨wb, 0, none⟩), opV o] V fun e w' => e = .returned (.bool true) ∧ Q w')) :
    Calls Tryz.prog 12 #[.pointer (some ⟨wb, 0, none⟩), opV o] w fun e w' => e = .returned (.bool true) ∧ Q w' := by
  obtain ⟨lp, ln, lc, hlv⟩ := hlv
  obtain ⟨kind, a, b, d, s, lv, ⟨fa, fk, fp, fns, fnr, info⟩, fq, fc, x0, x1, x2, x3, x4, x5⟩ := o
  simp only at hlv hk
  subst hlv hk
  unfold opV at HF ⊢
  simp only at HF ⊢
  go_enter Tryz.func12, Tryz.ntmps12
  go_upto_region 1 with fail
  obtain ⟨W0, hW0⟩ : ∃ W0, W0 = w.alloc (.cells #[.int .i64 2, .int .i64 a, .int .i64 b, .int .i64 d, .string s, .slice lp ln lc, .int .i64 fa, .int .i64 fk, .bool fp, .int .i64 fns, .int .i64 fnr, .slice fq info.length fc, .int .i64 x0, .int .i64 x1, .int .i64 x2, .int .i64 x3, .int .i64 x4, .int .i64 x5] 34) := ⟨_, rfl⟩
  rw [← hW0]
  have hx0 : W0.heap[w.heap.size]? = some (.cells #[.int .i64 2, .int .i64 a, .int .i64 b, .int .i64 d, .string s, .slice lp ln lc, .int .i64 fa, .int .i64 fk, .bool fp, .int .i64 fns, .int .i64 fnr, .slice fq info.length fc, .int .i64 x0, .int .i64 x1, .int .i64 x2, .int .i64 x3, .int .i64 x4, .int .i64 x5] 34 (0, 0)) := by rw [hW0]; exact alloc1_a _ _
  have hbx : Below w.heap.size w W0 := by rw [hW0]; exact (Below.refl _ w).alloc (Nat.le_refl _) _
  clear hW0
  have y0 : W0.cell? ⟨w.heap.size, 0, none⟩ = some (.int .i64 2) := by rw [Lib.cell_of_heap hx0]; rfl
  have y1 : W0.cell? ⟨w.heap.size, 1, none⟩ = some (.int .i64 a) := by rw [Lib.cell_of_heap hx0]; rfl
  have y2 : W0.cell? ⟨w.heap.size, 2, none⟩ = some (.int .i64 b) := by rw [Lib.cell_of_heap hx0]; rfl
  have y3 : W0.cell? ⟨w.heap.size, 3, none⟩ = some (.int .i64 d) := by rw [Lib.cell_of_heap hx0]; rfl
  have y4 : W0.cell? ⟨w.heap.size, 4, none⟩ = some (.string s) := by rw [Lib.cell_of_heap hx0]; rfl
  have y5 : W0.cell? ⟨w.heap.size, 5, none⟩ = some (.slice lp ln lc) := by rw [Lib.cell_of_heap hx0]; rfl
  have y6 : W0.cell? ⟨w.heap.size, 6, none⟩ = some (.int .i64 fa) := by rw [Lib.cell_of_heap hx0]; rfl
  have y7 : W0.cell? ⟨w.heap.size, 7, none⟩ = some (.int .i64 fk) := by rw [Lib.cell_of_heap hx0]; rfl
  have y8 : W0.cell? ⟨w.heap.size, 8, none⟩ = some (.bool fp) := by rw [Lib.cell_of_heap hx0]; rfl
  have y9 : W0.cell? ⟨w.heap.size, 9, none⟩ = some (.int .i64 fns) := by rw [Lib.cell_of_heap hx0]; rfl
  have y10 : W0.cell? ⟨w.heap.size, 10, none⟩ = some (.int .i64 fnr) := by rw [Lib.cell_of_heap hx0]; rfl
  have y11 : W0.cell? ⟨w.heap.size, 11, none⟩ = some (.slice fq info.length fc) := by rw [Lib.cell_of_heap hx0]; rfl
  have y12 : W0.cell? ⟨w.heap.size, 12, none⟩ = some (.int .i64 x0) := by rw [Lib.cell_of_heap hx0]; rfl
  have y13 : W0.cell? ⟨w.heap.size, 13, none⟩ = some (.int .i64 x1) := by rw [Lib.cell_of_heap hx0]; rfl
  have y14 : W0.cell? ⟨w.heap.size, 14, none⟩ = some (.int .i64 x2) := by rw [Lib.cell_of_heap hx0]; rfl
  have y15 : W0.cell? ⟨w.heap.size, 15, none⟩ = some (.int .i64 x3) := by rw [Lib.cell_of_heap hx0]; rfl
  have y16 : W0.cell? ⟨w.heap.size, 16, none⟩ = some (.int .i64 x4) := by rw [Lib.cell_of_heap hx0]; rfl
  have y17 : W0.cell? ⟨w.heap.size, 17, none⟩ = some (.int .i64 x5) := by rw [Lib.cell_of_heap hx0]; rfl
  have KF := hide (unhide HF W0 hbx)
  clear HF hx0 hbx
  go_wp2_with fail
  refine (unhide KF).mono ?_
  rintro e W1 ⟨rfl, h1⟩
  have HR := hide h1
  clear h1 KF y0 y1 y2 y3 y4 y5 y6 y7 y8 y9 y10 y11 y12 y13 y14 y15 y16 y17
  go_wp2
  exact bodyPost_ret (v := .bool true) (by simp [results, Tryz.results12, go_sem]) rfl ⟨rfl, unhide HR⟩
set_option maxHeartbeats 4000000 in
set_option maxRecDepth 100000 in
theorem step_plain3 {wb : Nat} {o : OpV} {w : World} {Q : World → Prop} (hk : o.kind = 3) (hlv : ∃ lp ln lc, o.lv = .slice lp ln lc)
    (HF : Hid (∀ V, Below w.heap.size w V → Calls Tryz.prog 14 #[.pointer (some ⟨wb, 0, none⟩), opV o] V fun e w' => e = .returned (.bool true) ∧ Q w')) :
    Calls Tryz.prog 12 #[.pointer (some ⟨wb, 0, none⟩), opV o] w fun e w' => e = .returned (.bool true) ∧ Q w' := by
  obtain ⟨lp, ln, lc, hlv⟩ := hlv
  obtain ⟨kind, a, b, d, s, lv, ⟨fa, fk, fp, fns, fnr, info⟩, fq, fc, x0, x1, x2, x3, x4, x5⟩ := o
  simp only at hlv hk
  subst hlv hk
  unfold opV at HF ⊢
  simp only at HF ⊢
  go_enter Tryz.func12, Tryz.ntmps12
  go_upto_region 1 with fail
  obtain ⟨W0, hW0⟩ : ∃ W0, W0 = w.alloc (.cells #[.int .i64 3, .int .i64 a, .int .i64 b, .int .i64 d, .string s, .slice lp ln lc, .int .i64 fa, .int .i64 fk, .bool fp, .int .i64 fns, .int .i64 fnr, .slice fq info.length fc, .int .i64 x0, .int .i64 x1, .int .i64 x2, .int .i64 x3, .int .i64 x4, .int .i64 x5] 34) := ⟨_, rfl⟩
  rw [← hW0]
  have hx0 : W0.heap[w.heap.size]? = some (.cells #[.int .i64 3, .int .i64 a, .int .i64 b, .int .i64 d, .string s, .slice lp ln lc, .int .i64 fa, .int .i64 fk, .bool fp, .int .i64 fns, .int .i64 fnr, .slice fq info.length fc, .int .i64 x0, .int .i64 x1, .int .i64 x2, .int .i64 x3, .int .i64 x4, .int .i64 x5] 34 (0, 0)) := by rw [hW0]; exact alloc1_a _ _
  have hbx : Below w.heap.size w W0 := by rw [hW0]; exact (Below.refl _ w).alloc (Nat.le_refl _) _
  clear hW0
  have y0 : W0.cell? ⟨w.heap.size, 0, none⟩ = some (.int .i64 3) := by rw [Lib.cell_of_heap hx0]; rfl
  have y1 : W0.cell? ⟨w.heap.size, 1, none⟩ = some (.int .i64 a) := by rw [Lib.cell_of_heap hx0]; rfl
  have y2 : W0.cell? ⟨w.heap.size, 2, none⟩ = some (.int .i64 b) := by rw [Lib.cell_of_heap hx0]; rfl
  have y3 : W0.cell? ⟨w.heap.size, 3, none⟩ = some (.int .i64 d) := by rw [Lib.cell_of_heap hx0]; rfl
  have y4 : W0.cell? ⟨w.heap.size, 4, none⟩ = some (.string s) := by rw [Lib.cell_of_heap hx0]; rfl
  have y5 : W0.cell? ⟨w.heap.size, 5, none⟩ = some (.slice lp ln lc) := by rw [Lib.cell_of_heap hx0]; rfl
  have y6 : W0.cell? ⟨w.heap.size, 6, none⟩ = some (.int .i64 fa) := by rw [Lib.cell_of_heap hx0]; rfl
  have y7 : W0.cell? ⟨w.heap.size, 7, none⟩ = some (.int .i64 fk) := by rw [Lib.cell_of_heap hx0]; rfl
  have y8 : W0.cell? ⟨w.heap.size, 8, none⟩ = some (.bool fp) := by rw [Lib.cell_of_heap hx0]; rfl
  have y9 : W0.cell? ⟨w.heap.size, 9, none⟩ = some (.int .i64 fns) := by rw [Lib.cell_of_heap hx0]; rfl
  have y10 : W0.cell? ⟨w.heap.size, 10, none⟩ = some (.int .i64 fnr) := by rw [Lib.cell_of_heap hx0]; rfl
  have y11 : W0.cell? ⟨w.heap.size, 11, none⟩ = some (.slice fq info.length fc) := by rw [Lib.cell_of_heap hx0]; rfl
  have y12 : W0.cell? ⟨w.heap.size, 12, none⟩ = some (.int .i64 x0) := by rw [Lib.cell_of_heap hx0]; rfl
  have y13 : W0.cell? ⟨w.heap.size, 13, none⟩ = some (.int .i64 x1) := by rw [Lib.cell_of_heap hx0]; rfl
  have y14 : W0.cell? ⟨w.heap.size, 14, none⟩ = some (.int .i64 x2) := by rw [Lib.cell_of_heap hx0]; rfl
  have y15 : W0.cell? ⟨w.heap.size, 15, none⟩ = some (.int .i64 x3) := by rw [Lib.cell_of_heap hx0]; rfl
  have y16 : W0.cell? ⟨w.heap.size, 16, none⟩ = some (.int .i64 x4) := by rw [Lib.cell_of_heap hx0]; rfl
  have y17 : W0.cell? ⟨w.heap.size, 17, none⟩ = some (.int .i64 x5) := by rw [Lib.cell_of_heap hx0]; rfl
  have KF := hide (unhide HF W0 hbx)
  clear HF hx0 hbx
  go_wp2_with fail
  refine (unhide KF).mono ?_
  rintro e W1 ⟨rfl, h1⟩
  have HR := hide h1
  clear h1 KF y0 y1 y2 y3 y4 y5 y6 y7 y8 y9 y10 y11 y12 y13 y14 y15 y16 y17
  go_wp2
  exact bodyPost_ret (v := .bool true) (by simp [results, Tryz.results12, go_sem]) rfl ⟨rfl, unhide HR⟩
end Go.Proofs.YtkalonhalhdlaaaGreatDoor
