/-
  The law's step at the stations' kinds.
-/
import Derived.Test.YtkalonhalhdlaaaGreatDoorG31
import Derived.Test.YtkalonhalhdlaaaGreatDoorG29
namespace Go.Proofs.YtkalonhalhdlaaaGreatDoor
open Go.RowKit
set_option maxHeartbeats 8000000 in
set_option maxRecDepth 1000000 in
theorem step_made {B : Nat} {w : World} {wb : Nat} {own : Nat → Nat} {ss : Value} {x : Lw} {ps : List Post} {Q : World → World → Prop} (h : GwAt B w wb own ss x ps) (o : OpV) (hlv : ∃ lp ln lc, o.lv = .slice lp ln lc) (hk : o.kind = 20)
    (hcall : ∀ V, Below w.heap.size w V → Calls Tryz.prog 18 #[.pointer (some ⟨wb, 0, none⟩), opV o] V fun e w' => e = .returned (.bool true) ∧ Q V w') :
    Calls Tryz.prog 12 #[.pointer (some ⟨wb, 0, none⟩), opV o] w fun e w' => e = .returned (.bool true) ∧ ∃ V, Below w.heap.size w V ∧ Q V w' := by
  obtain ⟨lp, ln, lc, hlv⟩ := hlv
  obtain ⟨kind, a, b, d, s, lv, ⟨fa, fk, fp, fns, fnr, info⟩, fq, fc, x0, x1, x2, x3, x4, x5⟩ := o
  simp only at hlv hk
  subst hlv hk
  obtain ⟨W0, hW0⟩ : ∃ W0, w.alloc (.cells #[.int .i64 20, .int .i64 a, .int .i64 b, .int .i64 d, .string s, .slice lp ln lc, .int .i64 fa, .int .i64 fk, .bool fp, .int .i64 fns, .int .i64 fnr, .slice fq info.length fc, .int .i64 x0, .int .i64 x1, .int .i64 x2, .int .i64 x3, .int .i64 x4, .int .i64 x5] 34) = W0 := ⟨_, rfl⟩
  have hb0 : Below w.heap.size w W0 := by rw [← hW0]; exact (Below.refl _ w).alloc (Nat.le_refl _) _
  have hox : W0.heap[w.heap.size]? = some (.cells #[.int .i64 20, .int .i64 a, .int .i64 b, .int .i64 d, .string s, .slice lp ln lc, .int .i64 fa, .int .i64 fk, .bool fp, .int .i64 fns, .int .i64 fnr, .slice fq info.length fc, .int .i64 x0, .int .i64 x1, .int .i64 x2, .int .i64 x3, .int .i64 x4, .int .i64 x5] 34) := by rw [← hW0]; exact alloc1_a w _
  have hc := hcall W0 hb0
  clear hcall
  have h0 := h.later hb0
  have d0 := h0.lw.bk.head.cell 0 _ rfl
  obtain ⟨hp, hcap, hhs, _⟩ := ownsRow_slice h.lw.row
  rw [hhs] at d0
  simp only [opV] at hc
  have KC := hide hc
  have HB0 := hide hb0
  unfold opV
  simp only
  clear h h0 hc hb0
  go_enter Tryz.func12, Tryz.ntmps12
  generalize hnB : w.heap.size = nB at *
  have p0 : W0.cell? ⟨nB, 0, none⟩ = some (.int .i64 20) := by rw [Lib.cell_of_heap hox]; rfl
  have p1 : W0.cell? ⟨nB, 1, none⟩ = some (.int .i64 a) := by rw [Lib.cell_of_heap hox]; rfl
  have p2 : W0.cell? ⟨nB, 2, none⟩ = some (.int .i64 b) := by rw [Lib.cell_of_heap hox]; rfl
  have p3 : W0.cell? ⟨nB, 3, none⟩ = some (.int .i64 d) := by rw [Lib.cell_of_heap hox]; rfl
  have p4 : W0.cell? ⟨nB, 4, none⟩ = some (.string s) := by rw [Lib.cell_of_heap hox]; rfl
  have p5 : W0.cell? ⟨nB, 5, none⟩ = some (.slice lp ln lc) := by rw [Lib.cell_of_heap hox]; rfl
  have p6 : W0.cell? ⟨nB, 6, none⟩ = some (.int .i64 fa) := by rw [Lib.cell_of_heap hox]; rfl
  have p7 : W0.cell? ⟨nB, 7, none⟩ = some (.int .i64 fk) := by rw [Lib.cell_of_heap hox]; rfl
  have p8 : W0.cell? ⟨nB, 8, none⟩ = some (.bool fp) := by rw [Lib.cell_of_heap hox]; rfl
  have p9 : W0.cell? ⟨nB, 9, none⟩ = some (.int .i64 fns) := by rw [Lib.cell_of_heap hox]; rfl
  have p10 : W0.cell? ⟨nB, 10, none⟩ = some (.int .i64 fnr) := by rw [Lib.cell_of_heap hox]; rfl
  have p11 : W0.cell? ⟨nB, 11, none⟩ = some (.slice fq info.length fc) := by rw [Lib.cell_of_heap hox]; rfl
  have p12 : W0.cell? ⟨nB, 12, none⟩ = some (.int .i64 x0) := by rw [Lib.cell_of_heap hox]; rfl
  have p13 : W0.cell? ⟨nB, 13, none⟩ = some (.int .i64 x1) := by rw [Lib.cell_of_heap hox]; rfl
  have p14 : W0.cell? ⟨nB, 14, none⟩ = some (.int .i64 x2) := by rw [Lib.cell_of_heap hox]; rfl
  have p15 : W0.cell? ⟨nB, 15, none⟩ = some (.int .i64 x3) := by rw [Lib.cell_of_heap hox]; rfl
  have p16 : W0.cell? ⟨nB, 16, none⟩ = some (.int .i64 x4) := by rw [Lib.cell_of_heap hox]; rfl
  have p17 : W0.cell? ⟨nB, 17, none⟩ = some (.int .i64 x5) := by rw [Lib.cell_of_heap hox]; rfl
  clear hox
  go_wp2_with fail
  refine (unhide KC).mono ?_
  rintro e w1 ⟨rfl, hq⟩
  have HQ := hide hq
  clear hq KC
  go_wp2
  go_ret
  exact ⟨rfl, W0, unhide HB0, unhide HQ⟩
set_option maxHeartbeats 8000000 in
set_option maxRecDepth 1000000 in
theorem step_idle {B : Nat} {w : World} {wb : Nat} {own : Nat → Nat} {ss : Value} {x : Lw} {ps : List Post} (h : GwAt B w wb own ss x ps) (hps : ps.length = 0) (o : OpV) (hlv : ∃ lp ln lc, o.lv = .slice lp ln lc) (hk : 21 ≤ o.kind ∧ o.kind ≤ 33) :
    Calls Tryz.prog 12 #[.pointer (some ⟨wb, 0, none⟩), opV o] w fun e w' => e = .returned (.bool true) ∧ Below w.heap.size w w' := by
  obtain ⟨lp, ln, lc, hlv⟩ := hlv
  obtain ⟨kind, a, b, d, s, lv, ⟨fa, fk, fp, fns, fnr, info⟩, fq, fc, x0, x1, x2, x3, x4, x5⟩ := o
  simp only at hlv hk
  subst hlv
  have k1 : (1 : Int) ≤ kind := by omega
  have k2 : ¬ kind ≤ 3 := by omega
  have k8 : ¬ kind < 21 := by omega
  have k9 : ¬ (33 : Int) < kind := by omega
  have q4 : (kind == 4) = false := beq_false_of_ne (by omega)
  have q5 : (kind == 5) = false := beq_false_of_ne (by omega)
  have q10 : (kind == 10) = false := beq_false_of_ne (by omega)
  have q11 : (kind == 11) = false := beq_false_of_ne (by omega)
  have q20 : (kind == 20) = false := beq_false_of_ne (by omega)
  obtain ⟨W0, hW0⟩ : ∃ W0, w.alloc (.cells #[.int .i64 kind, .int .i64 a, .int .i64 b, .int .i64 d, .string s, .slice lp ln lc, .int .i64 fa, .int .i64 fk, .bool fp, .int .i64 fns, .int .i64 fnr, .slice fq info.length fc, .int .i64 x0, .int .i64 x1, .int .i64 x2, .int .i64 x3, .int .i64 x4, .int .i64 x5] 34) = W0 := ⟨_, rfl⟩
  have hb0 : Below w.heap.size w W0 := by rw [← hW0]; exact (Below.refl _ w).alloc (Nat.le_refl _) _
  have hox : W0.heap[w.heap.size]? = some (.cells #[.int .i64 kind, .int .i64 a, .int .i64 b, .int .i64 d, .string s, .slice lp ln lc, .int .i64 fa, .int .i64 fk, .bool fp, .int .i64 fns, .int .i64 fnr, .slice fq info.length fc, .int .i64 x0, .int .i64 x1, .int .i64 x2, .int .i64 x3, .int .i64 x4, .int .i64 x5] 34) := by rw [← hW0]; exact alloc1_a w _
  have h0 := h.later hb0
  have d1 := h0.lw.bk.head.cell 1 _ rfl
  obtain ⟨sp, scap, hss, _⟩ := ownsRow_slice h.row
  rw [hss, hps] at d1
  have o0 : W0.cell? ⟨w.heap.size, 0, none⟩ = some (.int .i64 kind) := by rw [Lib.cell_of_heap hox]; rfl
  have HB0 := hide hb0
  unfold opV
  simp only
  clear h h0 hb0 hox hk
  go_enter Tryz.func12, Tryz.ntmps12
  generalize hnB : w.heap.size = nB at *
  go_wp2
  go_ret
  exact ⟨rfl, unhide HB0⟩
end Go.Proofs.YtkalonhalhdlaaaGreatDoor
