/-
  What one step on frames does to the law's World.
-/
import Derived.Test.YtkalonhalhdlaaaGreatDoorRFramed2
import Derived.Deep.Cut
import Derived.Deep.CutRange
namespace Go.Proofs.YtkalonhalhdlaaaGreatDoor
open Go.RowKit

/-- What a step's lists and texts must be for the walks. -/
structure OpOk (w : World) (o : OpV) : Prop where
  lv : ∃ lp ln lc, o.lv = .slice lp ln lc
  src : SrcE w o.fq o.f.info
  fl : o.f.info.length ≤ 1048576
  sl : o.s.size ≤ 1048576
theorem OpOk.below {w w' : World} {o : OpV} (h : OpOk w o) {B : Nat} (hb : Below B w w') (hB : w.heap.size ≤ B) : OpOk w' o := ⟨h.lv, h.src.below hb hB, h.fl, h.sl⟩

set_option maxHeartbeats 4000000 in
set_option maxRecDepth 100000 in
theorem step_frames10 (B wb : Nat) (hs ss fs ls is bs : Value) (ents : List Value) (o : OpV) (w : World) (hk : o.kind = 10) (hok : OpOk w o) (hC : Ctl w) (hBk : BookB B w wb hs ss fs ls is bs ents) (hB0 : 0 < B) (hB : B ≤ w.heap.size) (hN : ents.length ≤ 1099511627776) :
    Calls Tryz.prog 12 #[.pointer (some ⟨wb, 0, none⟩), opV o] w fun e w' => e = .returned (.bool true) ∧ ∃ bs' ents', BookB B w' wb hs ss fs ls is bs' ents' ∧ ents'.length = ents.length + 4 ∧ Below B w w' := by
  obtain ⟨⟨lp, ln, lc, hlv⟩, hsrc, hfl, hsl⟩ := hok
  have hf : ∀ V, Below w.heap.size w V → Calls Tryz.prog 17 #[.pointer (some ⟨wb, 0, none⟩), opV o] V fun e w' => e = .returned (.bool true) ∧ ∃ bs' ents', BookB B w' wb hs ss fs ls is bs' ents' ∧ ents'.length = ents.length + 4 ∧ Below B w w' := by
    intro V hV
    have h1 := hV.size
    refine (framed_write B wb hs ss fs ls is bs ents o lp ln lc V hlv hk (hsrc.below hV (Nat.le_refl _)) (hC.below hV (by omega)) (hBk.later hV) hB0 (by omega) hN hfl).mono ?_
    rintro e w' ⟨rfl, bs', ents', h1, h2, h3⟩
    exact ⟨rfl, bs', ents', h1, h2, (hV.mono hB).trans h3⟩
  have HF := hide hf
  have HA : Hid (∀ o, Below w.heap.size w (w.alloc o)) := hide fun o => (Below.refl _ w).alloc (Nat.le_refl _) o
  clear hf hsrc hfl hsl hC hBk
  obtain ⟨kind, a, b, d, s, lv, ⟨fa, fk, fp, fns, fnr, info⟩, fq, fc, x0, x1, x2, x3, x4, x5⟩ := o
  simp only at hlv hk
  subst hlv
  unfold opV at HF ⊢
  simp only at HF ⊢
  have k1 : ¬ kind ≤ 3 := by omega
  have k2 : (kind == 4) = false := by simp; omega
  have k3 : (kind == 5) = false := by simp; omega
  have k4 : 1 ≤ kind := by omega
  subst hk
  go_enter Tryz.func12, Tryz.ntmps12
  go_upto_region 1 with fail
  obtain ⟨W0, hW0⟩ : ∃ W0, W0 = w.alloc (.cells #[.int .i64 10, .int .i64 a, .int .i64 b, .int .i64 d, .string s, .slice lp ln lc, .int .i64 fa, .int .i64 fk, .bool fp, .int .i64 fns, .int .i64 fnr, .slice fq info.length fc, .int .i64 x0, .int .i64 x1, .int .i64 x2, .int .i64 x3, .int .i64 x4, .int .i64 x5] 34) := ⟨_, rfl⟩
  rw [← hW0]
  have hx0 : W0.heap[w.heap.size]? = some (.cells #[.int .i64 10, .int .i64 a, .int .i64 b, .int .i64 d, .string s, .slice lp ln lc, .int .i64 fa, .int .i64 fk, .bool fp, .int .i64 fns, .int .i64 fnr, .slice fq info.length fc, .int .i64 x0, .int .i64 x1, .int .i64 x2, .int .i64 x3, .int .i64 x4, .int .i64 x5] 34 (0, 0)) := by rw [hW0]; exact alloc1_a _ _
  have hbx : Below w.heap.size w W0 := by rw [hW0]; exact unhide HA _
  clear hW0 HA
  have y0 : W0.cell? ⟨w.heap.size, 0, none⟩ = some (.int .i64 10) := by rw [Lib.cell_of_heap hx0]; rfl
  have y1 : W0.cell? ⟨w.heap.size, 1, none⟩ = some (.int .i64 a) := by rw [Lib.cell_of_heap hx0]; rfl
  have y2 : W0.cell? ⟨w.heap.size, 2, none⟩ = some (.int .i64 b) := by rw [Lib.cell_of_heap hx0]; rfl
  have y3 : W0.cell? ⟨w.heap.size, 3, none⟩ = some (.int .i64 d) := by rw [Lib.cell_of_heap hx0]; rfl
  have y4 : W0.cell? ⟨w.heap.size, 4, none⟩ = some (.string s) := by rw [Lib.cell_of_heap hx0]; rfl
  have y5 : W0.cell? ⟨w.heap.size, 5, none⟩ = some (.slice lp ln lc) := by rw [Lib.cell_of_heap hx0]; rfl
  have y6 : W0.cell? ⟨w.heap.size, 6, none⟩ = some (.int .i64 fa) := by rw [Lib.cell_of_heap hx0]; rfl
  have y7 : W0.cell? ⟨w.heap.size, 7, none⟩ = some (.int .i64 fk) := by rw [Lib.cell_of_heap hx0]; rfl
  have y8 : W0.cell? ⟨w.heap.size, 8, none⟩ = some (.bool fp) := by rw [Lib.cell_of_heap hx0]; rfl
  have y9 : W0.cell? ⟨w.heap.size, 9, none⟩ = some (.int .i64 fns) := by rw [Lib.cell_of_heap hx0]; rfl
  have y10 : W0.cell? ⟨w.heap.size, 10, none⟩ = some (.int .i64 fnr) := by rw [Lib.cell_of_heap hx0]; rfl
  have y11 : W0.cell? ⟨w.heap.size, 11, none⟩ = some (.slice fq info.length fc) := by rw [Lib.cell_of_heap hx0]; rfl
  have y12 : W0.cell? ⟨w.heap.size, 12, none⟩ = some (.int .i64 x0) := by rw [Lib.cell_of_heap hx0]; rfl
  have y13 : W0.cell? ⟨w.heap.size, 13, none⟩ = some (.int .i64 x1) := by rw [Lib.cell_of_heap hx0]; rfl
  have y14 : W0.cell? ⟨w.heap.size, 14, none⟩ = some (.int .i64 x2) := by rw [Lib.cell_of_heap hx0]; rfl
  have y15 : W0.cell? ⟨w.heap.size, 15, none⟩ = some (.int .i64 x3) := by rw [Lib.cell_of_heap hx0]; rfl
  have y16 : W0.cell? ⟨w.heap.size, 16, none⟩ = some (.int .i64 x4) := by rw [Lib.cell_of_heap hx0]; rfl
  have y17 : W0.cell? ⟨w.heap.size, 17, none⟩ = some (.int .i64 x5) := by rw [Lib.cell_of_heap hx0]; rfl
  have KF := hide (unhide HF W0 hbx)
  clear HF hx0
  go_wp2_with fail
  refine (unhide KF).mono ?_
  rintro e W1 ⟨rfl, bs', ents', h1, h2, h3⟩
  have HR := hide (And.intro h1 (And.intro h2 h3))
  clear h1 h2 h3 KF y0 y1 y2 y3 y4 y5 y6 y7 y8 y9 y10 y11 y12 y13 y14 y15 y16 y17
  go_wp2
  obtain ⟨h1, h2, h3⟩ := unhide HR
  exact bodyPost_ret (v := .bool true) (by simp [results, Tryz.results12, go_sem]) rfl ⟨rfl, bs', ents', h1, h2, h3⟩
set_option maxHeartbeats 4000000 in
set_option maxRecDepth 100000 in
theorem step_frames11 (B wb : Nat) (hs ss fs ls is bs : Value) (ents : List Value) (o : OpV) (w : World) (hk : o.kind = 11) (hok : OpOk w o) (hC : Ctl w) (hBk : BookB B w wb hs ss fs ls is bs ents) (hB0 : 0 < B) (hB : B ≤ w.heap.size) (hN : ents.length ≤ 1099511627776) :
    Calls Tryz.prog 12 #[.pointer (some ⟨wb, 0, none⟩), opV o] w fun e w' => e = .returned (.bool true) ∧ ∃ bs' ents', BookB B w' wb hs ss fs ls is bs' ents' ∧ ents'.length = ents.length + 4 ∧ Below B w w' := by
  obtain ⟨⟨lp, ln, lc, hlv⟩, hsrc, hfl, hsl⟩ := hok
  have hf : ∀ V, Below w.heap.size w V → Calls Tryz.prog 17 #[.pointer (some ⟨wb, 0, none⟩), opV o] V fun e w' => e = .returned (.bool true) ∧ ∃ bs' ents', BookB B w' wb hs ss fs ls is bs' ents' ∧ ents'.length = ents.length + 4 ∧ Below B w w' := by
    intro V hV
    have h1 := hV.size
    refine (framed_read B wb hs ss fs ls is bs ents o lp ln lc V hlv hk (hC.below hV (by omega)) (hBk.later hV) hB0 (by omega) hN hsl).mono ?_
    rintro e w' ⟨rfl, bs', ents', h1, h2, h3⟩
    exact ⟨rfl, bs', ents', h1, h2, (hV.mono hB).trans h3⟩
  have HF := hide hf
  have HA : Hid (∀ o, Below w.heap.size w (w.alloc o)) := hide fun o => (Below.refl _ w).alloc (Nat.le_refl _) o
  clear hf hsrc hfl hsl hC hBk
  obtain ⟨kind, a, b, d, s, lv, ⟨fa, fk, fp, fns, fnr, info⟩, fq, fc, x0, x1, x2, x3, x4, x5⟩ := o
  simp only at hlv hk
  subst hlv
  unfold opV at HF ⊢
  simp only at HF ⊢
  have k1 : ¬ kind ≤ 3 := by omega
  have k2 : (kind == 4) = false := by simp; omega
  have k3 : (kind == 5) = false := by simp; omega
  have k4 : 1 ≤ kind := by omega
  subst hk
  go_enter Tryz.func12, Tryz.ntmps12
  go_upto_region 1 with fail
  obtain ⟨W0, hW0⟩ : ∃ W0, W0 = w.alloc (.cells #[.int .i64 11, .int .i64 a, .int .i64 b, .int .i64 d, .string s, .slice lp ln lc, .int .i64 fa, .int .i64 fk, .bool fp, .int .i64 fns, .int .i64 fnr, .slice fq info.length fc, .int .i64 x0, .int .i64 x1, .int .i64 x2, .int .i64 x3, .int .i64 x4, .int .i64 x5] 34) := ⟨_, rfl⟩
  rw [← hW0]
  have hx0 : W0.heap[w.heap.size]? = some (.cells #[.int .i64 11, .int .i64 a, .int .i64 b, .int .i64 d, .string s, .slice lp ln lc, .int .i64 fa, .int .i64 fk, .bool fp, .int .i64 fns, .int .i64 fnr, .slice fq info.length fc, .int .i64 x0, .int .i64 x1, .int .i64 x2, .int .i64 x3, .int .i64 x4, .int .i64 x5] 34 (0, 0)) := by rw [hW0]; exact alloc1_a _ _
  have hbx : Below w.heap.size w W0 := by rw [hW0]; exact unhide HA _
  clear hW0 HA
  have y0 : W0.cell? ⟨w.heap.size, 0, none⟩ = some (.int .i64 11) := by rw [Lib.cell_of_heap hx0]; rfl
  have y1 : W0.cell? ⟨w.heap.size, 1, none⟩ = some (.int .i64 a) := by rw [Lib.cell_of_heap hx0]; rfl
  have y2 : W0.cell? ⟨w.heap.size, 2, none⟩ = some (.int .i64 b) := by rw [Lib.cell_of_heap hx0]; rfl
  have y3 : W0.cell? ⟨w.heap.size, 3, none⟩ = some (.int .i64 d) := by rw [Lib.cell_of_heap hx0]; rfl
  have y4 : W0.cell? ⟨w.heap.size, 4, none⟩ = some (.string s) := by rw [Lib.cell_of_heap hx0]; rfl
  have y5 : W0.cell? ⟨w.heap.size, 5, none⟩ = some (.slice lp ln lc) := by rw [Lib.cell_of_heap hx0]; rfl
  have y6 : W0.cell? ⟨w.heap.size, 6, none⟩ = some (.int .i64 fa) := by rw [Lib.cell_of_heap hx0]; rfl
  have y7 : W0.cell? ⟨w.heap.size, 7, none⟩ = some (.int .i64 fk) := by rw [Lib.cell_of_heap hx0]; rfl
  have y8 : W0.cell? ⟨w.heap.size, 8, none⟩ = some (.bool fp) := by rw [Lib.cell_of_heap hx0]; rfl
  have y9 : W0.cell? ⟨w.heap.size, 9, none⟩ = some (.int .i64 fns) := by rw [Lib.cell_of_heap hx0]; rfl
  have y10 : W0.cell? ⟨w.heap.size, 10, none⟩ = some (.int .i64 fnr) := by rw [Lib.cell_of_heap hx0]; rfl
  have y11 : W0.cell? ⟨w.heap.size, 11, none⟩ = some (.slice fq info.length fc) := by rw [Lib.cell_of_heap hx0]; rfl
  have y12 : W0.cell? ⟨w.heap.size, 12, none⟩ = some (.int .i64 x0) := by rw [Lib.cell_of_heap hx0]; rfl
  have y13 : W0.cell? ⟨w.heap.size, 13, none⟩ = some (.int .i64 x1) := by rw [Lib.cell_of_heap hx0]; rfl
  have y14 : W0.cell? ⟨w.heap.size, 14, none⟩ = some (.int .i64 x2) := by rw [Lib.cell_of_heap hx0]; rfl
  have y15 : W0.cell? ⟨w.heap.size, 15, none⟩ = some (.int .i64 x3) := by rw [Lib.cell_of_heap hx0]; rfl
  have y16 : W0.cell? ⟨w.heap.size, 16, none⟩ = some (.int .i64 x4) := by rw [Lib.cell_of_heap hx0]; rfl
  have y17 : W0.cell? ⟨w.heap.size, 17, none⟩ = some (.int .i64 x5) := by rw [Lib.cell_of_heap hx0]; rfl
  have KF := hide (unhide HF W0 hbx)
  clear HF hx0
  go_wp2_with fail
  refine (unhide KF).mono ?_
  rintro e W1 ⟨rfl, bs', ents', h1, h2, h3⟩
  have HR := hide (And.intro h1 (And.intro h2 h3))
  clear h1 h2 h3 KF y0 y1 y2 y3 y4 y5 y6 y7 y8 y9 y10 y11 y12 y13 y14 y15 y16 y17
  go_wp2
  obtain ⟨h1, h2, h3⟩ := unhide HR
  exact bodyPost_ret (v := .bool true) (by simp [results, Tryz.results12, go_sem]) rfl ⟨rfl, bs', ents', h1, h2, h3⟩
theorem step_frames (B wb : Nat) (hs ss fs ls is bs : Value) (ents : List Value) (o : OpV) (w : World) (hk : o.kind = 10 ∨ o.kind = 11) (hok : OpOk w o) (hC : Ctl w) (hBk : BookB B w wb hs ss fs ls is bs ents) (hB0 : 0 < B) (hB : B ≤ w.heap.size) (hN : ents.length ≤ 1099511627776) :
    Calls Tryz.prog 12 #[.pointer (some ⟨wb, 0, none⟩), opV o] w fun e w' => e = .returned (.bool true) ∧ ∃ bs' ents', BookB B w' wb hs ss fs ls is bs' ents' ∧ ents'.length = ents.length + 4 ∧ Below B w w' := by
  rcases hk with hk | hk
  · exact step_frames10 B wb hs ss fs ls is bs ents o w hk hok hC hBk hB0 hB hN
  · exact step_frames11 B wb hs ss fs ls is bs ents o w hk hok hC hBk hB0 hB hN
end Go.Proofs.YtkalonhalhdlaaaGreatDoor
