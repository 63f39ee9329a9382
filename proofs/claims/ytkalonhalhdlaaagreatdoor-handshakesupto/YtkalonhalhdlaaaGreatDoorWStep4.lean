/-
  The law's step at the stations' kinds.
-/
import Derived.Test.YtkalonhalhdlaaaGreatDoorG31
import Derived.Test.YtkalonhalhdlaaaGreatDoorG29
namespace Go.Proofs.YtkalonhalhdlaaaGreatDoor
open Go.RowKit
set_option maxHeartbeats 8000000 in
set_option maxRecDepth 1000000 in
theorem step_30 {B : Nat} {w : World} {wb : Nat} {own : Nat → Nat} {ss : Value} {x : Lw} {ps : List Post} {Q : World → World → Prop} (h : GwAt B w wb own ss x ps) (hnp : 0 < ps.length) (hps : ps.length ≤ 200000000000) (o : OpV) (hlv : ∃ lp ln lc, o.lv = .slice lp ln lc) (hk : o.kind = 30) (hoa : -9223372036854775808 ≤ o.a ∧ o.a ≤ 9223372036854775807)
    (hcall : ∀ r (hr : r < ps.length) V, Below w.heap.size w V → Calls Tryz.prog 20 #[.pointer (some ⟨wb, 0, none⟩), postV ps[r], opV o] V fun e w' => e = .returned (.bool true) ∧ Q V w') :
    Calls Tryz.prog 12 #[.pointer (some ⟨wb, 0, none⟩), opV o] w fun e w' => e = .returned (.bool true) ∧ ∃ V, Below w.heap.size w V ∧ Q V w' := by
  obtain ⟨lp, ln, lc, hlv⟩ := hlv
  obtain ⟨kind, a, b, d, s, lv, ⟨fa, fk, fp, fns, fnr, info⟩, fq, fc, x0, x1, x2, x3, x4, x5⟩ := o
  simp only at hlv hk hoa
  subst hlv hk
  obtain ⟨r, hr, hpick⟩ := pick_exact a ps.length hoa hnp hps
  have hc := hcall r hr
  clear hcall
  obtain ⟨sp, scap, hss, hsg⟩ := ownsRow_slice h.row
  obtain ⟨g, rfl⟩ := hsg hnp
  obtain ⟨W0, hW0⟩ : ∃ W0, w.alloc (.cells #[.int .i64 30, .int .i64 a, .int .i64 b, .int .i64 d, .string s, .slice lp ln lc, .int .i64 fa, .int .i64 fk, .bool fp, .int .i64 fns, .int .i64 fnr, .slice fq info.length fc, .int .i64 x0, .int .i64 x1, .int .i64 x2, .int .i64 x3, .int .i64 x4, .int .i64 x5] 34) = W0 := ⟨_, rfl⟩
  have hz0 : W0.heap.size = w.heap.size + 1 := by rw [← hW0, alloc1_s]
  have hb0 : Below w.heap.size w W0 := by rw [← hW0]; exact (Below.refl _ w).alloc (Nat.le_refl _) _
  have hox : W0.heap[w.heap.size]? = some (.cells #[.int .i64 30, .int .i64 a, .int .i64 b, .int .i64 d, .string s, .slice lp ln lc, .int .i64 fa, .int .i64 fk, .bool fp, .int .i64 fns, .int .i64 fnr, .slice fq info.length fc, .int .i64 x0, .int .i64 x1, .int .i64 x2, .int .i64 x3, .int .i64 x4, .int .i64 x5] 34) := by rw [← hW0]; exact alloc1_a w _
  have h0 := h.later hb0
  have e0 := postCells_get ps r hr
  have yc0 := World.ownsRow.cells h0.row (g := g) (by rw [hss]; rfl) (r * 2) _ e0.1
  have yc1 := World.ownsRow.cells h0.row (g := g) (by rw [hss]; rfl) (r * 2 + 1) _ e0.2
  rw [Go.WideShapes.add_plain, Nat.zero_add] at yc0 yc1
  have d1 := h0.lw.bk.head.cell 1 _ rfl
  rw [hss] at d1
  have o0 : W0.cell? ⟨w.heap.size, 0, none⟩ = some (.int .i64 30) := by rw [Lib.cell_of_heap hox]; rfl
  have o1 : W0.cell? ⟨w.heap.size, 1, none⟩ = some (.int .i64 a) := by rw [Lib.cell_of_heap hox]; rfl
  unfold postV at hc
  try simp only [opV] at hc
  generalize ps[r] = y at *
  have hnI : 0 < (ps.length : Int) := by omega
  have hn0 : ((ps.length : Int) == 0) = false := beq_false_of_ne (by omega)
  have hrI : (r : Int) < (ps.length : Int) := by omega
  have HP := hide hpick
  have HC := hide hc
  have H0 := hide h0
  have HB0 := hide (And.intro hb0 hox)
  unfold opV
  simp only
  have hwl : wb < W0.heap.size := (h0.below (.inl (.inl rfl))).2
  have hgl : g < W0.heap.size := (h0.below (k := g) (.inr (.inr (by rw [hss]; rfl)))).2
  clear h h0 hpick hb0 hox e0 hc
  go_enter Tryz.func12, Tryz.ntmps12
  generalize hnB : w.heap.size = nB at *
  go_upto_region 11 with fail
  try rw [hW0]
  clear hW0
  have hS0 : W0.cell? ⟨wb, 1, none⟩ = some (.slice (some ⟨g, 0, none⟩) ps.length scap) ∧ W0.cell? ⟨nB, 1, none⟩ = some (.int .i64 a) ∧ W0.cell? ⟨g, r * 2, none⟩ = some (.pointer (some ⟨y.pb, 0, none⟩)) ∧ W0.cell? ⟨g, r * 2 + 1, none⟩ = some (.pointer (some ⟨y.rb, 0, none⟩)) := ⟨d1, o1, yc0, yc1⟩
  have HSA : Hid (∀ o, (W0.alloc o).drew.cell? ⟨wb, 1, none⟩ = some (.slice (some ⟨g, 0, none⟩) ps.length scap) ∧ (W0.alloc o).drew.cell? ⟨nB, 1, none⟩ = some (.int .i64 a) ∧ (W0.alloc o).drew.cell? ⟨g, r * 2, none⟩ = some (.pointer (some ⟨y.pb, 0, none⟩)) ∧ (W0.alloc o).drew.cell? ⟨g, r * 2 + 1, none⟩ = some (.pointer (some ⟨y.rb, 0, none⟩))) := fun o => by
    have hb := ((Below.refl W0.heap.size W0).alloc (Nat.le_refl _) o).drew
    exact ⟨(hb.cell (p := ⟨wb, 1, none⟩) hwl).trans d1, (hb.cell (p := ⟨nB, 1, none⟩) (by show nB < W0.heap.size; omega)).trans o1, (hb.cell (p := ⟨g, r * 2, none⟩) hgl).trans yc0, (hb.cell (p := ⟨g, r * 2 + 1, none⟩) hgl).trans yc1⟩
  have HS0 := hide hS0
  clear hS0
  go_cut [5] from 90 to 104 (fun z wx => ∃ bx V, z = .pointer (some ⟨bx, 0, none⟩) ∧ wx = V ∧ Below W0.heap.size W0 V ∧ W0.heap.size ≤ bx ∧ V.heap[bx]? = some (.cells #[.pointer (some ⟨y.pb, 0, none⟩), .pointer (some ⟨y.rb, 0, none⟩)] 56 (0, 0)))
  case first =>
    clear d1 o0 o1 yc0 yc1
    go_region_held3 (fun w' => w'.cell? ⟨wb, 1, none⟩ = some (.slice (some ⟨g, 0, none⟩) ps.length scap) ∧ w'.cell? ⟨nB, 1, none⟩ = some (.int .i64 a) ∧ w'.cell? ⟨g, r * 2, none⟩ = some (.pointer (some ⟨y.pb, 0, none⟩)) ∧ w'.cell? ⟨g, r * 2 + 1, none⟩ = some (.pointer (some ⟨y.rb, 0, none⟩))) (first | assumption | exact unhide HS0 | exact unhide HSA _) (first | (go_at_call 16; refine (unhide HP _).mono ?_; rintro e w5 ⟨rfl, rfl⟩) | fail)
    all_goals go_wp2_with fail
    all_goals go_meet
    all_goals exact ⟨_, _, rfl, rfl, ((Below.refl W0.heap.size W0).alloc (Nat.le_refl _) _).drew, by omega, by rw [show nB + 1 = W0.heap.size by omega]; exact alloc1_a W0 _⟩
  case rest =>
  obtain ⟨bx, V, rfl, hwV, hbV, hbxl, hbxo⟩ := hcut
  rw [hwV]
  clear hwV
  obtain ⟨hb0, hox⟩ := unhide HB0
  have hzV := hbV.size
  have hoxV := (hbV.block nB (by omega)).trans hox
  have hbw : Below nB w V := hb0.trans (hbV.mono (by omega))
  have KC := hide (unhide HC V hbw)
  have HBW := hide hbw
  have b0 : V.cell? ⟨bx, 0, none⟩ = some (.pointer (some ⟨y.pb, 0, none⟩)) := by rw [Lib.cell_of_heap hbxo]; rfl
  have b1 : V.cell? ⟨bx, 1, none⟩ = some (.pointer (some ⟨y.rb, 0, none⟩)) := by rw [Lib.cell_of_heap hbxo]; rfl
  have p0 : V.cell? ⟨nB, 0, none⟩ = some (.int .i64 30) := by rw [Lib.cell_of_heap hoxV]; rfl
  have p1 : V.cell? ⟨nB, 1, none⟩ = some (.int .i64 a) := by rw [Lib.cell_of_heap hoxV]; rfl
  have p2 : V.cell? ⟨nB, 2, none⟩ = some (.int .i64 b) := by rw [Lib.cell_of_heap hoxV]; rfl
  have p3 : V.cell? ⟨nB, 3, none⟩ = some (.int .i64 d) := by rw [Lib.cell_of_heap hoxV]; rfl
  have p4 : V.cell? ⟨nB, 4, none⟩ = some (.string s) := by rw [Lib.cell_of_heap hoxV]; rfl
  have p5 : V.cell? ⟨nB, 5, none⟩ = some (.slice lp ln lc) := by rw [Lib.cell_of_heap hoxV]; rfl
  have p6 : V.cell? ⟨nB, 6, none⟩ = some (.int .i64 fa) := by rw [Lib.cell_of_heap hoxV]; rfl
  have p7 : V.cell? ⟨nB, 7, none⟩ = some (.int .i64 fk) := by rw [Lib.cell_of_heap hoxV]; rfl
  have p8 : V.cell? ⟨nB, 8, none⟩ = some (.bool fp) := by rw [Lib.cell_of_heap hoxV]; rfl
  have p9 : V.cell? ⟨nB, 9, none⟩ = some (.int .i64 fns) := by rw [Lib.cell_of_heap hoxV]; rfl
  have p10 : V.cell? ⟨nB, 10, none⟩ = some (.int .i64 fnr) := by rw [Lib.cell_of_heap hoxV]; rfl
  have p11 : V.cell? ⟨nB, 11, none⟩ = some (.slice fq info.length fc) := by rw [Lib.cell_of_heap hoxV]; rfl
  have p12 : V.cell? ⟨nB, 12, none⟩ = some (.int .i64 x0) := by rw [Lib.cell_of_heap hoxV]; rfl
  have p13 : V.cell? ⟨nB, 13, none⟩ = some (.int .i64 x1) := by rw [Lib.cell_of_heap hoxV]; rfl
  have p14 : V.cell? ⟨nB, 14, none⟩ = some (.int .i64 x2) := by rw [Lib.cell_of_heap hoxV]; rfl
  have p15 : V.cell? ⟨nB, 15, none⟩ = some (.int .i64 x3) := by rw [Lib.cell_of_heap hoxV]; rfl
  have p16 : V.cell? ⟨nB, 16, none⟩ = some (.int .i64 x4) := by rw [Lib.cell_of_heap hoxV]; rfl
  have p17 : V.cell? ⟨nB, 17, none⟩ = some (.int .i64 x5) := by rw [Lib.cell_of_heap hoxV]; rfl
  clear hoxV hb0 hox hbxo hbV HS0 HSA d1 o0 o1 yc0 yc1 HB0 H0 HC HP hbw
  go_wp2_with fail
  refine (unhide KC).mono ?_
  rintro e w1 ⟨rfl, hq⟩
  have HQ := hide hq
  clear hq KC
  go_wp2
  go_ret
  exact ⟨rfl, V, unhide HBW, unhide HQ⟩
end Go.Proofs.YtkalonhalhdlaaaGreatDoor
