import Derived.Test.YtkalonhalhdlaaaGreatDoorVEars
import Derived.Test.YtkalonhalhdlaaaGreatDoorRFramed
import Derived.Test.YtkalonhalhdlaaaGreatDoorVMath
import Derived.Test.YtkalonhalhdlaaaGreatDoorLConv
import Derived.Maps.AppendAt
/-
  What one call of the law's plain does: Sum.
-/
namespace Go.Proofs.YtkalonhalhdlaaaGreatDoor
open Go.RowKit

theorem sum_nil (cap : Nat) (w : World) :
    Calls Tryz.prog 25 #[.slice none 0 cap] w fun e w' => e = .returned (.int .i64 (sumL [])) ∧ w' = w := by
  have h0 := not_sum 65535 (by omega)
  have hs : sumL [] = 0 := by decide
  rw [hs]
  go_enter Tryz.func25, Tryz.ntmps25
  go_wp2
  go_loop [3, 9] (fun s i => s = .int .u16 65535 ∧ i = .int .i64 0) (fun _ _ => 0)
  case atStart => exact ⟨rfl, rfl⟩
  case round =>
    obtain ⟨rfl, rfl⟩ := hrel
    go_wp2
    go_ret
    exact ⟨congrArg (fun n => Ending.returned (.int .i64 n)) (h0.trans (by decide)), rfl⟩
theorem sum_src {w : World} {p : Option Addr} {l : List UInt8} (h : SrcIs w p l) (cap : Nat) (hl : l.length ≤ maxLen) :
    Calls Tryz.prog 25 #[.slice p l.length cap] w fun e w' => e = .returned (.int .i64 (sumL l)) ∧ w' = w := by
  rcases h with ⟨rfl, rfl⟩ | ⟨b, off, rfl, _, hs⟩
  · exact sum_nil cap w
  · exact sum_any b off cap l w hl hs

/-- A step in memory, cell by cell. -/
theorem op_cell {w : World} {nB : Nat} {o : OpV} (h : w.heap[nB]? = some (.cells (opCells o).toArray 34 (0, 0))) (j : Nat) (v : Value) (hj : (opCells o)[j]? = some v) : w.cell? ⟨nB, j, none⟩ = some v := by
  rw [Lib.cell_of_heap h, List.getElem?_toArray]
  exact hj

set_option maxHeartbeats 8000000 in
set_option maxRecDepth 1000000 in
theorem plain_sum {B wb M : Nat} {ss : Value} {x : Lw} {w : World} {o : OpV} (h : LwAt B w wb ss x) (hsm : x.small M) (hB : B ≤ w.heap.size) (hk : o.kind = 1) (hlv : ∃ lp ln lc, o.lv = .slice lp ln lc) (hs : o.s.size ≤ 1048576) :
    Calls Tryz.prog 14 #[.pointer (some ⟨wb, 0, none⟩), opV o] w fun e w' => e = .returned (.bool true) ∧ Lft B wb ss (M + 1) w w' := by
  have HE : Hid (∀ w', Below w.heap.size w w' → Lft B wb ss (M + 1) w w') := fun w' hb => ⟨x, h.later hb, hsm.mono (by omega), hb.mono hB⟩
  obtain ⟨lp, ln, lc, hlv⟩ := hlv
  obtain ⟨kind, a, b, d, s, lv, ⟨fa, fk, fp, fns, fnr, info⟩, fq, fc, x0, x1, x2, x3, x4, x5⟩ := o
  simp only at hlv hk hs
  subst hlv hk
  unfold opV
  simp only
  clear h hsm
  have hA0 := alloc1_a w (.cells #[.int .i64 1, .int .i64 a, .int .i64 b, .int .i64 d, .string s, .slice lp ln lc, .int .i64 fa, .int .i64 fk, .bool fp, .int .i64 fns, .int .i64 fnr, .slice fq info.length fc, .int .i64 x0, .int .i64 x1, .int .i64 x2, .int .i64 x3, .int .i64 x4, .int .i64 x5] 34)
  have hbA := (Below.refl w.heap.size w).alloc (Nat.le_refl _) (.cells #[.int .i64 1, .int .i64 a, .int .i64 b, .int .i64 d, .string s, .slice lp ln lc, .int .i64 fa, .int .i64 fk, .bool fp, .int .i64 fns, .int .i64 fnr, .slice fq info.length fc, .int .i64 x0, .int .i64 x1, .int .i64 x2, .int .i64 x3, .int .i64 x4, .int .i64 x5] 34)
  have hzA := alloc1_s w (.cells #[.int .i64 1, .int .i64 a, .int .i64 b, .int .i64 d, .string s, .slice lp ln lc, .int .i64 fa, .int .i64 fk, .bool fp, .int .i64 fns, .int .i64 fnr, .slice fq info.length fc, .int .i64 x0, .int .i64 x1, .int .i64 x2, .int .i64 x3, .int .i64 x4, .int .i64 x5] 34)
  go_enter Tryz.func14, Tryz.ntmps14
  go_upto_region 1 with fail
  generalize hWA : w.alloc (.cells #[.int .i64 1, .int .i64 a, .int .i64 b, .int .i64 d, .string s, .slice lp ln lc, .int .i64 fa, .int .i64 fk, .bool fp, .int .i64 fns, .int .i64 fnr, .slice fq info.length fc, .int .i64 x0, .int .i64 x1, .int .i64 x2, .int .i64 x3, .int .i64 x4, .int .i64 x5] 34) = WA at *
  clear hWA
  generalize hnB : w.heap.size = nB at *
  have y0 : WA.cell? ⟨nB, 0, none⟩ = some (.int .i64 1) := by rw [Lib.cell_of_heap hA0]; rfl
  have y1 : WA.cell? ⟨nB, 1, none⟩ = some (.int .i64 a) := by rw [Lib.cell_of_heap hA0]; rfl
  have y4 : WA.cell? ⟨nB, 4, none⟩ = some (.string s) := by rw [Lib.cell_of_heap hA0]; rfl
  have KL := hide (lent_any s a WA (by omega))
  go_wp2_with fail
  refine (unhide KL).mono ?_
  rintro e W1 ⟨p, c, rfl, hl, hb1⟩
  have hz1 := hb1.size
  have hA1 := (hb1.block nB (by omega)).trans hA0
  have hsl : s.data.toList.length = s.size := by simp
  have ks := sum_src hl.src c (by unfold maxLen; omega)
  rw [hsl] at ks
  have KS := hide ks
  clear KL ks y0 y1 y4 hA0
  go_wp2_with fail
  refine (unhide KS).mono ?_
  rintro e W2 ⟨rfl, rfl⟩
  have y4 : W2.cell? ⟨nB, 4, none⟩ = some (.string s) := by rw [Lib.cell_of_heap hA1]; rfl
  have KW := hide (whole_any hl (by omega))
  clear KS
  go_wp2_with fail
  refine (unhide KW).mono ?_
  rintro e W3 ⟨rfl, hk3, hk4⟩
  have hb3 : Below nB w W3 := (hbA.trans (hb1.mono (by omega))).trans (keeps_below hk3 (fun k hk => by have := (hk4 k hk).1; omega) (by omega))
  have hA3 := (hk3.block nB (by omega) (fun hk => by have := (hk4 nB hk).1; omega)).trans hA1
  have z4 : W3.cell? ⟨nB, 4, none⟩ = some (.string s) := by rw [Lib.cell_of_heap hA3]; rfl
  have hcv := conv_bytes W3 s
  have hb4 := bytesWorld_below W3 s
  have hsg := bytesWorld_seg2 W3 s
  generalize Lib.bytesWorld W3 5 s = W4 at *
  have kr := refSum_any W3.heap.size 0 (grownCap W3 s.size 0 5) s.data.toList W4 (by unfold maxLen; omega) hsg
  rw [hsl] at kr
  have KR := hide kr
  have HEND := hide (unhide HE W4 (hb3.trans (hb4.mono (by have := hb3.size; omega))))
  clear KW hk3 hk4 hb3 hA1 hA3 hl hsg hb4 hb1 hbA y4 kr HE
  go_wp2_with fail
  refine (unhide KR).mono ?_
  rintro e W5 ⟨rfl, rfl⟩
  clear KR
  go_wp2
  go_ret
  exact ⟨rfl, unhide HEND⟩
end Go.Proofs.YtkalonhalhdlaaaGreatDoor

/-
  What one call of the law's plain does: NewHunter.
-/
namespace Go.Proofs.YtkalonhalhdlaaaGreatDoor
open Go.RowKit

def newEar (hb rb : Nat) : Ear := ⟨hb, fresh, rb, ⟨false, 0, []⟩, 0, .slice none 0 0⟩
theorem hunter_end {B wb hb rb N : Nat} {ss hs' : Value} {x : Lw} {W y : World} (h : LwAt B W wb ss x) (hH : HunterAt W hb fresh) (hR : RHead W rb false 0 (.slice none 0 0)) (h1 : ∀ e ∈ x.es, ¬ e.blk hb) (h2 : ∀ e ∈ x.es, ¬ e.blk rb) (hlo1 : B ≤ hb) (hlo2 : B ≤ rb)
    (hown : y.ownsRow 0 51 2 hs' (x.es.length + 1) (earCells x.es ++ earCells [newEar hb rb])) (hg : W.grownBy y x.hs.ownBlock) (hb' : hs'.ownBlock = x.hs.ownBlock ∨ hs'.ownBlock = some N) (hN : B ≤ N) (hB : B ≤ W.heap.size) :
    LwAt B (y.setCell ⟨wb, 0, none⟩ hs') wb ss ⟨hs', x.es ++ [newEar hb rb], x.b⟩ ∧ Below B W (y.setCell ⟨wb, 0, none⟩ hs') := by
  have hG := Keeps.grown hg
  have hnot : ∀ {k : Nat} {c : Array Value} {t : TypeId} {fz : Nat × Nat}, W.heap[k]? = some (.cells c t fz) → t ≠ 51 → ¬ some k = x.hs.ownBlock := by
    intro k c t fz hc ht hk
    obtain ⟨c2, hc2⟩ := ownsRow_isRow h.row hk.symm
    rw [hc] at hc2
    simp only [Option.some.injEq, Obj.cells.injEq] at hc2
    exact ht hc2.2.1
  have hbk : BkAt y wb x.hs ss x.b := h.bk.turned hG (hnot h.bk.head (by decide)) (fun k hk => by
    obtain ⟨c, t, hc, ht⟩ := h.bk.ty hk
    refine hnot hc (fun e => ?_)
    subst e
    revert ht
    unfold bkTy
    decide)
  have kS : Keeps (· = wb) y (y.setCell ⟨wb, 0, none⟩ hs') := (Keeps.refl _ y).setB _ _
  have hwn : ∀ {k : Nat} {c : Array Value} {t : TypeId} {fz : Nat × Nat}, y.heap[k]? = some (.cells c t fz) → t ≠ 45 → ¬ k = wb := by
    intro k c t fz hc ht hk
    have h3 := hbk.head
    unfold WAt at h3
    rw [hk, h3] at hc
    simp only [Option.some.injEq, Obj.cells.injEq] at hc
    exact ht hc.2.1.symm
  have hE0 : EarAt W (newEar hb rb) := ⟨hH, fresh_ok, hR, World.ownsRow_nil _ _ _ _, rfl, ⟨by show 0 ≤ 7; omega, fun _ => rfl, fun e => (by cases e)⟩, ⟨rfl, rfl, (by show 0 ≤ 7; omega), (by simp [newEar, fresh]), fun e => (by cases e), fun _ => rfl⟩⟩
  have hturn : ∀ e, EarAt W e → EarAt (y.setCell ⟨wb, 0, none⟩ hs') e := by
    intro e he
    have he2 : EarAt y e := he.turned hG (fun k hk => by
      obtain ⟨c, t, hc, ht⟩ := he.ty hk
      refine hnot hc (fun e => ?_)
      subst e
      revert ht
      unfold earTy
      decide)
    refine he2.turned kS (fun k hk => ?_)
    obtain ⟨c, t, hc, ht⟩ := he2.ty hk
    refine hwn hc (fun e => ?_)
    subst e
    revert ht
    unfold earTy
    decide
  have hhs : ∀ k, hs'.ownBlock = some k → B ≤ k := by
    intro k hk
    rcases hb' with e | e
    · exact h.loH k (e ▸ hk)
    · exact (Option.some.inj (e.symm.trans hk)) ▸ hN
  refine ⟨⟨hbk.heads kS (by have := hbk.head.set 0 hs'; exact this), ?_, ?_, ?_, h.lo, hhs, h.loB, ?_⟩, ?_⟩
  · show World.ownsRow _ 0 _ 2 hs' (x.es ++ [newEar hb rb]).length (earCells (x.es ++ [newEar hb rb]))
    rw [earCells_append, List.length_append]
    refine ownsRow_keepsB hown kS (fun k hk => ?_)
    obtain ⟨c, hc⟩ := ownsRow_isRow hown hk
    exact hwn hc (by decide)
  · intro e he
    rcases List.mem_append.1 he with he | he
    · exact hturn e (h.ears e he)
    · simp at he
      subst he
      exact hturn _ hE0
  · refine List.pairwise_append.2 ⟨h.apart, List.pairwise_singleton _ _, ?_⟩
    intro e he f hf k hk hk2
    simp at hf
    subst hf
    rcases hk2 with rfl | rfl | hk2
    · exact h1 e he hk
    · exact h2 e he hk
    · cases hk2
  · intro e he k hk
    rcases List.mem_append.1 he with he | he
    · exact h.loE e he k hk
    · simp at he
      subst he
      rcases hk with rfl | rfl | hk
      · exact hlo1
      · exact hlo2
      · cases hk
  · exact (keeps_below hG (fun k hk => h.loH k hk.symm) hB).trans (keeps_below kS (fun k hk => hk ▸ h.lo) (Nat.le_trans hB hG.size))

theorem hunter_head {B wb : Nat} {ss : Value} {x : Lw} {W y : World} (h : LwAt B W wb ss x) (hg : W.grownBy y x.hs.ownBlock) : WAt y wb #[x.hs, ss, x.b.bs, x.b.fs, x.b.ls, x.b.is] := by
  refine h.bk.head.keeps (Keeps.grown hg) (fun hk => ?_)
  obtain ⟨c2, hc2⟩ := ownsRow_isRow h.row hk.symm
  have h3 := h.bk.head
  unfold WAt at h3
  rw [hc2] at h3
  simp at h3
theorem infoEar : (Tryz.prog.info? 51).map (fun i => (i.zero, i.size, i.bytes)) = some (some (.agg #[.pointer none, .pointer none]), 2, 16) := by kernel_rfl
theorem zeroRef (w : World) : (zeroValue 72).run Tryz.prog w = .ok (.agg #[.bool false, .int .i64 0, .slice none 0 0]) w := by kernel_rfl

set_option maxHeartbeats 8000000 in
set_option maxRecDepth 1000000 in
theorem plain_hunter {B wb M : Nat} {ss : Value} {x : Lw} {w : World} {o : OpV} (h : LwAt B w wb ss x) (hsm : x.small M) (hM : M ≤ 200000000000) (hB : B ≤ w.heap.size) (hk : o.kind = 3) (hlv : ∃ lp ln lc, o.lv = .slice lp ln lc) :
    Calls Tryz.prog 14 #[.pointer (some ⟨wb, 0, none⟩), opV o] w fun e w' => e = .returned (.bool true) ∧ Lft B wb ss (M + 1) w w' := by
  obtain ⟨lp, ln, lc, hlv⟩ := hlv
  obtain ⟨kind, a, b, d, s, lv, ⟨fa, fk, fp, fns, fnr, info⟩, fq, fc, x0, x1, x2, x3, x4, x5⟩ := o
  simp only at hlv hk
  subst hlv hk
  unfold opV
  simp only
  obtain ⟨i0, hi, hy0, hy1, hy2⟩ := info_parts infoEar
  have hzr := zeroRef
  have HX := hide h
  have hes := hsm.es
  have HSM := hide hsm
  clear h hsm
  have hA0 := alloc1_a w (.cells #[.int .i64 3, .int .i64 a, .int .i64 b, .int .i64 d, .string s, .slice lp ln lc, .int .i64 fa, .int .i64 fk, .bool fp, .int .i64 fns, .int .i64 fnr, .slice fq info.length fc, .int .i64 x0, .int .i64 x1, .int .i64 x2, .int .i64 x3, .int .i64 x4, .int .i64 x5] 34)
  have hbA := (Below.refl w.heap.size w).alloc (Nat.le_refl _) (.cells #[.int .i64 3, .int .i64 a, .int .i64 b, .int .i64 d, .string s, .slice lp ln lc, .int .i64 fa, .int .i64 fk, .bool fp, .int .i64 fns, .int .i64 fnr, .slice fq info.length fc, .int .i64 x0, .int .i64 x1, .int .i64 x2, .int .i64 x3, .int .i64 x4, .int .i64 x5] 34)
  have hzA := alloc1_s w (.cells #[.int .i64 3, .int .i64 a, .int .i64 b, .int .i64 d, .string s, .slice lp ln lc, .int .i64 fa, .int .i64 fk, .bool fp, .int .i64 fns, .int .i64 fnr, .slice fq info.length fc, .int .i64 x0, .int .i64 x1, .int .i64 x2, .int .i64 x3, .int .i64 x4, .int .i64 x5] 34)
  go_enter Tryz.func14, Tryz.ntmps14
  go_upto_region 1 with fail
  generalize hWA : w.alloc (.cells #[.int .i64 3, .int .i64 a, .int .i64 b, .int .i64 d, .string s, .slice lp ln lc, .int .i64 fa, .int .i64 fk, .bool fp, .int .i64 fns, .int .i64 fnr, .slice fq info.length fc, .int .i64 x0, .int .i64 x1, .int .i64 x2, .int .i64 x3, .int .i64 x4, .int .i64 x5] 34) = WA at *
  clear hWA
  generalize hnB : w.heap.size = nB at *
  have y0 : WA.cell? ⟨nB, 0, none⟩ = some (.int .i64 3) := by rw [Lib.cell_of_heap hA0]; rfl
  generalize hnA : WA.heap.size = nA at *
  have hlA : nB < nA := by omega
  have kl := newHunter_any WA
  rw [hnA] at kl
  have KL := hide kl
  clear kl hzA
  go_wp2_with fail
  refine (unhide KL).mono ?_
  rintro e W1 ⟨rfl, hH, hb1⟩
  have hz1 := hb1.size
  rw [hnA] at hz1
  have hlt1 := hH.lt
  have hb01 : Below nB w W1 := hbA.trans (hb1.mono (by omega))
  have hX1 := (unhide HX).later (w' := W1) (by rw [hnB]; exact hb01)
  have d0 := hX1.bk.head.cell 0 _ rfl
  -- the world as the append finds it
  have hbR := (Below.refl W1.heap.size W1).alloc (Nat.le_refl _) (.cells #[.bool false, .int .i64 0, .slice none 0 0] 72)
  have hR1 := alloc1_a W1 (.cells #[.bool false, .int .i64 0, .slice none 0 0] 72)
  have hzR := alloc1_s W1 (.cells #[.bool false, .int .i64 0, .slice none 0 0] 72)
  have hbE := hbR.alloc (by rw [hzR]; omega) (.cells #[.pointer (some ⟨nA, 0, none⟩), .pointer (some ⟨W1.heap.size, 0, none⟩)] 51)
  have hX2 := hX1.later hbE
  have hH2 : HunterAt ((W1.alloc (.cells #[.bool false, .int .i64 0, .slice none 0 0] 72)).alloc (.cells #[.pointer (some ⟨nA, 0, none⟩), .pointer (some ⟨W1.heap.size, 0, none⟩)] 51)) nA fresh := (hbE.block _ hlt1).trans hH
  have hR2 : RHead ((W1.alloc (.cells #[.bool false, .int .i64 0, .slice none 0 0] 72)).alloc (.cells #[.pointer (some ⟨nA, 0, none⟩), .pointer (some ⟨W1.heap.size, 0, none⟩)] 51)) W1.heap.size false 0 (.slice none 0 0) := by
    have q := (Below.refl (W1.alloc (.cells #[.bool false, .int .i64 0, .slice none 0 0] 72)).heap.size (W1.alloc (.cells #[.bool false, .int .i64 0, .slice none 0 0] 72))).alloc (Nat.le_refl _) (.cells #[.pointer (some ⟨nA, 0, none⟩), .pointer (some ⟨W1.heap.size, 0, none⟩)] 51)
    exact (q.block _ (by rw [hzR]; omega)).trans hR1
  have hzE := alloc1_s (W1.alloc (.cells #[.bool false, .int .i64 0, .slice none 0 0] 72)) (.cells #[.pointer (some ⟨nA, 0, none⟩), .pointer (some ⟨W1.heap.size, 0, none⟩)] 51)
  have HX2 := hide hX2
  have HH2 := hide hH2
  have HR2 := hide hR2
  have hlts : ∀ e ∈ x.es, ∀ k, e.blk k → k < nB := fun e he k hk => hnB ▸ ((unhide HX).ears e he).lt hk
  have HLT := hide hlts
  have HB01 := hide hb01
  have HBE := hide hbE
  obtain ⟨hp, hc, hhs, _⟩ := ownsRow_slice hX1.row
  rw [hhs] at d0
  have hrw := hX2.row
  rw [hhs] at hrw
  have HROW := hide hrw
  clear hrw hX1 hX2 hH2 hR2 hlts hb01 hbE KL y0 hA0 hbA hb1 hH hbR hR1
  go_wp2_with (at_builtin; go_loud (refine wpList_append_own_at _ rfl _ _ 36 rfl 0 51 i0 _ 2 16 Tryz.underlying36 hi hy0 hy1 hy2 rfl (by decide) _ _ _ rfl (unhide HROW) ⟨W1.heap.size + 1, 0, none⟩ 1 1 (earCells [newEar nA W1.heap.size]) rfl rfl ?p0c1 ?p0c2 ?p0c3 ?p0c4 ?p0c5 ?_))
  case p0c1 => first | (have q := newsL (W1.alloc (.cells #[.bool false, .int .i64 0, .slice none 0 0] 72)) (earCells [newEar nA W1.heap.size]) 51; rw [hzR] at q; exact q) | exact fun j u hj => hj
  case p0c2 => intro u hu; simp [earCells, newEar] at hu; rcases hu with rfl | rfl <;> rfl
  case p0c3 => unfold maxLen; omega
  case p0c4 => omega
  case p0c5 => exact Nat.zero_le _
  intro b0 y hown hg _ hb0
  obtain ⟨bp, bc, rfl, _⟩ := ownsRow_slice hown
  have hg2 : World.grownBy ((W1.alloc (.cells #[.bool false, .int .i64 0, .slice none 0 0] 72)).alloc (.cells #[.pointer (some ⟨nA, 0, none⟩), .pointer (some ⟨W1.heap.size, 0, none⟩)] 51)) y x.hs.ownBlock := by rw [hhs]; exact hg
  have hb2 : (Value.slice bp (x.es.length + 1) bc).ownBlock = x.hs.ownBlock ∨ (Value.slice bp (x.es.length + 1) bc).ownBlock = some (W1.heap.size + 1 + 1) := by rw [hhs]; exact hb0
  obtain ⟨q1, q2⟩ := hunter_end (unhide HX2) (unhide HH2) (unhide HR2) (fun e he hk => by have := unhide HLT e he _ hk; omega) (fun e he hk => by have := unhide HLT e he _ hk; omega) (by omega) (by omega) hown hg2 hb2 (by omega) (by rw [hzE, hzR]; omega)
  have hd := hunter_head (unhide HX2) hg2
  have d1 := hd.cell 0 _ rfl
  have f1 := hd.fz
  have HE : Hid (Lft B wb ss (M + 1) w (y.setCell ⟨wb, 0, none⟩ (.slice bp (x.es.length + 1) bc))) := by
    refine ⟨_, q1, ?_, ((unhide HB01).mono hB).trans (((unhide HBE).mono (by omega)).trans q2)⟩
    have hs := unhide HSM
    refine ⟨by simp; omega, by have := hs.eb; show x.b.eb.length ≤ _; omega, by have := hs.ef; show x.b.ef.length ≤ _; omega, by have := hs.el; show x.b.el.length ≤ _; omega, by have := hs.ei; show x.b.ei.length ≤ _; omega, ?_⟩
    intro e he
    rcases List.mem_append.1 he with he | he
    · have := hs.ears e he
      omega
    · simp at he
      subst he
      exact ⟨Nat.zero_le _, Nat.zero_le _⟩
  clear q1 q2 hd hown hg hg2 hb0 hb2 HX2 HH2 HR2 HROW HB01 HBE HLT HSM HX d0
  go_wp2
  go_ret
  exact ⟨rfl, unhide HE⟩
end Go.Proofs.YtkalonhalhdlaaaGreatDoor
