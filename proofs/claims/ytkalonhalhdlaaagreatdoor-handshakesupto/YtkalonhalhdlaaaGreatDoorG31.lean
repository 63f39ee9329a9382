import Derived.Test.YtkalonhalhdlaaaGreatDoorG29
import Derived.Test.YtkalonhalhdlaaaGreatDoorG18
import Derived.Test.YtkalonhalhdlaaaGreatDoorTNew
import Derived.Maps.AppendAt
import Derived.Test.YtkalonhalhdlaaaGreatDoorG13
import Derived.Test.YtkalonhalhdlaaaGreatDoorG08
import Derived.Test.YtkalonhalhdlaaaGreatDoorProg
import Derived.Test.YtkalonhalhdlaaaGreatDoorG04
import Derived.Test.YtkalonhalhdlaaaGreatDoorG01
import Derived.WalkKit
/-
  The law's 'made': New, both sides.
-/
namespace Go.Proofs.YtkalonhalhdlaaaGreatDoor
open Go.RowKit
theorem cfgB_ok {m win tim tri room addr : Int} (h : cfgB m win tim tri room addr = true) : ∃ c : Cfg, c.ok ∧ m = c.m ∧ win = c.win ∧ tim = c.tim ∧ tri = c.tri ∧ room = c.room ∧ addr = c.addr := by
  unfold cfgB cntB isMod isAddr at h
  simp only [Bool.and_eq_true, Bool.or_eq_true, decide_eq_true_eq] at h
  obtain ⟨h1, ⟨h2, h3⟩, h4, ⟨h5, h6⟩, ⟨h7, h8⟩, ⟨h9, h10⟩, h11⟩ := h
  exact ⟨⟨m.toNat, win.toNat, tim.toNat, tri.toNat, room.toNat, addr.toNat⟩, ⟨by simp only; omega, by simp only; omega, by simp only; omega, by simp only; omega, by simp only; omega, by simp only; omega, by simp only; omega, by simp only; omega, by simp only; omega, by simp only; omega, by simp only; omega⟩, by simp only; omega, by simp only; omega, by simp only; omega, by simp only; omega, by simp only; omega, by simp only; omega⟩
section
variable {B : Nat} {w W : World} {wb : Nat} {own own2 : Nat → Nat} {ss : Value} {x : Lw} {ps : List Post}
/-- New memory, some of it somebody's. -/
theorem GwAt.owned (h : GwAt B w wb own ss x ps) (hb : Below w.heap.size w W) (ho : ∀ k, k < w.heap.size → own2 k = own k) (hn : ∀ k, W.heap.size ≤ k → own2 k = 0) : GwAt B W wb own2 ss x ps := by
  have hpos := h.pos
  have htop := h.top
  have h0 : own2 0 = 0 := (ho 0 (by omega)).trans h.own0
  have hg := h.later hb
  refine ⟨hg.lw, hg.row, fun n p hp => (h.st n p hp).beside (X := fun _ => False) (Keeps.of hb) (fun _ hx => absurd hx id) id (fun k hk _ => ho k hk) h0 hn, fun n p hp => (h.rt n p hp).beside (X := fun _ => False) (Keeps.of hb) (fun _ hx => absurd hx id) (fun k hk _ => ho k hk) h0 hn, h.ok, fun k hk hx => ?_, h.loS, fun k hk => ?_, h0, hn, hg.ctl, h.pos, hg.top⟩
  · have hl := (h.below hx).2
    exact h.free k (by rw [← ho k hl]; exact hk) hx
  · by_cases hl : k < w.heap.size
    · exact h.lo k (by rw [← ho k hl]; exact hk)
    · omega
/-- One post more. -/
theorem made_end {N : Nat} {ss' : Value} {np : Post} {y : World} (h : GwAt B W wb own ss x ps) (hS : Stn W own (2 * ps.length) np.pb np.c np.s np.cl) (hT : Ttn W own (2 * ps.length + 1) np.rb np.c np.t np.dl) (hok : np.s.ok np.c ∧ np.t.ok np.c)
    (hown : y.ownsRow 0 56 2 ss' (ps.length + 1) (postCells ps ++ postCells [np])) (hg : W.grownBy y ss.ownBlock) (hb' : ss'.ownBlock = ss.ownBlock ∨ ss'.ownBlock = some N) (hN : W.heap.size ≤ N) :
    GwAt B (y.setCell ⟨wb, 1, none⟩ ss') wb own ss' x (ps ++ [np]) ∧ Below B W (y.setCell ⟨wb, 1, none⟩ ss') := by
  have hG := Keeps.grown hg
  have hpos := h.pos
  have htop := h.top
  have hnot : ∀ {k : Nat} {c : Array Value} {t : TypeId} {fz : Nat × Nat}, W.heap[k]? = some (.cells c t fz) → t ≠ 56 → ¬ some k = ss.ownBlock := by
    intro k c t fz hc ht hk
    obtain ⟨c2, hc2⟩ := ownsRow_isRow h.row hk.symm
    rw [hc] at hc2
    simp only [Option.some.injEq, Obj.cells.injEq] at hc2
    exact ht hc2.2.1
  have hnb : ∀ k, x.b.blk k → ¬ some k = ss.ownBlock := fun k hk => by
    obtain ⟨c, t, hc, ht⟩ := h.lw.bk.ty hk
    refine hnot hc (fun e => ?_)
    subst e
    revert ht
    unfold bkTy
    decide
  have hne : ∀ e ∈ x.es, ∀ k, e.blk k → ¬ some k = ss.ownBlock := fun e he k hk => by
    obtain ⟨c, t, hc, ht⟩ := (h.lw.ears e he).ty hk
    refine hnot hc (fun e => ?_)
    subst e
    revert ht
    unfold earTy
    decide
  have hnh : ∀ k, x.hs.ownBlock = some k → ¬ some k = ss.ownBlock := fun k hk => by
    obtain ⟨c, hc⟩ := ownsRow_isRow h.lw.row hk
    exact hnot hc (by decide)
  have hnw : ¬ some wb = ss.ownBlock := hnot h.lw.bk.head (by decide)
  have hbk : BkAt y wb x.hs ss x.b := h.lw.bk.turned hG hnw hnb
  have kS : Keeps (· = wb) y (y.setCell ⟨wb, 1, none⟩ ss') := (Keeps.refl _ y).setB _ _
  have hwn : ∀ {k : Nat} {c : Array Value} {t : TypeId} {fz : Nat × Nat}, y.heap[k]? = some (.cells c t fz) → t ≠ 45 → ¬ k = wb := by
    intro k c t fz hc ht hk
    have h3 := hbk.head
    unfold WAt at h3
    rw [hk, h3] at hc
    simp only [Option.some.injEq, Obj.cells.injEq] at hc
    exact ht hc.2.1.symm
  have kA : Keeps (fun k => k = wb ∨ some k = ss.ownBlock) W (y.setCell ⟨wb, 1, none⟩ ss') :=
    ⟨kS.os.trans hG.os, kS.tape.trans hG.tape, kS.output.trans hG.output, Nat.le_trans hG.size kS.size, fun k hk hx => (kS.block k (Nat.lt_of_lt_of_le hk hG.size) (fun e => hx (.inl e))).trans (hG.block k hk (fun e => hx (.inr e)))⟩
  have hx0 : ∀ k, (k = wb ∨ some k = ss.ownBlock) → own k = 0 ∧ B ≤ k := by
    rintro k (rfl | hk)
    · exact ⟨h.own_g (.inl (.inl rfl)), h.lw.lo⟩
    · exact ⟨h.own_g (.inr (.inr hk.symm)), h.loS k hk.symm⟩
  have hX0 : ¬ (0 = wb ∨ some 0 = ss.ownBlock) := fun e => by have := (hx0 0 e).2; omega
  have hxt : ∀ i k, (k = wb ∨ some k = ss.ownBlock) → ∀ p, p < 5 → own k ≠ tg i p := fun i k hX p _ e => tg_pos i p (e.symm.trans (hx0 k hX).1)
  have hn : ∀ k, (y.setCell ⟨wb, 1, none⟩ ss').heap.size ≤ k → own k = 0 := fun k hs => h.new0 k (Nat.le_trans kA.size hs)
  have hst : ∀ {i b : Nat} {c : Cfg} {s : St} {cl : Bool}, Stn W own i b c s cl → Stn (y.setCell ⟨wb, 1, none⟩ ss') own i b c s cl := fun hh => hh.beside kA (hxt _) hX0 (fun _ _ _ => rfl) h.own0 hn
  have hrt : ∀ {i b : Nat} {c : Cfg} {s : St} {cl : Bool}, Ttn W own i b c s cl → Ttn (y.setCell ⟨wb, 1, none⟩ ss') own i b c s cl := fun hh => hh.beside kA (hxt _) (fun _ _ _ => rfl) h.own0 hn
  have hss : ∀ k, ss'.ownBlock = some k → ss.ownBlock = some k ∨ W.heap.size ≤ k := by
    intro k hk
    rcases hb' with e | e
    · exact .inl (e ▸ hk)
    · exact .inr ((Option.some.inj (e.symm.trans hk)) ▸ hN)
  refine ⟨⟨⟨hbk.heads kS (by have := hbk.head.set 1 ss'; exact this), ?_, ?_, h.lw.apart, h.lw.lo, h.lw.loH, h.lw.loB, h.lw.loE⟩, ?_, ?_, ?_, ?_, ?_, ?_, h.lo, h.own0, hn, h.ctl.keeps kA (by omega) hX0, h.pos, Nat.le_trans htop kA.size⟩, ⟨kA.os, kA.tape, kA.output, kA.size, fun k hk => kA.block k (by omega) (fun hX => by have := (hx0 k hX).2; omega)⟩⟩
  · refine ownsRow_keepsB h.lw.row kA ?_
    rintro k hk (e | e)
    · obtain ⟨c, hc⟩ := ownsRow_isRow h.lw.row hk
      have h3 := h.lw.bk.head
      unfold WAt at h3
      rw [← e, hc] at h3
      simp at h3
    · exact hnh k hk e
  · intro e he
    refine (h.lw.ears e he).turned kA ?_
    rintro k hk (rfl | hh)
    · have hhd := h.lw.bk.head
      unfold WAt at hhd
      exact (h.lw.ears e he).not hhd (by unfold earTy; decide) hk
    · exact hne e he k hk hh
  · rw [List.length_append, postCells_append]
    refine ownsRow_keepsB hown kS (fun k hk => ?_)
    obtain ⟨c, hc⟩ := ownsRow_isRow hown hk
    exact hwn hc (by decide)
  · intro n p hp
    by_cases hl : n < ps.length
    · rw [List.getElem?_append_left hl] at hp
      exact hst (h.st n p hp)
    · rw [List.getElem?_append_right (by omega)] at hp
      have hz : n - ps.length = 0 := by
        have := (List.getElem?_eq_some_iff.1 hp).1
        simp at this
        omega
      rw [hz] at hp
      simp at hp
      subst hp
      have : n = ps.length := by omega
      subst this
      exact hst hS
  · intro n p hp
    by_cases hl : n < ps.length
    · rw [List.getElem?_append_left hl] at hp
      exact hrt (h.rt n p hp)
    · rw [List.getElem?_append_right (by omega)] at hp
      have hz : n - ps.length = 0 := by
        have := (List.getElem?_eq_some_iff.1 hp).1
        simp at this
        omega
      rw [hz] at hp
      simp at hp
      subst hp
      have : n = ps.length := by omega
      subst this
      exact hrt hT
  · intro p hp
    rcases List.mem_append.1 hp with hp | hp
    · exact h.ok p hp
    · simp at hp
      subst hp
      exact hok
  · rintro k hk (hx | hx | hx)
    · exact h.free k hk (.inl hx)
    · exact h.free k hk (.inr (.inl hx))
    · rcases hss k hx with e | e
      · exact h.free k hk (.inr (.inr e))
      · exact hk (h.new0 k e)
  · intro k hx
    rcases hss k hx with e | e
    · exact h.loS k e
    · omega
theorem post_head {y : World} (h : GwAt B W wb own ss x ps) (hg : W.grownBy y ss.ownBlock) : WAt y wb #[x.hs, ss, x.b.bs, x.b.fs, x.b.ls, x.b.is] := by
  refine h.lw.bk.head.keeps (Keeps.grown hg) (fun hk => ?_)
  obtain ⟨c2, hc2⟩ := ownsRow_isRow h.row hk.symm
  have h3 := h.lw.bk.head
  unfold WAt at h3
  rw [hc2] at h3
  simp at h3
end
theorem infoPost : (Tryz.prog.info? 56).map (fun i => (i.zero, i.size, i.bytes)) = some (some (.agg #[.pointer none, .pointer none]), 2, 16) := by kernel_rfl
/-- What 'made' leaves: one post more, or none. -/
def Made (B : Nat) (w : World) (wb : Nat) (x : Lw) (ps : List Post) (w' : World) : Prop :=
  ∃ own' ss' ps', GwAt B w' wb own' ss' x ps' ∧ (ps' = ps ∨ ∃ np : Post, ps' = ps ++ [np] ∧ np.even ∧ np.s = St.fresh ∧ np.c.ok) ∧ Below B w w'
set_option maxHeartbeats 8000000 in
set_option maxRecDepth 1000000 in
theorem made_no {B : Nat} {w : World} {wb : Nat} {own : Nat → Nat} {ss : Value} {x : Lw} {ps : List Post} (h : GwAt B w wb own ss x ps) (o : OpV) (hlv : ∃ lp ln lc, o.lv = .slice lp ln lc) (hc : cfgB o.c0 o.c1 o.c2 o.c3 o.c4 o.c5 = false) :
    Calls Tryz.prog 18 #[.pointer (some ⟨wb, 0, none⟩), opV o] w fun e w' => e = .returned (.bool true) ∧ Made B w wb x ps w' := by
  obtain ⟨lp, ln, lc, hlv⟩ := hlv
  obtain ⟨kind, a, b, d, s, lv, ⟨fa, fk, fp, fns, fnr, info⟩, fq, fc, x0, x1, x2, x3, x4, x5⟩ := o
  simp only at hlv hc
  subst hlv
  unfold opV
  simp only
  have K1 := hide (fun V => new_no x0 x1 x2 x3 x4 x5 V hc)
  have K2 := hide (fun V => tnew_no x0 x1 x2 x3 x4 x5 V hc)
  have HX := hide h
  have htop := h.top
  clear h hc
  have hA0 := alloc1_a w (.cells #[.int .i64 kind, .int .i64 a, .int .i64 b, .int .i64 d, .string s, .slice lp ln lc, .int .i64 fa, .int .i64 fk, .bool fp, .int .i64 fns, .int .i64 fnr, .slice fq info.length fc, .int .i64 x0, .int .i64 x1, .int .i64 x2, .int .i64 x3, .int .i64 x4, .int .i64 x5] 34)
  have hbA := (Below.refl w.heap.size w).alloc (Nat.le_refl _) (.cells #[.int .i64 kind, .int .i64 a, .int .i64 b, .int .i64 d, .string s, .slice lp ln lc, .int .i64 fa, .int .i64 fk, .bool fp, .int .i64 fns, .int .i64 fnr, .slice fq info.length fc, .int .i64 x0, .int .i64 x1, .int .i64 x2, .int .i64 x3, .int .i64 x4, .int .i64 x5] 34)
  have hzA := alloc1_s w (.cells #[.int .i64 kind, .int .i64 a, .int .i64 b, .int .i64 d, .string s, .slice lp ln lc, .int .i64 fa, .int .i64 fk, .bool fp, .int .i64 fns, .int .i64 fnr, .slice fq info.length fc, .int .i64 x0, .int .i64 x1, .int .i64 x2, .int .i64 x3, .int .i64 x4, .int .i64 x5] 34)
  go_enter Tryz.func18, Tryz.ntmps18
  generalize hWA : w.alloc (.cells #[.int .i64 kind, .int .i64 a, .int .i64 b, .int .i64 d, .string s, .slice lp ln lc, .int .i64 fa, .int .i64 fk, .bool fp, .int .i64 fns, .int .i64 fnr, .slice fq info.length fc, .int .i64 x0, .int .i64 x1, .int .i64 x2, .int .i64 x3, .int .i64 x4, .int .i64 x5] 34) = WA at *
  generalize hnB : w.heap.size = nB at *
  have y0 : WA.cell? ⟨nB, 12, none⟩ = some (.int .i64 x0) := by rw [Lib.cell_of_heap hA0]; rfl
  have y1 : WA.cell? ⟨nB, 13, none⟩ = some (.int .i64 x1) := by rw [Lib.cell_of_heap hA0]; rfl
  have y2 : WA.cell? ⟨nB, 14, none⟩ = some (.int .i64 x2) := by rw [Lib.cell_of_heap hA0]; rfl
  have y3 : WA.cell? ⟨nB, 15, none⟩ = some (.int .i64 x3) := by rw [Lib.cell_of_heap hA0]; rfl
  have y4 : WA.cell? ⟨nB, 16, none⟩ = some (.int .i64 x4) := by rw [Lib.cell_of_heap hA0]; rfl
  have y5 : WA.cell? ⟨nB, 17, none⟩ = some (.int .i64 x5) := by rw [Lib.cell_of_heap hA0]; rfl
  have HA := hide hA0
  have HB := hide hbA
  clear hA0 hbA
  go_wp2_with fail
  refine (unhide K1 _).mono ?_
  rintro e W1 ⟨rfl, hb1⟩
  have hz1 := hb1.size
  have hA1 := (hb1.block nB (by omega)).trans (unhide HA)
  have z0 : W1.cell? ⟨nB, 12, none⟩ = some (.int .i64 x0) := by rw [Lib.cell_of_heap hA1]; rfl
  have z1 : W1.cell? ⟨nB, 13, none⟩ = some (.int .i64 x1) := by rw [Lib.cell_of_heap hA1]; rfl
  have z2 : W1.cell? ⟨nB, 14, none⟩ = some (.int .i64 x2) := by rw [Lib.cell_of_heap hA1]; rfl
  have z3 : W1.cell? ⟨nB, 15, none⟩ = some (.int .i64 x3) := by rw [Lib.cell_of_heap hA1]; rfl
  have z4 : W1.cell? ⟨nB, 16, none⟩ = some (.int .i64 x4) := by rw [Lib.cell_of_heap hA1]; rfl
  have z5 : W1.cell? ⟨nB, 17, none⟩ = some (.int .i64 x5) := by rw [Lib.cell_of_heap hA1]; rfl
  have HB1 := hide hb1
  clear hA1 y0 y1 y2 y3 y4 y5 hb1 HA K1
  go_wp2_with fail
  refine (unhide K2 _).mono ?_
  rintro e W2 ⟨rfl, hb2⟩
  have HZ : Hid (Made B w wb x ps W2) := by
    have q : Below nB w W2 := (unhide HB).trans (((unhide HB1).mono (by omega)).trans (hb2.mono (by omega)))
    exact ⟨own, ss, ps, (unhide HX).later (by rw [hnB]; exact q), .inl rfl, q.mono (by omega)⟩
  clear hb2 z0 z1 z2 z3 z4 z5 HB HB1 K2 HX
  go_wp2
  go_ret
  exact ⟨rfl, unhide HZ⟩
set_option maxHeartbeats 8000000 in
set_option maxRecDepth 1000000 in
theorem made_yes {B : Nat} {w : World} {wb : Nat} {own : Nat → Nat} {ss : Value} {x : Lw} {ps : List Post} (h : GwAt B w wb own ss x ps) (o : OpV) (hlv : ∃ lp ln lc, o.lv = .slice lp ln lc) (hps : ps.length ≤ 200000000000) (hc : cfgB o.c0 o.c1 o.c2 o.c3 o.c4 o.c5 = true) :
    Calls Tryz.prog 18 #[.pointer (some ⟨wb, 0, none⟩), opV o] w fun e w' => e = .returned (.bool true) ∧ Made B w wb x ps w' := by
  obtain ⟨lp, ln, lc, hlv⟩ := hlv
  obtain ⟨kind, a, b, d, s, lv, ⟨fa, fk, fp, fns, fnr, info⟩, fq, fc, x0, x1, x2, x3, x4, x5⟩ := o
  simp only at hlv hc
  subst hlv
  unfold opV
  simp only
  obtain ⟨c, hcok, rfl, rfl, rfl, rfl, rfl, rfl⟩ := cfgB_ok hc
  obtain ⟨i0, hi, hy0, hy1, hy2⟩ := info_parts infoPost
  have hpos := h.pos
  have hown0 := h.own0
  have HX := hide h
  have htop := h.top
  clear h hc
  have hA0 := alloc1_a w (.cells #[.int .i64 kind, .int .i64 a, .int .i64 b, .int .i64 d, .string s, .slice lp ln lc, .int .i64 fa, .int .i64 fk, .bool fp, .int .i64 fns, .int .i64 fnr, .slice fq info.length fc, .int .i64 c.m, .int .i64 c.win, .int .i64 c.tim, .int .i64 c.tri, .int .i64 c.room, .int .i64 c.addr] 34)
  have hbA := (Below.refl w.heap.size w).alloc (Nat.le_refl _) (.cells #[.int .i64 kind, .int .i64 a, .int .i64 b, .int .i64 d, .string s, .slice lp ln lc, .int .i64 fa, .int .i64 fk, .bool fp, .int .i64 fns, .int .i64 fnr, .slice fq info.length fc, .int .i64 c.m, .int .i64 c.win, .int .i64 c.tim, .int .i64 c.tri, .int .i64 c.room, .int .i64 c.addr] 34)
  have hzA := alloc1_s w (.cells #[.int .i64 kind, .int .i64 a, .int .i64 b, .int .i64 d, .string s, .slice lp ln lc, .int .i64 fa, .int .i64 fk, .bool fp, .int .i64 fns, .int .i64 fnr, .slice fq info.length fc, .int .i64 c.m, .int .i64 c.win, .int .i64 c.tim, .int .i64 c.tri, .int .i64 c.room, .int .i64 c.addr] 34)
  go_enter Tryz.func18, Tryz.ntmps18
  generalize hWA : w.alloc (.cells #[.int .i64 kind, .int .i64 a, .int .i64 b, .int .i64 d, .string s, .slice lp ln lc, .int .i64 fa, .int .i64 fk, .bool fp, .int .i64 fns, .int .i64 fnr, .slice fq info.length fc, .int .i64 c.m, .int .i64 c.win, .int .i64 c.tim, .int .i64 c.tri, .int .i64 c.room, .int .i64 c.addr] 34) = WA at *
  generalize hnB : w.heap.size = nB at *
  have y0 : WA.cell? ⟨nB, 12, none⟩ = some (.int .i64 c.m) := by rw [Lib.cell_of_heap hA0]; rfl
  have y1 : WA.cell? ⟨nB, 13, none⟩ = some (.int .i64 c.win) := by rw [Lib.cell_of_heap hA0]; rfl
  have y2 : WA.cell? ⟨nB, 14, none⟩ = some (.int .i64 c.tim) := by rw [Lib.cell_of_heap hA0]; rfl
  have y3 : WA.cell? ⟨nB, 15, none⟩ = some (.int .i64 c.tri) := by rw [Lib.cell_of_heap hA0]; rfl
  have y4 : WA.cell? ⟨nB, 16, none⟩ = some (.int .i64 c.room) := by rw [Lib.cell_of_heap hA0]; rfl
  have y5 : WA.cell? ⟨nB, 17, none⟩ = some (.int .i64 c.addr) := by rw [Lib.cell_of_heap hA0]; rfl
  have HK1 := hide (new_yes c hcok (2 * ps.length) own WA hown0 ((unhide HX).later (by rw [hnB]; exact hbA)).ctl (by omega))
  have HA := hide hA0
  have HB := hide hbA
  clear hA0 hbA
  go_wp2_with fail
  refine (unhide HK1).mono ?_
  rintro e W1 ⟨pb, rfl, hpb, hb1, hS⟩
  have hz1 := hb1.size
  have hA1 := (hb1.block nB (by omega)).trans (unhide HA)
  have z0 : W1.cell? ⟨nB, 12, none⟩ = some (.int .i64 c.m) := by rw [Lib.cell_of_heap hA1]; rfl
  have z1 : W1.cell? ⟨nB, 13, none⟩ = some (.int .i64 c.win) := by rw [Lib.cell_of_heap hA1]; rfl
  have z2 : W1.cell? ⟨nB, 14, none⟩ = some (.int .i64 c.tim) := by rw [Lib.cell_of_heap hA1]; rfl
  have z3 : W1.cell? ⟨nB, 15, none⟩ = some (.int .i64 c.tri) := by rw [Lib.cell_of_heap hA1]; rfl
  have z4 : W1.cell? ⟨nB, 16, none⟩ = some (.int .i64 c.room) := by rw [Lib.cell_of_heap hA1]; rfl
  have z5 : W1.cell? ⟨nB, 17, none⟩ = some (.int .i64 c.addr) := by rw [Lib.cell_of_heap hA1]; rfl
  generalize hnA : WA.heap.size = nA at *
  generalize hn1 : W1.heap.size = n1 at *
  have ho1 : ∀ k, k < nA → ownNew own nA n1 (tg (2 * ps.length) 0) k = own k := fun k hk => ownNew_old hk
  obtain ⟨own1, hown1⟩ : ∃ own1, ownNew own nA n1 (tg (2 * ps.length) 0) = own1 := ⟨_, rfl⟩
  rw [hown1] at hS ho1
  have k2 := tnew_yes c hcok (2 * ps.length + 1) own1 W1 ((ho1 0 (by omega)).trans hown0) (by omega)
  rw [hn1] at k2
  have HK2 := hide k2
  have HB1 := hide hb1
  have HS := hide hS
  clear hA1 y0 y1 y2 y3 y4 y5 hb1 HA HK1 hS k2
  go_wp2_with fail
  refine (unhide HK2).mono ?_
  rintro e W2 ⟨rb, rfl, hrb, hb2, hT⟩
  have hz2 := hb2.size
  rw [hn1] at hz2
  obtain ⟨W3, hW3⟩ : ∃ W3, W2.alloc (.cells #[.pointer (some ⟨pb, 0, none⟩), .pointer (some ⟨rb, 0, none⟩)] 56) = W3 := ⟨_, rfl⟩
  have hb3 : Below W2.heap.size W2 W3 := by rw [← hW3]; exact (Below.refl _ W2).alloc (Nat.le_refl _) _
  have hz3 : W3.heap.size = W2.heap.size + 1 := by rw [← hW3]; exact alloc1_s W2 _
  have hn3 := newsL W2 (postCells [(⟨pb, rb, c, St.fresh, false, St.fresh, false⟩ : Post)]) 56
  have hn3' : ∀ j u, (postCells [(⟨pb, rb, c, St.fresh, false, St.fresh, false⟩ : Post)])[j]? = some u → W3.cell? ((⟨W2.heap.size, 0, none⟩ : Addr).add j) = some u := by rw [← hW3]; exact hn3
  generalize hn2 : W2.heap.size = n2 at *
  have ho2 : ∀ k, k < n1 → ownNew own1 n1 n2 (tg (2 * ps.length + 1) 0) k = own1 k := fun k hk => ownNew_old hk
  have hq2 : ∀ k, n2 ≤ k → ownNew own1 n1 n2 (tg (2 * ps.length + 1) 0) k = 0 := fun k hk => ownNew_0 (by omega) hk
  obtain ⟨own2, hown2⟩ : ∃ own2, ownNew own1 n1 n2 (tg (2 * ps.length + 1) 0) = own2 := ⟨_, rfl⟩
  rw [hown2] at hT ho2 hq2
  have hbw : Below nB w W3 := (unhide HB).trans (((unhide HB1).mono (by omega)).trans ((hb2.mono (by omega)).trans (hb3.mono (by omega))))
  have gw : GwAt B W3 wb own2 ss x ps := (unhide HX).owned (by rw [hnB]; exact hbw) (fun k hk => (ho2 k (by omega)).trans (ho1 k (by omega))) (fun k hk => hq2 k (by omega))
  have h20 : own2 0 = 0 := gw.own0
  have hS3 : Stn W3 own2 (2 * ps.length) pb c St.fresh false := (unhide HS).beside (X := fun _ => False) (Keeps.of (by rw [hn1]; exact hb2.trans (hb3.mono (by omega)))) (fun _ hx => absurd hx id) id (fun k hk _ => ho2 k (by omega)) h20 (fun k hk => hq2 k (by omega))
  have hT3 : Ttn W3 own2 (2 * ps.length + 1) rb c St.fresh false := hT.beside (X := fun _ => False) (Keeps.of (by rw [hn2]; exact hb3)) (fun _ hx => absurd hx id) (fun k hk _ => rfl) h20 (fun k hk => hq2 k (by omega))
  have d0 := ((unhide HX).later (w' := W2) (by rw [hnB]; exact (unhide HB).trans (((unhide HB1).mono (by omega)).trans (hb2.mono (by omega))))).lw.bk.head.cell 1 _ rfl
  obtain ⟨sp, sc, hss, _⟩ := ownsRow_slice gw.row
  subst hss
  have HROW := hide gw.row
  have HG := hide gw
  have HS3 := hide hS3
  have HT3 := hide hT3
  have HBW := hide hbw
  have d3 := gw.lw.bk.head.cell 1 _ rfl
  clear gw hS3 hT3 hbw hT hb2 hb3 HS HK2 z0 z1 z2 z3 z4 z5 hn3 HB HB1 HX
  go_wp2_with (at_builtin; go_loud (refine wpList_append_own_at _ rfl _ _ 37 rfl 0 56 i0 _ 2 16 Tryz.underlying37 hi hy0 hy1 hy2 rfl (by decide) _ _ _ rfl (unhide HROW) ⟨n2, 0, none⟩ 1 1 (postCells [(⟨pb, rb, c, St.fresh, false, St.fresh, false⟩ : Post)]) rfl rfl ?p0c1 ?p0c2 ?p0c3 ?p0c4 ?p0c5 ?_))
  case p0c1 => exact hn3'
  case p0c2 => intro u hu; simp [postCells] at hu; rcases hu with rfl | rfl <;> rfl
  case p0c3 => unfold maxLen; omega
  case p0c4 => omega
  case p0c5 => exact Nat.zero_le _
  intro b0 y hown' hg _ hb0
  obtain ⟨bp, bc, rfl, _⟩ := ownsRow_slice hown'
  have hok := st_fresh_ok hcok
  obtain ⟨q1, q2⟩ := made_end (np := ⟨pb, rb, c, St.fresh, false, St.fresh, false⟩) (unhide HG) (unhide HS3) (unhide HT3) ⟨hok, hok⟩ hown' hg hb0 (by omega)
  have hd := post_head (unhide HG) hg
  have d1 := hd.cell 1 _ rfl
  have f1 := hd.fz
  have HE : Hid (Made B w wb x ps (y.setCell ⟨wb, 1, none⟩ (.slice bp (ps.length + 1) bc))) :=
    ⟨_, _, _, q1, .inr ⟨_, rfl, ⟨rfl, rfl⟩, rfl, hcok⟩, ((unhide HBW).mono htop).trans q2⟩
  clear q1 q2 hd hown' hg hb0 HG HS3 HT3 HBW HROW d0 d3 hn3'
  go_wp2
  go_ret
  exact ⟨rfl, unhide HE⟩
end Go.Proofs.YtkalonhalhdlaaaGreatDoor

/-
  How much there is behind so many steps: a of them put more into the stations, b of them hand over what is waiting.
-/
namespace Go.Proofs.YtkalonhalhdlaaaGreatDoor
open Go
theorem sum_set : ∀ (l : List Nat) (n a b : Nat), l[n]? = some a → (l.set n b).sum + a = l.sum + b := by
  intro l
  induction l with
  | nil => intro n a b h; simp at h
  | cons x r ih =>
    intro n a b h
    cases n with
    | zero => simp at h; subst h; simp only [List.set_cons_zero, List.sum_cons]; omega
    | succ n =>
      have := ih n a b (by simpa using h)
      simp only [List.set_cons_succ, List.sum_cons]
      omega
theorem le_sum : ∀ (l : List Nat) (n : Nat), n ∈ l → n ≤ l.sum := by
  intro l
  induction l with
  | nil => intro n h; simp at h
  | cons x r ih =>
    intro n h
    simp only [List.sum_cons]
    rcases List.mem_cons.1 h with rfl | h
    · omega
    · have := ih n h
      omega
def phiSum (ps : List Post) : Nat := (ps.map fun p => Phi p.c p.s).sum
def evSum (ps : List Post) : Nat := (ps.map fun p => p.s.events.length).sum
theorem phiSum_set {ps : List Post} {n : Nat} {p : Post} (hp : ps[n]? = some p) (q : Post) : phiSum (ps.set n q) + Phi p.c p.s = phiSum ps + Phi q.c q.s := by
  unfold phiSum
  rw [List.map_set]
  exact sum_set _ _ _ _ (by rw [List.getElem?_map, hp]; rfl)
theorem evSum_set {ps : List Post} {n : Nat} {p : Post} (hp : ps[n]? = some p) (q : Post) : evSum (ps.set n q) + p.s.events.length = evSum ps + q.s.events.length := by
  unfold evSum
  rw [List.map_set]
  exact sum_set _ _ _ _ (by rw [List.getElem?_map, hp]; rfl)
theorem phi_le {ps : List Post} {p : Post} (hp : p ∈ ps) : Phi p.c p.s ≤ phiSum ps := le_sum _ _ (List.mem_map_of_mem (f := fun p : Post => Phi p.c p.s) hp)
theorem ev_le {ps : List Post} {p : Post} (hp : p ∈ ps) : p.s.events.length ≤ evSum ps := le_sum _ _ (List.mem_map_of_mem (f := fun p : Post => p.s.events.length) hp)
theorem out_le {c : Cfg} {s : St} : s.out.length ≤ Phi c s := Nat.le_trans (heft_len _) heft_out
/-- What is handed over at most. -/
def hand (a b : Nat) : Nat := 256 * (a * b) + 8 * (b * b)
theorem hand_a (a b : Nat) : hand (a + 1) b = hand a b + 256 * b := by
  have e : (a + 1) * b = a * b + b := Nat.succ_mul a b
  unfold hand
  omega
theorem hand_b (a b : Nat) : hand a (b + 1) = hand a b + 256 * a + 16 * b + 8 := by
  have e : a * (b + 1) = a * b + a := Nat.mul_succ a b
  have e1 : (b + 1) * (b + 1) = (b + 1) * b + (b + 1) := Nat.mul_succ _ _
  have e2 : (b + 1) * b = b * b + b := Nat.succ_mul b b
  unfold hand
  omega
theorem four_mul (a b : Nat) : 4 * (a * b) ≤ (a + b) * (a + b) := by
  rcases Nat.le_total a b with h | h
  · obtain ⟨d, rfl⟩ := Nat.exists_eq_add_of_le h
    have e1 : a * (a + d) = a * a + a * d := Nat.mul_add _ _ _
    have e2 : (a + (a + d)) * (a + (a + d)) = a * a + a * a + a * a + a * a + a * d + a * d + a * d + a * d + d * d := by
      simp only [Nat.mul_add, Nat.add_mul, Nat.mul_comm d a]
      omega
    rw [e1, e2]
    omega
  · obtain ⟨d, rfl⟩ := Nat.exists_eq_add_of_le h
    have e1 : (b + d) * b = b * b + b * d := by rw [Nat.add_mul, Nat.mul_comm d b]
    have e2 : (b + d + b) * (b + d + b) = b * b + b * b + b * b + b * b + b * d + b * d + b * d + b * d + d * d := by
      simp only [Nat.mul_add, Nat.add_mul, Nat.mul_comm d b]
      omega
    rw [e1, e2]
    omega
theorem hand_le {a b : Nat} (h : a + b ≤ 50000) : hand a b ≤ 180000000000 := by
  have h1 := four_mul a b
  have h2 : (a + b) * (a + b) ≤ 50000 * 50000 := Nat.mul_le_mul h h
  have h3 : b * b ≤ 50000 * 50000 := Nat.mul_le_mul (by omega) (by omega)
  unfold hand
  omega
structure Fit (a b M : Nat) (x : Lw) (ps : List Post) : Prop where
  even : ∀ p ∈ ps, p.even
  short : ∀ p ∈ ps, p.s.short
  len : ps.length ≤ a + b
  phi : phiSum ps ≤ 256 * a + 15 * b
  ev : evSum ps ≤ 2 * hand a b + 20 * (a + b)
  sm : x.small (M + hand a b + 20 * (a + b))
section
variable {a b M : Nat} {x x' : Lw} {ps : List Post} {n : Nat} {p q : Post} {c d g : Nat}
theorem small_grew {m m' : Nat} (h : x.small m) (hg : Grew x x' g 0 c d) (h1 : m + g ≤ m') (h2 : m + c ≤ m') (h3 : m + d ≤ m') : x'.small m' := by
  refine ⟨?_, ?_, ?_, ?_, ?_, ?_⟩
  · rw [hg.es]; have := h.es; omega
  · have := hg.eb; have := h.eb; omega
  · have := hg.ef; have := h.ef; omega
  · have := hg.el; have := h.el; omega
  · have := hg.ei; have := h.ei; omega
  · rw [hg.es]
    intro e he
    have := h.ears e he
    omega
theorem Grew.none : Grew x x 0 0 0 0 := ⟨rfl, rfl, by omega, by omega, by omega, by omega⟩
/-- A step that puts more into a station. -/
theorem Fit.more (h : Fit a b M x ps) (hp : ps[n]? = some p) (h1 : q.even) (h2 : q.s.short) (h3 : Phi q.c q.s ≤ Phi p.c p.s + 256) (h4 : q.s.events.length ≤ p.s.events.length + 20) (hg : Grew x x' g 0 c d) (hg1 : g ≤ 16) (hc : c ≤ 1) (hd : d ≤ 1) : Fit (a + 1) b M x' (ps.set n q) := by
  have e1 := phiSum_set hp q
  have e2 := evSum_set hp q
  have e3 := hand_a a b
  refine ⟨fun r hr => ?_, fun r hr => ?_, ?_, ?_, ?_, ?_⟩
  · rcases List.mem_or_eq_of_mem_set hr with hr | rfl
    · exact h.even r hr
    · exact h1
  · rcases List.mem_or_eq_of_mem_set hr with hr | rfl
    · exact h.short r hr
    · exact h2
  · rw [List.length_set]; have := h.len; omega
  · have := h.phi; omega
  · have := h.ev; omega
  · exact small_grew h.sm hg (by omega) (by omega) (by omega)
/-- Nothing is done. -/
theorem Fit.idle (h : Fit a b M x ps) : Fit (a + 1) b M x ps := by
  have e3 := hand_a a b
  exact ⟨h.even, h.short, by have := h.len; omega, by have := h.phi; omega, by have := h.ev; omega, h.sm.mono (by omega)⟩
/-- One post more. -/
theorem Fit.made (h : Fit a b M x ps) (h1 : q.even) (hs : q.s = St.fresh) (hc : q.c.ok) : Fit (a + 1) b M x (ps ++ [q]) := by
  have e3 := hand_a a b
  have hf := fresh_phi hc
  refine ⟨fun r hr => ?_, fun r hr => ?_, ?_, ?_, ?_, h.sm.mono (by omega)⟩
  · rcases List.mem_append.1 hr with hr | hr
    · exact h.even r hr
    · simp at hr; exact hr ▸ h1
  · rcases List.mem_append.1 hr with hr | hr
    · exact h.short r hr
    · simp at hr
      rw [hr, hs]
      exact ⟨fun m hm => by simp [St.fresh] at hm, fun m hm => by simp [St.fresh] at hm⟩
  · rw [List.length_append]; have := h.len; simp; omega
  · have e : phiSum (ps ++ [q]) = phiSum ps + Phi q.c q.s := by unfold phiSum; rw [List.map_append, List.sum_append]; simp
    rw [e, hs]
    have := h.phi; omega
  · have e : evSum (ps ++ [q]) = evSum ps + q.s.events.length := by unfold evSum; rw [List.map_append, List.sum_append]; simp
    rw [e, hs]
    have := h.ev
    show evSum ps + 0 ≤ _
    omega
/-- A step that hands over what is waiting. -/
theorem Fit.less (h : Fit a b M x ps) (hp : ps[n]? = some p) (h1 : q.even) (h2 : q.s.short) (h3 : Phi q.c q.s + g ≤ Phi p.c p.s) (h4 : q.s.events.length ≤ p.s.events.length) (hg : Grew x x' g 0 c d) (hc : c ≤ 1) (hd : d ≤ 1) : Fit a (b + 1) M x' (ps.set n q) := by
  have e1 := phiSum_set hp q
  have e2 := evSum_set hp q
  have e3 := hand_b a b
  have e4 := phi_le (mem_of_get hp)
  have e5 := h.phi
  refine ⟨fun r hr => ?_, fun r hr => ?_, ?_, ?_, ?_, ?_⟩
  · rcases List.mem_or_eq_of_mem_set hr with hr | rfl
    · exact h.even r hr
    · exact h1
  · rcases List.mem_or_eq_of_mem_set hr with hr | rfl
    · exact h.short r hr
    · exact h2
  · rw [List.length_set]; have := h.len; omega
  · omega
  · have := h.ev; omega
  · exact small_grew h.sm hg (by omega) (by omega) (by omega)
/-- What is waiting is heard by another. -/
theorem Fit.carry (h : Fit a b M x ps) (hcok : ∀ r ∈ ps, r.c.ok ∧ r.s.ok r.c) (hp : ps[n]? = some p) {ny : Nat} {y : Post} {L M' : List Msg} {s1 : St} (hs1 : s1 = if p.cl then p.s else { p.s with out := [] }) (hL : L = if p.cl then [] else p.s.out)
    (hy : (ps.set n (p.to s1))[ny]? = some y) (hsub : M'.Sublist L) (hg : Grew x x' L.length 0 1 0) : Fit a (b + 1) M x' ((ps.set n (p.to s1)).set ny (y.to (hearAll y.c y.cl y.s M'))) := by
  have hpm := mem_of_get hp
  have hLp : Phi p.c s1 + heft L ≤ Phi p.c p.s := by
    rw [hs1, hL]
    split
    · show Phi p.c p.s + 0 ≤ _
      omega
    · exact out_phi
  have hs1e : s1.events = p.s.events := by rw [hs1]; split <;> rfl
  have hs1s : s1.short := by
    rw [hs1]
    split
    · exact h.short p hpm
    · exact ⟨fun m hm => by simp at hm, (h.short p hpm).came⟩
  have hs1k : s1.ok p.c := by
    rw [hs1]
    split
    · exact (hcok p hpm).2
    · exact outS_ok (hcok p hpm).2 _
  have hall : ∀ r ∈ ps.set n (p.to s1), r.even ∧ r.s.short ∧ r.c.ok ∧ r.s.ok r.c := by
    intro r hr
    rcases List.mem_or_eq_of_mem_set hr with hr | rfl
    · exact ⟨h.even r hr, h.short r hr, hcok r hr⟩
    · exact ⟨⟨rfl, (h.even p hpm).2⟩, hs1s, (hcok p hpm).1, hs1k⟩
  obtain ⟨y1, y2, y3, y4⟩ := hall y (mem_of_get hy)
  have hg1 := hearAll_grows y.c y.cl y.s M'
  have hlen := hsub.length_le
  have hLl := heft_len L
  have e1 := phiSum_set hp (p.to s1)
  have e2 := evSum_set hp (p.to s1)
  have e1' := phiSum_set hy (y.to (hearAll y.c y.cl y.s M'))
  have e2' := evSum_set hy (y.to (hearAll y.c y.cl y.s M'))
  have q1 : Phi (p.to s1).c (p.to s1).s = Phi p.c s1 := rfl
  have q2 : (p.to s1).s.events.length = p.s.events.length := by show s1.events.length = _; rw [hs1e]
  have q3 : Phi (y.to (hearAll y.c y.cl y.s M')).c (y.to (hearAll y.c y.cl y.s M')).s ≤ Phi y.c y.s + heft M' + 15 := hearAll_phi y3 y4 y.cl M'
  have q4 : (y.to (hearAll y.c y.cl y.s M')).s.events.length ≤ y.s.events.length + 2 * M'.length := hg1.events
  have q5 := heft_sub hsub
  have e3 := hand_b a b
  have e4 := phi_le hpm
  have e5 := h.phi
  refine ⟨fun r hr => ?_, fun r hr => ?_, ?_, ?_, ?_, ?_⟩
  · rcases List.mem_or_eq_of_mem_set hr with hr | rfl
    · exact (hall r hr).1
    · exact ⟨rfl, y1.2⟩
  · rcases List.mem_or_eq_of_mem_set hr with hr | rfl
    · exact (hall r hr).2.1
    · exact y2.grown hg1 (hearAll_came _ _ _ _)
  · rw [List.length_set, List.length_set]; have := h.len; omega
  · omega
  · have := h.ev; omega
  · exact small_grew h.sm hg (by omega) (by omega) (by omega)
end
end Go.Proofs.YtkalonhalhdlaaaGreatDoor

/-
  The law's step at the stations' kinds.
-/
namespace Go.Proofs.YtkalonhalhdlaaaGreatDoor
open Go.RowKit
set_option maxHeartbeats 8000000 in
set_option maxRecDepth 1000000 in
theorem step_25 {B : Nat} {w : World} {wb : Nat} {own : Nat → Nat} {ss : Value} {x : Lw} {ps : List Post} {Q : World → World → Prop} (h : GwAt B w wb own ss x ps) (hnp : 0 < ps.length) (hps : ps.length ≤ 200000000000) (o : OpV) (hlv : ∃ lp ln lc, o.lv = .slice lp ln lc) (hk : o.kind = 25) (hoa : -9223372036854775808 ≤ o.a ∧ o.a ≤ 9223372036854775807)
    (hcall : ∀ r (hr : r < ps.length) V, Below w.heap.size w V → Calls Tryz.prog 19 #[.pointer (some ⟨wb, 0, none⟩), postV ps[r], .bool false] V fun e w' => ∃ m, e = .returned (.tuple #[m, .bool true]) ∧ Q V w') :
    Calls Tryz.prog 12 #[.pointer (some ⟨wb, 0, none⟩), opV o] w fun e w' => e = .returned (.bool true) ∧ ∃ V, Below w.heap.size w V ∧ Q V w' := by
  obtain ⟨lp, ln, lc, hlv⟩ := hlv
  obtain ⟨kind, a, b, d, s, lv, ⟨fa, fk, fp, fns, fnr, info⟩, fq, fc, x0, x1, x2, x3, x4, x5⟩ := o
  simp only at hlv hk hoa
  subst hlv hk
  obtain ⟨r, hr, hpick⟩ := pick_exact a ps.length hoa hnp hps
  have hc := hcall r hr
  clear hcall
  obtain ⟨sp, scap, hss, hsg⟩ := ownsRow_slice h.row
  obtain ⟨g, rfl⟩ := hsg hnp
  obtain ⟨W0, hW0⟩ : ∃ W0, w.alloc (.cells #[.int .i64 25, .int .i64 a, .int .i64 b, .int .i64 d, .string s, .slice lp ln lc, .int .i64 fa, .int .i64 fk, .bool fp, .int .i64 fns, .int .i64 fnr, .slice fq info.length fc, .int .i64 x0, .int .i64 x1, .int .i64 x2, .int .i64 x3, .int .i64 x4, .int .i64 x5] 34) = W0 := ⟨_, rfl⟩
  have hz0 : W0.heap.size = w.heap.size + 1 := by rw [← hW0, alloc1_s]
  have hb0 : Below w.heap.size w W0 := by rw [← hW0]; exact (Below.refl _ w).alloc (Nat.le_refl _) _
  have hox : W0.heap[w.heap.size]? = some (.cells #[.int .i64 25, .int .i64 a, .int .i64 b, .int .i64 d, .string s, .slice lp ln lc, .int .i64 fa, .int .i64 fk, .bool fp, .int .i64 fns, .int .i64 fnr, .slice fq info.length fc, .int .i64 x0, .int .i64 x1, .int .i64 x2, .int .i64 x3, .int .i64 x4, .int .i64 x5] 34) := by rw [← hW0]; exact alloc1_a w _
  have h0 := h.later hb0
  have e0 := postCells_get ps r hr
  have yc0 := World.ownsRow.cells h0.row (g := g) (by rw [hss]; rfl) (r * 2) _ e0.1
  have yc1 := World.ownsRow.cells h0.row (g := g) (by rw [hss]; rfl) (r * 2 + 1) _ e0.2
  rw [Go.WideShapes.add_plain, Nat.zero_add] at yc0 yc1
  have d1 := h0.lw.bk.head.cell 1 _ rfl
  rw [hss] at d1
  have o0 : W0.cell? ⟨w.heap.size, 0, none⟩ = some (.int .i64 25) := by rw [Lib.cell_of_heap hox]; rfl
  have o1 : W0.cell? ⟨w.heap.size, 1, none⟩ = some (.int .i64 a) := by rw [Lib.cell_of_heap hox]; rfl
  unfold postV at hc
  try simp only [opV] at hc
  generalize ps[r] = y at *
  have hnI : 0 < (ps.length : Int) := by omega
  have hn0 : ((ps.length : Int) == 0) = false := beq_false_of_ne (by omega)
  have hrI : (r : Int) < (ps.length : Int) := by omega
  have HP := hide hpick
  have HC := hide hc
  have H0 := hide h0
  have HB0 := hide (And.intro hb0 hox)
  unfold opV
  simp only
  have hwl : wb < W0.heap.size := (h0.below (.inl (.inl rfl))).2
  have hgl : g < W0.heap.size := (h0.below (k := g) (.inr (.inr (by rw [hss]; rfl)))).2
  clear h h0 hpick hb0 hox e0 hc
  go_enter Tryz.func12, Tryz.ntmps12
  generalize hnB : w.heap.size = nB at *
  go_upto_region 11 with fail
  try rw [hW0]
  clear hW0
  have hS0 : W0.cell? ⟨wb, 1, none⟩ = some (.slice (some ⟨g, 0, none⟩) ps.length scap) ∧ W0.cell? ⟨nB, 1, none⟩ = some (.int .i64 a) ∧ W0.cell? ⟨g, r * 2, none⟩ = some (.pointer (some ⟨y.pb, 0, none⟩)) ∧ W0.cell? ⟨g, r * 2 + 1, none⟩ = some (.pointer (some ⟨y.rb, 0, none⟩)) := ⟨d1, o1, yc0, yc1⟩
  have HSA : Hid (∀ o, (W0.alloc o).drew.cell? ⟨wb, 1, none⟩ = some (.slice (some ⟨g, 0, none⟩) ps.length scap) ∧ (W0.alloc o).drew.cell? ⟨nB, 1, none⟩ = some (.int .i64 a) ∧ (W0.alloc o).drew.cell? ⟨g, r * 2, none⟩ = some (.pointer (some ⟨y.pb, 0, none⟩)) ∧ (W0.alloc o).drew.cell? ⟨g, r * 2 + 1, none⟩ = some (.pointer (some ⟨y.rb, 0, none⟩))) := fun o => by
    have hb := ((Below.refl W0.heap.size W0).alloc (Nat.le_refl _) o).drew
    exact ⟨(hb.cell (p := ⟨wb, 1, none⟩) hwl).trans d1, (hb.cell (p := ⟨nB, 1, none⟩) (by show nB < W0.heap.size; omega)).trans o1, (hb.cell (p := ⟨g, r * 2, none⟩) hgl).trans yc0, (hb.cell (p := ⟨g, r * 2 + 1, none⟩) hgl).trans yc1⟩
  have HS0 := hide hS0
  clear hS0
  go_cut [5] from 90 to 104 (fun z wx => ∃ bx V, z = .pointer (some ⟨bx, 0, none⟩) ∧ wx = V ∧ Below W0.heap.size W0 V ∧ W0.heap.size ≤ bx ∧ V.heap[bx]? = some (.cells #[.pointer (some ⟨y.pb, 0, none⟩), .pointer (some ⟨y.rb, 0, none⟩)] 56 (0, 0)))
  case first =>
    clear d1 o0 o1 yc0 yc1
    go_region_held3 (fun w' => w'.cell? ⟨wb, 1, none⟩ = some (.slice (some ⟨g, 0, none⟩) ps.length scap) ∧ w'.cell? ⟨nB, 1, none⟩ = some (.int .i64 a) ∧ w'.cell? ⟨g, r * 2, none⟩ = some (.pointer (some ⟨y.pb, 0, none⟩)) ∧ w'.cell? ⟨g, r * 2 + 1, none⟩ = some (.pointer (some ⟨y.rb, 0, none⟩))) (first | assumption | exact unhide HS0 | exact unhide HSA _) (first | (go_at_call 16; refine (unhide HP _).mono ?_; rintro e w5 ⟨rfl, rfl⟩) | fail)
    all_goals go_wp2_with fail
    all_goals go_meet
    all_goals exact ⟨_, _, rfl, rfl, ((Below.refl W0.heap.size W0).alloc (Nat.le_refl _) _).drew, by omega, by rw [show nB + 1 = W0.heap.size by omega]; exact alloc1_a W0 _⟩
  case rest =>
  obtain ⟨bx, V, rfl, hwV, hbV, hbxl, hbxo⟩ := hcut
  rw [hwV]
  clear hwV
  obtain ⟨hb0, hox⟩ := unhide HB0
  have hzV := hbV.size
  have hoxV := (hbV.block nB (by omega)).trans hox
  have hbw : Below nB w V := hb0.trans (hbV.mono (by omega))
  have KC := hide (unhide HC V hbw)
  have HBW := hide hbw
  have b0 : V.cell? ⟨bx, 0, none⟩ = some (.pointer (some ⟨y.pb, 0, none⟩)) := by rw [Lib.cell_of_heap hbxo]; rfl
  have b1 : V.cell? ⟨bx, 1, none⟩ = some (.pointer (some ⟨y.rb, 0, none⟩)) := by rw [Lib.cell_of_heap hbxo]; rfl
  have p0 : V.cell? ⟨nB, 0, none⟩ = some (.int .i64 25) := by rw [Lib.cell_of_heap hoxV]; rfl
  have p1 : V.cell? ⟨nB, 1, none⟩ = some (.int .i64 a) := by rw [Lib.cell_of_heap hoxV]; rfl
  have p2 : V.cell? ⟨nB, 2, none⟩ = some (.int .i64 b) := by rw [Lib.cell_of_heap hoxV]; rfl
  have p3 : V.cell? ⟨nB, 3, none⟩ = some (.int .i64 d) := by rw [Lib.cell_of_heap hoxV]; rfl
  have p4 : V.cell? ⟨nB, 4, none⟩ = some (.string s) := by rw [Lib.cell_of_heap hoxV]; rfl
  have p5 : V.cell? ⟨nB, 5, none⟩ = some (.slice lp ln lc) := by rw [Lib.cell_of_heap hoxV]; rfl
  have p6 : V.cell? ⟨nB, 6, none⟩ = some (.int .i64 fa) := by rw [Lib.cell_of_heap hoxV]; rfl
  have p7 : V.cell? ⟨nB, 7, none⟩ = some (.int .i64 fk) := by rw [Lib.cell_of_heap hoxV]; rfl
  have p8 : V.cell? ⟨nB, 8, none⟩ = some (.bool fp) := by rw [Lib.cell_of_heap hoxV]; rfl
  have p9 : V.cell? ⟨nB, 9, none⟩ = some (.int .i64 fns) := by rw [Lib.cell_of_heap hoxV]; rfl
  have p10 : V.cell? ⟨nB, 10, none⟩ = some (.int .i64 fnr) := by rw [Lib.cell_of_heap hoxV]; rfl
  have p11 : V.cell? ⟨nB, 11, none⟩ = some (.slice fq info.length fc) := by rw [Lib.cell_of_heap hoxV]; rfl
  have p12 : V.cell? ⟨nB, 12, none⟩ = some (.int .i64 x0) := by rw [Lib.cell_of_heap hoxV]; rfl
  have p13 : V.cell? ⟨nB, 13, none⟩ = some (.int .i64 x1) := by rw [Lib.cell_of_heap hoxV]; rfl
  have p14 : V.cell? ⟨nB, 14, none⟩ = some (.int .i64 x2) := by rw [Lib.cell_of_heap hoxV]; rfl
  have p15 : V.cell? ⟨nB, 15, none⟩ = some (.int .i64 x3) := by rw [Lib.cell_of_heap hoxV]; rfl
  have p16 : V.cell? ⟨nB, 16, none⟩ = some (.int .i64 x4) := by rw [Lib.cell_of_heap hoxV]; rfl
  have p17 : V.cell? ⟨nB, 17, none⟩ = some (.int .i64 x5) := by rw [Lib.cell_of_heap hoxV]; rfl
  clear hoxV hb0 hox hbxo hbV HS0 HSA d1 o0 o1 yc0 yc1 HB0 H0 HC HP hbw
  go_wp2_with fail
  refine (unhide KC).mono ?_
  rintro e w1 ⟨m, rfl, hq⟩
  have HQ := hide hq
  clear hq KC
  go_wp2
  go_ret
  exact ⟨rfl, V, unhide HBW, unhide HQ⟩
end Go.Proofs.YtkalonhalhdlaaaGreatDoor

/-
  The law's step at the stations' kinds.
-/
namespace Go.Proofs.YtkalonhalhdlaaaGreatDoor
open Go.RowKit
set_option maxHeartbeats 8000000 in
set_option maxRecDepth 1000000 in
theorem step_29 {B : Nat} {w : World} {wb : Nat} {own : Nat → Nat} {ss : Value} {x : Lw} {ps : List Post} {Q : World → World → Prop} (h : GwAt B w wb own ss x ps) (hnp : 0 < ps.length) (hps : ps.length ≤ 200000000000) (o : OpV) (hlv : ∃ lp ln lc, o.lv = .slice lp ln lc) (hk : o.kind = 29) (hoa : -9223372036854775808 ≤ o.a ∧ o.a ≤ 9223372036854775807)
    (hcall : ∀ r (hr : r < ps.length) V, Below w.heap.size w V → Calls Tryz.prog 19 #[.pointer (some ⟨wb, 0, none⟩), postV ps[r], .bool true] V fun e w' => ∃ m, e = .returned (.tuple #[m, .bool true]) ∧ Q V w') :
    Calls Tryz.prog 12 #[.pointer (some ⟨wb, 0, none⟩), opV o] w fun e w' => e = .returned (.bool true) ∧ ∃ V, Below w.heap.size w V ∧ Q V w' := by
  obtain ⟨lp, ln, lc, hlv⟩ := hlv
  obtain ⟨kind, a, b, d, s, lv, ⟨fa, fk, fp, fns, fnr, info⟩, fq, fc, x0, x1, x2, x3, x4, x5⟩ := o
  simp only at hlv hk hoa
  subst hlv hk
  obtain ⟨r, hr, hpick⟩ := pick_exact a ps.length hoa hnp hps
  have hc := hcall r hr
  clear hcall
  obtain ⟨sp, scap, hss, hsg⟩ := ownsRow_slice h.row
  obtain ⟨g, rfl⟩ := hsg hnp
  obtain ⟨W0, hW0⟩ : ∃ W0, w.alloc (.cells #[.int .i64 29, .int .i64 a, .int .i64 b, .int .i64 d, .string s, .slice lp ln lc, .int .i64 fa, .int .i64 fk, .bool fp, .int .i64 fns, .int .i64 fnr, .slice fq info.length fc, .int .i64 x0, .int .i64 x1, .int .i64 x2, .int .i64 x3, .int .i64 x4, .int .i64 x5] 34) = W0 := ⟨_, rfl⟩
  have hz0 : W0.heap.size = w.heap.size + 1 := by rw [← hW0, alloc1_s]
  have hb0 : Below w.heap.size w W0 := by rw [← hW0]; exact (Below.refl _ w).alloc (Nat.le_refl _) _
  have hox : W0.heap[w.heap.size]? = some (.cells #[.int .i64 29, .int .i64 a, .int .i64 b, .int .i64 d, .string s, .slice lp ln lc, .int .i64 fa, .int .i64 fk, .bool fp, .int .i64 fns, .int .i64 fnr, .slice fq info.length fc, .int .i64 x0, .int .i64 x1, .int .i64 x2, .int .i64 x3, .int .i64 x4, .int .i64 x5] 34) := by rw [← hW0]; exact alloc1_a w _
  have h0 := h.later hb0
  have e0 := postCells_get ps r hr
  have yc0 := World.ownsRow.cells h0.row (g := g) (by rw [hss]; rfl) (r * 2) _ e0.1
  have yc1 := World.ownsRow.cells h0.row (g := g) (by rw [hss]; rfl) (r * 2 + 1) _ e0.2
  rw [Go.WideShapes.add_plain, Nat.zero_add] at yc0 yc1
  have d1 := h0.lw.bk.head.cell 1 _ rfl
  rw [hss] at d1
  have o0 : W0.cell? ⟨w.heap.size, 0, none⟩ = some (.int .i64 29) := by rw [Lib.cell_of_heap hox]; rfl
  have o1 : W0.cell? ⟨w.heap.size, 1, none⟩ = some (.int .i64 a) := by rw [Lib.cell_of_heap hox]; rfl
  unfold postV at hc
  try simp only [opV] at hc
  generalize ps[r] = y at *
  have hnI : 0 < (ps.length : Int) := by omega
  have hn0 : ((ps.length : Int) == 0) = false := beq_false_of_ne (by omega)
  have hrI : (r : Int) < (ps.length : Int) := by omega
  have HP := hide hpick
  have HC := hide hc
  have H0 := hide h0
  have HB0 := hide (And.intro hb0 hox)
  unfold opV
  simp only
  have hwl : wb < W0.heap.size := (h0.below (.inl (.inl rfl))).2
  have hgl : g < W0.heap.size := (h0.below (k := g) (.inr (.inr (by rw [hss]; rfl)))).2
  clear h h0 hpick hb0 hox e0 hc
  go_enter Tryz.func12, Tryz.ntmps12
  generalize hnB : w.heap.size = nB at *
  go_upto_region 11 with fail
  try rw [hW0]
  clear hW0
  have hS0 : W0.cell? ⟨wb, 1, none⟩ = some (.slice (some ⟨g, 0, none⟩) ps.length scap) ∧ W0.cell? ⟨nB, 1, none⟩ = some (.int .i64 a) ∧ W0.cell? ⟨g, r * 2, none⟩ = some (.pointer (some ⟨y.pb, 0, none⟩)) ∧ W0.cell? ⟨g, r * 2 + 1, none⟩ = some (.pointer (some ⟨y.rb, 0, none⟩)) := ⟨d1, o1, yc0, yc1⟩
  have HSA : Hid (∀ o, (W0.alloc o).drew.cell? ⟨wb, 1, none⟩ = some (.slice (some ⟨g, 0, none⟩) ps.length scap) ∧ (W0.alloc o).drew.cell? ⟨nB, 1, none⟩ = some (.int .i64 a) ∧ (W0.alloc o).drew.cell? ⟨g, r * 2, none⟩ = some (.pointer (some ⟨y.pb, 0, none⟩)) ∧ (W0.alloc o).drew.cell? ⟨g, r * 2 + 1, none⟩ = some (.pointer (some ⟨y.rb, 0, none⟩))) := fun o => by
    have hb := ((Below.refl W0.heap.size W0).alloc (Nat.le_refl _) o).drew
    exact ⟨(hb.cell (p := ⟨wb, 1, none⟩) hwl).trans d1, (hb.cell (p := ⟨nB, 1, none⟩) (by show nB < W0.heap.size; omega)).trans o1, (hb.cell (p := ⟨g, r * 2, none⟩) hgl).trans yc0, (hb.cell (p := ⟨g, r * 2 + 1, none⟩) hgl).trans yc1⟩
  have HS0 := hide hS0
  clear hS0
  go_cut [5] from 90 to 104 (fun z wx => ∃ bx V, z = .pointer (some ⟨bx, 0, none⟩) ∧ wx = V ∧ Below W0.heap.size W0 V ∧ W0.heap.size ≤ bx ∧ V.heap[bx]? = some (.cells #[.pointer (some ⟨y.pb, 0, none⟩), .pointer (some ⟨y.rb, 0, none⟩)] 56 (0, 0)))
  case first =>
    clear d1 o0 o1 yc0 yc1
    go_region_held3 (fun w' => w'.cell? ⟨wb, 1, none⟩ = some (.slice (some ⟨g, 0, none⟩) ps.length scap) ∧ w'.cell? ⟨nB, 1, none⟩ = some (.int .i64 a) ∧ w'.cell? ⟨g, r * 2, none⟩ = some (.pointer (some ⟨y.pb, 0, none⟩)) ∧ w'.cell? ⟨g, r * 2 + 1, none⟩ = some (.pointer (some ⟨y.rb, 0, none⟩))) (first | assumption | exact unhide HS0 | exact unhide HSA _) (first | (go_at_call 16; refine (unhide HP _).mono ?_; rintro e w5 ⟨rfl, rfl⟩) | fail)
    all_goals go_wp2_with fail
    all_goals go_meet
    all_goals exact ⟨_, _, rfl, rfl, ((Below.refl W0.heap.size W0).alloc (Nat.le_refl _) _).drew, by omega, by rw [show nB + 1 = W0.heap.size by omega]; exact alloc1_a W0 _⟩
  case rest =>
  obtain ⟨bx, V, rfl, hwV, hbV, hbxl, hbxo⟩ := hcut
  rw [hwV]
  clear hwV
  obtain ⟨hb0, hox⟩ := unhide HB0
  have hzV := hbV.size
  have hoxV := (hbV.block nB (by omega)).trans hox
  have hbw : Below nB w V := hb0.trans (hbV.mono (by omega))
  have KC := hide (unhide HC V hbw)
  have HBW := hide hbw
  have b0 : V.cell? ⟨bx, 0, none⟩ = some (.pointer (some ⟨y.pb, 0, none⟩)) := by rw [Lib.cell_of_heap hbxo]; rfl
  have b1 : V.cell? ⟨bx, 1, none⟩ = some (.pointer (some ⟨y.rb, 0, none⟩)) := by rw [Lib.cell_of_heap hbxo]; rfl
  have p0 : V.cell? ⟨nB, 0, none⟩ = some (.int .i64 29) := by rw [Lib.cell_of_heap hoxV]; rfl
  have p1 : V.cell? ⟨nB, 1, none⟩ = some (.int .i64 a) := by rw [Lib.cell_of_heap hoxV]; rfl
  have p2 : V.cell? ⟨nB, 2, none⟩ = some (.int .i64 b) := by rw [Lib.cell_of_heap hoxV]; rfl
  have p3 : V.cell? ⟨nB, 3, none⟩ = some (.int .i64 d) := by rw [Lib.cell_of_heap hoxV]; rfl
  have p4 : V.cell? ⟨nB, 4, none⟩ = some (.string s) := by rw [Lib.cell_of_heap hoxV]; rfl
  have p5 : V.cell? ⟨nB, 5, none⟩ = some (.slice lp ln lc) := by rw [Lib.cell_of_heap hoxV]; rfl
  have p6 : V.cell? ⟨nB, 6, none⟩ = some (.int .i64 fa) := by rw [Lib.cell_of_heap hoxV]; rfl
  have p7 : V.cell? ⟨nB, 7, none⟩ = some (.int .i64 fk) := by rw [Lib.cell_of_heap hoxV]; rfl
  have p8 : V.cell? ⟨nB, 8, none⟩ = some (.bool fp) := by rw [Lib.cell_of_heap hoxV]; rfl
  have p9 : V.cell? ⟨nB, 9, none⟩ = some (.int .i64 fns) := by rw [Lib.cell_of_heap hoxV]; rfl
  have p10 : V.cell? ⟨nB, 10, none⟩ = some (.int .i64 fnr) := by rw [Lib.cell_of_heap hoxV]; rfl
  have p11 : V.cell? ⟨nB, 11, none⟩ = some (.slice fq info.length fc) := by rw [Lib.cell_of_heap hoxV]; rfl
  have p12 : V.cell? ⟨nB, 12, none⟩ = some (.int .i64 x0) := by rw [Lib.cell_of_heap hoxV]; rfl
  have p13 : V.cell? ⟨nB, 13, none⟩ = some (.int .i64 x1) := by rw [Lib.cell_of_heap hoxV]; rfl
  have p14 : V.cell? ⟨nB, 14, none⟩ = some (.int .i64 x2) := by rw [Lib.cell_of_heap hoxV]; rfl
  have p15 : V.cell? ⟨nB, 15, none⟩ = some (.int .i64 x3) := by rw [Lib.cell_of_heap hoxV]; rfl
  have p16 : V.cell? ⟨nB, 16, none⟩ = some (.int .i64 x4) := by rw [Lib.cell_of_heap hoxV]; rfl
  have p17 : V.cell? ⟨nB, 17, none⟩ = some (.int .i64 x5) := by rw [Lib.cell_of_heap hoxV]; rfl
  clear hoxV hb0 hox hbxo hbV HS0 HSA d1 o0 o1 yc0 yc1 HB0 H0 HC HP hbw
  go_wp2_with fail
  refine (unhide KC).mono ?_
  rintro e w1 ⟨m, rfl, hq⟩
  have HQ := hide hq
  clear hq KC
  go_wp2
  go_ret
  exact ⟨rfl, V, unhide HBW, unhide HQ⟩
end Go.Proofs.YtkalonhalhdlaaaGreatDoor
