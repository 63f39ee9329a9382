/-
  What Arrives calls besides: Tick, Busy, View of a link's stations.
-/
import Derived.Test.YtkalonhalhdlaaaDoorORound2
import Derived.Test.YtkalonhalhdlaaaDoorKWith1
import Derived.Test.YtkalonhalhdlaaaDoorKOrd
namespace Go.Proofs.YtkalonhalhdlaaaDoor
open Go.RowKit

section
variable {B : Fen} {w w1 : World} {kb : Nat} {b : Nat → Nat} {c : Nat → Cfg} {k : Lk} {i : Nat}
theorem Lk.at.cellS (h : k.at B w kb b c w1) (hi : i < 2) : w1.cell? ⟨kb, i, none⟩ = some (.pointer (some ⟨b i, 0, none⟩)) := by
  obtain ⟨_, _, _, hK, _, _⟩ := h
  have hci : i = 0 ∨ i = 1 := by omega
  exact hK.cell i (by rcases hci with rfl | rfl <;> rfl)
theorem Lk.at.lt (h : k.at B w kb b c w1) : kb < w1.heap.size := by
  obtain ⟨_, _, _, hK, _, _⟩ := h
  exact hK.lt
theorem Lk.at.cellE (h : k.at B w kb b c w1) : w1.cell? ⟨kb, 8, none⟩ = some (.bool k.en) := by
  obtain ⟨_, _, _, hK, _, _⟩ := h
  exact hK.cell 8 rfl
theorem Lk.at.cellT (h : k.at B w kb b c w1) (hi : i < 2) : w1.cell? ⟨kb, 6 + i, none⟩ = some (.int .i64 (k.t i)) := by
  obtain ⟨_, _, _, hK, _, _⟩ := h
  have hci : i = 0 ∨ i = 1 := by omega
  exact hK.cell (6 + i) (by rcases hci with rfl | rfl <;> rfl)
theorem Lk.at.cellN (h : k.at B w kb b c w1) (hi : i < 2) : ∃ p cap, w1.cell? ⟨kb, 4 + i, none⟩ = some (.slice p (k.n i).length cap) := by
  obtain ⟨_, _, g, hK, _, _⟩ := h
  have hci : i = 0 ∨ i = 1 := by omega
  have hc := hK.cell (4 + i) (x := g i) (by rcases hci with rfl | rfl <;> rfl)
  obtain ⟨p, cap, e⟩ := own_slice (hK.giv i hi).1
  exact ⟨p, cap, by rw [hc, e]⟩
theorem tick_at (h : k.at B w kb b c w1) (hB : B.top ≤ w.heap.size) (hi : i < 2) (ho : (k.s i).out.length + 18 ≤ 2199023255552) (he : (k.s i).events.length + 2 ≤ 2199023255552) :
    Calls Tryd.prog 21 #[.pointer (some ⟨b i, 0, none⟩)] w1 fun e w' => e = .returned (.int .i64 0) ∧ (k.tick c i).at B w kb b c w' := by
  obtain ⟨own, v, g, h1, h2, h3⟩ := h
  obtain ⟨ch, q, cm, o, ev, qe, ce, oe, hS⟩ := h1.st i hi
  have k1 := tick_any hS ho he
  simp only [Bool.false_eq_true, if_false] at k1
  refine k1.mono ?_
  rintro e w' ⟨rfl, own2, hS2, u2⟩
  obtain ⟨hl2, hb2⟩ := h2.updF (Nat.le_trans hB h3.size) u2.f
  exact ⟨rfl, own2, v, g, h1.called hi u2.f hS2 (tickS_ok hS.cok (h1.sok i hi)), hl2, h3.trans hb2⟩
theorem busy_at (h : k.at B w kb b c w1) (hB : B.top ≤ w.heap.size) (hi : i < 2) (on : Bool) (ho : (k.s i).out.length + 18 ≤ 2199023255552) :
    Calls Tryd.prog 20 #[.pointer (some ⟨b i, 0, none⟩), .bool on] w1 fun e w' => e = .returned (.int .i64 0) ∧ (k.busy c i on).at B w kb b c w' := by
  obtain ⟨own, v, g, h1, h2, h3⟩ := h
  obtain ⟨ch, q, cm, o, ev, qe, ce, oe, hS⟩ := h1.st i hi
  have k1 := busy_any hS on ho
  simp only [Bool.false_eq_true, if_false] at k1
  refine k1.mono ?_
  rintro e w' ⟨rfl, own2, hS2, u2⟩
  obtain ⟨hl2, hb2⟩ := h2.updF (Nat.le_trans hB h3.size) u2.f
  exact ⟨rfl, own2, v, g, h1.called hi u2.f hS2 (busyS_ok (h1.sok i hi) on), hl2, h3.trans hb2⟩
theorem view_at (h : k.at B w kb b c w1) (hB : B.top ≤ w.heap.size) (hi : i < 2) :
    Calls Tryd.prog 15 #[.pointer (some ⟨b i, 0, none⟩)] w1 fun e w' => e = .returned (.tuple #[viewV (k.s i), .int .i64 0]) ∧ Below w1.heap.size w1 w' ∧ k.at B w kb b c w' := by
  have h' := h
  obtain ⟨own, v, g, h1, h2, h3⟩ := h
  obtain ⟨ch, q, cm, o, ev, qe, ce, oe, hS⟩ := h1.st i hi
  refine (view_open hS).mono ?_
  rintro e w' ⟨rfl, hb⟩
  exact ⟨rfl, hb, h'.later (Nat.le_trans hB h3.size) hb⟩
end

/-- Others than the link's own blocks were written, while nothing is on its way. -/
theorem Stn.beside {w w' : World} {own : Nat → Nat} {i b : Nat} {c : Cfg} {s : St} {cl : Bool} (h : Stn w own i b c s cl) {X : Nat → Prop} (hk : Keeps X w w') (hx : ∀ k, X k → own k = 0) (hx0 : ¬ X 0) : Stn w' own i b c s cl := by
  obtain ⟨ch, q, cm, o, ev, qe, ce, oe, h⟩ := h
  exact ⟨ch, q, cm, o, ev, qe, ce, oe, h.others hk (fun k hX e => absurd (hx k hX) e) hx0 (fun _ _ => rfl) (fun k hs => h.new0 k (Nat.le_trans hk.size hs))⟩
theorem KAt.beside {w w' : World} {own : Nat → Nat} {kb : Nat} {b : Nat → Nat} {c : Nat → Cfg} {s : Nat → St} {v g : Nat → Value} {l : Nat → List Msg} {n : Nat → List ByteArray} {t : Nat → Nat} {en : Bool} (h : KAt w own kb b c s v g l n t en) (hl : ∀ i, i < 2 → l i = []) {X : Nat → Prop} (hk : Keeps X w w') (hx : ∀ k, X k → own k = 0) (hx0 : ¬ X 0) : KAt w' own kb b c s v g l n t en := by
  have hn : ∀ j q k, own k = tg j q → ¬ X k := fun j q k e hX => by rw [hx k hX] at e; exact absurd e.symm (tg_pos j q)
  refine ⟨?_, h.ownk, fun i hi => (h.st i hi).beside hk hx hx0, h.sok, fun i hi => ?_, fun i hi => ⟨ownsRow_keepsB (h.giv i hi).1 hk (fun k hb => hn _ _ k ((h.giv i hi).2 k hb)), (h.giv i hi).2⟩⟩
  · rw [hk.block kb h.lt (hn _ _ kb h.ownk)]; exact h.head
  · have hw := h.way i hi
    rw [hl i hi] at hw ⊢
    obtain ⟨p, cap, e, h1, h2, h3⟩ := hw
    refine ⟨p, cap, e, h1, h2, ?_⟩
    rcases h3 with h3 | ⟨gg, off, cur, e2, hg, hc, hs, _⟩
    · exact .inl h3
    · exact .inr ⟨gg, off, cur, e2, hg, by rw [hk.block gg (Array.getElem?_eq_some_iff.1 hc).1 (hn _ _ gg hg)]; exact hc, hs, fun j m hj => by simp at hj⟩
theorem Keeps.belowX {X : Nat → Prop} {lo : Nat} {a b : World} (hk : Keeps X a b) (hlo : lo ≤ a.heap.size) (hX : ∀ k, X k → lo ≤ k) : Below lo a b := ⟨hk.os, hk.tape, hk.output, hk.size, fun k hkB => hk.block k (by omega) (fun hx => by have := hX k hx; omega)⟩
theorem Keeps.belowB {y lo : Nat} {a b : World} (hk : Keeps (· = y) a b) (h1 : lo ≤ a.heap.size) (h2 : lo ≤ y) : Below lo a b := hk.belowX h1 (fun k e => by have e' : k = y := e; omega)
/-- Eleven cells are written. -/
theorem store11 {w : World} {F : Nat} {t : TypeId} {fz : Nat × Nat} {a0 a1 a2 a3 a4 a5 a6 a7 a8 a9 a10 : Value} (h : w.heap[F]? = some (.cells #[a0, a1, a2, a3, a4, a5, a6, a7, a8, a9, a10] t fz)) (d0 d1 d2 d3 d4 d5 d6 d7 d8 d9 d10 : Value) : (((((((((((w.setCell ⟨F, 0, none⟩ d0).setCell ⟨F, 1, none⟩ d1).setCell ⟨F, 2, none⟩ d2).setCell ⟨F, 3, none⟩ d3).setCell ⟨F, 4, none⟩ d4).setCell ⟨F, 5, none⟩ d5).setCell ⟨F, 6, none⟩ d6).setCell ⟨F, 7, none⟩ d7).setCell ⟨F, 8, none⟩ d8).setCell ⟨F, 9, none⟩ d9).setCell ⟨F, 10, none⟩ d10).heap[F]? = some (.cells #[d0, d1, d2, d3, d4, d5, d6, d7, d8, d9, d10] t fz) := by
  have z0 : (w.setCell ⟨F, 0, none⟩ d0).heap[F]? = some (.cells #[d0, a1, a2, a3, a4, a5, a6, a7, a8, a9, a10] t fz) := block_set (j := 0) h d0
  have z1 : ((w.setCell ⟨F, 0, none⟩ d0).setCell ⟨F, 1, none⟩ d1).heap[F]? = some (.cells #[d0, d1, a2, a3, a4, a5, a6, a7, a8, a9, a10] t fz) := block_set (j := 1) z0 d1
  have z2 : (((w.setCell ⟨F, 0, none⟩ d0).setCell ⟨F, 1, none⟩ d1).setCell ⟨F, 2, none⟩ d2).heap[F]? = some (.cells #[d0, d1, d2, a3, a4, a5, a6, a7, a8, a9, a10] t fz) := block_set (j := 2) z1 d2
  have z3 : ((((w.setCell ⟨F, 0, none⟩ d0).setCell ⟨F, 1, none⟩ d1).setCell ⟨F, 2, none⟩ d2).setCell ⟨F, 3, none⟩ d3).heap[F]? = some (.cells #[d0, d1, d2, d3, a4, a5, a6, a7, a8, a9, a10] t fz) := block_set (j := 3) z2 d3
  have z4 : (((((w.setCell ⟨F, 0, none⟩ d0).setCell ⟨F, 1, none⟩ d1).setCell ⟨F, 2, none⟩ d2).setCell ⟨F, 3, none⟩ d3).setCell ⟨F, 4, none⟩ d4).heap[F]? = some (.cells #[d0, d1, d2, d3, d4, a5, a6, a7, a8, a9, a10] t fz) := block_set (j := 4) z3 d4
  have z5 : ((((((w.setCell ⟨F, 0, none⟩ d0).setCell ⟨F, 1, none⟩ d1).setCell ⟨F, 2, none⟩ d2).setCell ⟨F, 3, none⟩ d3).setCell ⟨F, 4, none⟩ d4).setCell ⟨F, 5, none⟩ d5).heap[F]? = some (.cells #[d0, d1, d2, d3, d4, d5, a6, a7, a8, a9, a10] t fz) := block_set (j := 5) z4 d5
  have z6 : (((((((w.setCell ⟨F, 0, none⟩ d0).setCell ⟨F, 1, none⟩ d1).setCell ⟨F, 2, none⟩ d2).setCell ⟨F, 3, none⟩ d3).setCell ⟨F, 4, none⟩ d4).setCell ⟨F, 5, none⟩ d5).setCell ⟨F, 6, none⟩ d6).heap[F]? = some (.cells #[d0, d1, d2, d3, d4, d5, d6, a7, a8, a9, a10] t fz) := block_set (j := 6) z5 d6
  have z7 : ((((((((w.setCell ⟨F, 0, none⟩ d0).setCell ⟨F, 1, none⟩ d1).setCell ⟨F, 2, none⟩ d2).setCell ⟨F, 3, none⟩ d3).setCell ⟨F, 4, none⟩ d4).setCell ⟨F, 5, none⟩ d5).setCell ⟨F, 6, none⟩ d6).setCell ⟨F, 7, none⟩ d7).heap[F]? = some (.cells #[d0, d1, d2, d3, d4, d5, d6, d7, a8, a9, a10] t fz) := block_set (j := 7) z6 d7
  have z8 : (((((((((w.setCell ⟨F, 0, none⟩ d0).setCell ⟨F, 1, none⟩ d1).setCell ⟨F, 2, none⟩ d2).setCell ⟨F, 3, none⟩ d3).setCell ⟨F, 4, none⟩ d4).setCell ⟨F, 5, none⟩ d5).setCell ⟨F, 6, none⟩ d6).setCell ⟨F, 7, none⟩ d7).setCell ⟨F, 8, none⟩ d8).heap[F]? = some (.cells #[d0, d1, d2, d3, d4, d5, d6, d7, d8, a9, a10] t fz) := block_set (j := 8) z7 d8
  have z9 : ((((((((((w.setCell ⟨F, 0, none⟩ d0).setCell ⟨F, 1, none⟩ d1).setCell ⟨F, 2, none⟩ d2).setCell ⟨F, 3, none⟩ d3).setCell ⟨F, 4, none⟩ d4).setCell ⟨F, 5, none⟩ d5).setCell ⟨F, 6, none⟩ d6).setCell ⟨F, 7, none⟩ d7).setCell ⟨F, 8, none⟩ d8).setCell ⟨F, 9, none⟩ d9).heap[F]? = some (.cells #[d0, d1, d2, d3, d4, d5, d6, d7, d8, d9, a10] t fz) := block_set (j := 9) z8 d9
  have z10 : (((((((((((w.setCell ⟨F, 0, none⟩ d0).setCell ⟨F, 1, none⟩ d1).setCell ⟨F, 2, none⟩ d2).setCell ⟨F, 3, none⟩ d3).setCell ⟨F, 4, none⟩ d4).setCell ⟨F, 5, none⟩ d5).setCell ⟨F, 6, none⟩ d6).setCell ⟨F, 7, none⟩ d7).setCell ⟨F, 8, none⟩ d8).setCell ⟨F, 9, none⟩ d9).setCell ⟨F, 10, none⟩ d10).heap[F]? = some (.cells #[d0, d1, d2, d3, d4, d5, d6, d7, d8, d9, d10] t fz) := block_set (j := 10) z9 d10
  exact z10
def fen0 (lo : Nat) : Fen := ⟨lo, fun _ => False, 0, fun _ h => absurd h id⟩
theorem Lk.at.beside {k : Lk} {B : Fen} {w w1 w2 : World} {kb : Nat} {b : Nat → Nat} {c : Nat → Cfg} (h : k.at B w kb b c w1) (hl : ∀ i, i < 2 → k.l i = []) {X : Nat → Prop} (hk : Keeps X w1 w2) (hX : ∀ y, X y → B.X y) (hx0 : ¬ X 0) : k.at (fen0 B.lo) w2 kb b c w2 := by
  obtain ⟨own, v, g, h1, h2, _⟩ := h
  refine ⟨own, v, g, h1.beside hl hk (fun y hy => ?_) hx0, fun y hy => ⟨(h2 y hy).1, id⟩, Bel.refl _ _⟩
  exact Classical.byContradiction fun hne => (h2 y hne).2 (hX y hy)

/-- A link whose stations have ticked s times since it was looked at. -/
structure Lk.fineT (k : Lk) (r s : Nat) : Prop where
  out : ∀ i, i < 2 → (k.s i).out.length ≤ 18 * s
  ol : ∀ i, i < 2 → ∀ m ∈ (k.s i).out, m.length ≤ 64
  ev : ∀ i, i < 2 → (k.s i).events.length ≤ 2 * s
  ml : ∀ i, i < 2 → ∀ m ∈ k.l i, m.length ≤ 64
  l : ∀ i, i < 2 → (k.l i).length ≤ 64 * r
  n : ∀ i, i < 2 → (k.n i).length ≤ r
  t : ∀ i, i < 2 → k.t i ≤ (k.n i).length
section
variable {c : Nat → Cfg} {k : Lk} {r s i : Nat}
theorem Lk.fineT_of (h : k.fine r) (hs : k.still) : k.fineT r 0 :=
  ⟨fun i hi => by rw [(hs i hi).1]; simp, fun i hi m hm => by rw [(hs i hi).1] at hm; simp at hm, fun i hi => by rw [(hs i hi).2]; simp, h.ml, h.l, h.n, h.t⟩
theorem Lk.fineT_tick (h : k.fineT r s) : (k.tick c i).fineT r (s + 1) := by
  have g : ∀ j, j < 2 → ((k.tick c i).s j).out.length ≤ 18 * (s + 1) ∧ (∀ m ∈ ((k.tick c i).s j).out, m.length ≤ 64) ∧ ((k.tick c i).s j).events.length ≤ 2 * (s + 1) := by
    intro j hj
    obtain ⟨⟨x, x1, x2, x3⟩, y, y1, y2⟩ := upd_grows (s := k.s) (i := i) (tickS_grows (c := c i) (s := k.s i)) j
    have o := h.out j hj
    have e := h.ev j hj
    refine ⟨?_, fun m hm => ?_, ?_⟩
    · show (upd k.s i _ j).out.length ≤ _
      rw [x1, List.length_append]; omega
    · have hm' : m ∈ (upd k.s i (tickS (c i) (k.s i)) j).out := hm
      rw [x1] at hm'
      rcases List.mem_append.1 hm' with hm' | hm'
      · exact h.ol j hj m hm'
      · exact x3 m hm'
    · show (upd k.s i _ j).events.length ≤ _
      rw [y1, List.length_append]; omega
  exact ⟨fun j hj => (g j hj).1, fun j hj => (g j hj).2.1, fun j hj => (g j hj).2.2, h.ml, h.l, h.n, h.t⟩
theorem Lk.fineT_look (h : k.fineT r s) : k.look.fine (r + s) ∧ (∀ j, j < 2 → (k.l j).length + (k.s j).out.length ≤ 64 * (r + s)) := by
  have hl : ∀ j, j < 2 → (k.l j).length + (k.s j).out.length ≤ 64 * (r + s) := fun j hj => by
    have := h.l j hj
    have := h.out j hj
    omega
  refine ⟨⟨fun j hj => ?_, fun j hj m hm => ?_, fun j hj => ?_, fun j hj m hm => ?_, fun j hj => ?_, fun j hj => ?_, h.t⟩, hl⟩
  · rw [(Lk.look_still j hj).1]; simp
  · rw [(Lk.look_still j hj).1] at hm; simp at hm
  · rw [(Lk.look_still j hj).2]; simp
  · rw [Lk.look_l hj] at hm
    rcases List.mem_append.1 hm with hm | hm
    · exact h.ml j hj m hm
    · exact h.ol j hj m hm
  · rw [Lk.look_l hj, List.length_append]
    exact hl j hj
  · show (k.n j).length ≤ r + s
    have := h.n j hj
    omega
/-- Where nothing is on its way the bound may be made anew. -/
theorem Lk.fine_new (h : k.fine r) (hl : ∀ i, i < 2 → k.l i = []) {r' : Nat} (hn : ∀ i, i < 2 → (k.n i).length ≤ r') : k.fine r' :=
  ⟨h.out, h.ol, h.ev, h.ml, fun i hi => by rw [hl i hi]; simp, hn, h.t⟩
theorem Lk.fine_mono (h : k.fine r) {r' : Nat} (hr : r ≤ r') : k.fine r' :=
  ⟨h.out, h.ol, h.ev, h.ml, fun i hi => Nat.le_trans (h.l i hi) (by omega), fun i hi => Nat.le_trans (h.n i hi) hr, h.t⟩
theorem flowIn_fine (F : Lk → Bool × Lk) (x : Nat) (hF : ∀ k r, Lk.fine k r → k.still → (F k).2.fine (r + x)) : ∀ d {k : Lk} {r : Nat}, k.fine r → k.still → (flowIn c F d k).2.fine (r + 2 * d + x) := by
  intro d
  induction d with
  | zero => intro k r h hs; exact hF k r h hs
  | succ d ih =>
    intro k r h hs
    obtain ⟨f1, s1⟩ := Lk.flow1_fine (c := c) h hs (1 - d)
    unfold flowIn
    split
    · exact Lk.fine_mono f1 (by omega)
    · split
      · exact Lk.fine_mono f1 (by omega)
      · have := ih f1 s1
        rw [show r + 2 * (d + 1) + x = r + 2 + 2 * d + x by omega]
        exact this
theorem flowsL_fine : ∀ n {k : Lk} {r : Nat}, k.fine r → k.still → (flowsL c n k).2.fine (r + 4 * n) := by
  intro n
  induction n with
  | zero => intro k r h _; exact h
  | succ n ih =>
    intro k r h hs
    unfold flowsL
    split
    · exact Lk.fine_mono h (by omega)
    · have := flowIn_fine (c := c) (flowsL c n) (4 * n) (fun k r h hs => ih h hs) 2 h hs
      rw [show r + 4 * (n + 1) = r + 2 * 2 + 4 * n by omega]
      exact this
end
end Go.Proofs.YtkalonhalhdlaaaDoor
