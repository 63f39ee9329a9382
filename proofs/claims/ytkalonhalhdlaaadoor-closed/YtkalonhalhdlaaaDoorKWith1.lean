/-
  What Within reads: moves and texts in memory; the link behind a fence.
-/
import Derived.Test.YtkalonhalhdlaaaDoorKFines
import Derived.Test.YtkalonhalhdlaaaDoorSWide
namespace Go.Proofs.YtkalonhalhdlaaaDoor
open Go.RowKit

/-- Moves in memory, ahead of lo. -/
def MovesIn (w : World) (lo : Nat) (a : Option Addr) (n : Nat) : Prop :=
  ∀ i, i < n → ∃ b o x y z, a = some ⟨b, o, none⟩ ∧ b < lo ∧ w.cell? ⟨b, o + i * 3, none⟩ = some (.int .i64 x) ∧ w.cell? ⟨b, o + i * 3 + 1, none⟩ = some (.int .i64 y) ∧ w.cell? ⟨b, o + i * 3 + 2, none⟩ = some (.int .i64 z) ∧ I64 x ∧ I64 y ∧ I64 z
def TextsAt (w : World) (lo : Nat) (a : Option Addr) (n : Nat) : Prop :=
  ∀ i, i < n → ∃ b o s, a = some ⟨b, o, none⟩ ∧ b < lo ∧ w.cell? ⟨b, o + i, none⟩ = some (.string s) ∧ s.size ≤ maxLen
theorem MovesIn.below {w w' : World} {lo n : Nat} {a : Option Addr} (h : MovesIn w lo a n) (hb : Below lo w w') : MovesIn w' lo a n := by
  intro i hi
  obtain ⟨b, o, x, y, z, e, hl, h1, h2, h3, r⟩ := h i hi
  exact ⟨b, o, x, y, z, e, hl, by rw [hb.cell (p := ⟨b, o + i * 3, none⟩) hl]; exact h1, by rw [hb.cell (p := ⟨b, o + i * 3 + 1, none⟩) hl]; exact h2, by rw [hb.cell (p := ⟨b, o + i * 3 + 2, none⟩) hl]; exact h3, r⟩
theorem TextsAt.below {w w' : World} {lo n : Nat} {a : Option Addr} (h : TextsAt w lo a n) (hb : Below lo w w') : TextsAt w' lo a n := by
  intro i hi
  obtain ⟨b, o, s, e, hl, h1, r⟩ := h i hi
  exact ⟨b, o, s, e, hl, by rw [hb.cell (p := ⟨b, o + i, none⟩) hl]; exact h1, r⟩
theorem MovesIn.mono {w : World} {lo lo' n : Nat} {a : Option Addr} (h : MovesIn w lo a n) (hl : lo ≤ lo') : MovesIn w lo' a n := by
  intro i hi
  obtain ⟨b, o, x, y, z, e, hlt, r⟩ := h i hi
  exact ⟨b, o, x, y, z, e, Nat.lt_of_lt_of_le hlt hl, r⟩
theorem TextsAt.mono {w : World} {lo lo' n : Nat} {a : Option Addr} (h : TextsAt w lo a n) (hl : lo ≤ lo') : TextsAt w lo' a n := by
  intro i hi
  obtain ⟨b, o, s, e, hlt, r⟩ := h i hi
  exact ⟨b, o, s, e, Nat.lt_of_lt_of_le hlt hl, r⟩

/-- A block that was made behind the link's beginning is fenced too. -/
theorem LinkIs.fence {lo x0 : Nat} {w w' w'' : World} {kb : Nat} {b : Nat → Nat} {c : Nat → Cfg} {s : Nat → St} {l : Nat → List Msg} {n : Nat → List ByteArray} {t : Nat → Nat} {en : Bool} (h : LinkIs (fen lo x0) w kb b c s l n t en w') (hb : Below w'.heap.size w' w'') (x : Nat) (hx : w'.heap.size ≤ x) : LinkIs (fen lo x) w'' kb b c s l n t en w'' := by
  obtain ⟨own, v, g, h1, h2, _⟩ := h
  refine ⟨own, v, g, h1.later hb, fun k hk => ⟨(h2 k hk).1, fun e => ?_⟩, Bel.refl _ _⟩
  have e' : k = x := e
  exact hk ((h1.st 0 (by omega)).new0 k (by omega))
/-- One block more within the fence. -/
def Fen.add (B : Fen) (x : Nat) : Fen := ⟨B.lo, fun k => B.X k ∨ k = x, max B.hi (x + 1), fun k h => by rcases h with h | h; exact Nat.lt_of_lt_of_le (B.bd k h) (by omega); omega⟩
theorem Fen.add_top (B : Fen) (x n : Nat) (h : B.top ≤ n) (hx : x < n) : (B.add x).top ≤ n := by
  unfold Fen.top at *
  show max B.lo (max B.hi (x + 1)) ≤ n
  omega
theorem Lk.at.fenced {k : Lk} {B : Fen} {w w' w'' : World} {kb : Nat} {b : Nat → Nat} {c : Nat → Cfg} (h : k.at B w kb b c w') (hb : Below w'.heap.size w' w'') (x : Nat) (hx : w'.heap.size ≤ x) : k.at (B.add x) w'' kb b c w'' := by
  obtain ⟨own, v, g, h1, h2, _⟩ := h
  refine ⟨own, v, g, h1.later hb, fun k hk => ⟨(h2 k hk).1, fun e => ?_⟩, Bel.refl _ _⟩
  rcases e with e | e
  · exact (h2 k hk).2 e
  · exact hk ((h1.st 0 (by omega)).new0 k (by omega))
/-- New memory alone. -/
theorem Lk.at.later {k : Lk} {B : Fen} {w w1 w2 : World} {kb : Nat} {b : Nat → Nat} {c : Nat → Cfg} (h : k.at B w kb b c w1) (hB : B.top ≤ w1.heap.size) (hb : Below w1.heap.size w1 w2) : k.at B w kb b c w2 := by
  obtain ⟨own, v, g, h1, h2, h3⟩ := h
  exact ⟨own, v, g, h1.later hb, h2, h3.trans (Bel.of hb hB)⟩
/-- A frame from nowhere is heard. -/
theorem Lk.at.noised {k : Lk} {B : Fen} {w w1 : World} {kb : Nat} {b : Nat → Nat} {c : Nat → Cfg} (h : k.at B w kb b c w1) (hB : B.top ≤ w1.heap.size) {i : Nat} (hi : i < 2) (s : ByteArray) (hs : s.size ≤ maxLen) (ho : (k.s i).out = []) (he : (k.s i).events = []) (V : World) (hV : Below w1.heap.size w1 V) :
    Calls Tryd.prog 14 #[.pointer (some ⟨b i, 0, none⟩), .slice (some ⟨V.heap.size, 0, none⟩) s.size (grownCap V s.size 0 5)] (Lib.bytesWorld V 5 s) fun e w' => e = .returned (.int .i64 ((hearS (c i) s.data.toList (k.s i)).1 : Nat)) ∧ (k.noise c i s.data.toList).at B w kb b c w' := by
  have h' := h.later hB (hV.trans ((bytesWorld_below V s).mono hV.size))
  obtain ⟨own, v, g, h1, h2, h3⟩ := h'
  obtain ⟨ch, q, cm, o, ev, qe, ce, oe, hS⟩ := h1.st i hi
  have hl : s.data.toList.length = s.size := by rw [Array.length_toList]; rfl
  have hsz : V.heap.size < (Lib.bytesWorld V 5 s).heap.size := by rw [Lib.bytesWorld_size]; omega
  have hg1 := grownCap_ge V s.size 0 5
  have hg2 := grownCap_le_maxLen V s.size 0 5 hs
  have hm63 : maxLen = 9223372036854775807 := by unfold maxLen; omega
  have k1 := hear_wide hS (some ⟨V.heap.size, 0, none⟩) (grownCap V s.size 0 5) s.data.toList (.inr ⟨_, 0, rfl, hsz, bytesWorld_seg2 V s⟩) (by rw [hl]; exact hg1) (by rw [← hm63]; exact hg2) (h1.sok i hi).svm (by rw [ho]; simp) (by rw [he]; simp)
  rw [hl] at k1
  simp only [Bool.false_eq_true, if_false] at k1
  refine k1.mono ?_
  rintro e w' ⟨rfl, own2, hS2, u2⟩
  have hBV : B.top ≤ (Lib.bytesWorld V 5 s).heap.size := Nat.le_trans hB (Nat.le_trans hV.size (Nat.le_of_lt hsz))
  obtain ⟨hl2, hb2⟩ := h2.updF hBV u2.f
  exact ⟨rfl, own2, v, g, h1.called hi u2.f hS2 (hearS_ok hS.cok (h1.sok i hi) _), hl2, h3.trans hb2⟩
end Go.Proofs.YtkalonhalhdlaaaDoor
