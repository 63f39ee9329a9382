/-
  A frame's box cell by cell; bytes that one owns as a place to read from.
-/
import Derived.Test.YtkalonhalhdlaaaGreatDoorFCat
namespace Go.Proofs.YtkalonhalhdlaaaGreatDoor
open Go.RowKit

/-- A frame's box, cell by cell. -/
structure FrCells (w : World) (B : Nat) (a k : Int) (p : Bool) (ns nr : Int) (v : Value) : Prop where
  c0 : w.cell? ⟨B, 0, none⟩ = some (.int .i64 a)
  c1 : w.cell? ⟨B, 1, none⟩ = some (.int .i64 k)
  c2 : w.cell? ⟨B, 2, none⟩ = some (.bool p)
  c3 : w.cell? ⟨B, 3, none⟩ = some (.int .i64 ns)
  c4 : w.cell? ⟨B, 4, none⟩ = some (.int .i64 nr)
  c5 : w.cell? ⟨B, 5, none⟩ = some v

theorem FrCells.below {w w' : World} {B : Nat} {a k : Int} {p : Bool} {ns nr : Int} {v : Value} (h : FrCells w B a k p ns nr v) {n : Nat} (hb : Below n w w') (hn : B < n) : FrCells w' B a k p ns nr v := by
  have e : ∀ i, w'.cell? ⟨B, i, none⟩ = w.cell? ⟨B, i, none⟩ := fun i => hb.cell (p := ⟨B, i, none⟩) hn
  exact ⟨by rw [e]; exact h.c0, by rw [e]; exact h.c1, by rw [e]; exact h.c2, by rw [e]; exact h.c3, by rw [e]; exact h.c4, by rw [e]; exact h.c5⟩

theorem FrCells.new (w : World) (a k : Int) (p : Bool) (ns nr : Int) (v : Value) : FrCells (w.alloc (.cells #[.int .i64 a, .int .i64 k, .bool p, .int .i64 ns, .int .i64 nr, v] 30)) w.heap.size a k p ns nr v :=
  ⟨by simp, by simp, by simp, by simp, by simp, by simp⟩

theorem FrCells.set5 {w : World} {B : Nat} {a k : Int} {p : Bool} {ns nr : Int} {v : Value} (h : FrCells w B a k p ns nr v) (u : Value) : FrCells (w.setCell ⟨B, 5, none⟩ u) B a k p ns nr u :=
  ⟨by simp [go_sem, h.c0], by simp [go_sem, h.c1], by simp [go_sem, h.c2], by simp [go_sem, h.c3], by simp [go_sem, h.c4], by simp [go_sem, h.c5]⟩

theorem Seg.set {w : World} {b off : Nat} {l : List UInt8} (h : Seg w b off l) (p : Addr) (hp : b ≠ p.block) (u : Value) : Seg (w.setCell p u) b off l := fun i hi => by
  rw [World.cell?_of_block (w := w) (a := ⟨b, off + i, none⟩) (Below.heap_setCell w p u b hp)]
  exact h i hi

theorem size_set (w : World) (p : Addr) (u : Value) : (w.setCell p u).heap.size = w.heap.size := by
  show (w.heap.modify _ _).size = _
  rw [Array.size_modify]

theorem row_all {w : World} {base n : Nat} {v : Value} {l : List UInt8} (h : w.ownsRow base 5 1 v n (Lib.byteCells l)) (hn : n = l.length) (h0 : 0 < n) : ∃ g cap, v = .slice (some ⟨g, 0, none⟩) n cap ∧ Seg w g 0 l ∧ base ≤ g ∧ g < w.heap.size ∧ n ≤ cap ∧ cap ≤ maxLen := by
  obtain ⟨g, cap, rfl, hseg⟩ := row_is h hn h0
  have hl := h.lt g rfl
  rcases h.2 with ⟨h1, _⟩ | ⟨g', cap', cur, hv, _, _, h2, h3, _⟩
  · cases h1
  · simp only [Value.slice.injEq] at hv
    obtain ⟨_, _, rfl⟩ := hv
    exact ⟨g, cap, rfl, hseg, hl.1, hl.2, h2, h3⟩

theorem own_src {w : World} {base n cp : Nat} {q : Option Addr} {l : List UInt8} (h : w.ownsRow base 5 1 (.slice q n cp) n (Lib.byteCells l)) (hn : n = l.length) : SrcIs w q l := by
  by_cases h0 : 0 < n
  · obtain ⟨g, cap, hv, hseg, _, hlt, _⟩ := row_all h hn h0
    simp only [Value.slice.injEq] at hv
    exact .inr ⟨g, 0, hv.1, hlt, hseg⟩
  · have hl : l = [] := List.eq_nil_of_length_eq_zero (by omega)
    rcases h.2 with ⟨h1, _⟩ | ⟨g, cap, cur, hv, _, hg, _⟩
    · simp only [Value.slice.injEq] at h1
      exact .inl ⟨h1.1, hl⟩
    · simp only [Value.slice.injEq] at hv
      subst hl
      exact .inr ⟨g, 0, hv.1, (Array.getElem?_eq_some_iff.1 hg).1, Seg.nil _ _ _⟩

theorem SrcIs.conv {w : World} {p : Option Addr} {l : List UInt8} (h : SrcIs w p l) (cap : Nat) : (convert 28 9 (.slice p l.length cap)).run Tryz.prog w = .ok (.string ⟨l.toArray⟩) w := by
  have hin : Lib.BytesIn w p l.length (nums l) := by
    rcases h with ⟨rfl, rfl⟩ | ⟨b, off, rfl, _, hseg⟩
    · exact Lib.BytesIn.nil _ _ _
    · exact hseg.bytesIn
  have := hin.convert (nums_length _) cap 28 5 9 Tryz.underlying28 Tryz.underlying5 Tryz.underlying9
  rw [this]
  have e : strOfNums (nums l) = ⟨(Lib.bytesOf (nums l)).toArray⟩ := rfl
  rw [e, bytesOf_nums]

theorem ownsRow_below {w w' : World} {base : Nat} {e : TypeId} {size : Nat} {v : Value} {n : Nat} {xs : List Value} (h : w.ownsRow base e size v n xs) (hb : Below w.heap.size w w') : w'.ownsRow base e size v n xs := by
  obtain ⟨h1, h2⟩ := h
  refine ⟨h1, ?_⟩
  rcases h2 with h2 | ⟨g, cap, cur, e1, e2, e3, e4⟩
  · exact Or.inl h2
  · exact Or.inr ⟨g, cap, cur, e1, e2, by rw [hb.block g (Array.getElem?_eq_some_iff.1 e3).1]; exact e3, e4⟩
end Go.Proofs.YtkalonhalhdlaaaGreatDoor
