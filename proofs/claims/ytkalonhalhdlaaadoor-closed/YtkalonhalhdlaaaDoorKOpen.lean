/-
  Opening a Setup, a list of moves and a list of texts out of their data.
-/
import Derived.Test.YtkalonhalhdlaaaDoorWrittenProof
import Derived.Test.YtkalonhalhdlaaaDoorKWith1
import Derived.SliceStrings
namespace Go.Proofs.YtkalonhalhdlaaaDoor
open Go.ChangeShapes Go.WideShapes Go.ChangeAt Go.RowKit

theorem list5 {α : Type} {l : List α} (h : l.length = 5) : ∃ a b c d e, l = [a, b, c, d, e] := by
  match l, h with
  | [a, b, c, d, e], _ => exact ⟨a, b, c, d, e, rfl⟩
theorem list3 {α : Type} {l : List α} (h : l.length = 3) : ∃ a b c, l = [a, b, c] := by
  match l, h with
  | [a, b, c], _ => exact ⟨a, b, c, rfl⟩

section
variable {H : Type} {enc : TypeId × Value → H} {w : World} {base : Nat} {sp : Nat → Bool} {held : Bool}
theorem trod_i64 {fuel : Nat} {cs : List Value} {x : DataW H × List MemPlace} (h : DataW.trod enc Tryd.prog w base sp held fuel 3 cs = some x) : ∃ n, cs = [.int .i64 n] ∧ I64 n := by
  obtain ⟨k, e1, _, e3⟩ := DataW.trod_int Tryd.underlying3 h
  exact ⟨k, e1, bounds_i64 e3⟩
theorem open_setup {fuel : Nat} {cs : List Value} {x : DataW H × List MemPlace} (h : DataW.trod enc Tryd.prog w base sp held fuel 33 cs = some x) : ∃ r : Raw, r.fits ∧ cs = [.bool r.wide, .int .i64 r.win, .int .i64 r.tim, .int .i64 r.tri, .int .i64 r.room] := by
  obtain ⟨xs, n, _, _, hl, hlen, hf⟩ := DataW.trod_struct Tryd.underlying33 h
  have hc5 : Tryd.prog.cellsOf 33 = 5 := by kernel_rfl
  have hcb : Tryd.prog.cellsOf 4 = 1 := by kernel_rfl
  have hci : Tryd.prog.cellsOf 3 = 1 := by kernel_rfl
  rw [hc5] at hl
  have hx5 : xs.length = 5 := hlen
  obtain ⟨c0, c1, c2, c3, c4, rfl⟩ := list5 hl
  obtain ⟨x0, x1, x2, x3, x4, rfl⟩ := list5 hx5
  have h0 : DataW.trod enc Tryd.prog w base sp held n 4 (([c0, c1, c2, c3, c4].drop 0).take (Tryd.prog.cellsOf 4)) = some x0 := hf 0 _ rfl
  have h1 : DataW.trod enc Tryd.prog w base sp held n 3 (([c0, c1, c2, c3, c4].drop 1).take (Tryd.prog.cellsOf 3)) = some x1 := hf 1 _ rfl
  have h2 : DataW.trod enc Tryd.prog w base sp held n 3 (([c0, c1, c2, c3, c4].drop 2).take (Tryd.prog.cellsOf 3)) = some x2 := hf 2 _ rfl
  have h3 : DataW.trod enc Tryd.prog w base sp held n 3 (([c0, c1, c2, c3, c4].drop 3).take (Tryd.prog.cellsOf 3)) = some x3 := hf 3 _ rfl
  have h4 : DataW.trod enc Tryd.prog w base sp held n 3 (([c0, c1, c2, c3, c4].drop 4).take (Tryd.prog.cellsOf 3)) = some x4 := hf 4 _ rfl
  rw [hcb] at h0
  rw [hci] at h1 h2 h3 h4
  obtain ⟨b0, e0, _⟩ := DataW.trod_bool Tryd.underlying4 h0
  obtain ⟨n1, e1, g1⟩ := trod_i64 h1
  obtain ⟨n2, e2, g2⟩ := trod_i64 h2
  obtain ⟨n3, e3, g3⟩ := trod_i64 h3
  obtain ⟨n4, e4, g4⟩ := trod_i64 h4
  refine ⟨⟨b0, n1, n2, n3, n4⟩, ⟨g1, g2, g3, g4⟩, ?_⟩
  simp at e0 e1 e2 e3 e4
  simp [e0, e1, e2, e3, e4]
theorem open_move {fuel : Nat} {cs : List Value} {x : DataW H × List MemPlace} (h : DataW.trod enc Tryd.prog w base sp held fuel 43 cs = some x) : ∃ a b c, cs = [.int .i64 a, .int .i64 b, .int .i64 c] ∧ I64 a ∧ I64 b ∧ I64 c := by
  obtain ⟨xs, n, _, _, hl, hlen, hf⟩ := DataW.trod_struct Tryd.underlying43 h
  have hc3 : Tryd.prog.cellsOf 43 = 3 := by kernel_rfl
  have hci : Tryd.prog.cellsOf 3 = 1 := by kernel_rfl
  rw [hc3] at hl
  have hx3 : xs.length = 3 := hlen
  obtain ⟨c0, c1, c2, rfl⟩ := list3 hl
  obtain ⟨x0, x1, x2, rfl⟩ := list3 hx3
  have h0 : DataW.trod enc Tryd.prog w base sp held n 3 (([c0, c1, c2].drop 0).take (Tryd.prog.cellsOf 3)) = some x0 := hf 0 _ rfl
  have h1 : DataW.trod enc Tryd.prog w base sp held n 3 (([c0, c1, c2].drop 1).take (Tryd.prog.cellsOf 3)) = some x1 := hf 1 _ rfl
  have h2 : DataW.trod enc Tryd.prog w base sp held n 3 (([c0, c1, c2].drop 2).take (Tryd.prog.cellsOf 3)) = some x2 := hf 2 _ rfl
  rw [hci] at h0 h1 h2
  obtain ⟨n0, e0, g0⟩ := trod_i64 h0
  obtain ⟨n1, e1, g1⟩ := trod_i64 h1
  obtain ⟨n2, e2, g2⟩ := trod_i64 h2
  refine ⟨n0, n1, n2, ?_, g0, g1, g2⟩
  simp at e0 e1 e2
  simp [e0, e1, e2]
theorem cells3 {a : Addr} {cs : List Value} (h : w.cells? base a 3 = some cs) : ∃ x y z, cs = [x, y, z] ∧ w.cell? a = some x ∧ w.cell? (a.add 1) = some y ∧ w.cell? (a.add 2) = some z := by
  unfold World.cells? at h
  split at h
  · have e0 : a.add 0 = a := by simp [Addr.add]
    simp only [List.range_succ, List.range_zero, List.nil_append, List.mapM_cons, List.mapM_nil, List.cons_append, e0] at h
    cases h1 : w.cell? a with
    | none => simp [h1] at h
    | some x =>
      cases h2 : w.cell? (a.add 1) with
      | none => simp [h1, h2] at h
      | some y =>
        cases h3 : w.cell? (a.add 2) with
        | none => simp [h1, h2, h3] at h
        | some z =>
          simp [h1, h2, h3] at h
          exact ⟨x, y, z, h.symm, rfl, rfl, rfl⟩
  · cases h
set_option maxRecDepth 100000 in
theorem open_moves {fuel : Nat} {a : Option Addr} {len cap : Nat} {x : DataW H × List MemPlace} (h : DataW.trod enc Tryd.prog w base sp held fuel 34 [.slice a len cap] = some x) : len ≤ maxLen ∧ MovesIn w w.heap.size a len := by
  rcases DataW.trod_slice Tryd.underlying34 h with ⟨hcs, _⟩ | ⟨a0, len0, cap0, elems, rest, n, _, hcs, _, _, hl, hm, hlen, hel, _⟩
  · simp at hcs
    obtain ⟨rfl, rfl, rfl⟩ := hcs
    exact ⟨by decide, fun i hi => by omega⟩
  · simp at hcs
    obtain ⟨rfl, rfl, rfl⟩ := hcs
    refine ⟨Nat.le_trans hl hm, fun i hi => ?_⟩
    have hc3 : Tryd.prog.cellsOf 43 = 3 := by kernel_rfl
    have hE := hel i hi
    rw [hc3] at hE
    have hs : ∃ y, elems[i]? = some y := ⟨_, List.getElem?_eq_getElem (by omega)⟩
    obtain ⟨y, hy⟩ := hs
    rw [hy] at hE
    obtain ⟨cs, h1, h2⟩ := Option.bind_eq_some_iff.1 hE
    obtain ⟨p, q, r, rfl, k1, k2, k3⟩ := cells3 h1
    obtain ⟨mx, my, mz, e, g1, g2, g3⟩ := open_move h2
    simp at e
    obtain ⟨rfl, rfl, rfl⟩ := e
    obtain ⟨b, off, spot⟩ := a0
    have hspot : spot = none := by
      have hE0 := hel 0 (by omega)
      have hs0 : ∃ y, elems[0]? = some y := ⟨_, List.getElem?_eq_getElem (by omega)⟩
      obtain ⟨y0, hy0⟩ := hs0
      rw [hc3, hy0] at hE0
      obtain ⟨cs0, j1, _⟩ := Option.bind_eq_some_iff.1 hE0
      obtain ⟨_, _, _, _, j2, _⟩ := cells3 j1
      simpa [Addr.add] using World.cell?_spot j2
    subst hspot
    rw [add_plain] at k1 k2 k3
    rw [add_plain] at k2 k3
    exact ⟨b, off, mx, my, mz, rfl, block_lt_of_cell k1, k1, k2, k3, g1, g2, g3⟩
theorem open_texts {fuel : Nat} {a : Option Addr} {len cap : Nat} {x : DataW H × List MemPlace} (h : DataW.trod enc Tryd.prog w base sp held fuel 35 [.slice a len cap] = some x) : len ≤ maxLen ∧ TextsAt w w.heap.size a len := by
  rcases open_strings Tryd.underlying35 Tryd.underlying9 (by kernel_rfl) h with ⟨hcs, _⟩ | ⟨x, l, c, ss, hcs, _, hl, hm, hz, _, hcell, hsz⟩
  · simp at hcs
    obtain ⟨rfl, rfl, rfl⟩ := hcs
    exact ⟨by decide, fun i hi => by omega⟩
  · simp at hcs
    obtain ⟨rfl, rfl, rfl⟩ := hcs
    refine ⟨Nat.le_trans hl hm, fun i hi => ?_⟩
    have hz' : len ≤ ss.length := by rw [hz]; split <;> omega
    obtain ⟨b, off, spot⟩ := x
    have hc := hcell 0 (by omega)
    have hspot : spot = none := by simpa [Addr.add] using World.cell?_spot hc
    subst hspot
    have hci := hcell i (by omega)
    rw [add_plain] at hci
    exact ⟨b, off, _, rfl, block_lt_of_cell hci, hci, hsz _ (by simp [List.getD, show i < ss.length by omega])⟩
end
end Go.Proofs.YtkalonhalhdlaaaDoor
