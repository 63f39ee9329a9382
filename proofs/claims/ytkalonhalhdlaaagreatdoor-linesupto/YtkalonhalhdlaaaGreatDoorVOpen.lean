/-
  A list of steps opened out of its datum, each step with its own share of the bulk.
-/
import Derived.Test.YtkalonhalhdlaaaGreatDoorROpen
namespace Go.Proofs.YtkalonhalhdlaaaGreatDoor
open Go.ChangeShapes Go.WideShapes Go.ChangeAt Go.RowKit

theorem bulk_sum {H : Type} : ∀ (l : List (DataW H)), (l.map Rows.uptoBulk).sum ≤ Rows.uptoBulkAll l := by
  intro l
  induction l with
  | nil => simp
  | cons x r ih =>
    unfold Rows.uptoBulkAll
    simp only [List.map_cons, List.sum_cons]
    omega
section
variable {H : Type} {enc : TypeId × Value → H} {w : World} {base : Nat} {sp : Nat → Bool} {held : Bool}
/-- A list of steps. -/
theorem open_opsN {fuel : Nat} {a : Option Addr} {len cap : Nat} {x : DataW H × List MemPlace} (h : DataW.trod enc Tryz.prog w base sp held fuel 22 [.slice a len cap] = some x) :
    ∃ os : List OpV, os.length = len ∧ (a = none → len = 0 ∧ cap = 0) ∧ len ≤ Rows.uptoBulk x.1 ∧ (len = 0 ∨ ∃ b off, a = some ⟨b, off, none⟩ ∧ b < w.heap.size ∧ ∀ j v, (opsCells os)[j]? = some v → w.cell? ⟨b, off + j, none⟩ = some v) ∧ ∃ ns : List Nat, ns.length = len ∧ ns.sum ≤ Rows.uptoBulk x.1 ∧ ∀ (i : Nat) (o : OpV) (n : Nat), os[i]? = some o → ns[i]? = some n → OpIn w n o := by
  rcases DataW.trod_slice Tryz.underlying22 h with ⟨hcs, rfl⟩ | ⟨a0, len0, cap0, elems, rest, n, _, hcs, hx, _, _, _, hlen, hel, _⟩
  · simp at hcs
    obtain ⟨rfl, rfl, rfl⟩ := hcs
    exact ⟨[], rfl, fun _ => ⟨rfl, rfl⟩, Nat.zero_le _, .inl rfl, [], rfl, Nat.zero_le _, fun i o n ho => by simp at ho⟩
  · simp at hcs
    obtain ⟨rfl, rfl, rfl⟩ := hcs
    have hlb : len ≤ Rows.uptoBulk x.1 := by
      rw [hx]
      have := bulk_length (elems.map (·.1))
      rw [List.length_map] at this
      show _ ≤ Rows.uptoBulkAll _ + Rows.uptoBulkAll _ + 1
      omega
    have hex : ∀ i, ∃ o : OpV, i < len → (∀ y, elems[i]? = some y → OpIn w (Rows.uptoBulk y.1) o) ∧ ∀ k, k < 18 → w.cell? ((a0.add (i * 18)).add k) = (opCells o)[k]? := by
      intro i
      by_cases hi : i < len
      · have hE := hel i hi
        rw [cOp] at hE
        obtain ⟨y, hy⟩ : ∃ y, elems[i]? = some y := ⟨_, List.getElem?_eq_getElem (by omega)⟩
        rw [hy] at hE
        obtain ⟨cs, h1, h2⟩ := Option.bind_eq_some_iff.1 hE
        obtain ⟨_, hl2, hc⟩ := World.cells?_some h1
        obtain ⟨o, rfl, ho⟩ := open_op h2
        refine ⟨o, fun _ => ⟨fun y2 hy2 => ?_, hc⟩⟩
        rw [hy] at hy2
        cases hy2
        exact ho
      · exact ⟨opZ, fun h => absurd h hi⟩
    obtain ⟨f, hf⟩ := Classical.axiomOfChoice hex
    refine ⟨(List.range len).map f, by simp, fun e => by simp at e, hlb, ?_, elems.map (fun y => Rows.uptoBulk y.1), by simp [hlen], ?_, fun i o n ho hn => ?_⟩
    · by_cases h0 : len = 0
      · exact .inl h0
      · right
        obtain ⟨b, off, spot⟩ := a0
        have hc0 := (hf 0 (by omega)).2 0 (by omega)
        have hspot : spot = none := by
          have h00 : (opCells (f 0))[0]? = some (.int .i64 (f 0).kind) := rfl
          rw [h00] at hc0
          simpa [Addr.add] using World.cell?_spot hc0
        subst hspot
        have hall : ∀ i k, i < len → k < 18 → w.cell? ⟨b, off + i * 18 + k, none⟩ = (opCells (f i))[k]? := by
          intro i k hi hk
          have := (hf i hi).2 k hk
          rw [add_plain, add_plain] at this
          exact this
        have hb0 := hall 0 0 (by omega) (by omega)
        have h00 : (opCells (f 0))[0]? = some (.int .i64 (f 0).kind) := rfl
        rw [h00] at hb0
        refine ⟨b, off, rfl, block_lt_of_cell hb0, fun j v hj => ?_⟩
        have hjl : j < (opsCells ((List.range len).map f)).length := (List.getElem?_eq_some_iff.1 hj).1
        have hlen2 : (opsCells ((List.range len).map f)).length = len * 18 := by rw [opsCells_len, List.length_map, List.length_range]
        have hd : j / 18 < len := by omega
        have hk : j % 18 < 18 := Nat.mod_lt _ (by omega)
        have ho : ((List.range len).map f)[j / 18]? = some (f (j / 18)) := by
          rw [List.getElem?_map, List.getElem?_range hd]
          rfl
        have e := opsCells_get _ _ _ (j % 18) ho hk
        rw [show j / 18 * 18 + j % 18 = j by omega, hj] at e
        have := hall (j / 18) (j % 18) hd hk
        rw [← e, show off + j / 18 * 18 + j % 18 = off + j by omega] at this
        exact this
    · rw [hx]
      have := bulk_sum (elems.map (·.1))
      rw [List.map_map] at this
      show (elems.map fun y => Rows.uptoBulk y.1).sum ≤ Rows.uptoBulkAll _ + Rows.uptoBulkAll _ + 1
      have e : (elems.map fun y => Rows.uptoBulk y.1) = elems.map (Rows.uptoBulk ∘ (·.1)) := rfl
      rw [e]
      omega
    · have hi : i < len := by
        have := (List.getElem?_eq_some_iff.1 ho).1
        simpa using this
      rw [List.getElem?_map, List.getElem?_range hi] at ho
      simp at ho
      subst ho
      rw [List.getElem?_map] at hn
      obtain ⟨y, hy, rfl⟩ := Option.map_eq_some_iff.1 hn
      exact (hf i hi).1 y hy
end
end Go.Proofs.YtkalonhalhdlaaaGreatDoor
