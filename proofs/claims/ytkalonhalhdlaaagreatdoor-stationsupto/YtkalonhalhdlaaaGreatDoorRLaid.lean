/-
  What the listed variable gives the walks.
-/
import Derived.Test.YtkalonhalhdlaaaGreatDoorRows
import Derived.Test.YtkalonhalhdlaaaGreatDoorG01
import Derived.ProofKit
import Derived.LaidMore
import Derived.OpenShut
namespace Go.Proofs.YtkalonhalhdlaaaGreatDoor
open Go.ChangeShapes Go.WideShapes Go.ChangeAt Go.RowKit
theorem law_own : ownKnob Tryz.prog.godebug = none := by kernel_rfl
theorem gCtl : Tryz.prog.globalNamed "tether/tether.controls" = some 0 := by kernel_rfl
theorem tCtl : (Tryz.prog.globals[0]?).map (·.type) = some 164 := by kernel_rfl
theorem uCtl : Tryz.prog.underlying 164 = some (.array 10 5) := by kernel_rfl
/-- What the condition gives the walks. -/
theorem of_laid {W : World} (h : laidMetH Tryz.prog [("tether/tether.controls", Rows.laid_tether_tether_controls)] W) : Ctl W ∧ 0 < W.heap.size := by
  rw [MakeChecks.laidMetH_plain _ _ _ (by kernel_rfl)] at h
  obtain ⟨ps, ⟨g0, t0, cs0, f0, p0, q0, hg0, ht0, hv0, hd0, _, _⟩, _, _⟩ := h
  obtain rfl := Option.some.inj (gCtl.symm.trans hg0)
  obtain rfl := Option.some.inj (tCtl.symm.trans ht0)
  have c5 : Tryz.prog.cellsOf 5 = 1 := by kernel_rfl
  obtain ⟨xs, m1, rfl, hx1, hlen, hn, hel⟩ := DataW.trod_array uCtl hd0
  have hC : Ctl W := by
    intro i hi
    rw [World.var?_cell hg0 hv0 i]
    have h1 := hel i hi
    rw [c5, Nat.mul_one] at h1
    simp only [Prod.mk.injEq, Rows.laid_tether_tether_controls, DataW.agg.injEq] at hx1
    have hxi : xs[i]? = some xs[i] := List.getElem?_eq_getElem (by omega)
    rw [hxi] at h1
    obtain ⟨k, e1, e2, _⟩ := DataW.trod_int Tryz.underlying5 h1
    have h2 : (xs.map (·.1))[i]? = some (.lit (.int .u8 k)) := by rw [List.getElem?_map, hxi, e2]; rfl
    rw [← hx1.1] at h2
    have h3 : cs0[i]? = some (.int .u8 k) := by
      have : (cs0.toList.drop i)[0]? = some (.int .u8 k) := by
        have := congrArg (fun l => l[0]?) e1
        simpa using this
      simpa using this
    rw [h3]
    have hcases : i = 0 ∨ i = 1 ∨ i = 2 ∨ i = 3 ∨ i = 4 ∨ i = 5 ∨ i = 6 ∨ i = 7 ∨ i = 8 ∨ i = 9 := by omega
    rcases hcases with rfl | rfl | rfl | rfl | rfl | rfl | rfl | rfl | rfl | rfl <;> simp at h2 <;> simp [← h2, tabN]
  exact ⟨hC, World.block_lt_of_cell? W _ (hC 0 (by omega))⟩
end Go.Proofs.YtkalonhalhdlaaaGreatDoor
