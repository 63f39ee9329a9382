/-
  What one step on a line does to the law's World: Feed.
-/
import Derived.Deep.RegionHeld3
import Derived.Test.YtkalonhalhdlaaaGreatDoorG13
import Derived.Deep.RegionWith
import Derived.Deep.CutRange
namespace Go.Proofs.YtkalonhalhdlaaaGreatDoor
open Go.RowKit
theorem pick_exact (c : Int) (n : Nat) (hc : -9223372036854775808 ≤ c ∧ c ≤ 9223372036854775807) (hn : 0 < n) (hn2 : n ≤ 200000000000) :
    ∃ r : Nat, r < n ∧ ∀ w, Calls Tryz.prog 16 #[.int .i64 c, .int .i64 (n : Int)] w fun e w' => e = .returned (.int .i64 r) ∧ w' = w := by
  by_cases h0 : c < 0
  · have h3 := Int.emod_nonneg (-(c + 1)) (show (n : Int) ≠ 0 by omega)
    have h4 := Int.emod_lt_of_pos (-(c + 1)) (show (0 : Int) < n by omega)
    refine ⟨((-(c + 1)) % (n : Int)).toNat, by omega, fun w => ?_⟩
    have hn0 : (0 : Int) < n := by omega
    have hnb : (n : Int) ≤ 200000000000 := by omega
    generalize (n : Int) = n at *
    go_enter Tryz.func16, Tryz.ntmps16
    go_wp2
    go_ret
    have h1 : (-(c + 1)).tmod n = (-(c + 1)) % n := Int.tmod_eq_emod_of_nonneg (by omega)
    have h2 : -((c + 1).tmod n) = (-(c + 1)) % n := by rw [← h1, Int.neg_tmod]
    refine ⟨?_, rfl⟩
    show Ending.returned (.int .i64 (-((c + 1).tmod n))) = _
    rw [h2]
    exact ret_int (by omega)
  · have h3 := Int.emod_nonneg c (show (n : Int) ≠ 0 by omega)
    have h4 := Int.emod_lt_of_pos c (show (0 : Int) < n by omega)
    refine ⟨(c % (n : Int)).toNat, by omega, fun w => ?_⟩
    have hn0 : (0 : Int) < n := by omega
    have hnb : (n : Int) ≤ 200000000000 := by omega
    generalize (n : Int) = n at *
    go_enter Tryz.func16, Tryz.ntmps16
    go_wp2
    go_ret
    refine ⟨?_, rfl⟩
    show Ending.returned (.int .i64 (c % n)) = _
    exact ret_int (by omega)
end Go.Proofs.YtkalonhalhdlaaaGreatDoor
