/-
  What one call of pick does.
-/
import Derived.Test.YtkalonhalhdlaaaDoorProg
import Derived.Test.YtkalonhalhdlaaaDoorLBase
namespace Go.Proofs.YtkalonhalhdlaaaDoor
open Go.RowKit

def pickN (c n : Int) : Nat := ((if c < 0 then -(c + 1) else c) % n).toNat

theorem pickN_lt (c n : Int) (h : 0 < n) : (pickN c n : Int) < n := by
  unfold pickN
  have h3 := Int.emod_nonneg (if c < 0 then -(c + 1) else c) (show n ≠ 0 by omega)
  have h4 := Int.emod_lt_of_pos (if c < 0 then -(c + 1) else c) h
  omega

theorem pick_val (c n : Int) (w : World) (hc : -9223372036854775808 ≤ c ∧ c ≤ 9223372036854775807) (hn : 0 < n) (hn2 : n ≤ 9223372036854775807) :
    Calls Tryd.prog 9 #[.int .i64 c, .int .i64 n] w fun e w' => e = .returned (.int .i64 (pickN c n : Nat)) ∧ w' = w := by
  by_cases h0 : c < 0
  · go_enter Tryd.func9, Tryd.ntmps9
    go_wp2
    go_ret
    have h1 : (-(c + 1)).tmod n = (-(c + 1)) % n := Int.tmod_eq_emod_of_nonneg (by omega)
    have h2 : -((c + 1).tmod n) = (-(c + 1)) % n := by rw [← h1, Int.neg_tmod]
    have h3 := Int.emod_nonneg (-(c + 1)) (show n ≠ 0 by omega)
    refine ⟨?_, rfl⟩
    show Ending.returned (.int .i64 (-((c + 1).tmod n))) = _
    rw [h2]
    exact ret_int (by unfold pickN; rw [if_pos h0]; omega)
  · go_enter Tryd.func9, Tryd.ntmps9
    go_wp2
    go_ret
    have h3 := Int.emod_nonneg c (show n ≠ 0 by omega)
    refine ⟨?_, rfl⟩
    show Ending.returned (.int .i64 (c % n)) = _
    exact ret_int (by unfold pickN; rw [if_neg (by omega)]; omega)
end Go.Proofs.YtkalonhalhdlaaaDoor
