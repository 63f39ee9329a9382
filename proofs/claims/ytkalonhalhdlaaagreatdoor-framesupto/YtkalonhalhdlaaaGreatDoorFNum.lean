/-
  What one call of numbersFit does.
-/
import Derived.Test.YtkalonhalhdlaaaGreatDoorFSmall
import Derived.Deep.QuietTactic
import Derived.BigQuiet
import Derived.Deep.RegionWith
import Derived.WalkSmall
import Derived.Deep.RegionHeld3
namespace Go.Proofs.YtkalonhalhdlaaaGreatDoor
open Go.RowKit

set_option maxHeartbeats 1000000 in
theorem numbersFit_any (m a k ns nr : Int) (p : Bool) (v : Value) (w : World) :
    Calls Tryz.prog 73 #[.int .i64 m, .agg #[.int .i64 a, .int .i64 k, .bool p, .int .i64 ns, .int .i64 nr, v]] w fun e w' => e = .returned (.bool (numF m ns (hasS k) && numF m nr (hasR k))) ∧ Below w.heap.size w w' := by
  have c1 := fun w => hasNS_any k w
  have c2 := fun w => hasNR_any k w
  have c3 := fun w => numberFits_any m ns (hasS k) w
  have c4 := fun w => numberFits_any m nr (hasR k) w
  generalize numF m nr (hasR k) = y at c4 ⊢
  generalize numF m ns (hasS k) = x at c3 ⊢
  generalize hasS k = s at c1 c3
  generalize hasR k = r at c2 c4
  cases x with
  | false =>
    go_enter Tryz.func73, Tryz.ntmps73
    go_wp2
    go_quiet (first | (go_at_call 111; exact Calls.quiet_of_same (c1 _)) | (go_at_call 110; exact Calls.quiet_of_same (c3 _)))
    go_wp2
    go_ret
    exact ⟨rfl, below_drewN ((Below.refl _ w).alloc (Nat.le_refl _) _) _⟩
  | true =>
    go_enter Tryz.func73, Tryz.ntmps73
    go_wp2
    go_quiet (first | (go_at_call 111; exact Calls.quiet_of_same (c1 _)) | (go_at_call 112; exact Calls.quiet_of_same (c2 _)) | (go_at_call_of 110 (ns); exact Calls.quiet_of_same (c3 _)) | (go_at_call_of 110 (nr); exact Calls.quiet_of_same (c4 _)))
    go_wp2
    go_ret
    exact ⟨rfl, below_drewN ((Below.refl _ w).alloc (Nat.le_refl _) _) _⟩

end Go.Proofs.YtkalonhalhdlaaaGreatDoor
