/-
  What one call of New does.
-/
import Derived.Test.YtkalonhalhdlaaaDoorSCall4
namespace Go.Proofs.YtkalonhalhdlaaaDoor
open Go.RowKit

def cntB (n most : Int) : Bool := decide (1 ≤ n) && decide (n ≤ most)
/-- May a configuration be? -/
def cfgB (m win tim tri room addr : Int) : Bool := isMod m && (cntB win 15 && (decide (win < m) && (cntB tim 100 && (cntB tri 10 && (cntB room 16 && isAddr addr)))))

set_option maxHeartbeats 1000000 in
theorem isCount_any (n most : Int) (w : World) : Calls Tryd.prog 75 #[.int .i64 n, .int .i64 most] w fun e w' => e = .returned (.bool (cntB n most)) ∧ w' = w := by
  by_cases h1 : 1 ≤ n
  · by_cases h2 : n ≤ most
    · go_enter Tryd.func75, Tryd.ntmps75
      go_wp2
      go_ret
      exact ⟨ret_bool (by simp [cntB, h1, h2]), rfl⟩
    · go_enter Tryd.func75, Tryd.ntmps75
      go_wp2
      go_ret
      exact ⟨ret_bool (by simp [cntB, h1, h2]), rfl⟩
  · go_enter Tryd.func75, Tryd.ntmps75
    go_wp2
    go_ret
    exact ⟨ret_bool (by simp [cntB]; omega), rfl⟩

set_option maxHeartbeats 4000000 in
set_option maxRecDepth 100000 in
theorem configFits_any (m win tim tri room addr : Int) (w : World) :
    Calls Tryd.prog 60 #[.agg #[.int .i64 m, .int .i64 win, .int .i64 tim, .int .i64 tri, .int .i64 room, .int .i64 addr]] w fun e w' => e = .returned (.bool (cfgB m win tim tri room addr)) ∧ Below w.heap.size w w' := by
  have k1 := fun V => isModulo_any m V
  have k2 := fun V => isCount_any win 15 V
  have k3 := fun V => isCount_any tim 100 V
  have k4 := fun V => isCount_any tri 10 V
  have k5 := fun V => isCount_any room 16 V
  have k6 := fun V => isAddress_any addr V
  have hdef : cfgB m win tim tri room addr = (isMod m && (cntB win 15 && (decide (win < m) && (cntB tim 100 && (cntB tri 10 && (cntB room 16 && isAddr addr)))))) := rfl
  generalize isMod m = x1 at *
  generalize cntB win 15 = x2 at *
  generalize cntB tim 100 = x3 at *
  generalize cntB tri 10 = x4 at *
  generalize cntB room 16 = x5 at *
  generalize isAddr addr = x6 at *
  have HD := hide hdef
  clear hdef
  cases x1 with
  | false =>
    have HD2 : Hid (cfgB m win tim tri room addr = false) := hide ((unhide HD).trans (by simp))
    clear HD
    go_enter Tryd.func60, Tryd.ntmps60
    go_wp2_with (first | (go_at_call 33; refine (k1 _).mono ?_; rintro e w' ⟨rfl, rfl⟩) | (go_at_call 36; refine (k6 _).mono ?_; rintro e w' ⟨rfl, rfl⟩) | (go_at_call_of 75 (win); refine (k2 _).mono ?_; rintro e w' ⟨rfl, rfl⟩) | (go_at_call_of 75 (tim); refine (k3 _).mono ?_; rintro e w' ⟨rfl, rfl⟩) | (go_at_call_of 75 (tri); refine (k4 _).mono ?_; rintro e w' ⟨rfl, rfl⟩) | (go_at_call_of 75 (room); refine (k5 _).mono ?_; rintro e w' ⟨rfl, rfl⟩))
    go_ret
    exact ⟨ret_bool (unhide HD2).symm, (Below.refl _ w).alloc (Nat.le_refl _) _⟩
  | true =>
    cases x2 with
    | false =>
      have HD2 : Hid (cfgB m win tim tri room addr = false) := hide ((unhide HD).trans (by simp))
      clear HD
      go_enter Tryd.func60, Tryd.ntmps60
      go_wp2_with (first | (go_at_call 33; refine (k1 _).mono ?_; rintro e w' ⟨rfl, rfl⟩) | (go_at_call 36; refine (k6 _).mono ?_; rintro e w' ⟨rfl, rfl⟩) | (go_at_call_of 75 (win); refine (k2 _).mono ?_; rintro e w' ⟨rfl, rfl⟩) | (go_at_call_of 75 (tim); refine (k3 _).mono ?_; rintro e w' ⟨rfl, rfl⟩) | (go_at_call_of 75 (tri); refine (k4 _).mono ?_; rintro e w' ⟨rfl, rfl⟩) | (go_at_call_of 75 (room); refine (k5 _).mono ?_; rintro e w' ⟨rfl, rfl⟩))
      go_ret
      exact ⟨ret_bool (unhide HD2).symm, (Below.refl _ w).alloc (Nat.le_refl _) _⟩
    | true =>
      by_cases hwm : win < m
      · skip
        cases x3 with
        | false =>
          have HD2 : Hid (cfgB m win tim tri room addr = false) := hide ((unhide HD).trans (by simp [hwm]))
          clear HD
          go_enter Tryd.func60, Tryd.ntmps60
          go_wp2_with (first | (go_at_call 33; refine (k1 _).mono ?_; rintro e w' ⟨rfl, rfl⟩) | (go_at_call 36; refine (k6 _).mono ?_; rintro e w' ⟨rfl, rfl⟩) | (go_at_call_of 75 (win); refine (k2 _).mono ?_; rintro e w' ⟨rfl, rfl⟩) | (go_at_call_of 75 (tim); refine (k3 _).mono ?_; rintro e w' ⟨rfl, rfl⟩) | (go_at_call_of 75 (tri); refine (k4 _).mono ?_; rintro e w' ⟨rfl, rfl⟩) | (go_at_call_of 75 (room); refine (k5 _).mono ?_; rintro e w' ⟨rfl, rfl⟩))
          go_ret
          exact ⟨ret_bool (unhide HD2).symm, (Below.refl _ w).alloc (Nat.le_refl _) _⟩
        | true =>
          cases x4 with
          | false =>
            have HD2 : Hid (cfgB m win tim tri room addr = false) := hide ((unhide HD).trans (by simp [hwm]))
            clear HD
            go_enter Tryd.func60, Tryd.ntmps60
            go_wp2_with (first | (go_at_call 33; refine (k1 _).mono ?_; rintro e w' ⟨rfl, rfl⟩) | (go_at_call 36; refine (k6 _).mono ?_; rintro e w' ⟨rfl, rfl⟩) | (go_at_call_of 75 (win); refine (k2 _).mono ?_; rintro e w' ⟨rfl, rfl⟩) | (go_at_call_of 75 (tim); refine (k3 _).mono ?_; rintro e w' ⟨rfl, rfl⟩) | (go_at_call_of 75 (tri); refine (k4 _).mono ?_; rintro e w' ⟨rfl, rfl⟩) | (go_at_call_of 75 (room); refine (k5 _).mono ?_; rintro e w' ⟨rfl, rfl⟩))
            go_ret
            exact ⟨ret_bool (unhide HD2).symm, (Below.refl _ w).alloc (Nat.le_refl _) _⟩
          | true =>
            cases x5 with
            | false =>
              have HD2 : Hid (cfgB m win tim tri room addr = false) := hide ((unhide HD).trans (by simp [hwm]))
              clear HD
              go_enter Tryd.func60, Tryd.ntmps60
              go_wp2_with (first | (go_at_call 33; refine (k1 _).mono ?_; rintro e w' ⟨rfl, rfl⟩) | (go_at_call 36; refine (k6 _).mono ?_; rintro e w' ⟨rfl, rfl⟩) | (go_at_call_of 75 (win); refine (k2 _).mono ?_; rintro e w' ⟨rfl, rfl⟩) | (go_at_call_of 75 (tim); refine (k3 _).mono ?_; rintro e w' ⟨rfl, rfl⟩) | (go_at_call_of 75 (tri); refine (k4 _).mono ?_; rintro e w' ⟨rfl, rfl⟩) | (go_at_call_of 75 (room); refine (k5 _).mono ?_; rintro e w' ⟨rfl, rfl⟩))
              go_ret
              exact ⟨ret_bool (unhide HD2).symm, (Below.refl _ w).alloc (Nat.le_refl _) _⟩
            | true =>
              cases x6 with
              | false =>
                have HD2 : Hid (cfgB m win tim tri room addr = false) := hide ((unhide HD).trans (by simp [hwm]))
                clear HD
                go_enter Tryd.func60, Tryd.ntmps60
                go_wp2_with (first | (go_at_call 33; refine (k1 _).mono ?_; rintro e w' ⟨rfl, rfl⟩) | (go_at_call 36; refine (k6 _).mono ?_; rintro e w' ⟨rfl, rfl⟩) | (go_at_call_of 75 (win); refine (k2 _).mono ?_; rintro e w' ⟨rfl, rfl⟩) | (go_at_call_of 75 (tim); refine (k3 _).mono ?_; rintro e w' ⟨rfl, rfl⟩) | (go_at_call_of 75 (tri); refine (k4 _).mono ?_; rintro e w' ⟨rfl, rfl⟩) | (go_at_call_of 75 (room); refine (k5 _).mono ?_; rintro e w' ⟨rfl, rfl⟩))
                go_ret
                exact ⟨ret_bool (unhide HD2).symm, (Below.refl _ w).alloc (Nat.le_refl _) _⟩
              | true =>
                have HD2 : Hid (cfgB m win tim tri room addr = true) := hide ((unhide HD).trans (by simp [hwm]))
                clear HD
                go_enter Tryd.func60, Tryd.ntmps60
                go_wp2_with (first | (go_at_call 33; refine (k1 _).mono ?_; rintro e w' ⟨rfl, rfl⟩) | (go_at_call 36; refine (k6 _).mono ?_; rintro e w' ⟨rfl, rfl⟩) | (go_at_call_of 75 (win); refine (k2 _).mono ?_; rintro e w' ⟨rfl, rfl⟩) | (go_at_call_of 75 (tim); refine (k3 _).mono ?_; rintro e w' ⟨rfl, rfl⟩) | (go_at_call_of 75 (tri); refine (k4 _).mono ?_; rintro e w' ⟨rfl, rfl⟩) | (go_at_call_of 75 (room); refine (k5 _).mono ?_; rintro e w' ⟨rfl, rfl⟩))
                go_ret
                exact ⟨ret_bool (unhide HD2).symm, (Below.refl _ w).alloc (Nat.le_refl _) _⟩
      · skip
        have HD2 : Hid (cfgB m win tim tri room addr = false) := hide ((unhide HD).trans (by simp [hwm]))
        clear HD
        go_enter Tryd.func60, Tryd.ntmps60
        go_wp2_with (first | (go_at_call 33; refine (k1 _).mono ?_; rintro e w' ⟨rfl, rfl⟩) | (go_at_call 36; refine (k6 _).mono ?_; rintro e w' ⟨rfl, rfl⟩) | (go_at_call_of 75 (win); refine (k2 _).mono ?_; rintro e w' ⟨rfl, rfl⟩) | (go_at_call_of 75 (tim); refine (k3 _).mono ?_; rintro e w' ⟨rfl, rfl⟩) | (go_at_call_of 75 (tri); refine (k4 _).mono ?_; rintro e w' ⟨rfl, rfl⟩) | (go_at_call_of 75 (room); refine (k5 _).mono ?_; rintro e w' ⟨rfl, rfl⟩))
        go_ret
        exact ⟨ret_bool (unhide HD2).symm, (Below.refl _ w).alloc (Nat.le_refl _) _⟩

end Go.Proofs.YtkalonhalhdlaaaDoor
