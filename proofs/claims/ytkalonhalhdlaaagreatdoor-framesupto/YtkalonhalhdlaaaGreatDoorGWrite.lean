/-
  What one call of the document's own Write does: what the code's does, in plain words.
-/
import Derived.Test.YtkalonhalhdlaaaGreatDoorGSmall
import Derived.Test.YtkalonhalhdlaaaGreatDoorFWrite
namespace Go.Proofs.YtkalonhalhdlaaaGreatDoor
open Go.RowKit

set_option maxHeartbeats 2000000 in
set_option maxRecDepth 100000 in
theorem refWrite_arg1 (m a k ns nr : Int) (p : Bool) (v : Value) (w : World) (h : (isMod m && isKd k) = false) :
    Calls Tryz.prog 33 #[.int .i64 m, .agg #[.int .i64 a, .int .i64 k, .bool p, .int .i64 ns, .int .i64 nr, v]] w fun e w' => e = .returned (.tuple #[.slice none 0 0, .int .i64 1]) ∧ Below w.heap.size w w' := by
  have hb0 : ∀ o, Below w.heap.size w (w.alloc o) := fun o => (Below.refl _ w).alloc (Nat.le_refl _) o
  by_cases hm8 : m = 8
  · subst hm8
    by_cases hk1 : k < 1
    · go_enter Tryz.func33, Tryz.ntmps33
      go_wp2
      exact bodyPost_ret (v := .tuple #[.slice none 0 0, .int .i64 1]) (by simp [results, Tryz.results33, go_sem]) rfl ⟨rfl, hb0 _⟩
    · have hk9 : 9 < k := by simp [isMod, isKd] at h; omega
      go_enter Tryz.func33, Tryz.ntmps33
      go_wp2
      exact bodyPost_ret (v := .tuple #[.slice none 0 0, .int .i64 1]) (by simp [results, Tryz.results33, go_sem]) rfl ⟨rfl, hb0 _⟩
  · by_cases hm128 : m = 128
    · subst hm128
      by_cases hk1 : k < 1
      · go_enter Tryz.func33, Tryz.ntmps33
        go_wp2
        exact bodyPost_ret (v := .tuple #[.slice none 0 0, .int .i64 1]) (by simp [results, Tryz.results33, go_sem]) rfl ⟨rfl, hb0 _⟩
      · have hk9 : 9 < k := by simp [isMod, isKd] at h; omega
        go_enter Tryz.func33, Tryz.ntmps33
        go_wp2
        exact bodyPost_ret (v := .tuple #[.slice none 0 0, .int .i64 1]) (by simp [results, Tryz.results33, go_sem]) rfl ⟨rfl, hb0 _⟩
    · go_enter Tryz.func33, Tryz.ntmps33
      go_wp2
      exact bodyPost_ret (v := .tuple #[.slice none 0 0, .int .i64 1]) (by simp [results, Tryz.results33, go_sem]) rfl ⟨rfl, hb0 _⟩

/-- Modulo and kind may be: the test's own form. -/
theorem mk_form {m k : Int} (h : (isMod m && isKd k) = true) : (m = 8 ∨ m = 128) ∧ ¬ k < 1 ∧ ¬ 9 < k := by
  simp [isMod, isKd] at h
  omega

set_option maxHeartbeats 2000000 in
set_option maxRecDepth 100000 in
theorem refWrite_arg2 (m a k ns nr : Int) (p : Bool) (v : Value) (w : World) (h : (isMod m && isKd k) = true) (hn : (numF m ns (hasS k) && numF m nr (hasR k)) = false) :
    Calls Tryz.prog 33 #[.int .i64 m, .agg #[.int .i64 a, .int .i64 k, .bool p, .int .i64 ns, .int .i64 nr, v]] w fun e w' => e = .returned (.tuple #[.slice none 0 0, .int .i64 1]) ∧ Below w.heap.size w w' := by
  have hb0 : ∀ o, Below w.heap.size w (w.alloc o) := fun o => (Below.refl _ w).alloc (Nat.le_refl _) o
  obtain ⟨hm, hk1, hk9⟩ := mk_form h
  have c1 := fun w => refHasNS_any k w
  have c2 := fun w => refHasNR_any k w
  have c3 := fun w => refNumber_any m ns (hasS k) w
  have c4 := fun w => refNumber_any m nr (hasR k) w
  generalize numF m nr (hasR k) = y at c4 hn
  generalize numF m ns (hasS k) = x at c3 hn
  generalize hasS k = s at c1 c3
  generalize hasR k = r at c2 c4
  clear h
  have hmx : ((m != 8) && (m != 128)) = false := by rcases hm with rfl | rfl <;> rfl
  cases x with
  | false =>
    rcases hm with rfl | rfl
    all_goals
      go_enter Tryz.func33, Tryz.ntmps33
      go_wp2_with fail
      refine (c1 _).mono ?_
      rintro e W1 ⟨rfl, rfl⟩
      go_wp2_with fail
      refine (c2 _).mono ?_
      rintro e W1 ⟨rfl, rfl⟩
      go_wp2_with fail
      refine (c3 _).mono ?_
      rintro e W1 ⟨rfl, rfl⟩
      go_wp2_with fail
      refine (c4 _).mono ?_
      rintro e W1 ⟨rfl, rfl⟩
      go_wp2
      exact bodyPost_ret (v := .tuple #[.slice none 0 0, .int .i64 1]) (by simp [results, Tryz.results33, go_sem]) rfl ⟨rfl, hb0 _⟩
  | true =>
    simp at hn
    subst hn
    rcases hm with rfl | rfl
    all_goals
      go_enter Tryz.func33, Tryz.ntmps33
      go_wp2_with fail
      refine (c1 _).mono ?_
      rintro e W1 ⟨rfl, rfl⟩
      go_wp2_with fail
      refine (c2 _).mono ?_
      rintro e W1 ⟨rfl, rfl⟩
      go_wp2_with fail
      refine (c3 _).mono ?_
      rintro e W1 ⟨rfl, rfl⟩
      go_wp2_with fail
      refine (c4 _).mono ?_
      rintro e W1 ⟨rfl, rfl⟩
      go_wp2
      exact bodyPost_ret (v := .tuple #[.slice none 0 0, .int .i64 1]) (by simp [results, Tryz.results33, go_sem]) rfl ⟨rfl, hb0 _⟩
end Go.Proofs.YtkalonhalhdlaaaGreatDoor
