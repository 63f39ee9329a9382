/-
  What one call of the document's own Read does, at whatever bytes.
-/
import Derived.Test.YtkalonhalhdlaaaGreatDoorGRead2
namespace Go.Proofs.YtkalonhalhdlaaaGreatDoor
open Go.RowKit

/-- The document's own Read, at whatever bytes. -/
theorem refRead_any (m : Int) (p : Option Addr) (c : Nat) (l : List UInt8) (w : World) (hsrc : SrcIs w p l) (hl : l.length ≤ 1048576) (hc : l.length ≤ c) :
    Calls Tryz.prog 36 #[.int .i64 m, .slice p l.length c] w fun e w' => ∃ q cp, e = .returned (.tuple #[.agg #[.int .i64 (readL m l).2.a, .int .i64 (readL m l).2.k, .bool (readL m l).2.p, .int .i64 (readL m l).2.ns, .int .i64 (readL m l).2.nr, .slice q (readL m l).2.info.length cp], .int .i64 ((readL m l).1 : Nat)]) ∧ w'.ownsRow w.heap.size 5 1 (.slice q (readL m l).2.info.length cp) (readL m l).2.info.length (Lib.byteCells (readL m l).2.info) ∧ ((readL m l).1 ≠ 0 → q = none) ∧ Below w.heap.size w w' := by
  have fin : ∀ (e : Nat), e ≠ 0 → readL m l = (e, frNone) → (Calls Tryz.prog 36 #[.int .i64 m, .slice p l.length c] w fun r w' => r = .returned (.tuple #[frZ, .int .i64 (e : Nat)]) ∧ Below w.heap.size w w') → Calls Tryz.prog 36 #[.int .i64 m, .slice p l.length c] w fun e w' => ∃ q cp, e = .returned (.tuple #[.agg #[.int .i64 (readL m l).2.a, .int .i64 (readL m l).2.k, .bool (readL m l).2.p, .int .i64 (readL m l).2.ns, .int .i64 (readL m l).2.nr, .slice q (readL m l).2.info.length cp], .int .i64 ((readL m l).1 : Nat)]) ∧ w'.ownsRow w.heap.size 5 1 (.slice q (readL m l).2.info.length cp) (readL m l).2.info.length (Lib.byteCells (readL m l).2.info) ∧ ((readL m l).1 ≠ 0 → q = none) ∧ Below w.heap.size w w' := by
    intro e _ he hcall
    rw [he]
    refine hcall.mono ?_
    rintro r w' ⟨rfl, hb⟩
    exact ⟨none, 0, rfl, World.ownsRow_nil _ _ _ _, fun _ => rfl, hb⟩
  cases hm : isMod m with
  | false => exact fin 1 (by omega) (by simp [readL, kindL, hm]) (refRead_mod m _ w hm)
  | true =>
    match l, hsrc, hl, hc, fin with
    | [], hsrc, hl, hc, fin => exact fin 2 (by omega) (by simp [readL, kindL, hm]) (refRead_nil m p c w hm)
    | x :: r, .inl h, _, _, _ => exact absurd h.2 (by simp)
    | x :: r, .inr ⟨b, off, hp, hb, hseg⟩, hl, hc, fin =>
      subst hp
      have hx := hseg 0 (by simp)
      simp only [Nat.add_zero, List.getD_cons_zero] at hx
      cases ha : isAddr x.toNat with
      | false => exact fin 3 (by omega) (by simp [readL, kindL, hm, ha]) (refRead_addr m b off _ c x w hm (by simp) hx hb ha)
      | true =>
        match r, hseg, hl, hc, fin with
        | [], hseg, hl, hc, fin => exact fin 2 (by omega) (by simp [readL, kindL, hm, ha]) (refRead_one m b off c x w hm hx hb ha)
        | y :: r, hseg, hl, hc, fin =>
          obtain ⟨m', rfl, hm'⟩ := isMod_nat hm
          exact refRead_two m' b off c x y r w hm' ha hseg hb (by simp at hl; omega) (by simpa using hc)
end Go.Proofs.YtkalonhalhdlaaaGreatDoor
