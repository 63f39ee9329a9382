/-
  What one call of Read does, at whatever bytes.
-/
import Derived.Test.YtkalonhalhdlaaaGreatDoorFRead4
namespace Go.Proofs.YtkalonhalhdlaaaGreatDoor
open Go.RowKit

theorem kindL_ok {m : Int} {l : List UInt8} (h : (kindL m l).2 = 0) : ∃ m' k : Nat, ∃ x y r, m = m' ∧ (m' = 8 ∨ m' = 128) ∧ l = x :: y :: r ∧ (kindL m l).1 = k ∧ 1 ≤ k ∧ k ≤ 9 := by
  cases hm : isMod m with
  | false => simp [kindL, hm] at h
  | true =>
    obtain ⟨m', rfl, hm'⟩ := isMod_nat hm
    match l with
    | [] => simp [kindL, hm] at h
    | [x] => cases ha : isAddr x.toNat <;> simp [kindL, hm, ha] at h
    | x :: y :: r =>
      cases ha : isAddr x.toNat with
      | false => simp [kindL, hm, ha] at h
      | true =>
        cases hk : kindFrom m' y.toNat 1 9 with
        | none => simp [kindL, hm, ha, hk] at h
        | some k =>
          have := kindFrom_some hk
          exact ⟨m', k, x, y, r, rfl, hm', rfl, by simp [kindL, hm, ha, hk], by omega, by omega⟩

theorem ctlF_k (m k : Nat) (l : List UInt8) : (ctlF m k l).k = k := by
  unfold ctlF
  by_cases h : 4 < k
  · simp [h]
  · by_cases h2 : m = 8
    · simp [h, h2]
    · simp [h, h2]

theorem kindL_zero {m : Int} {l : List UInt8} (h2 : ¬ (kindL m l).2 = 0) : (kindL m l).1 = 0 := by
  cases hm : isMod m with
  | false => simp [kindL, hm]
  | true =>
    match l with
    | [] => simp [kindL, hm]
    | [x] => cases ha : isAddr x.toNat <;> simp [kindL, hm, ha]
    | x :: y :: r =>
      cases ha : isAddr x.toNat with
      | false => simp [kindL, hm, ha]
      | true =>
        cases hk : kindFrom m.toNat y.toNat 1 9 with
        | none => simp [kindL, hm, ha, hk]
        | some k => exact absurd (by simp [kindL, hm, ha, hk]) h2

set_option maxHeartbeats 1000000 in
/-- Read, at whatever bytes. -/
theorem read_any (m : Int) (p : Option Addr) (c : Nat) (l : List UInt8) (w : World) (hsrc : SrcIs w p l) (hC : Ctl w) (hs : 0 < w.heap.size) (hl : l.length ≤ 1048576) (hc : l.length ≤ c) (hc63 : c ≤ 9223372036854775807) :
    Calls Tryz.prog 35 #[.int .i64 m, .slice p l.length c] w fun e w' => ∃ q cp, e = .returned (.tuple #[.agg #[.int .i64 (readL m l).2.a, .int .i64 (readL m l).2.k, .bool (readL m l).2.p, .int .i64 (readL m l).2.ns, .int .i64 (readL m l).2.nr, .slice q (readL m l).2.info.length cp], .int .i64 ((readL m l).1 : Nat)]) ∧ w'.ownsRow w.heap.size 5 1 (.slice q (readL m l).2.info.length cp) (readL m l).2.info.length (Lib.byteCells (readL m l).2.info) ∧ ((readL m l).1 ≠ 0 → q = none) ∧ Below w.heap.size w w' := by
  have hK : ∀ o, Calls Tryz.prog 83 #[.int .i64 m, .slice p l.length c] (w.alloc o) fun e w' => e = .returned (.tuple #[.int .i64 ((kindL m l).1 : Nat), .int .i64 ((kindL m l).2 : Nat)]) ∧ ∃ n, w' = (w.drewN n).alloc o := fun o =>
    readKind_any m p c l (w.alloc o) (hsrc.below ((Below.refl _ w).alloc (Nat.le_refl _) o) (Nat.le_refl _)) (hC.below ((Below.refl _ w).alloc (Nat.le_refl _) o) hs)
  have fin : ∀ (e : Nat), e ≠ 0 → readL m l = (e, frNone) → (Calls Tryz.prog 35 #[.int .i64 m, .slice p l.length c] w fun r w' => r = .returned (.tuple #[frZ, .int .i64 (e : Nat)]) ∧ Below w.heap.size w w') → Calls Tryz.prog 35 #[.int .i64 m, .slice p l.length c] w fun e w' => ∃ q cp, e = .returned (.tuple #[.agg #[.int .i64 (readL m l).2.a, .int .i64 (readL m l).2.k, .bool (readL m l).2.p, .int .i64 (readL m l).2.ns, .int .i64 (readL m l).2.nr, .slice q (readL m l).2.info.length cp], .int .i64 ((readL m l).1 : Nat)]) ∧ w'.ownsRow w.heap.size 5 1 (.slice q (readL m l).2.info.length cp) (readL m l).2.info.length (Lib.byteCells (readL m l).2.info) ∧ ((readL m l).1 ≠ 0 → q = none) ∧ Below w.heap.size w w' := by
    intro e _ he hcall
    rw [he]
    refine hcall.mono ?_
    rintro r w' ⟨rfl, hb⟩
    exact ⟨none, 0, rfl, World.ownsRow_nil _ _ _ _, fun _ => rfl, hb⟩
  by_cases h2 : (kindL m l).2 = 0
  · obtain ⟨m', k, x, y, r, rfl, hm', rfl, hk, hk1, hk9⟩ := kindL_ok h2
    rw [hk, h2] at hK
    have hcb1 : cbN m' k = 1 ∨ cbN m' k = 2 := by unfold cbN; split <;> simp
    by_cases hsh : (x :: y :: r).length < 1 + cbN m' k
    · have hr : r = [] := List.eq_nil_of_length_eq_zero (by simp at hsh; omega)
      subst hr
      have hcb : cbN m' k = 2 := by simp at hsh; omega
      refine fin 2 (by omega) ?_ (read_short m' k _ p c w (by simp) hk1 hcb hK)
      simp [readL, h2, hk, hcb]
    · by_cases hi : infoF m' k ((x :: y :: r).length - (1 + cbN m' k) : Nat) = false
      · refine fin 5 (by omega) ?_ (read_info m' k _ p _ c w hk1 rfl (by omega) hi (by omega) hK)
        unfold readL
        simp only [h2, hk, Int.toNat_natCast]
        rw [if_neg (by simp), if_neg hsh, if_pos hi]
      · have hi' : infoF m' k ((y :: r).length - cbN m' k : Nat) = true := by
          have e : (y :: r).length - cbN m' k = (x :: y :: r).length - (1 + cbN m' k) := by simp; omega
          rw [e]
          exact eq_true_of_ne_false hi
        have hrd : readL m' (x :: y :: r) = (0, { ctlF m' k (y :: r) with a := x.toNat, info := (y :: r).drop (cbN m' k) }) := by
          unfold readL
          simp only [h2, hk, Int.toNat_natCast]
          rw [if_neg (by simp), if_neg hsh, if_neg hi]
          have e1 : (x :: y :: r).drop (1 + cbN m' k) = (y :: r).drop (cbN m' k) := by rw [Nat.add_comm]; rfl
          rw [e1]
          rfl
        rcases hsrc with ⟨_, h0⟩ | ⟨b, off, rfl, hb, hseg⟩
        · simp at h0
        · rw [hrd]
          have e2 : ((y :: r).drop (cbN m' k)).length = (y :: r).length - cbN m' k := List.length_drop
          have e3 := ctlF_k m' k (y :: r)
          simp only [e2, e3]
          refine (read_ok m' k _ b off c _ x (y :: r) w hm' hk1 hk9 rfl (by simp at hsh ⊢; omega) hi' (by simp at hl ⊢; omega) (by simpa using hc) hc63 hseg hb (by simp) hK).mono ?_
          rintro e w' ⟨q, cp, rfl, hown, hbl⟩
          exact ⟨q, cp, rfl, hown, fun h => absurd rfl h, hbl⟩
  · refine fin _ h2 ?_ (read_kind m _ (kindL m l).2 w h2 ?_)
    · simp [readL, h2]
    · rw [kindL_zero h2] at hK
      exact hK
end Go.Proofs.YtkalonhalhdlaaaGreatDoor
