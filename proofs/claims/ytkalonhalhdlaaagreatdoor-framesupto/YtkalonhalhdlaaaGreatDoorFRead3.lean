/-
  What one call of Read does: an error and a frame of noughts, or the frame, its info in new memory.
-/
import Derived.Test.YtkalonhalhdlaaaGreatDoorFRead2
namespace Go.Proofs.YtkalonhalhdlaaaGreatDoor
open Go.RowKit

theorem readKind_any (m : Int) (p : Option Addr) (c : Nat) (l : List UInt8) (w : World) (hsrc : SrcIs w p l) (hC : Ctl w) :
    Calls Tryz.prog 83 #[.int .i64 m, .slice p l.length c] w fun e w' => e = .returned (.tuple #[.int .i64 ((kindL m l).1 : Nat), .int .i64 ((kindL m l).2 : Nat)]) ∧ ∃ n, w' = w.drewN n := by
  cases hm : isMod m with
  | false =>
    have e : kindL m l = (0, 1) := by simp [kindL, hm]
    rw [e]
    exact readKind_mod m _ w hm
  | true =>
    match l, hsrc with
    | [], hsrc =>
      have e : kindL m [] = (0, 2) := by simp [kindL, hm]
      rw [e]
      exact readKind_nil m p c w hm
    | x :: r, .inl h => exact absurd h.2 (by simp)
    | x :: r, .inr ⟨b, off, hp, hb, hseg⟩ =>
      subst hp
      have hx := hseg 0 (by simp)
      simp only [Nat.add_zero, List.getD_cons_zero] at hx
      cases ha : isAddr x.toNat with
      | false =>
        have e : kindL m (x :: r) = (0, 3) := by simp [kindL, hm, ha]
        rw [e]
        exact readKind_addr m b off _ c x w hm (by simp) hx ha
      | true =>
        match r with
        | [] =>
          have e : kindL m [x] = (0, 2) := by simp [kindL, hm, ha]
          rw [e]
          exact readKind_one m b off c x w hm hx ha
        | y :: r =>
          have hy := hseg 1 (by simp)
          simp only [List.getD_cons_succ, List.getD_cons_zero] at hy
          obtain ⟨m', rfl, hm'⟩ := isMod_nat hm
          have e : kindL m' (x :: y :: r) = kindR (kindFrom m' y.toNat 1 9) := by
            simp only [kindL, hm, ha, Int.toNat_natCast]
            cases kindFrom m' y.toNat 1 9 <;> rfl
          rw [e]
          exact readKind_ctl m' b off _ c x y w hm' (by simp) hx hy ha hC

def frZ : Value := .agg #[.int .i64 0, .int .i64 0, .bool false, .int .i64 0, .int .i64 0, .slice none 0 0]

set_option maxHeartbeats 2000000 in
set_option maxRecDepth 100000 in
theorem read_kind (m : Int) (v : Value) (e : Nat) (w : World) (he : e ≠ 0)
    (hK : ∀ o, Calls Tryz.prog 83 #[.int .i64 m, v] (w.alloc o) fun r w' => r = .returned (.tuple #[.int .i64 0, .int .i64 (e : Nat)]) ∧ ∃ n, w' = (w.drewN n).alloc o) :
    Calls Tryz.prog 35 #[.int .i64 m, v] w fun r w' => r = .returned (.tuple #[frZ, .int .i64 (e : Nat)]) ∧ Below w.heap.size w w' := by
  have he1 : ¬ ((e : Int) = 0) := by omega
  have HK := hide hK
  clear hK
  go_enter Tryz.func35, Tryz.ntmps35
  go_wp2_with fail
  refine (unhide HK _).mono ?_
  clear HK
  rintro r W1 ⟨rfl, nd, rfl⟩
  obtain ⟨W0, hW0⟩ : ∃ W0, W0 = w.drewN nd := ⟨_, rfl⟩
  have hb0 : Below w.heap.size w W0 := by rw [hW0]; exact below_drewN (Below.refl w.heap.size w) _
  have hs0 : w.heap.size = W0.heap.size := by rw [hW0]; rfl
  rw [← hW0, hs0]
  clear hW0
  go_wp2
  exact bodyPost_ret (v := .tuple #[frZ, .int .i64 (e : Nat)]) (by simp [results, Tryz.results35, go_sem, frZ]) rfl ⟨rfl, hb0.alloc (by omega) _⟩

set_option maxHeartbeats 2000000 in
set_option maxRecDepth 100000 in
theorem read_short (m k n : Nat) (p : Option Addr) (c : Nat) (w : World) (hn : n = 2) (hk : 1 ≤ k) (hcb : cbN m k = 2)
    (hK : ∀ o, Calls Tryz.prog 83 #[.int .i64 m, .slice p n c] (w.alloc o) fun r w' => r = .returned (.tuple #[.int .i64 (k : Nat), .int .i64 0]) ∧ ∃ n, w' = (w.drewN n).alloc o) :
    Calls Tryz.prog 35 #[.int .i64 m, .slice p n c] w fun r w' => r = .returned (.tuple #[frZ, .int .i64 2]) ∧ Below w.heap.size w w' := by
  subst hn
  have c1 := fun w => controlBytes_any m k hk w
  rw [hcb] at c1
  have HK := hide hK
  clear hK
  go_enter Tryz.func35, Tryz.ntmps35
  go_wp2_with fail
  refine (unhide HK _).mono ?_
  clear HK
  rintro r W1 ⟨rfl, nd, rfl⟩
  obtain ⟨W0, hW0⟩ : ∃ W0, W0 = w.drewN nd := ⟨_, rfl⟩
  have hb0 : Below w.heap.size w W0 := by rw [hW0]; exact below_drewN (Below.refl w.heap.size w) _
  have hs0 : w.heap.size = W0.heap.size := by rw [hW0]; rfl
  rw [← hW0, hs0]
  clear hW0
  go_wp2_with fail
  refine (c1 _).mono ?_
  rintro r W1 ⟨rfl, rfl⟩
  go_wp2
  exact bodyPost_ret (v := .tuple #[frZ, .int .i64 2]) (by simp [results, Tryz.results35, go_sem, frZ]) rfl ⟨rfl, hb0.alloc (by omega) _⟩

set_option maxHeartbeats 2000000 in
set_option maxRecDepth 100000 in
theorem read_info (m k cb : Nat) (p : Option Addr) (n c : Nat) (w : World) (hk : 1 ≤ k) (hcb : cbN m k = cb) (hn : 1 + cb ≤ n) (hi : infoF m k (n - (1 + cb) : Nat) = false) (h63 : n ≤ 1152921504606846976)
    (hK : ∀ o, Calls Tryz.prog 83 #[.int .i64 m, .slice p n c] (w.alloc o) fun r w' => r = .returned (.tuple #[.int .i64 (k : Nat), .int .i64 0]) ∧ ∃ n, w' = (w.drewN n).alloc o) :
    Calls Tryz.prog 35 #[.int .i64 m, .slice p n c] w fun r w' => r = .returned (.tuple #[frZ, .int .i64 5]) ∧ Below w.heap.size w w' := by
  have c1 := fun w => controlBytes_any m k hk w
  have c2 := fun w => infoFits_any m k (n - (1 + cb) : Nat) w
  rw [hcb] at c1
  rw [hi] at c2
  have hlt : ¬ ((n : Int) < 1 + (cb : Int)) := by omega
  have hsub : ((n - (1 + cb) : Nat) : Int) = (n : Int) - (1 + (cb : Int)) := by omega
  rw [hsub] at c2
  clear hi hsub hcb
  have HK := hide hK
  clear hK
  go_enter Tryz.func35, Tryz.ntmps35
  go_wp2_with fail
  refine (unhide HK _).mono ?_
  clear HK
  rintro r W1 ⟨rfl, nd, rfl⟩
  obtain ⟨W0, hW0⟩ : ∃ W0, W0 = w.drewN nd := ⟨_, rfl⟩
  have hb0 : Below w.heap.size w W0 := by rw [hW0]; exact below_drewN (Below.refl w.heap.size w) _
  have hs0 : w.heap.size = W0.heap.size := by rw [hW0]; rfl
  rw [← hW0, hs0]
  clear hW0
  go_wp2_with fail
  refine (c1 _).mono ?_
  rintro r W1 ⟨rfl, rfl⟩
  go_wp2_with fail
  refine (c2 _).mono ?_
  rintro r W1 ⟨rfl, rfl⟩
  go_wp2
  exact bodyPost_ret (v := .tuple #[frZ, .int .i64 5]) (by simp [results, Tryz.results35, go_sem, frZ]) rfl ⟨rfl, hb0.alloc (by omega) _⟩

end Go.Proofs.YtkalonhalhdlaaaGreatDoor
