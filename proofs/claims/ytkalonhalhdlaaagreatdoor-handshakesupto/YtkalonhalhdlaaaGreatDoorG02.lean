import Derived.Test.YtkalonhalhdlaaaGreatDoorG01
import Derived.Deep.RegionLaw
import Derived.Deep.AppendLies
/-
  What one call of readControl does.
-/
namespace Go.Proofs.YtkalonhalhdlaaaGreatDoor
open Go.RowKit
def frC (k : Nat) (p : Bool) (ns nr : Int) : Value := .agg #[.int .i64 0, .int .i64 k, .bool p, .int .i64 ns, .int .i64 nr, .slice none 0 0]
theorem ne_dec (n : Nat) : ((n : Int) != 0) = decide (n ≠ 0) := by
  by_cases h : n = 0 <;> simp [h]
set_option maxHeartbeats 2000000 in
set_option maxRecDepth 100000 in
theorem readControl_plain (m k b off n cap : Nat) (x : UInt8) (w : World) (hk : 4 < k) (hn : 0 < n) (hx : w.cell? ⟨b, off, none⟩ = some (.int .u8 (x.toNat : Int))) (hb : b < w.heap.size) :
    Calls Tryz.prog 85 #[.int .i64 m, .int .i64 k, .slice (some ⟨b, off, none⟩) n cap] w fun e w' => e = .returned (frC k (decide (x.toNat &&& 16 ≠ 0)) 0 0) ∧ Below w.heap.size w w' := by
  have hand : bits .and .u8 (x.toNat : Int) 16 = ((x.toNat &&& 16 : Nat) : Int) := u8_and_nat x.toNat 16 x.toNat_lt (by omega)
  have hn2 : (0 : Int) < (n : Int) := by omega
  have c1 := fun w => hasNS_any k w
  have c2 := fun w => hasNR_any k w
  have h1 : hasS k = false := by simp [hasS]; omega
  have h2 : hasR k = false := by simp [hasR]; omega
  rw [h1] at c1
  rw [h2] at c2
  have hne : ¬ b = w.heap.size := by omega
  have hx1 : ∀ o, (w.alloc o).cell? ⟨b, off, none⟩ = some (.int .u8 (x.toNat : Int)) := fun o => by rw [((Below.refl w.heap.size w).alloc (Nat.le_refl _) o).cell (p := ⟨b, off, none⟩) hb]; exact hx
  clear h1 h2
  go_enter Tryz.func85, Tryz.ntmps85
  go_wp2_with fail
  refine (c1 _).mono ?_
  rintro e W1 ⟨rfl, rfl⟩
  go_wp2_with fail
  refine (c2 _).mono ?_
  rintro e W1 ⟨rfl, rfl⟩
  go_wp2
  exact bodyPost_ret (v := frC k ((x.toNat &&& 16 : Nat) != (0 : Int)) 0 0) (by simp [results, Tryz.results85, go_sem, frC]) rfl ⟨by rw [ne_dec], ((Below.refl w.heap.size w).alloc (Nat.le_refl _) _).alloc (by simp) _⟩
set_option maxHeartbeats 2000000 in
set_option maxRecDepth 100000 in
theorem readControl_i8 (b off n cap : Nat) (x : UInt8) (w : World) (hn : 0 < n) (hx : w.cell? ⟨b, off, none⟩ = some (.int .u8 (x.toNat : Int))) (hb : b < w.heap.size) :
    Calls Tryz.prog 85 #[.int .i64 8, .int .i64 1, .slice (some ⟨b, off, none⟩) n cap] w fun e w' => e = .returned (frC 1 (decide (x.toNat &&& 16 ≠ 0)) ((x.toNat / 2 % 8 : Nat) : Int) ((x.toNat / 32 : Nat) : Int)) ∧ Below w.heap.size w w' := by
  have hand : bits .and .u8 (x.toNat : Int) 16 = ((x.toNat &&& 16 : Nat) : Int) := u8_and_nat x.toNat 16 x.toNat_lt (by omega)
  have hx8 : x.toNat < 256 := x.toNat_lt
  have hn2 : (0 : Int) < (n : Int) := by omega
  have c1 := fun w => hasNS_any 1 w
  have c2 := fun w => hasNR_any 1 w
  have h1 : hasS 1 = true := by rfl
  have h2 : hasR 1 = true := by rfl
  rw [h1] at c1
  rw [h2] at c2
  have hne : ¬ b = w.heap.size := by omega
  have hne2 : ¬ b = w.heap.size + 1 := by omega
  have hx1 : ∀ o, (w.alloc o).cell? ⟨b, off, none⟩ = some (.int .u8 (x.toNat : Int)) := fun o => by rw [((Below.refl w.heap.size w).alloc (Nat.le_refl _) o).cell (p := ⟨b, off, none⟩) hb]; exact hx
  have hx2 : ∀ o o', ((w.alloc o).alloc o').cell? ⟨b, off, none⟩ = some (.int .u8 (x.toNat : Int)) := fun o o' => by rw [(((Below.refl w.heap.size w).alloc (Nat.le_refl _) o).alloc (by simp) o').cell (p := ⟨b, off, none⟩) hb]; exact hx
  clear h1 h2
  go_enter Tryz.func85, Tryz.ntmps85
  go_wp2_with fail
  refine (c1 _).mono ?_
  rintro e W1 ⟨rfl, rfl⟩
  go_wp2_with fail
  refine (c2 _).mono ?_
  rintro e W1 ⟨rfl, rfl⟩
  go_wp2
  exact bodyPost_ret (v := frC 1 ((x.toNat &&& 16 : Nat) != (0 : Int)) ((x.toNat : Int) / 2 % 8) ((x.toNat : Int) / 32)) (by simp [results, Tryz.results85, go_sem, frC]) rfl ⟨by rw [ne_dec]; simp, ((Below.refl w.heap.size w).alloc (Nat.le_refl _) _).alloc (by simp) _⟩
set_option maxHeartbeats 2000000 in
set_option maxRecDepth 100000 in
theorem readControl_s8 (k b off n cap : Nat) (x : UInt8) (w : World) (hk : 2 ≤ k) (hk4 : k ≤ 4) (hn : 0 < n) (hx : w.cell? ⟨b, off, none⟩ = some (.int .u8 (x.toNat : Int))) (hb : b < w.heap.size) :
    Calls Tryz.prog 85 #[.int .i64 8, .int .i64 k, .slice (some ⟨b, off, none⟩) n cap] w fun e w' => e = .returned (frC k (decide (x.toNat &&& 16 ≠ 0)) 0 ((x.toNat / 32 : Nat) : Int)) ∧ Below w.heap.size w w' := by
  have hand : bits .and .u8 (x.toNat : Int) 16 = ((x.toNat &&& 16 : Nat) : Int) := u8_and_nat x.toNat 16 x.toNat_lt (by omega)
  have hx8 : x.toNat < 256 := x.toNat_lt
  have hn2 : (0 : Int) < (n : Int) := by omega
  have c1 := fun w => hasNS_any k w
  have c2 := fun w => hasNR_any k w
  have h1 : hasS k = false := by simp [hasS]; omega
  have h2 : hasR k = true := by simp [hasR]; omega
  rw [h1] at c1
  rw [h2] at c2
  have hne : ¬ b = w.heap.size := by omega
  have hne2 : ¬ b = w.heap.size + 1 := by omega
  have hx1 : ∀ o, (w.alloc o).cell? ⟨b, off, none⟩ = some (.int .u8 (x.toNat : Int)) := fun o => by rw [((Below.refl w.heap.size w).alloc (Nat.le_refl _) o).cell (p := ⟨b, off, none⟩) hb]; exact hx
  have hx2 : ∀ o o', ((w.alloc o).alloc o').cell? ⟨b, off, none⟩ = some (.int .u8 (x.toNat : Int)) := fun o o' => by rw [(((Below.refl w.heap.size w).alloc (Nat.le_refl _) o).alloc (by simp) o').cell (p := ⟨b, off, none⟩) hb]; exact hx
  clear h1 h2
  go_enter Tryz.func85, Tryz.ntmps85
  go_wp2_with fail
  refine (c1 _).mono ?_
  rintro e W1 ⟨rfl, rfl⟩
  go_wp2_with fail
  refine (c2 _).mono ?_
  rintro e W1 ⟨rfl, rfl⟩
  go_wp2
  exact bodyPost_ret (v := frC k ((x.toNat &&& 16 : Nat) != (0 : Int)) 0 ((x.toNat : Int) / 32)) (by simp [results, Tryz.results85, go_sem, frC]) rfl ⟨by rw [ne_dec]; simp, ((Below.refl w.heap.size w).alloc (Nat.le_refl _) _).alloc (by simp) _⟩
set_option maxHeartbeats 2000000 in
set_option maxRecDepth 100000 in
theorem readControl_i128 (b off n cap : Nat) (x y : UInt8) (w : World) (hn : 1 < n) (hx : w.cell? ⟨b, off, none⟩ = some (.int .u8 (x.toNat : Int))) (hy : w.cell? ⟨b, off + 1, none⟩ = some (.int .u8 (y.toNat : Int))) (hb : b < w.heap.size) :
    Calls Tryz.prog 85 #[.int .i64 128, .int .i64 1, .slice (some ⟨b, off, none⟩) n cap] w fun e w' => e = .returned (frC 1 (decide (y.toNat % 2 ≠ 0)) ((x.toNat / 2 % 128 : Nat) : Int) ((y.toNat / 2 : Nat) : Int)) ∧ Below w.heap.size w w' := by
  have hand : bits .and .u8 (x.toNat : Int) 16 = ((x.toNat &&& 16 : Nat) : Int) := u8_and_nat x.toNat 16 x.toNat_lt (by omega)
  have hx8 : x.toNat < 256 := x.toNat_lt
  have hand2 : bits .and .u8 (y.toNat : Int) 1 = ((y.toNat % 2 : Nat) : Int) := by rw [← Nat.and_one_is_mod]; exact u8_and_nat y.toNat 1 y.toNat_lt (by omega)
  have hy8 : y.toNat < 256 := y.toNat_lt
  have hn2 : (0 : Int) < (n : Int) := by omega
  have hn3 : (1 : Int) < (n : Int) := by omega
  have c1 := fun w => hasNS_any 1 w
  have c2 := fun w => hasNR_any 1 w
  have h1 : hasS 1 = true := by rfl
  have h2 : hasR 1 = true := by rfl
  rw [h1] at c1
  rw [h2] at c2
  have hne : ¬ b = w.heap.size := by omega
  have hne2 : ¬ b = w.heap.size + 1 := by omega
  have hx1 : ∀ o, (w.alloc o).cell? ⟨b, off, none⟩ = some (.int .u8 (x.toNat : Int)) := fun o => by rw [((Below.refl w.heap.size w).alloc (Nat.le_refl _) o).cell (p := ⟨b, off, none⟩) hb]; exact hx
  have hx2 : ∀ o o', ((w.alloc o).alloc o').cell? ⟨b, off, none⟩ = some (.int .u8 (x.toNat : Int)) := fun o o' => by rw [(((Below.refl w.heap.size w).alloc (Nat.le_refl _) o).alloc (by simp) o').cell (p := ⟨b, off, none⟩) hb]; exact hx
  have hy2 : ∀ o o', ((w.alloc o).alloc o').cell? ⟨b, off + 1, none⟩ = some (.int .u8 (y.toNat : Int)) := fun o o' => by rw [(((Below.refl w.heap.size w).alloc (Nat.le_refl _) o).alloc (by simp) o').cell (p := ⟨b, off + 1, none⟩) hb]; exact hy
  clear h1 h2
  go_enter Tryz.func85, Tryz.ntmps85
  go_wp2_with fail
  refine (c1 _).mono ?_
  rintro e W1 ⟨rfl, rfl⟩
  go_wp2_with fail
  refine (c2 _).mono ?_
  rintro e W1 ⟨rfl, rfl⟩
  go_wp2
  go_region_held3 (fun w' => w'.cell? ⟨b, off + 1, none⟩ = some (.int .u8 (y.toNat : Int))) (go_keep) (fail)
  all_goals go_wp2
  exact bodyPost_ret (v := frC 1 ((y.toNat : Int) % 2 != 0) ((x.toNat : Int) / 2 % 128) ((y.toNat : Int) / 2)) (by simp [results, Tryz.results85, go_sem, frC]) rfl ⟨by rw [← ne_dec]; simp, (((Below.refl w.heap.size w).alloc (Nat.le_refl _) _).alloc (by simp) _).drew⟩
set_option maxHeartbeats 2000000 in
set_option maxRecDepth 100000 in
theorem readControl_s128 (k b off n cap : Nat) (x y : UInt8) (w : World) (hk : 2 ≤ k) (hk4 : k ≤ 4) (hn : 1 < n) (hx : w.cell? ⟨b, off, none⟩ = some (.int .u8 (x.toNat : Int))) (hy : w.cell? ⟨b, off + 1, none⟩ = some (.int .u8 (y.toNat : Int))) (hb : b < w.heap.size) :
    Calls Tryz.prog 85 #[.int .i64 128, .int .i64 k, .slice (some ⟨b, off, none⟩) n cap] w fun e w' => e = .returned (frC k (decide (y.toNat % 2 ≠ 0)) 0 ((y.toNat / 2 : Nat) : Int)) ∧ Below w.heap.size w w' := by
  have hand : bits .and .u8 (x.toNat : Int) 16 = ((x.toNat &&& 16 : Nat) : Int) := u8_and_nat x.toNat 16 x.toNat_lt (by omega)
  have hx8 : x.toNat < 256 := x.toNat_lt
  have hand2 : bits .and .u8 (y.toNat : Int) 1 = ((y.toNat % 2 : Nat) : Int) := by rw [← Nat.and_one_is_mod]; exact u8_and_nat y.toNat 1 y.toNat_lt (by omega)
  have hy8 : y.toNat < 256 := y.toNat_lt
  have hn2 : (0 : Int) < (n : Int) := by omega
  have hn3 : (1 : Int) < (n : Int) := by omega
  have c1 := fun w => hasNS_any k w
  have c2 := fun w => hasNR_any k w
  have h1 : hasS k = false := by simp [hasS]; omega
  have h2 : hasR k = true := by simp [hasR]; omega
  rw [h1] at c1
  rw [h2] at c2
  have hne : ¬ b = w.heap.size := by omega
  have hne2 : ¬ b = w.heap.size + 1 := by omega
  have hx1 : ∀ o, (w.alloc o).cell? ⟨b, off, none⟩ = some (.int .u8 (x.toNat : Int)) := fun o => by rw [((Below.refl w.heap.size w).alloc (Nat.le_refl _) o).cell (p := ⟨b, off, none⟩) hb]; exact hx
  have hx2 : ∀ o o', ((w.alloc o).alloc o').cell? ⟨b, off, none⟩ = some (.int .u8 (x.toNat : Int)) := fun o o' => by rw [(((Below.refl w.heap.size w).alloc (Nat.le_refl _) o).alloc (by simp) o').cell (p := ⟨b, off, none⟩) hb]; exact hx
  have hy2 : ∀ o o', ((w.alloc o).alloc o').cell? ⟨b, off + 1, none⟩ = some (.int .u8 (y.toNat : Int)) := fun o o' => by rw [(((Below.refl w.heap.size w).alloc (Nat.le_refl _) o).alloc (by simp) o').cell (p := ⟨b, off + 1, none⟩) hb]; exact hy
  clear h1 h2
  go_enter Tryz.func85, Tryz.ntmps85
  go_wp2_with fail
  refine (c1 _).mono ?_
  rintro e W1 ⟨rfl, rfl⟩
  go_wp2_with fail
  refine (c2 _).mono ?_
  rintro e W1 ⟨rfl, rfl⟩
  go_wp2
  go_region_held3 (fun w' => w'.cell? ⟨b, off + 1, none⟩ = some (.int .u8 (y.toNat : Int))) (go_keep) (fail)
  all_goals go_wp2
  exact bodyPost_ret (v := frC k ((y.toNat : Int) % 2 != 0) 0 ((y.toNat : Int) / 2)) (by simp [results, Tryz.results85, go_sem, frC]) rfl ⟨by rw [← ne_dec]; simp, (((Below.refl w.heap.size w).alloc (Nat.le_refl _) _).alloc (by simp) _).drew⟩
theorem readControl_any (m k b off n cap : Nat) (l : List UInt8) (w : World) (hm : m = 8 ∨ m = 128) (hk : 1 ≤ k) (hk9 : k ≤ 9) (hn : cbN m k ≤ n) (hl : cbN m k ≤ l.length) (hseg : Seg w b off l) (hb : b < w.heap.size) :
    Calls Tryz.prog 85 #[.int .i64 m, .int .i64 k, .slice (some ⟨b, off, none⟩) n cap] w fun e w' => e = .returned (frC k (ctlF m k l).p (ctlF m k l).ns (ctlF m k l).nr) ∧ Below w.heap.size w w' := by
  have h1 : 1 ≤ cbN m k := by unfold cbN; split <;> omega
  have hx := hseg 0 (by omega)
  simp only [Nat.add_zero] at hx
  by_cases h4 : 4 < k
  · refine (readControl_plain m k b off n cap _ w h4 (by omega) hx hb).mono ?_
    rintro e w' ⟨rfl, hw⟩
    refine ⟨?_, hw⟩
    simp only [ctlF, if_pos h4]
  · rcases hm with rfl | rfl
    · by_cases hk1 : k = 1
      · subst hk1
        refine (readControl_i8 b off n cap _ w (by omega) hx hb).mono ?_
        rintro e w' ⟨rfl, hw⟩
        exact ⟨rfl, hw⟩
      · refine (readControl_s8 k b off n cap _ w (by omega) (by omega) (by omega) hx hb).mono ?_
        rintro e w' ⟨rfl, hw⟩
        refine ⟨?_, hw⟩
        simp only [ctlF, if_neg h4, if_pos, if_neg hk1]
    · have hw : cbN 128 k = 2 := by simp [cbN, wide]; omega
      have hy := hseg 1 (by omega)
      by_cases hk1 : k = 1
      · subst hk1
        refine (readControl_i128 b off n cap _ _ w (by omega) hx hy hb).mono ?_
        rintro e w' ⟨rfl, hw⟩
        exact ⟨rfl, hw⟩
      · refine (readControl_s128 k b off n cap _ _ w (by omega) (by omega) (by omega) hx hy hb).mono ?_
        rintro e w' ⟨rfl, hw⟩
        refine ⟨?_, hw⟩
        simp [ctlF, if_neg h4, if_neg hk1]
end Go.Proofs.YtkalonhalhdlaaaGreatDoor

/-
  What one call of Read does: an error and a frame of noughts, or the frame, its info in new memory.
-/
namespace Go.Proofs.YtkalonhalhdlaaaGreatDoor
open Go.RowKit
theorem readKind_any (m : Int) (p : Option Addr) (c : Nat) (l : List UInt8) (w : World) (hsrc : SrcIs w p l) (hC : Ctl w) :
    Calls Tryz.prog 83 #[.int .i64 m, .slice p l.length c] w fun e w' => e = .returned (.tuple #[.int .i64 ((kindL m l).1 : Nat), .int .i64 ((kindL m l).2 : Nat)]) ∧ ∃ n, w' = w.drewN n := by
  cases hm : isMod m with
  | false =>
    have e : kindL m l = (0, 1) := by simp [kindL, hm]
    rw [e]
    exact readKind_mod m _ w hm
  | true =>
    match l, hsrc with
    | [], hsrc =>
      have e : kindL m [] = (0, 2) := by simp [kindL, hm]
      rw [e]
      exact readKind_nil m p c w hm
    | x :: r, .inl h => exact absurd h.2 (by simp)
    | x :: r, .inr ⟨b, off, hp, hb, hseg⟩ =>
      subst hp
      have hx := hseg 0 (by simp)
      simp only [Nat.add_zero, List.getD_cons_zero] at hx
      cases ha : isAddr x.toNat with
      | false =>
        have e : kindL m (x :: r) = (0, 3) := by simp [kindL, hm, ha]
        rw [e]
        exact readKind_addr m b off _ c x w hm (by simp) hx ha
      | true =>
        match r with
        | [] =>
          have e : kindL m [x] = (0, 2) := by simp [kindL, hm, ha]
          rw [e]
          exact readKind_one m b off c x w hm hx ha
        | y :: r =>
          have hy := hseg 1 (by simp)
          simp only [List.getD_cons_succ, List.getD_cons_zero] at hy
          obtain ⟨m', rfl, hm'⟩ := isMod_nat hm
          have e : kindL m' (x :: y :: r) = kindR (kindFrom m' y.toNat 1 9) := by
            simp only [kindL, hm, ha, Int.toNat_natCast]
            cases kindFrom m' y.toNat 1 9 <;> rfl
          rw [e]
          exact readKind_ctl m' b off _ c x y w hm' (by simp) hx hy ha hC
def frZ : Value := .agg #[.int .i64 0, .int .i64 0, .bool false, .int .i64 0, .int .i64 0, .slice none 0 0]
set_option maxHeartbeats 2000000 in
set_option maxRecDepth 100000 in
theorem read_kind (m : Int) (v : Value) (e : Nat) (w : World) (he : e ≠ 0)
    (hK : ∀ o, Calls Tryz.prog 83 #[.int .i64 m, v] (w.alloc o) fun r w' => r = .returned (.tuple #[.int .i64 0, .int .i64 (e : Nat)]) ∧ ∃ n, w' = (w.drewN n).alloc o) :
    Calls Tryz.prog 35 #[.int .i64 m, v] w fun r w' => r = .returned (.tuple #[frZ, .int .i64 (e : Nat)]) ∧ Below w.heap.size w w' := by
  have he1 : ¬ ((e : Int) = 0) := by omega
  have HK := hide hK
  clear hK
  go_enter Tryz.func35, Tryz.ntmps35
  go_wp2_with fail
  refine (unhide HK _).mono ?_
  clear HK
  rintro r W1 ⟨rfl, nd, rfl⟩
  obtain ⟨W0, hW0⟩ : ∃ W0, W0 = w.drewN nd := ⟨_, rfl⟩
  have hb0 : Below w.heap.size w W0 := by rw [hW0]; exact below_drewN (Below.refl w.heap.size w) _
  have hs0 : w.heap.size = W0.heap.size := by rw [hW0]; rfl
  rw [← hW0, hs0]
  clear hW0
  go_wp2
  exact bodyPost_ret (v := .tuple #[frZ, .int .i64 (e : Nat)]) (by simp [results, Tryz.results35, go_sem, frZ]) rfl ⟨rfl, hb0.alloc (by omega) _⟩
set_option maxHeartbeats 2000000 in
set_option maxRecDepth 100000 in
theorem read_short (m k n : Nat) (p : Option Addr) (c : Nat) (w : World) (hn : n = 2) (hk : 1 ≤ k) (hcb : cbN m k = 2)
    (hK : ∀ o, Calls Tryz.prog 83 #[.int .i64 m, .slice p n c] (w.alloc o) fun r w' => r = .returned (.tuple #[.int .i64 (k : Nat), .int .i64 0]) ∧ ∃ n, w' = (w.drewN n).alloc o) :
    Calls Tryz.prog 35 #[.int .i64 m, .slice p n c] w fun r w' => r = .returned (.tuple #[frZ, .int .i64 2]) ∧ Below w.heap.size w w' := by
  subst hn
  have c1 := fun w => controlBytes_any m k hk w
  rw [hcb] at c1
  have HK := hide hK
  clear hK
  go_enter Tryz.func35, Tryz.ntmps35
  go_wp2_with fail
  refine (unhide HK _).mono ?_
  clear HK
  rintro r W1 ⟨rfl, nd, rfl⟩
  obtain ⟨W0, hW0⟩ : ∃ W0, W0 = w.drewN nd := ⟨_, rfl⟩
  have hb0 : Below w.heap.size w W0 := by rw [hW0]; exact below_drewN (Below.refl w.heap.size w) _
  have hs0 : w.heap.size = W0.heap.size := by rw [hW0]; rfl
  rw [← hW0, hs0]
  clear hW0
  go_wp2_with fail
  refine (c1 _).mono ?_
  rintro r W1 ⟨rfl, rfl⟩
  go_wp2
  exact bodyPost_ret (v := .tuple #[frZ, .int .i64 2]) (by simp [results, Tryz.results35, go_sem, frZ]) rfl ⟨rfl, hb0.alloc (by omega) _⟩
end Go.Proofs.YtkalonhalhdlaaaGreatDoor

/-
  What one call of Read does where the frame may be read.
-/
namespace Go.Proofs.YtkalonhalhdlaaaGreatDoor
open Go.RowKit
theorem rowType : Tryz.prog.underlying 28 = some (.slice (Tryz.prog.elem 28)) := by kernel_rfl
/-- Where the rest of a list lies: a rest without any room stays at the list's head. -/
def tailOff (off c cb : Nat) : Nat := if c = 1 + cb then off else off + (1 + cb)
theorem slice_tail (b off n c cb : Nat) (h : cb ≤ n) (w : World) :
    (Instr.sliceAt 28 (.slice (some ⟨b, off, none⟩) (n + 1) c) (some (.int .i64 (1 + (cb : Int)))) none none).run Tryz.prog w = .ok (.slice (some ⟨b, tailOff off c cb, none⟩) (n - cb) (c - (1 + cb))) w := by
  rw [run_sliceAt_slice w 28 _ _ _ _ rowType, run_slice_l w 28 _ _ _ rowType .i64 _ (by omega) (by omega)]
  have e : Tryz.prog.elem 28 = 5 := by kernel_rfl
  have e2 : (1 + (cb : Int)).toNat = 1 + cb := by omega
  have e3 : n + 1 - (1 + cb) = n - cb := by omega
  rw [e, e2]
  by_cases hc : c = 1 + cb
  · simp [go_sem, tailOff, hc, e3]
  · simp [go_sem, tailOff, hc, e3]
set_option maxHeartbeats 2000000 in
set_option maxRecDepth 100000 in
theorem read_ok (m k cb b off c len : Nat) (x : UInt8) (r : List UInt8) (w : World) (hm : m = 8 ∨ m = 128) (hk : 1 ≤ k) (hk9 : k ≤ 9) (hcb : cbN m k = cb) (hn : cb ≤ r.length) (hi : infoF m k (r.length - cb : Nat) = true) (h63 : r.length ≤ 1048576) (hc : r.length + 1 ≤ c) (hc63 : c ≤ 9223372036854775807)
    (hseg : Seg w b off (x :: r)) (hb : b < w.heap.size) (hlen : len = r.length + 1)
    (hK : ∀ o, Calls Tryz.prog 83 #[.int .i64 m, .slice (some ⟨b, off, none⟩) len c] (w.alloc o) fun r w' => r = .returned (.tuple #[.int .i64 (k : Nat), .int .i64 0]) ∧ ∃ n, w' = (w.drewN n).alloc o) :
    Calls Tryz.prog 35 #[.int .i64 m, .slice (some ⟨b, off, none⟩) len c] w fun e w' => ∃ q cp, e = .returned (.tuple #[.agg #[.int .i64 (x.toNat : Int), .int .i64 k, .bool (ctlF m k r).p, .int .i64 (ctlF m k r).ns, .int .i64 (ctlF m k r).nr, .slice q (r.length - cb) cp], .int .i64 0]) ∧ w'.ownsRow w.heap.size 5 1 (.slice q (r.length - cb) cp) (r.length - cb) (Lib.byteCells (r.drop cb)) ∧ Below w.heap.size w w' := by
  subst hlen
  obtain ⟨i0, hi0, hz0, hz1', hz2'⟩ := info_parts infoByte
  have c1 := fun w => controlBytes_any m k hk w
  have c2 := fun w => infoFits_any m k (r.length - cb : Nat) w
  rw [hcb] at c1
  rw [hi] at c2
  have hcb2 : cb ≤ 2 := by rw [← hcb]; unfold cbN; split <;> omega
  have hlt : decide ((r.length : Int) + 1 < 1 + (cb : Int)) = false := decide_eq_false (by omega)
  have hsub : ((r.length - cb : Nat) : Int) = (r.length : Int) + 1 - (1 + (cb : Int)) := by omega
  rw [hsub] at c2
  have HK := hide hK
  clear hK
  go_enter Tryz.func35, Tryz.ntmps35
  go_wp2_with fail
  refine (unhide HK _).mono ?_
  clear HK
  rintro e W1 ⟨rfl, nd, rfl⟩
  obtain ⟨W0, hW0⟩ : ∃ W0, W0 = w.drewN nd := ⟨_, rfl⟩
  have hb0 : Below w.heap.size w W0 := by rw [hW0]; exact below_drewN (Below.refl w.heap.size w) _
  have hs0 : w.heap.size = W0.heap.size := by rw [hW0]; rfl
  rw [← hW0, hs0]
  clear hW0
  go_wp2_with fail
  refine (c1 _).mono ?_
  rintro e W1 ⟨rfl, rfl⟩
  go_wp2_with fail
  refine (c2 _).mono ?_
  rintro e W1 ⟨rfl, rfl⟩
  have hcb1 : 1 ≤ cb := by rw [← hcb]; unfold cbN; split <;> omega
  have hc1 : ¬ c = 1 := by omega
  have hbb : b < W0.heap.size := by omega
  have hs0w : Seg W0 b off (x :: r) := hseg.below hb0 hb
  have hA := fun o => (Below.refl W0.heap.size W0).alloc (Nat.le_refl _) o
  have hsr : Seg W0 b (off + 1) r := by
    intro i hi
    have := hs0w (i + 1) (by simp; omega)
    simpa [Nat.add_assoc, Nat.add_comm 1 i] using this
  have hx0 : W0.cell? ⟨b, off, none⟩ = some (.int .u8 (x.toNat : Int)) := by simpa using hs0w 0 (by simp)
  have hRC := fun o => readControl_any m k b (off + 1) cb (c - 1) r (W0.alloc o) hm hk hk9 (by omega) (by omega) (hsr.below (hA o) hbb) (by simp; omega)
  have HRC := hide hRC
  have HA := hide hA
  clear hRC hA c1 c2
  go_wp2_with fail
  refine (unhide HRC _).mono ?_
  rintro e W1 ⟨rfl, hb1⟩
  clear HRC
  unfold frC
  obtain ⟨pp, hpp⟩ : ∃ pp, (ctlF m k r).p = pp := ⟨_, rfl⟩
  obtain ⟨nsv, hns⟩ : ∃ nsv, (ctlF m k r).ns = nsv := ⟨_, rfl⟩
  obtain ⟨nrv, hnr⟩ : ∃ nrv, (ctlF m k r).nr = nrv := ⟨_, rfl⟩
  rw [hpp, hns, hnr]
  have HPP := hide hpp
  have HNS := hide hns
  have HNR := hide hnr
  clear hpp hns hnr
  have hz1 := hb1.size
  simp only [World.alloc, Array.size_push] at hz1
  have hx1 : W1.cell? ⟨b, off, none⟩ = some (.int .u8 (x.toNat : Int)) := by
    rw [hb1.cell (p := ⟨b, off, none⟩) (by simp; omega), (unhide HA _).cell (p := ⟨b, off, none⟩) hbb]
    exact hx0
  have hx1a : ∀ o, (W1.alloc o).cell? ⟨b, off, none⟩ = some (.int .u8 (x.toNat : Int)) := fun o => by
    rw [((Below.refl W1.heap.size W1).alloc (Nat.le_refl _) o).cell (p := ⟨b, off, none⟩) (by show b < _; omega)]
    exact hx1
  have hR1 : W1.heap[W0.heap.size]? = some (.cells #[.int .i64 0, .int .i64 0, .bool false, .int .i64 0, .int .i64 0, .slice none 0 0] 30 (0, 0)) := by
    rw [hb1.block W0.heap.size (by simp)]
    exact Array.getElem?_push_size
  have hx8 : x.toNat < 256 := x.toNat_lt
  have hneb : ¬ b = W1.heap.size := by omega
  have hn0 : (0 : Int) < (r.length : Int) + 1 := by omega
  have HB1 := hide hb1
  have HR1 := hide hR1
  clear hb1 hR1
  go_wp2
  obtain ⟨W2, hW2⟩ : ∃ W2, W2 = W1.alloc (.cells #[.int .i64 (x.toNat : Int), .int .i64 k, .bool pp, .int .i64 nsv, .int .i64 nrv, .slice none 0 0] 30) := ⟨_, rfl⟩
  rw [← hW2]
  have hb12 : Below W1.heap.size W1 W2 := by rw [hW2]; exact (Below.refl _ W1).alloc (Nat.le_refl _) _
  have hz2 : W2.heap.size = W1.heap.size + 1 := by rw [hW2]; simp
  have hF : W2.heap[W1.heap.size]? = some (.cells #[.int .i64 (x.toNat : Int), .int .i64 k, .bool pp, .int .i64 nsv, .int .i64 nrv, .slice none 0 0] 30 (0, 0)) := by rw [hW2]; exact Array.getElem?_push_size
  have hR : W2.heap[W0.heap.size]? = some (.cells #[.int .i64 0, .int .i64 0, .bool false, .int .i64 0, .int .i64 0, .slice none 0 0] 30 (0, 0)) := by rw [hb12.block W0.heap.size (by omega)]; exact unhide HR1
  have hb2 : Below w.heap.size w W2 := (hb0.trans ((unhide HA _).mono (by omega))).trans (((unhide HB1).mono (by simp; omega)).trans (hb12.mono (by omega)))
  have hs2 : Seg W2 b off (x :: r) := hseg.below hb2 hb
  have hs3 : Seg W2 b (off + (1 + cb)) (r.drop cb) := by
    intro i hi
    simp at hi
    have := hs2 (i + cb + 1) (by simp; omega)
    rw [show off + (1 + cb) + i = off + (i + cb + 1) by omega, this]
    simp [List.getD, Nat.add_comm]
  have hc5 : W2.cell? ⟨W1.heap.size, 5, none⟩ = some (.slice none 0 0) := by rw [Lib.cell_of_heap hF]; rfl
  have hf5 : W2.frozen? ⟨W1.heap.size, 5, none⟩ = false := Lib.frozen_of_heap hF 5
  clear hW2 hx1a hx1 HR1 HB1 HA hsr hx0 hs0w hs2
  have hs4 : Seg W2 b (tailOff off c cb) (r.drop cb) := by
    unfold tailOff
    split
    · have : r.drop cb = [] := List.drop_eq_nil_iff.2 (by omega)
      rw [this]
      exact Seg.nil _ _ _
    · exact hs3
  have hst := fun w => slice_tail b off r.length c cb hn w
  have hdl : (r.drop cb).length = r.length - cb := List.length_drop
  generalize tailOff off c cb = to at hst hs4
  obtain ⟨rd, hrd⟩ : ∃ rd, r.drop cb = rd := ⟨_, rfl⟩
  obtain ⟨n, hnn⟩ : ∃ n, r.length - cb = n := ⟨_, rfl⟩
  rw [hrd] at hs4 hdl
  rw [hnn] at hst hdl hi
  have hn48 : n ≤ 1048576 := by omega
  have HRD := hide hrd
  have HNN := hide hnn
  clear hrd hnn hsub
  generalize c - (1 + cb) = cc at hst
  clear hs3
  go_region_law ((refine step_append_own _ (by rfl) _ _ 28 (by rfl) W2.heap.size 5 i0 _ 1 1 Tryz.underlying28 hi0 hz0 hz1' hz2' rfl (by omega) (.slice none 0 0) 0 [] (by rfl) (World.ownsRow_nil _ _ _ _) ⟨b, to, none⟩ n cc (Lib.byteCells rd) (by rfl) ?a1 ?a2 ?a3 ?a4 ?a5 ?a6 ?_; (case a1 => simp [Lib.byteCells, hdl]); (case a2 => exact hs4.news); (case a3 => exact byteCells_one rd); (case a4 => unfold maxLen; omega); (case a5 => omega); (case a6 => simp); intro v1 w1 hown1 hg1 hnil1; obtain ⟨q1, cp1, rfl⟩ := own_slice hown1; have hF1 := (hg1.block W1.heap.size (by show W1.heap.size < W2.heap.size; omega) (by simp [Value.ownBlock])).trans hF; have k5 : w1.cell? ⟨W1.heap.size, 5, none⟩ = some (.slice none 0 0) := (by rw [Lib.cell_of_heap hF1]; rfl); have kf5 : w1.frozen? ⟨W1.heap.size, 5, none⟩ = false := Lib.frozen_of_heap hF1 5))
  all_goals
    have hR1 := (hg1.block W0.heap.size (by show W0.heap.size < W2.heap.size; omega) (by simp [Value.ownBlock])).trans hR
    have k0 : w1.cell? ⟨W1.heap.size, 0, none⟩ = some (.int .i64 (x.toNat : Int)) := by rw [Lib.cell_of_heap hF1]; rfl
    have k1 : w1.cell? ⟨W1.heap.size, 1, none⟩ = some (.int .i64 (k : Int)) := by rw [Lib.cell_of_heap hF1]; rfl
    have k2 : w1.cell? ⟨W1.heap.size, 2, none⟩ = some (.bool pp) := by rw [Lib.cell_of_heap hF1]; rfl
    have k3 : w1.cell? ⟨W1.heap.size, 3, none⟩ = some (.int .i64 nsv) := by rw [Lib.cell_of_heap hF1]; rfl
    have k4 : w1.cell? ⟨W1.heap.size, 4, none⟩ = some (.int .i64 nrv) := by rw [Lib.cell_of_heap hF1]; rfl
    have r0 : w1.cell? ⟨W0.heap.size, 0, none⟩ = some (.int .i64 0) := by rw [Lib.cell_of_heap hR1]; rfl
    have r1 : w1.cell? ⟨W0.heap.size, 1, none⟩ = some (.int .i64 0) := by rw [Lib.cell_of_heap hR1]; rfl
    have r2 : w1.cell? ⟨W0.heap.size, 2, none⟩ = some (.bool false) := by rw [Lib.cell_of_heap hR1]; rfl
    have r3 : w1.cell? ⟨W0.heap.size, 3, none⟩ = some (.int .i64 0) := by rw [Lib.cell_of_heap hR1]; rfl
    have r4 : w1.cell? ⟨W0.heap.size, 4, none⟩ = some (.int .i64 0) := by rw [Lib.cell_of_heap hR1]; rfl
    have r5 : w1.cell? ⟨W0.heap.size, 5, none⟩ = some (.slice none 0 0) := by rw [Lib.cell_of_heap hR1]; rfl
    have rf : ∀ i, w1.frozen? ⟨W0.heap.size, i, none⟩ = false := fun i => Lib.frozen_of_heap hR1 i
    have hne : ¬ W0.heap.size = W1.heap.size := by omega
    have hne' : ¬ W1.heap.size = W0.heap.size := by omega
    have hb3 : Below w.heap.size w w1 := (hb2.drew).grown hg1 hb2.size (fun k hk => by simp [Value.ownBlock] at hk)
    have HB3 := hide hb3
    have HO1 := hide hown1
    clear hb3 hown1 hF1 hR1 hF hR hs4 hg1 hnil1
    go_wp2
    refine bodyPost_ret (v := .tuple #[.agg #[.int .i64 (x.toNat : Int), .int .i64 (k : Int), .bool pp, .int .i64 nsv, .int .i64 nrv, .slice q1 n cp1], .int .i64 0]) (by simp [results, Tryz.results35, go_sem, r0, r1, r2, r3, r4, r5]) rfl ⟨q1, cp1, by rw [HPP.out, HNS.out, HNR.out, HNN.out], ?_, ?_⟩
    · rw [HNN.out, HRD.out]
      have h := unhide HO1
      simp only [Nat.zero_add, List.nil_append] at h
      refine ownsRow_mono (b1 := W2.heap.size) ?_ (by omega)
      exact ownsRow_set (ownsRow_set (ownsRow_set (ownsRow_set (ownsRow_set (ownsRow_set (ownsRow_set h _ (by show W1.heap.size < _; omega) _) _ (by show W0.heap.size < _; omega) _) _ (by show W0.heap.size < _; omega) _) _ (by show W0.heap.size < _; omega) _) _ (by show W0.heap.size < _; omega) _) _ (by show W0.heap.size < _; omega) _) _ (by show W0.heap.size < _; omega) _
    · exact (((((((unhide HB3).setCell (by show _ ≤ W1.heap.size; omega) _).setCell (by show _ ≤ W0.heap.size; omega) _).setCell (by show _ ≤ W0.heap.size; omega) _).setCell (by show _ ≤ W0.heap.size; omega) _).setCell (by show _ ≤ W0.heap.size; omega) _).setCell (by show _ ≤ W0.heap.size; omega) _).setCell (by show _ ≤ W0.heap.size; omega) _
end Go.Proofs.YtkalonhalhdlaaaGreatDoor

/-
  What one call of Read does, at whatever bytes.
-/
namespace Go.Proofs.YtkalonhalhdlaaaGreatDoor
open Go.RowKit
theorem kindL_ok {m : Int} {l : List UInt8} (h : (kindL m l).2 = 0) : ∃ m' k : Nat, ∃ x y r, m = m' ∧ (m' = 8 ∨ m' = 128) ∧ l = x :: y :: r ∧ (kindL m l).1 = k ∧ 1 ≤ k ∧ k ≤ 9 := by
  cases hm : isMod m with
  | false => simp [kindL, hm] at h
  | true =>
    obtain ⟨m', rfl, hm'⟩ := isMod_nat hm
    match l with
    | [] => simp [kindL, hm] at h
    | [x] => cases ha : isAddr x.toNat <;> simp [kindL, hm, ha] at h
    | x :: y :: r =>
      cases ha : isAddr x.toNat with
      | false => simp [kindL, hm, ha] at h
      | true =>
        cases hk : kindFrom m' y.toNat 1 9 with
        | none => simp [kindL, hm, ha, hk] at h
        | some k =>
          have := kindFrom_some hk
          exact ⟨m', k, x, y, r, rfl, hm', rfl, by simp [kindL, hm, ha, hk], by omega, by omega⟩
theorem ctlF_k (m k : Nat) (l : List UInt8) : (ctlF m k l).k = k := by
  unfold ctlF
  by_cases h : 4 < k
  · simp [h]
  · by_cases h2 : m = 8
    · simp [h, h2]
    · simp [h, h2]
theorem kindL_zero {m : Int} {l : List UInt8} (h2 : ¬ (kindL m l).2 = 0) : (kindL m l).1 = 0 := by
  cases hm : isMod m with
  | false => simp [kindL, hm]
  | true =>
    match l with
    | [] => simp [kindL, hm]
    | [x] => cases ha : isAddr x.toNat <;> simp [kindL, hm, ha]
    | x :: y :: r =>
      cases ha : isAddr x.toNat with
      | false => simp [kindL, hm, ha]
      | true =>
        cases hk : kindFrom m.toNat y.toNat 1 9 with
        | none => simp [kindL, hm, ha, hk]
        | some k => exact absurd (by simp [kindL, hm, ha, hk]) h2
end Go.Proofs.YtkalonhalhdlaaaGreatDoor

/-
  What one call of Write does: an error and no bytes, or the bytes in new memory.
-/
namespace Go.Proofs.YtkalonhalhdlaaaGreatDoor
open Go.RowKit
def frV (f : Fr) (q : Option Addr) (c : Nat) : Value := .agg #[.int .i64 f.a, .int .i64 f.k, .bool f.p, .int .i64 f.ns, .int .i64 f.nr, .slice q f.info.length c]
theorem owns_nil (w : World) (base : Nat) : w.ownsRow base 5 1 (.slice none 0 0) 0 [] := World.ownsRow_nil _ _ _ _
set_option maxHeartbeats 2000000 in
set_option maxRecDepth 100000 in
theorem write_arg (m a k ns nr : Int) (p : Bool) (v : Value) (w : World) (h : (isMod m && isKd k && (numF m ns (hasS k) && numF m nr (hasR k))) = false) :
    Calls Tryz.prog 32 #[.int .i64 m, .agg #[.int .i64 a, .int .i64 k, .bool p, .int .i64 ns, .int .i64 nr, v]] w fun e w' => e = .returned (.tuple #[.slice none 0 0, .int .i64 1]) ∧ Below w.heap.size w w' := by
  have c1 := fun w => isModulo_any m w
  have c2 := fun w => isKind_any k w
  have c3 := fun w => numbersFit_any m a k ns nr p v w
  generalize (numF m ns (hasS k) && numF m nr (hasR k)) = x3 at c3 h
  generalize isKd k = x2 at c2 h
  generalize isMod m = x1 at c1 h
  have hb0 : ∀ o, Below w.heap.size w (w.alloc o) := fun o => (Below.refl _ w).alloc (Nat.le_refl _) o
  cases x1 with
  | false =>
    go_enter Tryz.func32, Tryz.ntmps32
    go_wp2_with fail
    refine (c1 _).mono ?_
    rintro e W1 ⟨rfl, rfl⟩
    go_wp2
    exact bodyPost_ret (v := .tuple #[.slice none 0 0, .int .i64 1]) (by simp [results, Tryz.results32, go_sem]) rfl ⟨rfl, hb0 _⟩
  | true =>
    cases x2 with
    | false =>
      go_enter Tryz.func32, Tryz.ntmps32
      go_wp2_with fail
      refine (c1 _).mono ?_
      rintro e W1 ⟨rfl, rfl⟩
      go_wp2_with fail
      refine (c2 _).mono ?_
      rintro e W1 ⟨rfl, rfl⟩
      go_wp2
      exact bodyPost_ret (v := .tuple #[.slice none 0 0, .int .i64 1]) (by simp [results, Tryz.results32, go_sem]) rfl ⟨rfl, hb0 _⟩
    | true =>
      simp at h
      subst h
      go_enter Tryz.func32, Tryz.ntmps32
      go_wp2_with fail
      refine (c1 _).mono ?_
      rintro e W1 ⟨rfl, rfl⟩
      go_wp2_with fail
      refine (c2 _).mono ?_
      rintro e W1 ⟨rfl, rfl⟩
      go_wp2_with fail
      refine (c3 _).mono ?_
      rintro e W1 ⟨rfl, hb⟩
      go_wp2
      exact bodyPost_ret (v := .tuple #[.slice none 0 0, .int .i64 1]) (by simp [results, Tryz.results32, go_sem]) rfl ⟨rfl, (hb0 _).trans (hb.mono (by simp))⟩
set_option maxHeartbeats 2000000 in
set_option maxRecDepth 100000 in
theorem write_addr (m a k ns nr : Int) (p : Bool) (v : Value) (w : World) (h : (isMod m && isKd k && (numF m ns (hasS k) && numF m nr (hasR k))) = true) (ha : isAddr a = false) :
    Calls Tryz.prog 32 #[.int .i64 m, .agg #[.int .i64 a, .int .i64 k, .bool p, .int .i64 ns, .int .i64 nr, v]] w fun e w' => e = .returned (.tuple #[.slice none 0 0, .int .i64 3]) ∧ Below w.heap.size w w' := by
  have c1 := fun w => isModulo_any m w
  have c2 := fun w => isKind_any k w
  have c3 := fun w => numbersFit_any m a k ns nr p v w
  have c4 := fun w => isAddress_any a w
  simp only [Bool.and_eq_true] at h
  rw [h.1.1] at c1
  rw [h.1.2] at c2
  rw [h.2.1, h.2.2] at c3
  rw [ha] at c4
  clear h ha
  simp only [Bool.and_self] at c3
  have hb0 : ∀ o, Below w.heap.size w (w.alloc o) := fun o => (Below.refl _ w).alloc (Nat.le_refl _) o
  go_enter Tryz.func32, Tryz.ntmps32
  go_wp2_with fail
  refine (c1 _).mono ?_
  rintro e W1 ⟨rfl, rfl⟩
  go_wp2_with fail
  refine (c2 _).mono ?_
  rintro e W1 ⟨rfl, rfl⟩
  go_wp2_with fail
  refine (c3 _).mono ?_
  rintro e W1 ⟨rfl, hb⟩
  have r0 : W1.cell? ⟨w.heap.size, 0, none⟩ = some (.int .i64 a) := by rw [hb.cell (p := ⟨w.heap.size, 0, none⟩) (by simp)]; simp
  go_wp2_with fail
  refine (c4 _).mono ?_
  rintro e W2 ⟨rfl, rfl⟩
  go_wp2
  exact bodyPost_ret (v := .tuple #[.slice none 0 0, .int .i64 3]) (by simp [results, Tryz.results32, go_sem]) rfl ⟨rfl, (hb0 _).trans (hb.mono (by simp))⟩
set_option maxHeartbeats 2000000 in
set_option maxRecDepth 100000 in
theorem write_info (m a k ns nr : Int) (p : Bool) (q : Option Addr) (n c : Nat) (w : World) (h : (isMod m && isKd k && (numF m ns (hasS k) && numF m nr (hasR k))) = true) (ha : isAddr a = true) (hi : infoF m k n = false) :
    Calls Tryz.prog 32 #[.int .i64 m, .agg #[.int .i64 a, .int .i64 k, .bool p, .int .i64 ns, .int .i64 nr, .slice q n c]] w fun e w' => e = .returned (.tuple #[.slice none 0 0, .int .i64 5]) ∧ Below w.heap.size w w' := by
  have c1 := fun w => isModulo_any m w
  have c2 := fun w => isKind_any k w
  have c3 := fun w => numbersFit_any m a k ns nr p (.slice q n c) w
  have c4 := fun w => isAddress_any a w
  have c5 := fun w => infoFits_any m k n w
  simp only [Bool.and_eq_true] at h
  rw [h.1.1] at c1
  rw [h.1.2] at c2
  rw [h.2.1, h.2.2] at c3
  rw [ha] at c4
  rw [hi] at c5
  clear h ha hi
  simp only [Bool.and_self] at c3
  have hb0 : ∀ o, Below w.heap.size w (w.alloc o) := fun o => (Below.refl _ w).alloc (Nat.le_refl _) o
  go_enter Tryz.func32, Tryz.ntmps32
  go_wp2_with fail
  refine (c1 _).mono ?_
  rintro e W1 ⟨rfl, rfl⟩
  go_wp2_with fail
  refine (c2 _).mono ?_
  rintro e W1 ⟨rfl, rfl⟩
  go_wp2_with fail
  refine (c3 _).mono ?_
  rintro e W1 ⟨rfl, hb⟩
  have r0 : W1.cell? ⟨w.heap.size, 0, none⟩ = some (.int .i64 a) := by rw [hb.cell (p := ⟨w.heap.size, 0, none⟩) (by simp)]; simp
  have r1 : W1.cell? ⟨w.heap.size, 1, none⟩ = some (.int .i64 k) := by rw [hb.cell (p := ⟨w.heap.size, 1, none⟩) (by simp)]; simp
  have r5 : W1.cell? ⟨w.heap.size, 5, none⟩ = some (.slice q n c) := by rw [hb.cell (p := ⟨w.heap.size, 5, none⟩) (by simp)]; simp
  go_wp2_with fail
  refine (c4 _).mono ?_
  rintro e W2 ⟨rfl, rfl⟩
  go_wp2_with fail
  refine (c5 _).mono ?_
  rintro e W2 ⟨rfl, rfl⟩
  go_wp2
  exact bodyPost_ret (v := .tuple #[.slice none 0 0, .int .i64 5]) (by simp [results, Tryz.results32, go_sem]) rfl ⟨rfl, (hb0 _).trans (hb.mono (by simp))⟩
/-- What the region that makes the bytes holds: the frame's box, and what lay below. -/
abbrev Held (B : Nat) (W : World) (a k : Int) (p : Bool) (ns nr : Int) (v : Value) (w' : World) : Prop :=
  w'.cell? ⟨B, 0, none⟩ = some (.int .i64 a) ∧ w'.cell? ⟨B, 1, none⟩ = some (.int .i64 k) ∧ w'.cell? ⟨B, 2, none⟩ = some (.bool p) ∧ w'.cell? ⟨B, 3, none⟩ = some (.int .i64 ns) ∧ w'.cell? ⟨B, 4, none⟩ = some (.int .i64 nr) ∧ w'.cell? ⟨B, 5, none⟩ = some v ∧ Below (B + 1) W w'
theorem Held.of {B : Nat} {W : World} {a k : Int} {p : Bool} {ns nr : Int} {v : Value} {w' w'' : World} (h : Held B W a k p ns nr v w') {n : Nat} (hb : Below n w' w'') (hn : B + 1 ≤ n) : Held B W a k p ns nr v w'' := by
  obtain ⟨h0, h1, h2, h3, h4, h5, h6⟩ := h
  have e : ∀ i, w''.cell? ⟨B, i, none⟩ = w'.cell? ⟨B, i, none⟩ := fun i => hb.cell (p := ⟨B, i, none⟩) hn
  exact ⟨by rw [e]; exact h0, by rw [e]; exact h1, by rw [e]; exact h2, by rw [e]; exact h3, by rw [e]; exact h4, by rw [e]; exact h5, h6.trans (hb.mono hn)⟩
theorem Held.alloc {B : Nat} {W : World} {a k : Int} {p : Bool} {ns nr : Int} {v : Value} {w' : World} (h : Held B W a k p ns nr v w') (hW : B + 1 ≤ W.heap.size) (o : Obj) : Held B W a k p ns nr v (w'.alloc o) :=
  h.of ((Below.refl w'.heap.size w').alloc (Nat.le_refl _) o) (Nat.le_trans hW h.2.2.2.2.2.2.size)
theorem Held.drew {B : Nat} {W : World} {a k : Int} {p : Bool} {ns nr : Int} {v : Value} {w' : World} (h : Held B W a k p ns nr v w') : Held B W a k p ns nr v w'.drew :=
  h.of ((Below.refl (B + 1) w').drew) (Nat.le_refl _)
theorem concat3 (w X : World) (ab b cb c : Nat) (av : UInt8) (ctl l : List UInt8) (q : Option Addr) (hwX : Below w.heap.size w X) (hA : Seg X ab 0 [av]) (hab : ab < X.heap.size) (hB : Seg X b 0 ctl) (hb : b < X.heap.size) (hsrc : SrcIs X q l) (hcb : ctl.length = cb) (hc : cb ≤ 2) (hl : l.length ≤ 32) :
    Calls Tryz.prog 76 #[.slice (some ⟨X.heap.size, 0, none⟩) 3 3] (X.alloc (.cells #[.slice (some ⟨ab, 0, none⟩) 1 1, .slice (some ⟨b, 0, none⟩) cb cb, .slice q l.length c] 28)) fun e w' => ∃ v, e = .returned v ∧ w'.ownsRow w.heap.size 5 1 v (1 + cb + l.length) (Lib.byteCells (av :: (ctl ++ l))) ∧ Below (X.alloc (.cells #[.slice (some ⟨ab, 0, none⟩) 1 1, .slice (some ⟨b, 0, none⟩) cb cb, .slice q l.length c] 28)).heap.size (X.alloc (.cells #[.slice (some ⟨ab, 0, none⟩) 1 1, .slice (some ⟨b, 0, none⟩) cb cb, .slice q l.length c] 28)) w' ∧ Hid (Below w.heap.size w w') := by
  subst hcb
  have hX : Below X.heap.size X (X.alloc (.cells #[.slice (some ⟨ab, 0, none⟩) 1 1, .slice (some ⟨b, 0, none⟩) ctl.length ctl.length, .slice q l.length c] 28)) := (Below.refl _ X).alloc (Nat.le_refl _) _
  have hP : PartsAt (X.alloc (.cells #[.slice (some ⟨ab, 0, none⟩) 1 1, .slice (some ⟨b, 0, none⟩) ctl.length ctl.length, .slice q l.length c] 28)) X.heap.size [(some ⟨ab, 0, none⟩, 1, [av]), (some ⟨b, 0, none⟩, ctl.length, ctl), (q, c, l)] := by
    intro i hi
    have h3 : i = 0 ∨ i = 1 ∨ i = 2 := by simp at hi; omega
    rcases h3 with rfl | rfl | rfl
    · exact ⟨by simp, .inr ⟨ab, 0, rfl, by simp; omega, hA.below hX hab⟩⟩
    · exact ⟨by simp, .inr ⟨b, 0, rfl, by simp; omega, hB.below hX hb⟩⟩
    · exact ⟨by simp, hsrc.below hX (Nat.le_refl _)⟩
  have e : catL [(some ⟨ab, 0, none⟩, 1, [av]), (some ⟨b, 0, none⟩, ctl.length, ctl), (q, c, l)] = av :: (ctl ++ l) := by simp [catL]
  have hlen : (av :: (ctl ++ l)).length = 1 + ctl.length + l.length := by simp; omega
  have h := concat_any X.heap.size 3 _ _ hP (by simp) (by simp) (by rw [e, hlen]; omega) (by rw [e, hlen]; omega)
  rw [e, hlen] at h
  refine h.mono ?_
  rintro e w' ⟨v, rfl, hown, hbl⟩
  have hz := hwX.size
  refine ⟨v, rfl, ownsRow_mono hown (by simp; omega), hbl, ?_⟩
  exact (hwX.trans (hX.mono hz)).trans (hbl.mono (by simp; omega))
theorem addr_byte {a : Int} (ha : isAddr a = true) : IntKind.u8.wrap a = ((UInt8.ofNat a.toNat).toNat : Int) := by
  simp [isAddr] at ha
  rcases ha with rfl | rfl <;> decide
theorem seg1 (W : World) (x : UInt8) : Seg (W.alloc (.cells #[.int .u8 (x.toNat : Int)] 5)) W.heap.size 0 [x] := by
  intro i hi
  simp at hi
  subst hi
  simp
theorem catA {w W w' : World} {b cb c : Nat} {x : UInt8} {ctl l : List UInt8} {q : Option Addr} (hwW : Below w.heap.size w W) (hbl : Below (W.alloc (.cells #[.int .u8 (x.toNat : Int)] 5)).drew.heap.size (W.alloc (.cells #[.int .u8 (x.toNat : Int)] 5)).drew w') (hseg : Seg w' b 0 ctl) (hb2 : b < w'.heap.size) (hsrc : SrcIs w q l) (hcl : ctl.length = cb) (hc2 : cb ≤ 2) (hl : l.length ≤ 32) :
    Calls Tryz.prog 76 #[.slice (some ⟨w'.heap.size, 0, none⟩) 3 3] (w'.alloc (.cells #[.slice (some ⟨W.heap.size, 0, none⟩) 1 1, .slice (some ⟨b, 0, none⟩) cb cb, .slice q l.length c] 28)) fun e w'' => ∃ v, e = .returned v ∧ w''.ownsRow w.heap.size 5 1 v (1 + cb + l.length) (Lib.byteCells (x :: (ctl ++ l))) ∧ Below (w'.alloc (.cells #[.slice (some ⟨W.heap.size, 0, none⟩) 1 1, .slice (some ⟨b, 0, none⟩) cb cb, .slice q l.length c] 28)).heap.size (w'.alloc (.cells #[.slice (some ⟨W.heap.size, 0, none⟩) 1 1, .slice (some ⟨b, 0, none⟩) cb cb, .slice q l.length c] 28)) w'' ∧ Hid (Below w.heap.size w w'') := by
  have hz := hwW.size
  have hz2 := hbl.size
  have e1 : (W.alloc (.cells #[.int .u8 (x.toNat : Int)] 5)).drew.heap.size = W.heap.size + 1 := by simp
  rw [e1] at hz2 hbl
  have h1 : Below W.heap.size W w' := ((Below.refl W.heap.size W).alloc (Nat.le_refl _) _).drew.trans (hbl.mono (by omega))
  refine concat3 w w' W.heap.size b cb c x ctl l q (hwW.trans (h1.mono hz)) ?_ (by omega) hseg hb2 ?_ hcl hc2 hl
  · exact Seg.below (w := (W.alloc (.cells #[.int .u8 (x.toNat : Int)] 5)).drew) (seg1 W x) hbl (by omega)
  · exact (hsrc.below hwW (Nat.le_refl _)).below h1 (Nat.le_refl _)
theorem catB {w W w' : World} {b cb c : Nat} {x : UInt8} {ctl l : List UInt8} {q : Option Addr} (hwW : Below w.heap.size w W) (hbl : Below W.drew.heap.size W.drew w') (hseg : Seg w' b 0 ctl) (hb2 : b < w'.heap.size) (hsrc : SrcIs w q l) (hcl : ctl.length = cb) (hc2 : cb ≤ 2) (hl : l.length ≤ 32) :
    Calls Tryz.prog 76 #[.slice (some ⟨w'.heap.size + 1, 0, none⟩) 3 3] ((w'.alloc (.cells #[.int .u8 (x.toNat : Int)] 5)).alloc (.cells #[.slice (some ⟨w'.heap.size, 0, none⟩) 1 1, .slice (some ⟨b, 0, none⟩) cb cb, .slice q l.length c] 28)) fun e w'' => ∃ v, e = .returned v ∧ w''.ownsRow w.heap.size 5 1 v (1 + cb + l.length) (Lib.byteCells (x :: (ctl ++ l))) ∧ Below ((w'.alloc (.cells #[.int .u8 (x.toNat : Int)] 5)).alloc (.cells #[.slice (some ⟨w'.heap.size, 0, none⟩) 1 1, .slice (some ⟨b, 0, none⟩) cb cb, .slice q l.length c] 28)).heap.size ((w'.alloc (.cells #[.int .u8 (x.toNat : Int)] 5)).alloc (.cells #[.slice (some ⟨w'.heap.size, 0, none⟩) 1 1, .slice (some ⟨b, 0, none⟩) cb cb, .slice q l.length c] 28)) w'' ∧ Hid (Below w.heap.size w w'') := by
  have hz := hwW.size
  have hz2 := hbl.size
  have e1 : W.drew.heap.size = W.heap.size := rfl
  have e2 : (w'.alloc (.cells #[.int .u8 (x.toNat : Int)] 5)).heap.size = w'.heap.size + 1 := by simp
  rw [← e2]
  rw [e1] at hz2 hbl
  have h1 : Below W.heap.size W w' := (Below.refl W.heap.size W).drew.trans hbl
  have h2 : Below w'.heap.size w' (w'.alloc (.cells #[.int .u8 (x.toNat : Int)] 5)) := (Below.refl _ w').alloc (Nat.le_refl _) _
  refine concat3 w (w'.alloc (.cells #[.int .u8 (x.toNat : Int)] 5)) w'.heap.size b cb c x ctl l q ((hwW.trans (h1.mono hz)).trans (h2.mono (by omega))) (seg1 w' x) (by simp) (hseg.below h2 hb2) (by simp; omega) ?_ hcl hc2 hl
  exact ((hsrc.below hwW (Nat.le_refl _)).below h1 (Nat.le_refl _)).below h2 (Nat.le_refl _)
theorem numOk_true {m k ns nr : Nat} (h : NumOk m k ns nr) : (numF m ns (hasS k) && numF m nr (hasR k)) = true := by
  obtain ⟨hm, k1, k9, a1, a2, b1, b2⟩ := h
  have e1 : numF m ns (hasS k) = true := by
    by_cases h : k = 1
    · subst h
      have := a1 rfl
      simp [numF, hasS]
      omega
    · have hs : hasS k = false := by simp [hasS]; omega
      have := a2 h
      simp [numF, hs, this]
  have e2 : numF m nr (hasR k) = true := by
    by_cases h : k ≤ 4
    · have hr : hasR k = true := by simp [hasR]; omega
      have := b1 h
      simp [numF, hr]
      omega
    · have hr : hasR k = false := by simp [hasR]; omega
      have := b2 (by omega)
      simp [numF, hr, this]
  rw [e1, e2]
  rfl
set_option maxHeartbeats 2000000 in
set_option maxRecDepth 100000 in
theorem write_ok (m k ns nr : Nat) (a : Int) (p : Bool) (q : Option Addr) (l : List UInt8) (c : Nat) (w : World) (ok : NumOk m k ns nr) (ha : isAddr a = true) (hi : infoF m k l.length = true) (hC : Ctl w) (hs : 0 < w.heap.size) (hsrc : SrcIs w q l) :
    Calls Tryz.prog 32 #[.int .i64 m, .agg #[.int .i64 a, .int .i64 k, .bool p, .int .i64 ns, .int .i64 nr, .slice q l.length c]] w fun e w' => ∃ v, e = .returned (.tuple #[v, .int .i64 0]) ∧ w'.ownsRow w.heap.size 5 1 v (1 + cbN m k + l.length) (Lib.byteCells (UInt8.ofNat a.toNat :: (ctlL m k ns nr p ++ l))) ∧ Below w.heap.size w w' := by
  have c1 := fun w => isModulo_any m w
  have c2 := fun w => isKind_any k w
  have c3 := fun w => numbersFit_any m a k ns nr p (.slice q l.length c) w
  have c4 := fun w => isAddress_any a w
  have c5 := fun w => infoFits_any m k l.length w
  have hm : isMod m = true := by rcases ok.1 with rfl | rfl <;> rfl
  have hk : isKd k = true := by have := ok.2.1; have := ok.2.2.1; simp [isKd]; omega
  have hn : (numF m ns (hasS k) && numF m nr (hasR k)) = true := numOk_true ok
  rw [hm] at c1
  rw [hk] at c2
  rw [hn] at c3
  rw [ha] at c4
  rw [hi] at c5
  clear hm hk hn
  have hb0 : ∀ o, Below w.heap.size w (w.alloc o) := fun o => (Below.refl _ w).alloc (Nat.le_refl _) o
  go_enter Tryz.func32, Tryz.ntmps32
  go_wp2_with fail
  refine (c1 _).mono ?_
  rintro e W1 ⟨rfl, rfl⟩
  go_wp2_with fail
  refine (c2 _).mono ?_
  rintro e W1 ⟨rfl, rfl⟩
  go_wp2_with fail
  refine (c3 _).mono ?_
  rintro e W1 ⟨rfl, hb⟩
  have r0 : W1.cell? ⟨w.heap.size, 0, none⟩ = some (.int .i64 a) := by rw [hb.cell (p := ⟨w.heap.size, 0, none⟩) (by simp)]; simp
  have r1 : W1.cell? ⟨w.heap.size, 1, none⟩ = some (.int .i64 k) := by rw [hb.cell (p := ⟨w.heap.size, 1, none⟩) (by simp)]; simp
  have r2 : W1.cell? ⟨w.heap.size, 2, none⟩ = some (.bool p) := by rw [hb.cell (p := ⟨w.heap.size, 2, none⟩) (by simp)]; simp
  have r3 : W1.cell? ⟨w.heap.size, 3, none⟩ = some (.int .i64 ns) := by rw [hb.cell (p := ⟨w.heap.size, 3, none⟩) (by simp)]; simp
  have r4 : W1.cell? ⟨w.heap.size, 4, none⟩ = some (.int .i64 nr) := by rw [hb.cell (p := ⟨w.heap.size, 4, none⟩) (by simp)]; simp
  have r5 : W1.cell? ⟨w.heap.size, 5, none⟩ = some (.slice q l.length c) := by rw [hb.cell (p := ⟨w.heap.size, 5, none⟩) (by simp)]; simp
  go_wp2_with fail
  refine (c4 _).mono ?_
  rintro e W2 ⟨rfl, rfl⟩
  go_wp2_with fail
  refine (c5 _).mono ?_
  rintro e W2 ⟨rfl, rfl⟩
  go_wp2
  obtain ⟨x, hx, hwa⟩ : ∃ x : UInt8, UInt8.ofNat a.toNat = x ∧ IntKind.u8.wrap a = (x.toNat : Int) := ⟨_, rfl, addr_byte ha⟩
  have hcl : (ctlL m k ns nr p).length = cbN m k := by unfold ctlL cbN; split <;> rfl
  have hc2 : cbN m k ≤ 2 := by unfold cbN; split <;> omega
  have hl : l.length ≤ 32 := by
    unfold infoF repN at hi
    split at hi
    · have := of_decide_eq_true hi; omega
    · split at hi
      · have := eq_of_beq hi; split at this <;> omega
      · have := eq_of_beq hi; omega
  have hW : w.heap.size + 1 ≤ W2.heap.size := by have := hb.size; simp at this; exact this
  have hB1 : Held w.heap.size W2 a k p ns nr (.slice q l.length c) W2 := ⟨r0, r1, r2, r3, r4, r5, Below.refl _ _⟩
  have hwW : Below w.heap.size w W2 := (hb0 _).trans (hb.mono (by simp))
  have hCW : Ctl W2 := hC.below hwW hs
  clear c1 c2 c3 c4 c5 hb r0 r1 r2 r3 r4 r5 hb0
  go_region_held3 (fun w' => Held w.heap.size W2 a k p ns nr (.slice q l.length c) w') (first | exact Held.drew (by assumption) | exact Held.alloc (by assumption) hW _ | exact Held.of (by assumption) (by assumption) (by have h : Held w.heap.size W2 a k p ns nr (.slice q l.length c) _ := (by assumption); exact Nat.le_trans hW h.2.2.2.2.2.2.size)) (first | (go_at_call 77; have hh : Held w.heap.size W2 a k p ns nr (.slice q l.length c) _ := (by assumption); refine (control_any m k ns nr a p _ _ (hCW.below hh.2.2.2.2.2.2 (by omega)) (by have := hh.2.2.2.2.2.2.size; omega) ok).mono ?_; clear hh; rintro e w' ⟨b, rfl, hb1, hb2, hseg, hbl⟩) | (go_at_call 76; have hq : Below W2.drew.heap.size W2.drew w' := (by assumption); refine (catB hwW hq hseg hb2 hsrc hcl hc2 hl).mono ?_; clear hq; rintro e w'' ⟨v, rfl, hown, hbl2, hbw⟩) | (go_at_call 76; have hq : Below (W2.alloc (.cells #[.int .u8 (x.toNat : Int)] 5)).drew.heap.size (W2.alloc (.cells #[.int .u8 (x.toNat : Int)] 5)).drew w' := (by assumption); refine (catA hwW hq hseg hb2 hsrc hcl hc2 hl).mono ?_; clear hq; rintro e w'' ⟨v, rfl, hown, hbl2, hbw⟩))
  all_goals (go_wp2; exact bodyPost_ret (v := .tuple #[v, .int .i64 0]) (by simp [results, Tryz.results32, go_sem]) rfl ⟨v, rfl, by rw [hx]; exact hown, hbw.out⟩)
theorem numOk_of {m k ns nr : Int} (h : (isMod m && isKd k && (numF m ns (hasS k) && numF m nr (hasR k))) = true) : ∃ m' k' ns' nr' : Nat, m = m' ∧ k = k' ∧ ns = ns' ∧ nr = nr' ∧ NumOk m' k' ns' nr' := by
  simp only [Bool.and_eq_true] at h
  obtain ⟨⟨hm, hk⟩, h1, h2⟩ := h
  have hm' : m = 8 ∨ m = 128 := by simpa [isMod] using hm
  have hk' : 1 ≤ k ∧ k ≤ 9 := by simpa [isKd] using hk
  have q1 : 0 ≤ ns ∧ (k = 1 → ns < m) ∧ (k ≠ 1 → ns = 0) := by
    by_cases e : k = 1
    · simp [numF, hasS, e] at h1; omega
    · simp [numF, hasS, e] at h1; omega
  have q2 : 0 ≤ nr ∧ (k ≤ 4 → nr < m) ∧ (4 < k → nr = 0) := by
    by_cases e : k ≤ 4
    · have hr : hasR k = true := by simp [hasR]; omega
      simp [numF, hr] at h2; omega
    · have hr : hasR k = false := by simp [hasR]; omega
      simp [numF, hr] at h2; omega
  exact ⟨m.toNat, k.toNat, ns.toNat, nr.toNat, by omega, by omega, by omega, by omega, by omega, by omega, by omega, by omega, by omega, by omega, by omega⟩
/-- Write, at whatever numbers. -/
theorem write_any (m : Int) (f : Fr) (q : Option Addr) (c : Nat) (w : World) (hC : Ctl w) (hs : 0 < w.heap.size) (hsrc : SrcIs w q f.info) :
    Calls Tryz.prog 32 #[.int .i64 m, frV f q c] w fun e w' => ∃ v, e = .returned (.tuple #[v, .int .i64 ((writeL m f).1 : Nat)]) ∧ w'.ownsRow w.heap.size 5 1 v (writeL m f).2.length (Lib.byteCells (writeL m f).2) ∧ ((writeL m f).1 ≠ 0 → v = .slice none 0 0) ∧ Below w.heap.size w w' := by
  unfold frV writeL
  by_cases h1 : (isMod m && isKd f.k && numF m f.ns (hasS f.k) && numF m f.nr (hasR f.k)) = false
  · rw [if_pos h1]
    refine (write_arg m f.a f.k f.ns f.nr f.p _ w (by rw [← Bool.and_assoc]; exact h1)).mono ?_
    rintro e w' ⟨rfl, hb⟩
    exact ⟨_, rfl, owns_nil _ _, fun _ => rfl, hb⟩
  · rw [if_neg h1]
    have h1' : (isMod m && isKd f.k && (numF m f.ns (hasS f.k) && numF m f.nr (hasR f.k))) = true := by rw [← Bool.and_assoc]; exact eq_true_of_ne_false h1
    by_cases h2 : isAddr f.a = false
    · rw [if_pos h2]
      refine (write_addr m f.a f.k f.ns f.nr f.p _ w h1' h2).mono ?_
      rintro e w' ⟨rfl, hb⟩
      exact ⟨_, rfl, owns_nil _ _, fun _ => rfl, hb⟩
    · rw [if_neg h2]
      have h2' : isAddr f.a = true := by simpa using h2
      by_cases h3 : infoF m f.k f.info.length = false
      · rw [if_pos h3]
        refine (write_info m f.a f.k f.ns f.nr f.p q f.info.length c w h1' h2' h3).mono ?_
        rintro e w' ⟨rfl, hb⟩
        exact ⟨_, rfl, owns_nil _ _, fun _ => rfl, hb⟩
      · rw [if_neg h3]
        have h3' : infoF m f.k f.info.length = true := by simpa using h3
        obtain ⟨m', k', ns', nr', em, ek, es, er, ok⟩ := numOk_of h1'
        rw [em, ek, es, er]
        rw [em, ek] at h3'
        refine (write_ok m' k' ns' nr' f.a f.p q f.info c w ok h2' h3' hC hs hsrc).mono ?_
        rintro e w' ⟨v, rfl, hown, hb⟩
        refine ⟨v, rfl, ?_, fun h => absurd rfl h, hb⟩
        simp only [Int.toNat_natCast]
        have e1 : (UInt8.ofNat f.a.toNat :: (ctlL m' k' ns' nr' f.p ++ f.info)).length = 1 + cbN m' k' + f.info.length := by
          have : (ctlL m' k' ns' nr' f.p).length = cbN m' k' := by unfold ctlL cbN; split <;> rfl
          simp [this]; omega
        rw [e1]
        exact hown
end Go.Proofs.YtkalonhalhdlaaaGreatDoor

/-
  A station in memory: its block, its channel, its lists; who owns which block.
-/
namespace Go.Proofs.YtkalonhalhdlaaaGreatDoor
open Go.RowKit
/-- The owner's number of a part of thing i: 0 its block and channel, 1 its queue, 2 what came, 3 what goes out, 4 its events. -/
def tg (i p : Nat) : Nat := 5 * i + p + 1
theorem tg_ne {i j p q : Nat} (hp : p < 5) (hq : q < 5) (h : i ≠ j ∨ p ≠ q) : tg i p ≠ tg j q := by unfold tg; omega
theorem tg_pos (i p : Nat) : tg i p ≠ 0 := by unfold tg; omega
/-- Bytes in memory, of owner t. -/
def BytesAt (w : World) (own : Nat → Nat) (t : Nat) (x : Value) (m : Msg) : Prop :=
  w.ownsRow 0 5 1 x m.length (Lib.byteCells m) ∧ ∀ k, x.ownBlock = some k → own k = t
/-- Lists that lie apart from each other. -/
def ApartE (ents : List Value) : Prop := ∀ (i j : Nat) (x y : Value) (k : Nat), i ≠ j → ents[i]? = some x → ents[j]? = some y → x.ownBlock = some k → y.ownBlock ≠ some k
theorem ApartE.nil : ApartE [] := fun i j x y k _ h => by simp at h
theorem ApartE.one (v : Value) : ApartE [v] := fun i j x y k hij h1 h2 => by
  rcases i with _ | i
  · rcases j with _ | j
    · exact absurd rfl hij
    · simp at h2
  · simp at h1
theorem ApartE.drop {ents : List Value} (h : ApartE ents) (n : Nat) : ApartE (ents.drop n) := fun i j x y k hij h1 h2 => by
  rw [List.getElem?_drop] at h1 h2
  exact h (n + i) (n + j) x y k (by omega) h1 h2
theorem ApartE.snoc {ents : List Value} (h : ApartE ents) {z : Value} (hz : ∀ (i : Nat) (x : Value) (k : Nat), ents[i]? = some x → x.ownBlock = some k → z.ownBlock ≠ some k) : ApartE (ents ++ [z]) := fun i j x y k hij h1 h2 hx => by
  by_cases hi : i < ents.length
  · rw [List.getElem?_append_left hi] at h1
    by_cases hj : j < ents.length
    · rw [List.getElem?_append_left hj] at h2
      exact h i j x y k hij h1 h2 hx
    · rw [List.getElem?_append_right (by omega)] at h2
      have e : z = y := by
        rcases hd : j - ents.length with _ | d
        · rw [hd] at h2; simpa using h2
        · rw [hd] at h2; simp at h2
      rw [← e]
      exact hz i x k h1 hx
  · rw [List.getElem?_append_right (by omega)] at h1
    have e0 : i - ents.length = 0 := by
      rcases hd : i - ents.length with _ | d
      · rfl
      · rw [hd] at h1; simp at h1
    have e : z = x := by rw [e0] at h1; simpa using h1
    by_cases hj : j < ents.length
    · rw [List.getElem?_append_left hj] at h2
      intro hy
      exact hz j y k h2 hy (by rw [e]; exact hx)
    · rw [List.getElem?_append_right (by omega)] at h2
      have e1 : j - ents.length = 0 := by
        rcases hd : j - ents.length with _ | d
        · rfl
        · rw [hd] at h2; simp at h2
      omega
/-- A list of lists of bytes in memory: its row and each of its lists, of owner t. -/
structure Lst (w : World) (own : Nat → Nat) (t : Nat) (v : Value) (ents : List Value) (l : List Msg) : Prop where
  row : w.ownsRow 0 28 1 v l.length ents
  rown : ∀ k, v.ownBlock = some k → own k = t
  each : ∀ (j : Nat) (x : Value) (m : Msg), ents[j]? = some x → l[j]? = some m → BytesAt w own t x m
  apart : ApartE ents
theorem ownsRow_keepsB {X : Nat → Prop} {w w' : World} {b0 : Nat} {e : TypeId} {size : Nat} {v : Value} {n : Nat} {xs : List Value} (h : w.ownsRow b0 e size v n xs) (hk : Keeps X w w') (hx : ∀ k, v.ownBlock = some k → ¬ X k) : w'.ownsRow b0 e size v n xs := by
  obtain ⟨h1, h2⟩ := h
  refine ⟨h1, ?_⟩
  rcases h2 with h2 | ⟨g, cap, cur, e1, e2, e3, e4⟩
  · exact Or.inl h2
  · refine Or.inr ⟨g, cap, cur, e1, e2, ?_, e4⟩
    rw [hk.block g (Array.getElem?_eq_some_iff.1 e3).1 (hx g (by rw [e1]; rfl))]
    exact e3
section
variable {w w' : World} {own own' : Nat → Nat} {t : Nat} {v x : Value} {ents : List Value} {l : List Msg} {m : Msg} {X : Nat → Prop}
theorem BytesAt.keeps (h : BytesAt w own t x m) (hk : Keeps X w w') (hx : ∀ k, X k → own k ≠ t) (ho : ∀ k, k < w.heap.size → own' k = own k) : BytesAt w' own' t x m :=
  ⟨ownsRow_keepsB h.1 hk (fun k hb hX => hx k hX (h.2 k hb)), fun k hb => (ho k (World.ownsRow.lt h.1 k hb).2).trans (h.2 k hb)⟩
theorem Lst.keeps (h : Lst w own t v ents l) (hk : Keeps X w w') (hx : ∀ k, X k → own k ≠ t) (ho : ∀ k, k < w.heap.size → own' k = own k) : Lst w' own' t v ents l :=
  ⟨ownsRow_keepsB h.row hk (fun k hb hX => hx k hX (h.rown k hb)), fun k hb => (ho k (World.ownsRow.lt h.row k hb).2).trans (h.rown k hb), fun j y mm h1 h2 => (h.each j y mm h1 h2).keeps hk hx ho, h.apart⟩
theorem Lst.nil (w : World) (own : Nat → Nat) (t : Nat) : Lst w own t (.slice none 0 0) [] [] :=
  ⟨World.ownsRow_nil _ _ _ _, fun k h => by simp [Value.ownBlock] at h, fun j x m h => by simp at h, .nil⟩
theorem Lst.len (h : Lst w own t v ents l) : ents.length = l.length := by have := h.row.1; omega
theorem Lst.snoc (h : Lst w own t v ents l) {z : Value} (hz : ∀ k, z.ownBlock = some k → own k ≠ t) : ApartE (ents ++ [z]) :=
  h.apart.snoc (fun i x k h1 h2 h3 => by
    have hi := (List.getElem?_eq_some_iff.1 h1).1
    have hl := h.len
    exact hz k h3 ((h.each i x l[i] h1 (List.getElem?_eq_getElem (by omega))).2 k h2))
theorem Lst.slice (h : Lst w own t v ents l) : ∃ p cap, v = .slice p l.length cap ∧ l.length ≤ cap ∧ cap ≤ maxLen := by
  rcases h.row.2 with ⟨h1, h2⟩ | ⟨g, cap, cur, h1, _, _, h3, h4, _⟩
  · exact ⟨none, 0, by rw [h1, h2], by omega, by unfold maxLen; omega⟩
  · exact ⟨_, cap, h1, h3, h4⟩
end
/-- Its numbers are within their bounds (what the walks want). -/
structure St.fit (c : Cfg) (s : St) : Prop where
  state : s.state ≤ 4
  vs : s.vs < c.m
  va : s.va < c.m
  vr : s.vr < c.m
  vm : s.vm < c.m
  q20 : s.queue.length ≤ 20
  q32 : ∀ x ∈ s.queue, x.length ≤ 32
  timer : s.timer ≤ c.tim
  tries : s.tries ≤ c.tri
  came : s.came.length ≤ c.room
theorem St.ok.fit {c : Cfg} {s : St} (h : s.ok c) : s.fit c := ⟨h.state, h.vs, h.va, h.vr, h.vm, h.q20, h.q32, h.timer, h.tries, h.came⟩
theorem St.fit.out {c : Cfg} {s : St} (h : s.fit c) (x : List Msg) : St.fit c { s with out := x } := ⟨h.state, h.vs, h.va, h.vr, h.vm, h.q20, h.q32, h.timer, h.tries, h.came⟩
theorem St.fit.events {c : Cfg} {s : St} (h : s.fit c) (x : List Nat) : St.fit c { s with events := x } := ⟨h.state, h.vs, h.va, h.vr, h.vm, h.q20, h.q32, h.timer, h.tries, h.came⟩
theorem over_fit {c : Cfg} {s : St} (hc : c.ok) (h : s.fit c) (k : Nat) (hk : k ≤ 4) (tm tr : Nat) (htm : tm ≤ c.tim) (htr : tr ≤ c.tri) : St.fit c { over s with state := k, timer := tm, tries := tr } :=
  ⟨hk, hc.pos, hc.pos, hc.pos, hc.pos, by simp [over], by simp [over], htm, htr, h.came⟩
/-- A station's cells. -/
def stCells (c : Cfg) (s : St) (ch : Nat) (q cm o ev : Value) : Array Value :=
  #[.int .i64 c.m, .int .i64 c.win, .int .i64 c.tim, .int .i64 c.tri, .int .i64 c.room, .int .i64 c.addr, .chan (some ch), .int .i64 s.state,
    .int .i64 s.vs, .int .i64 s.va, .int .i64 s.vr, .int .i64 s.vm, q, .int .i64 s.timer, .int .i64 s.tries, .bool s.polling, .bool s.peer, .bool s.rejected,
    .bool s.busy, cm, o, ev]
/-- A station in memory. -/
structure SAt (w : World) (own : Nat → Nat) (i b : Nat) (c : Cfg) (s : St) (cl : Bool) (ch : Nat) (q cm o ev : Value) (qe ce oe : List Value) : Prop where
  head : w.heap[b]? = some (.cells (stCells c s ch q cm o ev) 135 (0, 0))
  ownb : own b = tg i 0
  chan : w.heap[ch]? = some (.chan 0 #[] cl 0 0 false)
  ownc : own ch = tg i 0
  lq : Lst w own (tg i 1) q qe s.queue
  lcm : Lst w own (tg i 2) cm ce s.came
  lo : Lst w own (tg i 3) o oe s.out
  lev : w.ownsRow 0 3 1 ev s.events.length (s.events.map fun n => .int .i64 (n : Nat))
  owne : ∀ k, ev.ownBlock = some k → own k = tg i 4
  ctl : Ctl w
  own0 : own 0 = 0
  new0 : ∀ k, w.heap.size ≤ k → own k = 0
  cok : c.ok
  sok : s.fit c
def Stn (w : World) (own : Nat → Nat) (i b : Nat) (c : Cfg) (s : St) (cl : Bool) : Prop := ∃ ch q cm o ev qe ce oe, SAt w own i b c s cl ch q cm o ev qe ce oe
/-- What a call of station i may do: turn blocks of its own, make new ones. -/
structure Upd (i : Nat) (own own' : Nat → Nat) (w w' : World) : Prop where
  keeps : Keeps (fun k => ∃ p, p < 5 ∧ own k = tg i p) w w'
  same : ∀ k, k < w.heap.size → own' k = own k
theorem Upd.refl (i : Nat) (own : Nat → Nat) (w : World) : Upd i own own w w := ⟨Keeps.refl _ _, fun _ _ => rfl⟩
theorem Upd.trans {i : Nat} {o1 o2 o3 : Nat → Nat} {a b c : World} (h : Upd i o1 o2 a b) (k : Upd i o2 o3 b c) : Upd i o1 o3 a c := by
  refine ⟨⟨k.keeps.os.trans h.keeps.os, k.keeps.tape.trans h.keeps.tape, k.keeps.output.trans h.keeps.output, Nat.le_trans h.keeps.size k.keeps.size, fun j hj hx => ?_⟩, fun j hj => (k.same j (Nat.lt_of_lt_of_le hj h.keeps.size)).trans (h.same j hj)⟩
  have h1 := h.keeps.block j hj hx
  refine (k.keeps.block j (Nat.lt_of_lt_of_le hj h.keeps.size) ?_).trans h1
  rintro ⟨p, hp, e⟩
  exact hx ⟨p, hp, (h.same j hj).symm.trans e⟩
theorem Ctl.keeps {X : Nat → Prop} {w w' : World} (h : Ctl w) (hk : Keeps X w w') (h0 : 0 < w.heap.size) (hx : ¬ X 0) : Ctl w' :=
  fun i hi => by rw [hk.cell (p := ⟨0, i, none⟩) h0 hx]; exact h i hi
section
variable {w w' : World} {own own' : Nat → Nat} {i b : Nat} {c : Cfg} {s : St} {cl : Bool} {ch : Nat} {q cm o ev : Value} {qe ce oe : List Value}
theorem SAt.lt (h : SAt w own i b c s cl ch q cm o ev qe ce oe) : b < w.heap.size := (Array.getElem?_eq_some_iff.1 h.head).1
theorem SAt.pos (h : SAt w own i b c s cl ch q cm o ev qe ce oe) : 0 < w.heap.size := Nat.lt_of_le_of_lt (Nat.zero_le _) h.lt
theorem SAt.cell (h : SAt w own i b c s cl ch q cm o ev qe ce oe) (j : Nat) {v : Value} (hj : (stCells c s ch q cm o ev)[j]? = some v) : w.cell? ⟨b, j, none⟩ = some v := by
  rw [Lib.cell_of_heap h.head]; exact hj
theorem SAt.fz (h : SAt w own i b c s cl ch q cm o ev qe ce oe) (j : Nat) : w.frozen? ⟨b, j, none⟩ = false := Lib.frozen_of_heap h.head j
theorem SAt.c_m (h : SAt w own i b c s cl ch q cm o ev qe ce oe) : w.cell? ⟨b, 0, none⟩ = some (.int .i64 c.m) := h.cell 0 rfl
theorem SAt.c_win (h : SAt w own i b c s cl ch q cm o ev qe ce oe) : w.cell? ⟨b, 1, none⟩ = some (.int .i64 c.win) := h.cell 1 rfl
theorem SAt.c_tim (h : SAt w own i b c s cl ch q cm o ev qe ce oe) : w.cell? ⟨b, 2, none⟩ = some (.int .i64 c.tim) := h.cell 2 rfl
theorem SAt.c_tri (h : SAt w own i b c s cl ch q cm o ev qe ce oe) : w.cell? ⟨b, 3, none⟩ = some (.int .i64 c.tri) := h.cell 3 rfl
theorem SAt.c_room (h : SAt w own i b c s cl ch q cm o ev qe ce oe) : w.cell? ⟨b, 4, none⟩ = some (.int .i64 c.room) := h.cell 4 rfl
theorem SAt.c_addr (h : SAt w own i b c s cl ch q cm o ev qe ce oe) : w.cell? ⟨b, 5, none⟩ = some (.int .i64 c.addr) := h.cell 5 rfl
theorem SAt.c_ch (h : SAt w own i b c s cl ch q cm o ev qe ce oe) : w.cell? ⟨b, 6, none⟩ = some (.chan (some ch)) := h.cell 6 rfl
theorem SAt.c_state (h : SAt w own i b c s cl ch q cm o ev qe ce oe) : w.cell? ⟨b, 7, none⟩ = some (.int .i64 s.state) := h.cell 7 rfl
theorem SAt.c_vs (h : SAt w own i b c s cl ch q cm o ev qe ce oe) : w.cell? ⟨b, 8, none⟩ = some (.int .i64 s.vs) := h.cell 8 rfl
theorem SAt.c_va (h : SAt w own i b c s cl ch q cm o ev qe ce oe) : w.cell? ⟨b, 9, none⟩ = some (.int .i64 s.va) := h.cell 9 rfl
theorem SAt.c_vr (h : SAt w own i b c s cl ch q cm o ev qe ce oe) : w.cell? ⟨b, 10, none⟩ = some (.int .i64 s.vr) := h.cell 10 rfl
theorem SAt.c_vm (h : SAt w own i b c s cl ch q cm o ev qe ce oe) : w.cell? ⟨b, 11, none⟩ = some (.int .i64 s.vm) := h.cell 11 rfl
theorem SAt.c_q (h : SAt w own i b c s cl ch q cm o ev qe ce oe) : w.cell? ⟨b, 12, none⟩ = some (q) := h.cell 12 rfl
theorem SAt.c_timer (h : SAt w own i b c s cl ch q cm o ev qe ce oe) : w.cell? ⟨b, 13, none⟩ = some (.int .i64 s.timer) := h.cell 13 rfl
theorem SAt.c_tries (h : SAt w own i b c s cl ch q cm o ev qe ce oe) : w.cell? ⟨b, 14, none⟩ = some (.int .i64 s.tries) := h.cell 14 rfl
theorem SAt.c_polling (h : SAt w own i b c s cl ch q cm o ev qe ce oe) : w.cell? ⟨b, 15, none⟩ = some (.bool s.polling) := h.cell 15 rfl
theorem SAt.c_peer (h : SAt w own i b c s cl ch q cm o ev qe ce oe) : w.cell? ⟨b, 16, none⟩ = some (.bool s.peer) := h.cell 16 rfl
theorem SAt.c_rejected (h : SAt w own i b c s cl ch q cm o ev qe ce oe) : w.cell? ⟨b, 17, none⟩ = some (.bool s.rejected) := h.cell 17 rfl
theorem SAt.c_busy (h : SAt w own i b c s cl ch q cm o ev qe ce oe) : w.cell? ⟨b, 18, none⟩ = some (.bool s.busy) := h.cell 18 rfl
theorem SAt.c_cm (h : SAt w own i b c s cl ch q cm o ev qe ce oe) : w.cell? ⟨b, 19, none⟩ = some (cm) := h.cell 19 rfl
theorem SAt.c_o (h : SAt w own i b c s cl ch q cm o ev qe ce oe) : w.cell? ⟨b, 20, none⟩ = some (o) := h.cell 20 rfl
theorem SAt.c_ev (h : SAt w own i b c s cl ch q cm o ev qe ce oe) : w.cell? ⟨b, 21, none⟩ = some (ev) := h.cell 21 rfl
/-- Its block is written; its numbers are others. -/
theorem SAt.wrote (h : SAt w own i b c s cl ch q cm o ev qe ce oe) {s' : St} {w' : World} (hk : Keeps (· = b) w w') (hh : w'.heap[b]? = some (.cells (stCells c s' ch q cm o ev) 135 (0, 0)))
    (e1 : s'.queue = s.queue) (e2 : s'.came = s.came) (e3 : s'.out = s.out) (e4 : s'.events = s.events) (hok : s'.fit c) : SAt w' own i b c s' cl ch q cm o ev qe ce oe := by
  have hne : ∀ p, p ≠ 0 → p < 5 → ∀ k, k = b → own k ≠ tg i p := fun p hp hp5 k hk => by rw [hk, h.ownb]; exact tg_ne (by omega) hp5 (.inr (fun e => hp e.symm))
  have hchb : ch ≠ b := fun e => by have := h.head; rw [← e, h.chan] at this; simp at this
  refine ⟨hh, h.ownb, by rw [hk.block ch (Array.getElem?_eq_some_iff.1 h.chan).1 hchb]; exact h.chan, h.ownc, ?_, ?_, ?_, ?_, h.owne, h.ctl.keeps hk h.pos (fun e => ?_), h.own0, fun k hs => h.new0 k (Nat.le_trans hk.size hs), h.cok, hok⟩
  · rw [e1]; exact h.lq.keeps hk (hne 1 (by omega) (by omega)) (fun _ _ => rfl)
  · rw [e2]; exact h.lcm.keeps hk (hne 2 (by omega) (by omega)) (fun _ _ => rfl)
  · rw [e3]; exact h.lo.keeps hk (hne 3 (by omega) (by omega)) (fun _ _ => rfl)
  · rw [e4]; exact ownsRow_keepsB h.lev hk (fun k hb hX => hne 4 (by omega) (by omega) k hX (h.owne k hb))
  · have := h.ownb; rw [← e, h.own0] at this; exact tg_pos _ _ this.symm
theorem SAt.upd (h : SAt w own i b c s cl ch q cm o ev qe ce oe) {w' : World} (hk : Keeps (· = b) w w') : Upd i own own w w' :=
  ⟨hk.mono (fun k hk => ⟨0, by omega, by rw [hk]; exact h.ownb⟩), fun _ _ => rfl⟩
/-- Others have worked: nothing of its own has turned. -/
theorem SAt.others (h : SAt w own i b c s cl ch q cm o ev qe ce oe) {X : Nat → Prop} (hk : Keeps X w w') (hx : ∀ k, X k → own k ≠ 0 → ∀ p, p < 5 → own k ≠ tg i p) (hx0 : ¬ X 0) (ho : ∀ k, k < w.heap.size → own' k = own k) (hn : ∀ k, w'.heap.size ≤ k → own' k = 0) : SAt w' own' i b c s cl ch q cm o ev qe ce oe := by
  have hx' : ∀ p, p < 5 → ∀ k, X k → own k ≠ tg i p := fun p hp k hX e => hx k hX (by rw [e]; exact tg_pos _ _) p hp e
  have hlc := (Array.getElem?_eq_some_iff.1 h.chan).1
  refine ⟨?_, (ho b h.lt).trans h.ownb, ?_, (ho ch hlc).trans h.ownc, h.lq.keeps hk (hx' 1 (by omega)) ho, h.lcm.keeps hk (hx' 2 (by omega)) ho, h.lo.keeps hk (hx' 3 (by omega)) ho, ownsRow_keepsB h.lev hk (fun k hb hX => hx' 4 (by omega) k hX (h.owne k hb)), fun k hb => (ho k (World.ownsRow.lt h.lev k hb).2).trans (h.owne k hb), h.ctl.keeps hk h.pos hx0, (ho 0 h.pos).trans h.own0, hn, h.cok, h.sok⟩
  · rw [hk.block b h.lt (fun hX => hx' 0 (by omega) b hX h.ownb)]; exact h.head
  · rw [hk.block ch hlc (fun hX => hx' 0 (by omega) ch hX h.ownc)]; exact h.chan
theorem SAt.later (h : SAt w own i b c s cl ch q cm o ev qe ce oe) (hb : Below w.heap.size w w') : SAt w' own i b c s cl ch q cm o ev qe ce oe :=
  h.others (X := fun _ => False) (Keeps.of hb) (fun _ hX => absurd hX id) id (fun _ _ => rfl) (fun k hs => h.new0 k (Nat.le_trans hb.size hs))
end
/-- A call that answers nothing has made of station s the station s'. -/
def Did (i b : Nat) (c : Cfg) (s' : St) (cl : Bool) (own : Nat → Nat) (w : World) (e : Ending) (w' : World) : Prop :=
  e = .returned (.tuple #[]) ∧ ∃ own', Stn w' own' i b c s' cl ∧ Upd i own own' w w'
theorem Upd.of {i : Nat} {own own1 : Nat → Nat} {w W w1 : World} (hb : Below w.heap.size w W) (h : Upd i own own1 W w1) : Upd i own own1 w w1 :=
  (show Upd i own own w W from ⟨Keeps.of hb, fun _ _ => rfl⟩).trans h
end Go.Proofs.YtkalonhalhdlaaaGreatDoor
