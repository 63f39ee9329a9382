/-
  What one call of readControl does.
-/
import Derived.Test.YtkalonhalhdlaaaGreatDoorFRead
namespace Go.Proofs.YtkalonhalhdlaaaGreatDoor
open Go.RowKit

def frC (k : Nat) (p : Bool) (ns nr : Int) : Value := .agg #[.int .i64 0, .int .i64 k, .bool p, .int .i64 ns, .int .i64 nr, .slice none 0 0]

theorem ne_dec (n : Nat) : ((n : Int) != 0) = decide (n ≠ 0) := by
  by_cases h : n = 0 <;> simp [h]

set_option maxHeartbeats 2000000 in
set_option maxRecDepth 100000 in
theorem readControl_plain (m k b off n cap : Nat) (x : UInt8) (w : World) (hk : 4 < k) (hn : 0 < n) (hx : w.cell? ⟨b, off, none⟩ = some (.int .u8 (x.toNat : Int))) (hb : b < w.heap.size) :
    Calls Tryz.prog 85 #[.int .i64 m, .int .i64 k, .slice (some ⟨b, off, none⟩) n cap] w fun e w' => e = .returned (frC k (decide (x.toNat &&& 16 ≠ 0)) 0 0) ∧ Below w.heap.size w w' := by
  have hand : bits .and .u8 (x.toNat : Int) 16 = ((x.toNat &&& 16 : Nat) : Int) := u8_and_nat x.toNat 16 x.toNat_lt (by omega)
  have hn2 : (0 : Int) < (n : Int) := by omega
  have c1 := fun w => hasNS_any k w
  have c2 := fun w => hasNR_any k w
  have h1 : hasS k = false := by simp [hasS]; omega
  have h2 : hasR k = false := by simp [hasR]; omega
  rw [h1] at c1
  rw [h2] at c2
  have hne : ¬ b = w.heap.size := by omega
  have hx1 : ∀ o, (w.alloc o).cell? ⟨b, off, none⟩ = some (.int .u8 (x.toNat : Int)) := fun o => by rw [((Below.refl w.heap.size w).alloc (Nat.le_refl _) o).cell (p := ⟨b, off, none⟩) hb]; exact hx
  clear h1 h2
  go_enter Tryz.func85, Tryz.ntmps85
  go_wp2_with fail
  refine (c1 _).mono ?_
  rintro e W1 ⟨rfl, rfl⟩
  go_wp2_with fail
  refine (c2 _).mono ?_
  rintro e W1 ⟨rfl, rfl⟩
  go_wp2
  exact bodyPost_ret (v := frC k ((x.toNat &&& 16 : Nat) != (0 : Int)) 0 0) (by simp [results, Tryz.results85, go_sem, frC]) rfl ⟨by rw [ne_dec], ((Below.refl w.heap.size w).alloc (Nat.le_refl _) _).alloc (by simp) _⟩

set_option maxHeartbeats 2000000 in
set_option maxRecDepth 100000 in
theorem readControl_i8 (b off n cap : Nat) (x : UInt8) (w : World) (hn : 0 < n) (hx : w.cell? ⟨b, off, none⟩ = some (.int .u8 (x.toNat : Int))) (hb : b < w.heap.size) :
    Calls Tryz.prog 85 #[.int .i64 8, .int .i64 1, .slice (some ⟨b, off, none⟩) n cap] w fun e w' => e = .returned (frC 1 (decide (x.toNat &&& 16 ≠ 0)) ((x.toNat / 2 % 8 : Nat) : Int) ((x.toNat / 32 : Nat) : Int)) ∧ Below w.heap.size w w' := by
  have hand : bits .and .u8 (x.toNat : Int) 16 = ((x.toNat &&& 16 : Nat) : Int) := u8_and_nat x.toNat 16 x.toNat_lt (by omega)
  have hx8 : x.toNat < 256 := x.toNat_lt
  have hn2 : (0 : Int) < (n : Int) := by omega
  have c1 := fun w => hasNS_any 1 w
  have c2 := fun w => hasNR_any 1 w
  have h1 : hasS 1 = true := by rfl
  have h2 : hasR 1 = true := by rfl
  rw [h1] at c1
  rw [h2] at c2
  have hne : ¬ b = w.heap.size := by omega
  have hne2 : ¬ b = w.heap.size + 1 := by omega
  have hx1 : ∀ o, (w.alloc o).cell? ⟨b, off, none⟩ = some (.int .u8 (x.toNat : Int)) := fun o => by rw [((Below.refl w.heap.size w).alloc (Nat.le_refl _) o).cell (p := ⟨b, off, none⟩) hb]; exact hx
  have hx2 : ∀ o o', ((w.alloc o).alloc o').cell? ⟨b, off, none⟩ = some (.int .u8 (x.toNat : Int)) := fun o o' => by rw [(((Below.refl w.heap.size w).alloc (Nat.le_refl _) o).alloc (by simp) o').cell (p := ⟨b, off, none⟩) hb]; exact hx
  clear h1 h2
  go_enter Tryz.func85, Tryz.ntmps85
  go_wp2_with fail
  refine (c1 _).mono ?_
  rintro e W1 ⟨rfl, rfl⟩
  go_wp2_with fail
  refine (c2 _).mono ?_
  rintro e W1 ⟨rfl, rfl⟩
  go_wp2
  exact bodyPost_ret (v := frC 1 ((x.toNat &&& 16 : Nat) != (0 : Int)) ((x.toNat : Int) / 2 % 8) ((x.toNat : Int) / 32)) (by simp [results, Tryz.results85, go_sem, frC]) rfl ⟨by rw [ne_dec]; simp, ((Below.refl w.heap.size w).alloc (Nat.le_refl _) _).alloc (by simp) _⟩

set_option maxHeartbeats 2000000 in
set_option maxRecDepth 100000 in
theorem readControl_s8 (k b off n cap : Nat) (x : UInt8) (w : World) (hk : 2 ≤ k) (hk4 : k ≤ 4) (hn : 0 < n) (hx : w.cell? ⟨b, off, none⟩ = some (.int .u8 (x.toNat : Int))) (hb : b < w.heap.size) :
    Calls Tryz.prog 85 #[.int .i64 8, .int .i64 k, .slice (some ⟨b, off, none⟩) n cap] w fun e w' => e = .returned (frC k (decide (x.toNat &&& 16 ≠ 0)) 0 ((x.toNat / 32 : Nat) : Int)) ∧ Below w.heap.size w w' := by
  have hand : bits .and .u8 (x.toNat : Int) 16 = ((x.toNat &&& 16 : Nat) : Int) := u8_and_nat x.toNat 16 x.toNat_lt (by omega)
  have hx8 : x.toNat < 256 := x.toNat_lt
  have hn2 : (0 : Int) < (n : Int) := by omega
  have c1 := fun w => hasNS_any k w
  have c2 := fun w => hasNR_any k w
  have h1 : hasS k = false := by simp [hasS]; omega
  have h2 : hasR k = true := by simp [hasR]; omega
  rw [h1] at c1
  rw [h2] at c2
  have hne : ¬ b = w.heap.size := by omega
  have hne2 : ¬ b = w.heap.size + 1 := by omega
  have hx1 : ∀ o, (w.alloc o).cell? ⟨b, off, none⟩ = some (.int .u8 (x.toNat : Int)) := fun o => by rw [((Below.refl w.heap.size w).alloc (Nat.le_refl _) o).cell (p := ⟨b, off, none⟩) hb]; exact hx
  have hx2 : ∀ o o', ((w.alloc o).alloc o').cell? ⟨b, off, none⟩ = some (.int .u8 (x.toNat : Int)) := fun o o' => by rw [(((Below.refl w.heap.size w).alloc (Nat.le_refl _) o).alloc (by simp) o').cell (p := ⟨b, off, none⟩) hb]; exact hx
  clear h1 h2
  go_enter Tryz.func85, Tryz.ntmps85
  go_wp2_with fail
  refine (c1 _).mono ?_
  rintro e W1 ⟨rfl, rfl⟩
  go_wp2_with fail
  refine (c2 _).mono ?_
  rintro e W1 ⟨rfl, rfl⟩
  go_wp2
  exact bodyPost_ret (v := frC k ((x.toNat &&& 16 : Nat) != (0 : Int)) 0 ((x.toNat : Int) / 32)) (by simp [results, Tryz.results85, go_sem, frC]) rfl ⟨by rw [ne_dec]; simp, ((Below.refl w.heap.size w).alloc (Nat.le_refl _) _).alloc (by simp) _⟩

set_option maxHeartbeats 2000000 in
set_option maxRecDepth 100000 in
theorem readControl_i128 (b off n cap : Nat) (x y : UInt8) (w : World) (hn : 1 < n) (hx : w.cell? ⟨b, off, none⟩ = some (.int .u8 (x.toNat : Int))) (hy : w.cell? ⟨b, off + 1, none⟩ = some (.int .u8 (y.toNat : Int))) (hb : b < w.heap.size) :
    Calls Tryz.prog 85 #[.int .i64 128, .int .i64 1, .slice (some ⟨b, off, none⟩) n cap] w fun e w' => e = .returned (frC 1 (decide (y.toNat % 2 ≠ 0)) ((x.toNat / 2 % 128 : Nat) : Int) ((y.toNat / 2 : Nat) : Int)) ∧ Below w.heap.size w w' := by
  have hand : bits .and .u8 (x.toNat : Int) 16 = ((x.toNat &&& 16 : Nat) : Int) := u8_and_nat x.toNat 16 x.toNat_lt (by omega)
  have hx8 : x.toNat < 256 := x.toNat_lt
  have hand2 : bits .and .u8 (y.toNat : Int) 1 = ((y.toNat % 2 : Nat) : Int) := by rw [← Nat.and_one_is_mod]; exact u8_and_nat y.toNat 1 y.toNat_lt (by omega)
  have hy8 : y.toNat < 256 := y.toNat_lt
  have hn2 : (0 : Int) < (n : Int) := by omega
  have hn3 : (1 : Int) < (n : Int) := by omega
  have c1 := fun w => hasNS_any 1 w
  have c2 := fun w => hasNR_any 1 w
  have h1 : hasS 1 = true := by rfl
  have h2 : hasR 1 = true := by rfl
  rw [h1] at c1
  rw [h2] at c2
  have hne : ¬ b = w.heap.size := by omega
  have hne2 : ¬ b = w.heap.size + 1 := by omega
  have hx1 : ∀ o, (w.alloc o).cell? ⟨b, off, none⟩ = some (.int .u8 (x.toNat : Int)) := fun o => by rw [((Below.refl w.heap.size w).alloc (Nat.le_refl _) o).cell (p := ⟨b, off, none⟩) hb]; exact hx
  have hx2 : ∀ o o', ((w.alloc o).alloc o').cell? ⟨b, off, none⟩ = some (.int .u8 (x.toNat : Int)) := fun o o' => by rw [(((Below.refl w.heap.size w).alloc (Nat.le_refl _) o).alloc (by simp) o').cell (p := ⟨b, off, none⟩) hb]; exact hx
  have hy2 : ∀ o o', ((w.alloc o).alloc o').cell? ⟨b, off + 1, none⟩ = some (.int .u8 (y.toNat : Int)) := fun o o' => by rw [(((Below.refl w.heap.size w).alloc (Nat.le_refl _) o).alloc (by simp) o').cell (p := ⟨b, off + 1, none⟩) hb]; exact hy
  clear h1 h2
  go_enter Tryz.func85, Tryz.ntmps85
  go_wp2_with fail
  refine (c1 _).mono ?_
  rintro e W1 ⟨rfl, rfl⟩
  go_wp2_with fail
  refine (c2 _).mono ?_
  rintro e W1 ⟨rfl, rfl⟩
  go_wp2
  go_region_held3 (fun w' => w'.cell? ⟨b, off + 1, none⟩ = some (.int .u8 (y.toNat : Int))) (go_keep) (fail)
  all_goals go_wp2
  exact bodyPost_ret (v := frC 1 ((y.toNat : Int) % 2 != 0) ((x.toNat : Int) / 2 % 128) ((y.toNat : Int) / 2)) (by simp [results, Tryz.results85, go_sem, frC]) rfl ⟨by rw [← ne_dec]; simp, (((Below.refl w.heap.size w).alloc (Nat.le_refl _) _).alloc (by simp) _).drew⟩

set_option maxHeartbeats 2000000 in
set_option maxRecDepth 100000 in
theorem readControl_s128 (k b off n cap : Nat) (x y : UInt8) (w : World) (hk : 2 ≤ k) (hk4 : k ≤ 4) (hn : 1 < n) (hx : w.cell? ⟨b, off, none⟩ = some (.int .u8 (x.toNat : Int))) (hy : w.cell? ⟨b, off + 1, none⟩ = some (.int .u8 (y.toNat : Int))) (hb : b < w.heap.size) :
    Calls Tryz.prog 85 #[.int .i64 128, .int .i64 k, .slice (some ⟨b, off, none⟩) n cap] w fun e w' => e = .returned (frC k (decide (y.toNat % 2 ≠ 0)) 0 ((y.toNat / 2 : Nat) : Int)) ∧ Below w.heap.size w w' := by
  have hand : bits .and .u8 (x.toNat : Int) 16 = ((x.toNat &&& 16 : Nat) : Int) := u8_and_nat x.toNat 16 x.toNat_lt (by omega)
  have hx8 : x.toNat < 256 := x.toNat_lt
  have hand2 : bits .and .u8 (y.toNat : Int) 1 = ((y.toNat % 2 : Nat) : Int) := by rw [← Nat.and_one_is_mod]; exact u8_and_nat y.toNat 1 y.toNat_lt (by omega)
  have hy8 : y.toNat < 256 := y.toNat_lt
  have hn2 : (0 : Int) < (n : Int) := by omega
  have hn3 : (1 : Int) < (n : Int) := by omega
  have c1 := fun w => hasNS_any k w
  have c2 := fun w => hasNR_any k w
  have h1 : hasS k = false := by simp [hasS]; omega
  have h2 : hasR k = true := by simp [hasR]; omega
  rw [h1] at c1
  rw [h2] at c2
  have hne : ¬ b = w.heap.size := by omega
  have hne2 : ¬ b = w.heap.size + 1 := by omega
  have hx1 : ∀ o, (w.alloc o).cell? ⟨b, off, none⟩ = some (.int .u8 (x.toNat : Int)) := fun o => by rw [((Below.refl w.heap.size w).alloc (Nat.le_refl _) o).cell (p := ⟨b, off, none⟩) hb]; exact hx
  have hx2 : ∀ o o', ((w.alloc o).alloc o').cell? ⟨b, off, none⟩ = some (.int .u8 (x.toNat : Int)) := fun o o' => by rw [(((Below.refl w.heap.size w).alloc (Nat.le_refl _) o).alloc (by simp) o').cell (p := ⟨b, off, none⟩) hb]; exact hx
  have hy2 : ∀ o o', ((w.alloc o).alloc o').cell? ⟨b, off + 1, none⟩ = some (.int .u8 (y.toNat : Int)) := fun o o' => by rw [(((Below.refl w.heap.size w).alloc (Nat.le_refl _) o).alloc (by simp) o').cell (p := ⟨b, off + 1, none⟩) hb]; exact hy
  clear h1 h2
  go_enter Tryz.func85, Tryz.ntmps85
  go_wp2_with fail
  refine (c1 _).mono ?_
  rintro e W1 ⟨rfl, rfl⟩
  go_wp2_with fail
  refine (c2 _).mono ?_
  rintro e W1 ⟨rfl, rfl⟩
  go_wp2
  go_region_held3 (fun w' => w'.cell? ⟨b, off + 1, none⟩ = some (.int .u8 (y.toNat : Int))) (go_keep) (fail)
  all_goals go_wp2
  exact bodyPost_ret (v := frC k ((y.toNat : Int) % 2 != 0) 0 ((y.toNat : Int) / 2)) (by simp [results, Tryz.results85, go_sem, frC]) rfl ⟨by rw [← ne_dec]; simp, (((Below.refl w.heap.size w).alloc (Nat.le_refl _) _).alloc (by simp) _).drew⟩

theorem readControl_any (m k b off n cap : Nat) (l : List UInt8) (w : World) (hm : m = 8 ∨ m = 128) (hk : 1 ≤ k) (hk9 : k ≤ 9) (hn : cbN m k ≤ n) (hl : cbN m k ≤ l.length) (hseg : Seg w b off l) (hb : b < w.heap.size) :
    Calls Tryz.prog 85 #[.int .i64 m, .int .i64 k, .slice (some ⟨b, off, none⟩) n cap] w fun e w' => e = .returned (frC k (ctlF m k l).p (ctlF m k l).ns (ctlF m k l).nr) ∧ Below w.heap.size w w' := by
  have h1 : 1 ≤ cbN m k := by unfold cbN; split <;> omega
  have hx := hseg 0 (by omega)
  simp only [Nat.add_zero] at hx
  by_cases h4 : 4 < k
  · refine (readControl_plain m k b off n cap _ w h4 (by omega) hx hb).mono ?_
    rintro e w' ⟨rfl, hw⟩
    refine ⟨?_, hw⟩
    simp only [ctlF, if_pos h4]
  · rcases hm with rfl | rfl
    · by_cases hk1 : k = 1
      · subst hk1
        refine (readControl_i8 b off n cap _ w (by omega) hx hb).mono ?_
        rintro e w' ⟨rfl, hw⟩
        exact ⟨rfl, hw⟩
      · refine (readControl_s8 k b off n cap _ w (by omega) (by omega) (by omega) hx hb).mono ?_
        rintro e w' ⟨rfl, hw⟩
        refine ⟨?_, hw⟩
        simp only [ctlF, if_neg h4, if_pos, if_neg hk1]
    · have hw : cbN 128 k = 2 := by simp [cbN, wide]; omega
      have hy := hseg 1 (by omega)
      by_cases hk1 : k = 1
      · subst hk1
        refine (readControl_i128 b off n cap _ _ w (by omega) hx hy hb).mono ?_
        rintro e w' ⟨rfl, hw⟩
        exact ⟨rfl, hw⟩
      · refine (readControl_s128 k b off n cap _ _ w (by omega) (by omega) (by omega) hx hy hb).mono ?_
        rintro e w' ⟨rfl, hw⟩
        refine ⟨?_, hw⟩
        simp [ctlF, if_neg h4, if_neg hk1]
end Go.Proofs.YtkalonhalhdlaaaGreatDoor
