/-
  What one call of numbersFit and of control does.
-/
import Derived.Test.YtkalonhalhdlaaaGreatDoorFSmall
import Derived.Deep.QuietTactic
import Derived.BigQuiet
import Derived.Deep.RegionWith
import Derived.WalkSmall
import Derived.Deep.RegionHeld3
namespace Go.Proofs.YtkalonhalhdlaaaGreatDoor
open Go.RowKit

theorem u8_of (n : Nat) (h : n < 256) : ((UInt8.ofNat n).toNat : Int) = (n : Int) := by
  have : (UInt8.ofNat n).toNat = n % 256 := by simp
  rw [this, Nat.mod_eq_of_lt h]

/-- The numbers that a kind has fit; those that it has not are nought. -/
def NumOk (m k ns nr : Nat) : Prop := (m = 8 ∨ m = 128) ∧ 1 ≤ k ∧ k ≤ 9 ∧ (k = 1 → ns < m) ∧ (k ≠ 1 → ns = 0) ∧ (k ≤ 4 → nr < m) ∧ (4 < k → nr = 0)

theorem first_lt {m k ns nr : Nat} (h : NumOk m k ns nr) : baseN m k + 2 * ns < 256 := by
  have := baseN_lt m k
  by_cases h1 : k = 1
  · subst h1
    have e : baseN m 1 = 0 := by simp [baseN, tabN]
    have := h.2.2.2.1 rfl
    rcases h.1 with h | h <;> omega
  · have := h.2.2.2.2.1 h1
    omega

theorem bitN_le (p : Bool) (n : Nat) : bitN p n ≤ n := by cases p <;> simp [bitN]

theorem one_lt {m k ns nr : Nat} (h : NumOk m k ns nr) (p : Bool) (hw : ¬ wide m k = true) : baseN m k + 2 * ns + bitN p 16 + 32 * nr < 256 := by
  have hb := bitN_le p 16
  obtain ⟨hm, k1, k9, a1, a2, b1, b2⟩ := h
  simp [wide] at hw
  have key : ∀ x, (x = 1 ∨ x = 2 ∨ x = 3 ∨ x = 4) → baseN m x < 16 := by
    intro x hx
    rcases hx with rfl | rfl | rfl | rfl <;> simp [baseN, tabN]
  have key2 : ∀ x, (x = 5 ∨ x = 6 ∨ x = 7 ∨ x = 8 ∨ x = 9) → baseN m x < 240 := by
    intro x hx
    rcases hx with rfl | rfl | rfl | rfl | rfl <;> simp [baseN, tabN] <;> split <;> omega
  by_cases h4 : k ≤ 4
  · have hm8 : m = 8 := by omega
    have hr := b1 h4
    by_cases e1 : k = 1
    · have := a1 e1
      have : baseN m 1 = 0 := by simp [baseN, tabN]
      subst e1
      omega
    · have := a2 e1
      have := key k (by omega)
      omega
  · have := a2 (by omega)
    have := b2 (by omega)
    have := key2 k (by omega)
    omega

theorem wrap1 (p : Bool) (nr : Nat) (h : nr < 128) : IntKind.u8.wrap ((bitN p 1 : Nat) + IntKind.u8.wrap (IntKind.i64.wrap (2 * (nr : Int)))) = ((bitN p 1 + 2 * nr : Nat) : Int) := by
  have hb := bitN_le p 1
  generalize bitN p 1 = x at hb ⊢
  simp only [IntKind.wrap_i64, IntKind.wrap_u8]
  omega

theorem wrap16 (p : Bool) (nr x ns : Nat) (h : x + 2 * ns + bitN p 16 + 32 * nr < 256) : IntKind.u8.wrap (IntKind.u8.wrap ((x : Int) + 2 * (ns : Int) + (bitN p 16 : Nat)) + IntKind.u8.wrap (IntKind.i64.wrap (32 * (nr : Int)))) = ((x + 2 * ns + bitN p 16 + 32 * nr : Nat) : Int) := by
  generalize bitN p 16 = y at h ⊢
  simp only [IntKind.wrap_i64, IntKind.wrap_u8]
  omega

theorem seg_one (W : World) (x : Nat) (hx : x < 256) (l : List UInt8) (hl : l = [UInt8.ofNat x]) : Seg (W.alloc (.cells #[.int .u8 (x : Int)] 5)).drew W.heap.size 0 l := by
  subst hl
  intro i hi
  simp at hi
  subst hi
  simp
  omega

theorem seg_two (W : World) (x y : Nat) (hx : x < 256) (hy : y < 256) (l : List UInt8) (hl : l = [UInt8.ofNat x, UInt8.ofNat y]) : Seg (W.alloc (.cells #[.int .u8 (x : Int), .int .u8 (y : Int)] 5)).drew W.heap.size 0 l := by
  subst hl
  intro i hi
  simp at hi
  have h2 : i = 0 ∨ i = 1 := by omega
  rcases h2 with rfl | rfl
  · simp; omega
  · simp; omega

set_option maxHeartbeats 1000000 in
theorem control_any (m k ns nr : Nat) (a : Int) (p : Bool) (v : Value) (w : World) (hC : Ctl w) (hs : 0 < w.heap.size) (ok : NumOk m k ns nr) :
    Calls Tryz.prog 77 #[.int .i64 m, .agg #[.int .i64 a, .int .i64 k, .bool p, .int .i64 ns, .int .i64 nr, v]] w fun e w' => ∃ b, e = .returned (.slice (some ⟨b, 0, none⟩) (cbN m k) (cbN m k)) ∧ w.heap.size ≤ b ∧ b < w'.heap.size ∧ Seg w' b 0 (ctlL m k ns nr p) ∧ Below w.heap.size w w' := by
  have h1 := first_lt ok
  have hm : m = 8 ∨ m = 128 := ok.1
  have hns : ns < 128 := by
    by_cases e : k = 1
    · have := ok.2.2.2.1 e; omega
    · have := ok.2.2.2.2.1 e; omega
  have hnr : nr < 128 := by
    by_cases e : k ≤ 4
    · have := ok.2.2.2.2.2.1 e; omega
    · have := ok.2.2.2.2.2.2 (by omega); omega
  have c1 := fun n => plainControl_any m k ok.2.2.1 ((w.alloc (.cells #[.int .i64 a, .int .i64 k, .bool p, .int .i64 ns, .int .i64 nr, v] 30)).drewN n) (hC.below (below_drewN ((Below.refl _ w).alloc (Nat.le_refl _) _) _) hs)
  have c2 := fun w => controlBytes_any m k ok.2.1 w
  go_enter Tryz.func77, Tryz.ntmps77
  go_wp2
  go_quiet (first | (go_at_call 115; exact Calls.quiet_of_same (c1 _)))
  go_wp2_with fail
  refine (c2 _).mono ?_
  rintro e W1 ⟨rfl, rfl⟩
  obtain ⟨W, hW⟩ : ∃ W, W = ((w.alloc (.cells #[.int .i64 a, .int .i64 k, .bool p, .int .i64 ns, .int .i64 nr, v] 30)).drewN nq) := ⟨_, rfl⟩
  have hbW : Below w.heap.size w W := by rw [hW]; exact below_drewN ((Below.refl _ w).alloc (Nat.le_refl _) _) nq
  have hR : W.heap[w.heap.size]? = some (.cells #[.int .i64 a, .int .i64 k, .bool p, .int .i64 ns, .int .i64 nr, v] 30 (0, 0)) := by rw [hW]; exact Array.getElem?_push_size
  rw [← hW]
  have r2 : W.cell? ⟨w.heap.size, 2, none⟩ = some (.bool p) := by rw [Lib.cell_of_heap hR]; rfl
  have r4 : W.cell? ⟨w.heap.size, 4, none⟩ = some (.int .i64 nr) := by rw [Lib.cell_of_heap hR]; rfl
  clear hW hR c1
  by_cases hw : wide m k = true
  · have hcb : cbN m k = 2 := by simp [cbN, hw]
    rw [hcb]
    go_wp2
    go_region_held3 (fun w' => w'.cell? ⟨w.heap.size, 2, none⟩ = some (.bool p) ∧ w'.cell? ⟨w.heap.size, 4, none⟩ = some (.int .i64 nr)) (go_keep) (first | (go_at_call 116; refine (bitIf_any p 1 _).mono ?_; rintro e w' ⟨rfl, rfl⟩))
    all_goals go_wp2
    go_ret
    refine ⟨W.heap.size, by rw [hcb]; rfl, hbW.size, by simp, ?_, below_drewN (hbW.alloc hbW.size _) 1⟩
    rw [wrap1 p nr hnr]
    exact seg_two W (baseN m k + 2 * ns) (bitN p 1 + 2 * nr) h1 (by have := bitN_le p 1; omega) _ (by simp [ctlL, hw])
  · have hcb : cbN m k = 1 := by simp [cbN, hw]
    rw [hcb]
    go_wp2
    go_region_held3 (fun w' => w'.cell? ⟨w.heap.size, 2, none⟩ = some (.bool p) ∧ w'.cell? ⟨w.heap.size, 4, none⟩ = some (.int .i64 nr)) (go_keep) (first | (go_at_call 116; refine (bitIf_any p 16 _).mono ?_; rintro e w' ⟨rfl, rfl⟩))
    all_goals go_wp2
    go_ret
    refine ⟨W.heap.size, by rw [hcb]; rfl, hbW.size, by simp, ?_, below_drewN (hbW.alloc hbW.size _) 1⟩
    have h2 := one_lt ok p hw
    rw [wrap16 p nr _ _ h2]
    exact seg_one W (baseN m k + 2 * ns + bitN p 16 + 32 * nr) h2 _ (by simp [ctlL, hw])
end Go.Proofs.YtkalonhalhdlaaaGreatDoor
