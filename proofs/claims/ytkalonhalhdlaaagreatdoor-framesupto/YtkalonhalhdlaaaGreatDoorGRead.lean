/-
  What one call of the document's own Read does where there is no kind to be read.
-/
import Derived.Test.YtkalonhalhdlaaaGreatDoorGSmall
import Derived.Test.YtkalonhalhdlaaaGreatDoorFRead5
import Derived.Deep.Cut
import Derived.Deep.CutRange
import Derived.Deep.CutBlock
namespace Go.Proofs.YtkalonhalhdlaaaGreatDoor
open Go.RowKit

theorem mod_form {m : Int} (h : isMod m = false) : (m != 8) = true ∧ (m != 128) = true := by
  simp [isMod] at h
  simp [h.1, h.2]

set_option maxHeartbeats 2000000 in
set_option maxRecDepth 100000 in
theorem refRead_mod (m : Int) (v : Value) (w : World) (h : isMod m = false) :
    Calls Tryz.prog 36 #[.int .i64 m, v] w fun e w' => e = .returned (.tuple #[frZ, .int .i64 1]) ∧ Below w.heap.size w w' := by
  obtain ⟨h1, h2⟩ := mod_form h
  go_enter Tryz.func36, Tryz.ntmps36
  go_wp2
  exact bodyPost_ret (v := .tuple #[frZ, .int .i64 1]) (by simp [results, Tryz.results36, go_sem, frZ]) rfl ⟨rfl, (Below.refl _ w).alloc (Nat.le_refl _) _⟩

set_option maxHeartbeats 2000000 in
set_option maxRecDepth 100000 in
theorem refRead_nil (m : Int) (p : Option Addr) (c : Nat) (w : World) (h : isMod m = true) :
    Calls Tryz.prog 36 #[.int .i64 m, .slice p 0 c] w fun e w' => e = .returned (.tuple #[frZ, .int .i64 2]) ∧ Below w.heap.size w w' := by
  obtain ⟨m', rfl, hm⟩ := isMod_nat h
  rcases hm with rfl | rfl
  all_goals
    go_enter Tryz.func36, Tryz.ntmps36
    go_wp2
    exact bodyPost_ret (v := .tuple #[frZ, .int .i64 2]) (by simp [results, Tryz.results36, go_sem, frZ]) rfl ⟨rfl, (Below.refl _ w).alloc (Nat.le_refl _) _⟩

theorem addr_form8 {x : UInt8} (h : isAddr x.toNat = false) : ((x.toNat : Int) != 1) = true ∧ ((x.toNat : Int) != 3) = true := by
  simp only [isAddr, Bool.or_eq_false_iff, decide_eq_false_iff_not] at h
  constructor
  · simp; omega
  · simp; omega

set_option maxHeartbeats 2000000 in
set_option maxRecDepth 100000 in
theorem refRead_addr (m : Int) (b off n c : Nat) (x : UInt8) (w : World) (h : isMod m = true) (hn : 0 < n) (hx : w.cell? ⟨b, off, none⟩ = some (.int .u8 (x.toNat : Int))) (hb : b < w.heap.size) (ha : isAddr x.toNat = false) :
    Calls Tryz.prog 36 #[.int .i64 m, .slice (some ⟨b, off, none⟩) n c] w fun e w' => e = .returned (.tuple #[frZ, .int .i64 3]) ∧ Below w.heap.size w w' := by
  obtain ⟨m', rfl, hm⟩ := isMod_nat h
  obtain ⟨h1, h3⟩ := addr_form8 ha
  have hx8 : x.toNat < 256 := x.toNat_lt
  have hn1 : ((n : Int) == 0) = false := by simp; omega
  have hn2 : (0 : Int) < (n : Int) := by omega
  have hne : ¬ b = w.heap.size := by omega
  have hx1 : ∀ o, (w.alloc o).cell? ⟨b, off, none⟩ = some (.int .u8 (x.toNat : Int)) := fun o => by rw [((Below.refl w.heap.size w).alloc (Nat.le_refl _) o).cell (p := ⟨b, off, none⟩) hb]; exact hx
  clear ha
  rcases hm with rfl | rfl
  all_goals
    go_enter Tryz.func36, Tryz.ntmps36
    go_wp2
    exact bodyPost_ret (v := .tuple #[frZ, .int .i64 3]) (by simp [results, Tryz.results36, go_sem, frZ]) rfl ⟨rfl, (Below.refl _ w).alloc (Nat.le_refl _) _⟩

set_option maxHeartbeats 2000000 in
set_option maxRecDepth 100000 in
theorem refRead_one (m : Int) (b off c : Nat) (x : UInt8) (w : World) (h : isMod m = true) (hx : w.cell? ⟨b, off, none⟩ = some (.int .u8 (x.toNat : Int))) (hb : b < w.heap.size) (ha : isAddr x.toNat = true) :
    Calls Tryz.prog 36 #[.int .i64 m, .slice (some ⟨b, off, none⟩) 1 c] w fun e w' => e = .returned (.tuple #[frZ, .int .i64 2]) ∧ Below w.heap.size w w' := by
  obtain ⟨m', rfl, hm⟩ := isMod_nat h
  have hx8 : x.toNat < 256 := x.toNat_lt
  have hne : ¬ b = w.heap.size := by omega
  have hxx : x.toNat = 1 ∨ x.toNat = 3 := by
    simp only [isAddr, Bool.or_eq_true, decide_eq_true_eq] at ha
    omega
  have hx1 : ∀ o, (w.alloc o).cell? ⟨b, off, none⟩ = some (.int .u8 (x.toNat : Int)) := fun o => by rw [((Below.refl w.heap.size w).alloc (Nat.le_refl _) o).cell (p := ⟨b, off, none⟩) hb]; exact hx
  clear ha hx8
  rcases hxx with e | e
  all_goals
    rw [e] at hx1 hx
    clear e
    rcases hm with rfl | rfl
    all_goals
      go_enter Tryz.func36, Tryz.ntmps36
      go_wp2
      exact bodyPost_ret (v := .tuple #[frZ, .int .i64 2]) (by simp [results, Tryz.results36, go_sem, frZ]) rfl ⟨rfl, (Below.refl _ w).alloc (Nat.le_refl _) _⟩
end Go.Proofs.YtkalonhalhdlaaaGreatDoor
