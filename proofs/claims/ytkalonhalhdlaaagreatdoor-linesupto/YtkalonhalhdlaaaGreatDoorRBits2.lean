/-
  Bits, the program's and the reference's, where a frame is too short or too long; and of no frame at all.
-/
import Derived.Test.YtkalonhalhdlaaaGreatDoorRBits
namespace Go.Proofs.YtkalonhalhdlaaaGreatDoor
open Go.RowKit

/-- A list of slices in memory, by their lengths alone. -/
def LensAt (w : World) (fb fo : Nat) (ls : List Nat) : Prop := ∀ i, i < ls.length → ∃ p cap, w.cell? ⟨fb, fo + i, none⟩ = some (.slice p (ls.getD i 0) cap)
def good (n : Nat) : Bool := decide (2 ≤ n ∧ n ≤ 64)

set_option maxHeartbeats 2000000 in
set_option maxRecDepth 100000 in
theorem refBits_bad (fb fo cap : Nat) (ls : List Nat) (w : World) (hn : ls.length ≤ 1048576) (hF : LensAt w fb fo ls) (hbad : ls.all good = false) (hsm : ∀ n ∈ ls, n ≤ maxLen) :
    Calls Tryz.prog 30 #[.slice (some ⟨fb, fo, none⟩) ls.length cap] w fun e w' => e = .returned (.tuple #[.string ⟨#[]⟩, .int .i64 1]) ∧ w' = w := by
  unfold maxLen at hsm
  go_enter Tryz.func30, Tryz.ntmps30
  go_wp2
  go_loop [4] (fun i => ∃ k : Nat, k ≤ ls.length ∧ i = .int .i64 k ∧ (ls.drop k).all good = false) (fun i => ls.length - (intOf i).toNat)
  case atStart => exact ⟨0, Nat.zero_le _, rfl, hbad⟩
  case round =>
    obtain ⟨k, hk, rfl, hb⟩ := hrel
    by_cases hlt : k < ls.length
    · obtain ⟨p, cap', hcell⟩ := hF k hlt
      have hd : ls.drop k = ls.getD k 0 :: ls.drop (k + 1) := by rw [List.drop_eq_getElem_cons hlt]; simp [List.getD, hlt]
      have hm := hsm (ls.getD k 0) (by simp [List.getD, hlt])
      generalize ls.getD k 0 = n at hcell hd hm
      rw [hd] at hb
      have HB := hide hb
      clear hb hd
      by_cases h2 : n < 2
      · have g1 : (n : Int) < 2 := by omega
        go_wp2
        go_ret2
        exact ⟨rfl, rfl⟩
      · have g1 : ¬ ((n : Int) < 2) := by omega
        by_cases h64 : 64 < n
        · have g2 : (64 : Int) < (n : Int) := by omega
          go_wp2
          go_ret2
          exact ⟨rfl, rfl⟩
        · have g2 : ¬ ((64 : Int) < (n : Int)) := by omega
          go_wp2
          go_round
          case rel =>
            refine ⟨k + 1, by omega, by go_num, ?_⟩
            have q := unhide HB
            have e : good n = true := by simp [good]; omega
            simpa [e] using q
          case measure => simp [intOf]; omega
    · have hd : ls.drop k = [] := List.drop_eq_nil_of_le (by omega)
      rw [hd] at hb
      simp at hb

set_option maxHeartbeats 2000000 in
set_option maxRecDepth 100000 in
theorem bits_bad (fb fo cap : Nat) (ls : List Nat) (w : World) (hn : ls.length ≤ 1048576) (hF : LensAt w fb fo ls) (hbad : ls.all good = false) (hsm : ∀ n ∈ ls, n ≤ maxLen) :
    Calls Tryz.prog 29 #[.slice (some ⟨fb, fo, none⟩) ls.length cap] w fun e w' => e = .returned (.tuple #[.string ⟨#[]⟩, .int .i64 1]) ∧ Below w.heap.size w w' := by
  unfold maxLen at hsm
  go_enter Tryz.func29, Tryz.ntmps29
  go_wp2
  go_loop [11] (fun i => ∃ k : Nat, k ≤ ls.length ∧ i = .int .i64 k ∧ (ls.drop k).all good = false) (fun i => ls.length - (intOf i).toNat)
  case atStart => exact ⟨0, Nat.zero_le _, rfl, hbad⟩
  case round =>
    obtain ⟨k, hk, rfl, hb⟩ := hrel
    by_cases hlt : k < ls.length
    · obtain ⟨p, cap', hcell⟩ := hF k hlt
      have hd : ls.drop k = ls.getD k 0 :: ls.drop (k + 1) := by rw [List.drop_eq_getElem_cons hlt]; simp [List.getD, hlt]
      have hm := hsm (ls.getD k 0) (by simp [List.getD, hlt])
      generalize ls.getD k 0 = n at hcell hd hm
      rw [hd] at hb
      have HB := hide hb
      clear hb hd
      by_cases h2 : n < 2
      · have g1 : (n : Int) < 2 := by omega
        go_wp2
        go_ret2
        exact ⟨rfl, Below.refl _ _⟩
      · have g1 : ¬ ((n : Int) < 2) := by omega
        by_cases h64 : 64 < n
        · have g2 : (64 : Int) < (n : Int) := by omega
          go_wp2
          go_ret2
          exact ⟨rfl, Below.refl _ _⟩
        · have g2 : ¬ ((64 : Int) < (n : Int)) := by omega
          go_wp2
          go_round
          case rel =>
            refine ⟨k + 1, by omega, by go_num, ?_⟩
            have q := unhide HB
            have e : good n = true := by simp [good]; omega
            simpa [e] using q
          case measure => simp [intOf]; omega
    · have hd : ls.drop k = [] := List.drop_eq_nil_of_le (by omega)
      rw [hd] at hb
      simp at hb

set_option maxHeartbeats 2000000 in
set_option maxRecDepth 100000 in
theorem refBits_none (p : Option Addr) (cap : Nat) (w : World) :
    Calls Tryz.prog 30 #[.slice p 0 cap] w fun e w' => e = .returned (.tuple #[.string ⟨(txt (wireL [])).toArray⟩, .int .i64 0]) ∧ Below w.heap.size w w' := by
  have hwl : (⟨(txt (wireL [])).toArray⟩ : ByteArray) = ⟨#[48, 49, 49, 49, 49, 49, 49, 48]⟩ := by decide
  rw [hwl]
  go_enter Tryz.func30, Tryz.ntmps30
  go_wp2
  go_loop [4] (fun i => i = .int .i64 0) (fun _ => 0)
  case atStart => rfl
  case round =>
    subst hrel
    go_wp2
    go_loop [5, 6] (fun s i => s = .string ⟨#[48, 49, 49, 49, 49, 49, 49, 48]⟩ ∧ i = .int .i64 0) (fun _ _ => 0)
    case atStart => exact ⟨rfl, rfl⟩
    case round =>
      obtain ⟨rfl, rfl⟩ := hrel
      go_wp2
      go_ret2
      exact ⟨rfl, Below.refl _ _⟩
end Go.Proofs.YtkalonhalhdlaaaGreatDoor
