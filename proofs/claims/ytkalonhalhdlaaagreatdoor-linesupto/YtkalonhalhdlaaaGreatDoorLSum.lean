/-
  What one call of Sum, and of sumOf, does: it gives the sum of the bytes (its two bytes, the lower one first, in new memory), and nothing that was there turns.
-/
import Derived.Test.YtkalonhalhdlaaaGreatDoorProg
import Derived.Test.YtkalonhalhdlaaaGreatDoorLPure
import Derived.Test.YtkalonhalhdlaaaGreatDoorVRows
import Derived.WalkKit
namespace Go.Proofs.YtkalonhalhdlaaaGreatDoor
open Go.RowKit

theorem differ_iff (c y : Nat) (hc : c < 65536) (hy : y < 256) : (bits .and .u16 (bits .xor .u16 (c : Int) (y : Int)) 1 == 1) = decide (c % 2 ≠ y % 2) := by
  rw [u16_xor_nat c y hc (by omega)]
  have hx : c ^^^ y < 65536 := Nat.xor_lt_two_pow (n := 16) hc (by omega)
  have := u16_and_nat (c ^^^ y) 1 hx (by omega)
  simp only [Int.natCast_one] at this
  rw [this, nat_mask1]
  have hm : (c ^^^ y) % 2 = (c % 2 + y % 2) % 2 := by
    have h1 := Nat.xor_mod_two_pow (a := c) (b := y) (n := 1)
    simp only [Nat.pow_one] at h1
    rw [h1]
    rcases Nat.mod_two_eq_zero_or_one c with h | h <;> rcases Nat.mod_two_eq_zero_or_one y with h' | h' <;> simp [h, h']
  rw [hm]
  rcases Nat.mod_two_eq_zero_or_one c with h | h <;> rcases Nat.mod_two_eq_zero_or_one y with h' | h' <;> simp [h, h']

theorem xor_const (c : Nat) (hc : c < 65536) : bits .xor .u16 ((c : Int) / 2) 33800 = ((c / 2 ^^^ 33800 : Nat) : Int) := by
  have := u16_xor_nat (c / 2) 33800 (by omega) (by omega)
  simpa using this

theorem xor_lt (c : Nat) (hc : c < 65536) : c / 2 ^^^ 33800 < 65536 := Nat.xor_lt_two_pow (n := 16) (by omega) (by omega)

theorem not_nat (c : Nat) (hc : c < 65536) : 65535 ^^^ c = 65535 - c := by
  apply Nat.eq_of_testBit_eq
  intro i
  have h := Nat.testBit_two_pow_sub_succ (x := c) (n := 16) (by omega) i
  have e : (2 ^ 16 - (c + 1)) = 65535 - c := by omega
  rw [e] at h
  rw [h, Nat.testBit_xor]
  have hm := Nat.testBit_two_pow_sub_one 16 i
  have e2 : (2 ^ 16 - 1) = 65535 := by omega
  rw [e2] at hm
  rw [hm]
  by_cases hi : i < 16
  · simp [hi]
  · have : c.testBit i = false := Nat.testBit_lt_two_pow (Nat.lt_of_lt_of_le (by omega) (Nat.pow_le_pow_right (n := 2) (by omega) (show 16 ≤ i by omega)))
    simp [hi, this]

theorem not_sum (c : Nat) (hc : c < 65536) : wrap64 (bits .xor .u16 IntKind.u16.max (c : Int)) = ((65535 - c : Nat) : Int) := by
  have e : IntKind.u16.max = ((65535 : Nat) : Int) := by decide
  rw [e, u16_xor_nat 65535 c (by omega) hc, not_nat c hc]
  unfold wrap64; omega

set_option maxHeartbeats 400000 in
theorem sum_any (b off cap : Nat) (l : List UInt8) (w : World) (hl : l.length ≤ maxLen) (hc : Seg w b off l) :
    Calls Tryz.prog 25 #[.slice (some ⟨b, off, none⟩) l.length cap] w fun e w' => e = .returned (.int .i64 (sumL l)) ∧ w' = w := by
  unfold maxLen at hl
  go_enter Tryz.func25, Tryz.ntmps25
  go_wp2
  go_loop [3, 9] (fun s i => ∃ (k c : Nat), k ≤ l.length ∧ c < 65536 ∧ i = .int .i64 k ∧ s = .int .u16 c ∧ crcL c (l.drop k) = crcL crcTop l) (fun _ i => l.length - (intOf i).toNat)
  case atStart => exact ⟨0, crcTop, Nat.zero_le _, crcTop_lt, rfl, rfl, rfl⟩
  case round =>
    obtain ⟨k, c, hk, hc16, rfl, rfl, hcrc⟩ := hrel
    by_cases hlt : k < l.length
    · have hcell := hc k hlt
      have hdrop : Hid (l.drop k = l.getD k 0 :: l.drop (k + 1)) := by
        show l.drop k = l.getD k 0 :: l.drop (k + 1)
        rw [List.drop_eq_getElem_cons hlt]; simp [List.getD, hlt]
      generalize hx : l.getD k 0 = x at hcell hdrop
      have hx8 : x.toNat < 256 := x.toNat_lt
      clear hx
      have HC : Hid (crcL c (l.drop k) = crcL crcTop l) := hcrc
      clear hcrc
      go_wp2
      go_loop [3, 5, 13] (fun s x' i => ∃ (j d y : Nat), j ≤ 8 ∧ d < 65536 ∧ y < 256 ∧ i = .int .i64 j ∧ s = .int .u16 d ∧ x' = .int .u8 y ∧ crcN (8 - j) d y = crcN 8 c x.toNat) (fun _ _ i => 8 - (intOf i).toNat)
      case atStart => exact ⟨0, c, x.toNat, by omega, hc16, hx8, rfl, rfl, rfl, rfl⟩
      case round =>
        obtain ⟨j, d, y, hj, hd, hy, rfl, rfl, rfl, hcn⟩ := hrel
        have HN : Hid (crcN (8 - j) d y = crcN 8 c x.toNat) := hcn
        clear hcn
        by_cases hj8 : j < 8
        · have hdf := differ_iff d y hd hy
          have hxc := xor_const d hd
          have e8 : Hid (8 - j = (8 - (j + 1)) + 1) := by show 8 - j = (8 - (j + 1)) + 1; omega
          by_cases hdm : d % 2 = y % 2
          · have h1 : (bits .and .u16 (bits .xor .u16 (d : Int) (y : Int)) 1 == 1) = false := by rw [hdf]; simp [hdm]
            clear hdf hxc
            have HM : Hid (crc1 d y = d / 2) := by show crc1 d y = d / 2; simp [crc1, hdm]
            clear hdm
            go_wp2
            go_round
            case rel =>
              refine ⟨j + 1, d / 2, y / 2, by omega, by omega, by omega, by go_num, by go_num, by go_num, ?_⟩
              rw [← HN.out, e8.out, crcN, HM.out]
            case measure => simp [intOf]; omega
          · have h1 : (bits .and .u16 (bits .xor .u16 (d : Int) (y : Int)) 1 == 1) = true := by rw [hdf]; simp [hdm]
            clear hdf
            have HM : Hid (crc1 d y = d / 2 ^^^ 33800) := by show crc1 d y = d / 2 ^^^ 33800; simp [crc1, hdm]
            have HX : Hid (bits .xor .u16 ((d : Int) / 2) 33800 = ((d / 2 ^^^ 33800 : Nat) : Int)) := hxc
            clear hdm hxc
            go_wp2
            go_round
            case rel =>
              refine ⟨j + 1, d / 2 ^^^ 33800, y / 2, by omega, xor_lt d hd, by omega, by go_num, ?_, by go_num, ?_⟩
              · rw [HX.out]
              · rw [← HN.out, e8.out, crcN, HM.out]
            case measure => simp [intOf]; omega
        · have e0 : j = 8 := by omega
          subst e0
          go_wp2
          go_round
          case rel =>
            refine ⟨k + 1, d, by omega, hd, by go_num, rfl, ?_⟩
            have h1 : d = crcN 8 c x.toNat := HN.out
            have h2 : crcL c (x :: l.drop (k + 1)) = crcL crcTop l := hdrop.out ▸ HC.out
            exact (congrArg (fun z => crcL z (List.drop (k + 1) l)) h1).trans h2
          case measure => simp [intOf]; omega
    · have HS : Hid (sumL l = 65535 - c) := sumL_of l k c (by omega) hcrc
      clear hcrc
      go_wp2
      go_ret
      refine ⟨ret_int ?_, rfl⟩
      rw [HS.out]
      exact not_sum c hc16
end Go.Proofs.YtkalonhalhdlaaaGreatDoor
