/-
  What one call of the small functions beneath Write and Read does.
-/
import Derived.Test.YtkalonhalhdlaaaGreatDoorProg
import Derived.Test.YtkalonhalhdlaaaGreatDoorFPure
import Derived.Test.YtkalonhalhdlaaaGreatDoorLBase
namespace Go.Proofs.YtkalonhalhdlaaaGreatDoor
open Go.RowKit

/-- The table of controls lies where the program's text lays it. -/
def Ctl (w : World) : Prop := ∀ i, i < 10 → w.cell? ⟨0, i, none⟩ = some (.int .u8 (tabN.getD i 0 : Nat))

theorem Ctl.below {w w' : World} {B : Nat} (h : Ctl w) (hb : Below B w w') (hB : 0 < B) : Ctl w' :=
  fun i hi => by rw [hb.cell (p := ⟨0, i, none⟩) hB]; exact h i hi



theorem isModulo_any (m : Int) (w : World) : Calls Tryz.prog 71 #[.int .i64 m] w fun e w' => e = .returned (.bool (isMod m)) ∧ w' = w := by
  by_cases h1 : m = 8
  · subst h1
    go_enter Tryz.func71, Tryz.ntmps71
    go_wp2
    go_ret
    exact ⟨rfl, rfl⟩
  · by_cases h2 : m = 128
    · subst h2
      go_enter Tryz.func71, Tryz.ntmps71
      go_wp2
      go_ret
      exact ⟨rfl, rfl⟩
    · go_enter Tryz.func71, Tryz.ntmps71
      go_wp2
      go_ret
      exact ⟨ret_bool (by simp [isMod, h1, h2]), rfl⟩

theorem isAddress_any (m : Int) (w : World) : Calls Tryz.prog 74 #[.int .i64 m] w fun e w' => e = .returned (.bool (isAddr m)) ∧ w' = w := by
  by_cases h1 : m = 1
  · subst h1
    go_enter Tryz.func74, Tryz.ntmps74
    go_wp2
    go_ret
    exact ⟨rfl, rfl⟩
  · by_cases h2 : m = 3
    · subst h2
      go_enter Tryz.func74, Tryz.ntmps74
      go_wp2
      go_ret
      exact ⟨rfl, rfl⟩
    · go_enter Tryz.func74, Tryz.ntmps74
      go_wp2
      go_ret
      exact ⟨ret_bool (by simp [isAddr, h1, h2]), rfl⟩

theorem isKind_any (k : Int) (w : World) : Calls Tryz.prog 72 #[.int .i64 k] w fun e w' => e = .returned (.bool (isKd k)) ∧ w' = w := by
  by_cases h1 : 1 ≤ k
  · by_cases h2 : k ≤ 9
    · go_enter Tryz.func72, Tryz.ntmps72
      go_wp2
      go_ret
      exact ⟨ret_bool (by simp [isKd, h1, h2]), rfl⟩
    · go_enter Tryz.func72, Tryz.ntmps72
      go_wp2
      go_ret
      exact ⟨ret_bool (by simp [isKd, h1, h2]), rfl⟩
  · go_enter Tryz.func72, Tryz.ntmps72
    go_wp2
    go_ret
    exact ⟨ret_bool (by simp [isKd]; omega), rfl⟩

theorem hasNS_any (k : Int) (w : World) : Calls Tryz.prog 111 #[.int .i64 k] w fun e w' => e = .returned (.bool (hasS k)) ∧ w' = w := by
  by_cases h1 : k = 1
  · subst h1
    go_enter Tryz.func111, Tryz.ntmps111
    go_wp2
    go_ret
    exact ⟨rfl, rfl⟩
  · go_enter Tryz.func111, Tryz.ntmps111
    go_wp2
    go_ret
    exact ⟨ret_bool (by simp [hasS, h1]), rfl⟩

theorem hasNR_any (k : Int) (w : World) : Calls Tryz.prog 112 #[.int .i64 k] w fun e w' => e = .returned (.bool (hasR k)) ∧ w' = w := by
  by_cases h1 : 1 ≤ k
  · by_cases h2 : k ≤ 4
    · go_enter Tryz.func112, Tryz.ntmps112
      go_wp2
      go_ret
      exact ⟨ret_bool (by simp [hasR, h1, h2]), rfl⟩
    · go_enter Tryz.func112, Tryz.ntmps112
      go_wp2
      go_ret
      exact ⟨ret_bool (by simp [hasR, h1, h2]), rfl⟩
  · go_enter Tryz.func112, Tryz.ntmps112
    go_wp2
    go_ret
    exact ⟨ret_bool (by simp [hasR]; omega), rfl⟩

theorem numberFits_any (m n : Int) (has : Bool) (w : World) : Calls Tryz.prog 110 #[.int .i64 m, .int .i64 n, .bool has] w fun e w' => e = .returned (.bool (numF m n has)) ∧ w' = w := by
  cases has
  · go_enter Tryz.func110, Tryz.ntmps110
    go_wp2
    go_ret
    exact ⟨ret_bool (by by_cases h : n = 0 <;> simp [numF, h]), rfl⟩
  · by_cases h1 : 0 ≤ n
    · go_enter Tryz.func110, Tryz.ntmps110
      go_wp2
      go_ret
      exact ⟨ret_bool (by simp [numF, h1]), rfl⟩
    · go_enter Tryz.func110, Tryz.ntmps110
      go_wp2
      go_ret
      exact ⟨ret_bool (by simp [numF]; omega), rfl⟩

theorem reportBytes_any (m : Int) (w : World) : Calls Tryz.prog 113 #[.int .i64 m] w fun e w' => e = .returned (.int .i64 (repN m)) ∧ w' = w := by
  by_cases h1 : m = 8
  · subst h1
    go_enter Tryz.func113, Tryz.ntmps113
    go_wp2
    go_ret
    exact ⟨rfl, rfl⟩
  · go_enter Tryz.func113, Tryz.ntmps113
    go_wp2
    go_ret
    exact ⟨ret_int (by unfold repN; rw [if_neg h1]), rfl⟩

theorem infoFits_any (m k n : Int) (w : World) : Calls Tryz.prog 75 #[.int .i64 m, .int .i64 k, .int .i64 n] w fun e w' => e = .returned (.bool (infoF m k n)) ∧ w' = w := by
  by_cases h1 : k = 1
  · subst h1
    go_enter Tryz.func75, Tryz.ntmps75
    go_wp2
    go_ret
    exact ⟨ret_bool (by simp [infoF]), rfl⟩
  · by_cases h9 : k = 9
    · subst h9
      go_enter Tryz.func75, Tryz.ntmps75
      go_wp2_with fail
      refine (reportBytes_any m w).mono ?_
      rintro e W1 ⟨rfl, rfl⟩
      go_wp2
      go_ret
      exact ⟨ret_bool (by unfold infoF; rw [if_neg (by omega), if_pos rfl]), rfl⟩
    · go_enter Tryz.func75, Tryz.ntmps75
      go_wp2
      go_ret
      exact ⟨ret_bool (by unfold infoF; rw [if_neg h1, if_neg h9]), rfl⟩

theorem bitIf_any (p : Bool) (n : Nat) (w : World) : Calls Tryz.prog 116 #[.bool p, .int .u8 n] w fun e w' => e = .returned (.int .u8 (bitN p n : Nat)) ∧ w' = w := by
  cases p
  · go_enter Tryz.func116, Tryz.ntmps116
    go_wp2
    go_ret
    exact ⟨rfl, rfl⟩
  · go_enter Tryz.func116, Tryz.ntmps116
    go_wp2
    go_ret
    exact ⟨rfl, rfl⟩

theorem controlBytes_any (m k : Nat) (hk : 1 ≤ k) (w : World) : Calls Tryz.prog 84 #[.int .i64 m, .int .i64 k] w fun e w' => e = .returned (.int .i64 (cbN m k : Nat)) ∧ w' = w := by
  by_cases h1 : m = 128
  · subst h1
    by_cases h2 : k ≤ 4
    · have hr : hasR k = true := by simp [hasR]; omega
      go_enter Tryz.func84, Tryz.ntmps84
      go_wp2_with fail
      refine (hasNR_any k w).mono ?_
      rintro e W1 ⟨rfl, rfl⟩
      rw [hr]
      go_wp2
      go_ret
      exact ⟨ret_int (by simp [cbN, wide, h2]), rfl⟩
    · have hr : hasR k = false := by simp [hasR]; omega
      go_enter Tryz.func84, Tryz.ntmps84
      go_wp2_with fail
      refine (hasNR_any k w).mono ?_
      rintro e W1 ⟨rfl, rfl⟩
      rw [hr]
      go_wp2
      go_ret
      exact ⟨ret_int (by simp [cbN, wide, h2]), rfl⟩
  · have h1' : ¬ (m : Int) = 128 := by omega
    go_enter Tryz.func84, Tryz.ntmps84
    go_wp2
    go_ret
    exact ⟨ret_int (by simp [cbN, wide, h1]), rfl⟩

theorem kindBits_any (m k : Nat) (hk : 1 ≤ k) (w : World) : Calls Tryz.prog 117 #[.int .i64 m, .int .i64 k] w fun e w' => e = .returned (.int .u8 (maskN m k : Nat)) ∧ w' = w := by
  by_cases h1 : k = 1
  · subst h1
    go_enter Tryz.func117, Tryz.ntmps117
    go_wp2_with fail
    refine (hasNS_any _ w).mono ?_
    rintro e W1 ⟨rfl, rfl⟩
    rw [show hasS 1 = true from rfl]
    go_wp2
    go_ret
    exact ⟨rfl, rfl⟩
  · have hs : hasS k = false := by simp [hasS]; omega
    by_cases h4 : 4 < k
    · have hr : hasR k = false := by simp [hasR]; omega
      go_enter Tryz.func117, Tryz.ntmps117
      go_wp2_with fail
      refine (hasNS_any _ w).mono ?_
      rintro e W1 ⟨rfl, rfl⟩
      rw [hs]
      go_wp2_with fail
      refine (hasNR_any _ W1).mono ?_
      rintro e W2 ⟨rfl, rfl⟩
      rw [hr]
      go_wp2
      go_ret
      exact ⟨ret_int (by simp [maskN, h1, h4]), rfl⟩
    · have hr : hasR k = true := by simp [hasR]; omega
      by_cases h8 : m = 8
      · subst h8
        go_enter Tryz.func117, Tryz.ntmps117
        go_wp2_with fail
        refine (hasNS_any _ w).mono ?_
        rintro e W1 ⟨rfl, rfl⟩
        rw [hs]
        go_wp2_with fail
        refine (hasNR_any _ W1).mono ?_
        rintro e W2 ⟨rfl, rfl⟩
        rw [hr]
        go_wp2
        go_ret
        exact ⟨ret_int (by simp [maskN, h1, h4]), rfl⟩
      · have h8' : ¬ (m : Int) = 8 := by omega
        go_enter Tryz.func117, Tryz.ntmps117
        go_wp2_with fail
        refine (hasNS_any _ w).mono ?_
        rintro e W1 ⟨rfl, rfl⟩
        rw [hs]
        go_wp2_with fail
        refine (hasNR_any _ W1).mono ?_
        rintro e W2 ⟨rfl, rfl⟩
        rw [hr]
        go_wp2
        go_ret
        exact ⟨ret_int (by simp [maskN, h1, h4, h8]), rfl⟩

theorem plainControl_any (m k : Nat) (hk : k ≤ 9) (w : World) (hC : Ctl w) : Calls Tryz.prog 115 #[.int .i64 m, .int .i64 k] w fun e w' => e = .returned (.int .u8 (baseN m k : Nat)) ∧ w' = w := by
  by_cases h5 : k = 5
  · subst h5
    by_cases h1 : m = 128
    · subst h1
      go_enter Tryz.func115, Tryz.ntmps115
      go_wp2
      go_ret
      exact ⟨rfl, rfl⟩
    · have h1' : ¬ (m : Int) = 128 := by omega
      have hc := hC 5 (by omega)
      go_enter Tryz.func115, Tryz.ntmps115
      go_wp2
      go_ret
      exact ⟨ret_int (by simp [baseN, h1]), rfl⟩
  · have h5' : ¬ (k : Int) = 5 := by omega
    have hc := hC k (by omega)
    go_enter Tryz.func115, Tryz.ntmps115
    go_wp2
    go_ret
    exact ⟨ret_int (by simp [baseN, h5]), rfl⟩
end Go.Proofs.YtkalonhalhdlaaaGreatDoor
