import Derived.Laws.BitsAllLaws
import Derived.Test.YtkalonhalhdlaaaGreatDoorProg
import Derived.Test.YtkalonhalhdlaaaGreatDoorVRows
import Derived.Deep.QuietTactic
import Derived.BigQuiet
import Derived.Deep.RegionWith
import Derived.WalkSmall
import Derived.Deep.RegionHeld3
/-
  Frames as plain functions: what may be written, how its control is, and what bytes read as.
-/
namespace Go.Proofs.YtkalonhalhdlaaaGreatDoor
open Go

def isMod (m : Int) : Bool := decide (m = 8) || decide (m = 128)
def isAddr (a : Int) : Bool := decide (a = 1) || decide (a = 3)
def isKd (k : Int) : Bool := decide (1 ≤ k) && decide (k ≤ 9)
def hasS (k : Int) : Bool := decide (k = 1)
def hasR (k : Int) : Bool := decide (1 ≤ k) && decide (k ≤ 4)
def numF (m n : Int) (has : Bool) : Bool := if has then decide (0 ≤ n) && decide (n < m) else decide (n = 0)
def repN (m : Int) : Int := if m = 8 then 3 else 5
def infoF (m k n : Int) : Bool := if k = 1 then decide (n ≤ 32) else if k = 9 then n == repN m else n == 0

/-- A control's first byte without numbers and Poll. -/
def tabN : List Nat := [0, 0, 1, 5, 9, 47, 67, 99, 15, 135]
def baseN (m k : Nat) : Nat := if k = 5 ∧ m = 128 then 111 else tabN.getD k 0
def maskN (m k : Nat) : Nat := if k = 1 then 1 else if 4 < k then 239 else if m = 8 then 15 else 255
def wide (m k : Nat) : Bool := decide (m = 128) && decide (k ≤ 4)
def cbN (m k : Nat) : Nat := if wide m k then 2 else 1
def bitN (p : Bool) (n : Nat) : Nat := if p then n else 0

/-- The control's bytes. -/
def ctlL (m k ns nr : Nat) (p : Bool) : List UInt8 :=
  if wide m k then [UInt8.ofNat (baseN m k + 2 * ns), UInt8.ofNat (bitN p 1 + 2 * nr)]
  else [UInt8.ofNat (baseN m k + 2 * ns + bitN p 16 + 32 * nr)]

/-- The first kind from k on, of n more, whose bits a byte has. -/
def kindFrom (m c : Nat) : Nat → Nat → Option Nat
  | _, 0 => none
  | k, n + 1 => if c &&& maskN m k = baseN m k then some k else kindFrom m c (k + 1) n

/-- A frame in plain words. -/
structure Fr where
  a : Int
  k : Int
  p : Bool
  ns : Int
  nr : Int
  info : List UInt8

def frNone : Fr := ⟨0, 0, false, 0, 0, []⟩

/-- What is written: an error, or bytes. -/
def writeL (m : Int) (f : Fr) : Nat × List UInt8 :=
  if (isMod m && isKd f.k && numF m f.ns (hasS f.k) && numF m f.nr (hasR f.k)) = false then (1, [])
  else if isAddr f.a = false then (3, [])
  else if infoF m f.k f.info.length = false then (5, [])
  else (0, UInt8.ofNat f.a.toNat :: (ctlL m.toNat f.k.toNat f.ns.toNat f.nr.toNat f.p ++ f.info))

/-- The kind, as far as the control's first byte. -/
def kindL (m : Int) (b : List UInt8) : Nat × Nat :=
  if isMod m = false then (0, 1)
  else match b with
  | [] => (0, 2)
  | a :: r => if isAddr a.toNat = false then (0, 3) else match r with
    | [] => (0, 2)
    | c :: _ => match kindFrom m.toNat c.toNat 1 9 with
      | some k => (k, 0)
      | none => (0, 4)

/-- What a whole control tells. -/
def ctlF (m k : Nat) (c : List UInt8) : Fr :=
  let c0 := (c.getD 0 0).toNat
  let c1 := (c.getD 1 0).toNat
  if 4 < k then ⟨0, k, decide (c0 &&& 16 ≠ 0), 0, 0, []⟩
  else if m = 8 then ⟨0, k, decide (c0 &&& 16 ≠ 0), if k = 1 then (c0 / 2 % m : Nat) else 0, (c0 / 32 : Nat), []⟩
  else ⟨0, k, decide (c1 % 2 ≠ 0), if k = 1 then (c0 / 2 % m : Nat) else 0, (c1 / 2 : Nat), []⟩

def readL (m : Int) (b : List UInt8) : Nat × Fr :=
  let r := kindL m b
  if r.2 ≠ 0 then (r.2, frNone)
  else
    let at' := 1 + cbN m.toNat r.1
    if b.length < at' then (2, frNone)
    else if infoF m r.1 (b.length - at' : Nat) = false then (5, frNone)
    else (0, { ctlF m.toNat r.1 (b.drop 1) with a := (b.getD 0 0).toNat, info := b.drop at' })

theorem baseN_lt (m k : Nat) : baseN m k < 256 := by
  unfold baseN tabN
  split
  · omega
  · match k with
    | 0 | 1 | 2 | 3 | 4 | 5 | 6 | 7 | 8 | 9 => simp
    | k + 10 => simp

theorem maskN_lt (m k : Nat) : maskN m k < 256 := by
  unfold maskN
  split
  · omega
  · split
    · omega
    · split <;> omega

theorem kindFrom_some {m c k n r : Nat} (h : kindFrom m c k n = some r) : k ≤ r ∧ r < k + n := by
  induction n generalizing k with
  | zero => simp [kindFrom] at h
  | succ n ih =>
    unfold kindFrom at h
    split at h
    · simp at h; omega
    · have := ih h; omega
end Go.Proofs.YtkalonhalhdlaaaGreatDoor

/-
  What one call of the small functions beneath Write and Read does.
-/
namespace Go.Proofs.YtkalonhalhdlaaaGreatDoor
open Go.RowKit

/-- The table of controls lies where the program's text lays it. -/
def Ctl (w : World) : Prop := ∀ i, i < 10 → w.cell? ⟨0, i, none⟩ = some (.int .u8 (tabN.getD i 0 : Nat))

theorem Ctl.below {w w' : World} {B : Nat} (h : Ctl w) (hb : Below B w w') (hB : 0 < B) : Ctl w' :=
  fun i hi => by rw [hb.cell (p := ⟨0, i, none⟩) hB]; exact h i hi



theorem isModulo_any (m : Int) (w : World) : Calls Tryz.prog 71 #[.int .i64 m] w fun e w' => e = .returned (.bool (isMod m)) ∧ w' = w := by
  by_cases h1 : m = 8
  · subst h1
    go_enter Tryz.func71, Tryz.ntmps71
    go_wp2
    go_ret
    exact ⟨rfl, rfl⟩
  · by_cases h2 : m = 128
    · subst h2
      go_enter Tryz.func71, Tryz.ntmps71
      go_wp2
      go_ret
      exact ⟨rfl, rfl⟩
    · go_enter Tryz.func71, Tryz.ntmps71
      go_wp2
      go_ret
      exact ⟨ret_bool (by simp [isMod, h1, h2]), rfl⟩

theorem isAddress_any (m : Int) (w : World) : Calls Tryz.prog 74 #[.int .i64 m] w fun e w' => e = .returned (.bool (isAddr m)) ∧ w' = w := by
  by_cases h1 : m = 1
  · subst h1
    go_enter Tryz.func74, Tryz.ntmps74
    go_wp2
    go_ret
    exact ⟨rfl, rfl⟩
  · by_cases h2 : m = 3
    · subst h2
      go_enter Tryz.func74, Tryz.ntmps74
      go_wp2
      go_ret
      exact ⟨rfl, rfl⟩
    · go_enter Tryz.func74, Tryz.ntmps74
      go_wp2
      go_ret
      exact ⟨ret_bool (by simp [isAddr, h1, h2]), rfl⟩

theorem isKind_any (k : Int) (w : World) : Calls Tryz.prog 72 #[.int .i64 k] w fun e w' => e = .returned (.bool (isKd k)) ∧ w' = w := by
  by_cases h1 : 1 ≤ k
  · by_cases h2 : k ≤ 9
    · go_enter Tryz.func72, Tryz.ntmps72
      go_wp2
      go_ret
      exact ⟨ret_bool (by simp [isKd, h1, h2]), rfl⟩
    · go_enter Tryz.func72, Tryz.ntmps72
      go_wp2
      go_ret
      exact ⟨ret_bool (by simp [isKd, h1, h2]), rfl⟩
  · go_enter Tryz.func72, Tryz.ntmps72
    go_wp2
    go_ret
    exact ⟨ret_bool (by simp [isKd]; omega), rfl⟩

theorem hasNS_any (k : Int) (w : World) : Calls Tryz.prog 111 #[.int .i64 k] w fun e w' => e = .returned (.bool (hasS k)) ∧ w' = w := by
  by_cases h1 : k = 1
  · subst h1
    go_enter Tryz.func111, Tryz.ntmps111
    go_wp2
    go_ret
    exact ⟨rfl, rfl⟩
  · go_enter Tryz.func111, Tryz.ntmps111
    go_wp2
    go_ret
    exact ⟨ret_bool (by simp [hasS, h1]), rfl⟩

theorem hasNR_any (k : Int) (w : World) : Calls Tryz.prog 112 #[.int .i64 k] w fun e w' => e = .returned (.bool (hasR k)) ∧ w' = w := by
  by_cases h1 : 1 ≤ k
  · by_cases h2 : k ≤ 4
    · go_enter Tryz.func112, Tryz.ntmps112
      go_wp2
      go_ret
      exact ⟨ret_bool (by simp [hasR, h1, h2]), rfl⟩
    · go_enter Tryz.func112, Tryz.ntmps112
      go_wp2
      go_ret
      exact ⟨ret_bool (by simp [hasR, h1, h2]), rfl⟩
  · go_enter Tryz.func112, Tryz.ntmps112
    go_wp2
    go_ret
    exact ⟨ret_bool (by simp [hasR]; omega), rfl⟩

theorem numberFits_any (m n : Int) (has : Bool) (w : World) : Calls Tryz.prog 110 #[.int .i64 m, .int .i64 n, .bool has] w fun e w' => e = .returned (.bool (numF m n has)) ∧ w' = w := by
  cases has
  · go_enter Tryz.func110, Tryz.ntmps110
    go_wp2
    go_ret
    exact ⟨ret_bool (by by_cases h : n = 0 <;> simp [numF, h]), rfl⟩
  · by_cases h1 : 0 ≤ n
    · go_enter Tryz.func110, Tryz.ntmps110
      go_wp2
      go_ret
      exact ⟨ret_bool (by simp [numF, h1]), rfl⟩
    · go_enter Tryz.func110, Tryz.ntmps110
      go_wp2
      go_ret
      exact ⟨ret_bool (by simp [numF]; omega), rfl⟩

theorem reportBytes_any (m : Int) (w : World) : Calls Tryz.prog 113 #[.int .i64 m] w fun e w' => e = .returned (.int .i64 (repN m)) ∧ w' = w := by
  by_cases h1 : m = 8
  · subst h1
    go_enter Tryz.func113, Tryz.ntmps113
    go_wp2
    go_ret
    exact ⟨rfl, rfl⟩
  · go_enter Tryz.func113, Tryz.ntmps113
    go_wp2
    go_ret
    exact ⟨ret_int (by unfold repN; rw [if_neg h1]), rfl⟩

theorem infoFits_any (m k n : Int) (w : World) : Calls Tryz.prog 75 #[.int .i64 m, .int .i64 k, .int .i64 n] w fun e w' => e = .returned (.bool (infoF m k n)) ∧ w' = w := by
  by_cases h1 : k = 1
  · subst h1
    go_enter Tryz.func75, Tryz.ntmps75
    go_wp2
    go_ret
    exact ⟨ret_bool (by simp [infoF]), rfl⟩
  · by_cases h9 : k = 9
    · subst h9
      go_enter Tryz.func75, Tryz.ntmps75
      go_wp2_with fail
      refine (reportBytes_any m w).mono ?_
      rintro e W1 ⟨rfl, rfl⟩
      go_wp2
      go_ret
      exact ⟨ret_bool (by unfold infoF; rw [if_neg (by omega), if_pos rfl]), rfl⟩
    · go_enter Tryz.func75, Tryz.ntmps75
      go_wp2
      go_ret
      exact ⟨ret_bool (by unfold infoF; rw [if_neg h1, if_neg h9]), rfl⟩

theorem bitIf_any (p : Bool) (n : Nat) (w : World) : Calls Tryz.prog 116 #[.bool p, .int .u8 n] w fun e w' => e = .returned (.int .u8 (bitN p n : Nat)) ∧ w' = w := by
  cases p
  · go_enter Tryz.func116, Tryz.ntmps116
    go_wp2
    go_ret
    exact ⟨rfl, rfl⟩
  · go_enter Tryz.func116, Tryz.ntmps116
    go_wp2
    go_ret
    exact ⟨rfl, rfl⟩

theorem controlBytes_any (m k : Nat) (hk : 1 ≤ k) (w : World) : Calls Tryz.prog 84 #[.int .i64 m, .int .i64 k] w fun e w' => e = .returned (.int .i64 (cbN m k : Nat)) ∧ w' = w := by
  by_cases h1 : m = 128
  · subst h1
    by_cases h2 : k ≤ 4
    · have hr : hasR k = true := by simp [hasR]; omega
      go_enter Tryz.func84, Tryz.ntmps84
      go_wp2_with fail
      refine (hasNR_any k w).mono ?_
      rintro e W1 ⟨rfl, rfl⟩
      rw [hr]
      go_wp2
      go_ret
      exact ⟨ret_int (by simp [cbN, wide, h2]), rfl⟩
    · have hr : hasR k = false := by simp [hasR]; omega
      go_enter Tryz.func84, Tryz.ntmps84
      go_wp2_with fail
      refine (hasNR_any k w).mono ?_
      rintro e W1 ⟨rfl, rfl⟩
      rw [hr]
      go_wp2
      go_ret
      exact ⟨ret_int (by simp [cbN, wide, h2]), rfl⟩
  · have h1' : ¬ (m : Int) = 128 := by omega
    go_enter Tryz.func84, Tryz.ntmps84
    go_wp2
    go_ret
    exact ⟨ret_int (by simp [cbN, wide, h1]), rfl⟩

theorem kindBits_any (m k : Nat) (hk : 1 ≤ k) (w : World) : Calls Tryz.prog 117 #[.int .i64 m, .int .i64 k] w fun e w' => e = .returned (.int .u8 (maskN m k : Nat)) ∧ w' = w := by
  by_cases h1 : k = 1
  · subst h1
    go_enter Tryz.func117, Tryz.ntmps117
    go_wp2_with fail
    refine (hasNS_any _ w).mono ?_
    rintro e W1 ⟨rfl, rfl⟩
    rw [show hasS 1 = true from rfl]
    go_wp2
    go_ret
    exact ⟨rfl, rfl⟩
  · have hs : hasS k = false := by simp [hasS]; omega
    by_cases h4 : 4 < k
    · have hr : hasR k = false := by simp [hasR]; omega
      go_enter Tryz.func117, Tryz.ntmps117
      go_wp2_with fail
      refine (hasNS_any _ w).mono ?_
      rintro e W1 ⟨rfl, rfl⟩
      rw [hs]
      go_wp2_with fail
      refine (hasNR_any _ W1).mono ?_
      rintro e W2 ⟨rfl, rfl⟩
      rw [hr]
      go_wp2
      go_ret
      exact ⟨ret_int (by simp [maskN, h1, h4]), rfl⟩
    · have hr : hasR k = true := by simp [hasR]; omega
      by_cases h8 : m = 8
      · subst h8
        go_enter Tryz.func117, Tryz.ntmps117
        go_wp2_with fail
        refine (hasNS_any _ w).mono ?_
        rintro e W1 ⟨rfl, rfl⟩
        rw [hs]
        go_wp2_with fail
        refine (hasNR_any _ W1).mono ?_
        rintro e W2 ⟨rfl, rfl⟩
        rw [hr]
        go_wp2
        go_ret
        exact ⟨ret_int (by simp [maskN, h1, h4]), rfl⟩
      · have h8' : ¬ (m : Int) = 8 := by omega
        go_enter Tryz.func117, Tryz.ntmps117
        go_wp2_with fail
        refine (hasNS_any _ w).mono ?_
        rintro e W1 ⟨rfl, rfl⟩
        rw [hs]
        go_wp2_with fail
        refine (hasNR_any _ W1).mono ?_
        rintro e W2 ⟨rfl, rfl⟩
        rw [hr]
        go_wp2
        go_ret
        exact ⟨ret_int (by simp [maskN, h1, h4, h8]), rfl⟩

theorem plainControl_any (m k : Nat) (hk : k ≤ 9) (w : World) (hC : Ctl w) : Calls Tryz.prog 115 #[.int .i64 m, .int .i64 k] w fun e w' => e = .returned (.int .u8 (baseN m k : Nat)) ∧ w' = w := by
  by_cases h5 : k = 5
  · subst h5
    by_cases h1 : m = 128
    · subst h1
      go_enter Tryz.func115, Tryz.ntmps115
      go_wp2
      go_ret
      exact ⟨rfl, rfl⟩
    · have h1' : ¬ (m : Int) = 128 := by omega
      have hc := hC 5 (by omega)
      go_enter Tryz.func115, Tryz.ntmps115
      go_wp2
      go_ret
      exact ⟨ret_int (by simp [baseN, h1]), rfl⟩
  · have h5' : ¬ (k : Int) = 5 := by omega
    have hc := hC k (by omega)
    go_enter Tryz.func115, Tryz.ntmps115
    go_wp2
    go_ret
    exact ⟨ret_int (by simp [baseN, h5]), rfl⟩
end Go.Proofs.YtkalonhalhdlaaaGreatDoor

/-
  What one call of numbersFit does.
-/
namespace Go.Proofs.YtkalonhalhdlaaaGreatDoor
open Go.RowKit

set_option maxHeartbeats 1000000 in
theorem numbersFit_any (m a k ns nr : Int) (p : Bool) (v : Value) (w : World) :
    Calls Tryz.prog 73 #[.int .i64 m, .agg #[.int .i64 a, .int .i64 k, .bool p, .int .i64 ns, .int .i64 nr, v]] w fun e w' => e = .returned (.bool (numF m ns (hasS k) && numF m nr (hasR k))) ∧ Below w.heap.size w w' := by
  have c1 := fun w => hasNS_any k w
  have c2 := fun w => hasNR_any k w
  have c3 := fun w => numberFits_any m ns (hasS k) w
  have c4 := fun w => numberFits_any m nr (hasR k) w
  generalize numF m nr (hasR k) = y at c4 ⊢
  generalize numF m ns (hasS k) = x at c3 ⊢
  generalize hasS k = s at c1 c3
  generalize hasR k = r at c2 c4
  cases x with
  | false =>
    go_enter Tryz.func73, Tryz.ntmps73
    go_wp2
    go_quiet (first | (go_at_call 111; exact Calls.quiet_of_same (c1 _)) | (go_at_call 110; exact Calls.quiet_of_same (c3 _)))
    go_wp2
    go_ret
    exact ⟨rfl, below_drewN ((Below.refl _ w).alloc (Nat.le_refl _) _) _⟩
  | true =>
    go_enter Tryz.func73, Tryz.ntmps73
    go_wp2
    go_quiet (first | (go_at_call 111; exact Calls.quiet_of_same (c1 _)) | (go_at_call 112; exact Calls.quiet_of_same (c2 _)) | (go_at_call_of 110 (ns); exact Calls.quiet_of_same (c3 _)) | (go_at_call_of 110 (nr); exact Calls.quiet_of_same (c4 _)))
    go_wp2
    go_ret
    exact ⟨rfl, below_drewN ((Below.refl _ w).alloc (Nat.le_refl _) _) _⟩

end Go.Proofs.YtkalonhalhdlaaaGreatDoor

/-
  What one call of numbersFit and of control does.
-/
namespace Go.Proofs.YtkalonhalhdlaaaGreatDoor
open Go.RowKit

theorem u8_of (n : Nat) (h : n < 256) : ((UInt8.ofNat n).toNat : Int) = (n : Int) := by
  have : (UInt8.ofNat n).toNat = n % 256 := by simp
  rw [this, Nat.mod_eq_of_lt h]

/-- The numbers that a kind has fit; those that it has not are nought. -/
def NumOk (m k ns nr : Nat) : Prop := (m = 8 ∨ m = 128) ∧ 1 ≤ k ∧ k ≤ 9 ∧ (k = 1 → ns < m) ∧ (k ≠ 1 → ns = 0) ∧ (k ≤ 4 → nr < m) ∧ (4 < k → nr = 0)

theorem first_lt {m k ns nr : Nat} (h : NumOk m k ns nr) : baseN m k + 2 * ns < 256 := by
  have := baseN_lt m k
  by_cases h1 : k = 1
  · subst h1
    have e : baseN m 1 = 0 := by simp [baseN, tabN]
    have := h.2.2.2.1 rfl
    rcases h.1 with h | h <;> omega
  · have := h.2.2.2.2.1 h1
    omega

theorem bitN_le (p : Bool) (n : Nat) : bitN p n ≤ n := by cases p <;> simp [bitN]

theorem one_lt {m k ns nr : Nat} (h : NumOk m k ns nr) (p : Bool) (hw : ¬ wide m k = true) : baseN m k + 2 * ns + bitN p 16 + 32 * nr < 256 := by
  have hb := bitN_le p 16
  obtain ⟨hm, k1, k9, a1, a2, b1, b2⟩ := h
  simp [wide] at hw
  have key : ∀ x, (x = 1 ∨ x = 2 ∨ x = 3 ∨ x = 4) → baseN m x < 16 := by
    intro x hx
    rcases hx with rfl | rfl | rfl | rfl <;> simp [baseN, tabN]
  have key2 : ∀ x, (x = 5 ∨ x = 6 ∨ x = 7 ∨ x = 8 ∨ x = 9) → baseN m x < 240 := by
    intro x hx
    rcases hx with rfl | rfl | rfl | rfl | rfl <;> simp [baseN, tabN] <;> split <;> omega
  by_cases h4 : k ≤ 4
  · have hm8 : m = 8 := by omega
    have hr := b1 h4
    by_cases e1 : k = 1
    · have := a1 e1
      have : baseN m 1 = 0 := by simp [baseN, tabN]
      subst e1
      omega
    · have := a2 e1
      have := key k (by omega)
      omega
  · have := a2 (by omega)
    have := b2 (by omega)
    have := key2 k (by omega)
    omega

theorem wrap1 (p : Bool) (nr : Nat) (h : nr < 128) : IntKind.u8.wrap ((bitN p 1 : Nat) + IntKind.u8.wrap (IntKind.i64.wrap (2 * (nr : Int)))) = ((bitN p 1 + 2 * nr : Nat) : Int) := by
  have hb := bitN_le p 1
  generalize bitN p 1 = x at hb ⊢
  simp only [IntKind.wrap_i64, IntKind.wrap_u8]
  omega

theorem wrap16 (p : Bool) (nr x ns : Nat) (h : x + 2 * ns + bitN p 16 + 32 * nr < 256) : IntKind.u8.wrap (IntKind.u8.wrap ((x : Int) + 2 * (ns : Int) + (bitN p 16 : Nat)) + IntKind.u8.wrap (IntKind.i64.wrap (32 * (nr : Int)))) = ((x + 2 * ns + bitN p 16 + 32 * nr : Nat) : Int) := by
  generalize bitN p 16 = y at h ⊢
  simp only [IntKind.wrap_i64, IntKind.wrap_u8]
  omega

theorem seg_one (W : World) (x : Nat) (hx : x < 256) (l : List UInt8) (hl : l = [UInt8.ofNat x]) : Seg (W.alloc (.cells #[.int .u8 (x : Int)] 5)).drew W.heap.size 0 l := by
  subst hl
  intro i hi
  simp at hi
  subst hi
  simp
  omega

theorem seg_two (W : World) (x y : Nat) (hx : x < 256) (hy : y < 256) (l : List UInt8) (hl : l = [UInt8.ofNat x, UInt8.ofNat y]) : Seg (W.alloc (.cells #[.int .u8 (x : Int), .int .u8 (y : Int)] 5)).drew W.heap.size 0 l := by
  subst hl
  intro i hi
  simp at hi
  have h2 : i = 0 ∨ i = 1 := by omega
  rcases h2 with rfl | rfl
  · simp; omega
  · simp; omega

set_option maxHeartbeats 1000000 in
theorem control_any (m k ns nr : Nat) (a : Int) (p : Bool) (v : Value) (w : World) (hC : Ctl w) (hs : 0 < w.heap.size) (ok : NumOk m k ns nr) :
    Calls Tryz.prog 77 #[.int .i64 m, .agg #[.int .i64 a, .int .i64 k, .bool p, .int .i64 ns, .int .i64 nr, v]] w fun e w' => ∃ b, e = .returned (.slice (some ⟨b, 0, none⟩) (cbN m k) (cbN m k)) ∧ w.heap.size ≤ b ∧ b < w'.heap.size ∧ Seg w' b 0 (ctlL m k ns nr p) ∧ Below w.heap.size w w' := by
  have h1 := first_lt ok
  have hm : m = 8 ∨ m = 128 := ok.1
  have hns : ns < 128 := by
    by_cases e : k = 1
    · have := ok.2.2.2.1 e; omega
    · have := ok.2.2.2.2.1 e; omega
  have hnr : nr < 128 := by
    by_cases e : k ≤ 4
    · have := ok.2.2.2.2.2.1 e; omega
    · have := ok.2.2.2.2.2.2 (by omega); omega
  have c1 := fun n => plainControl_any m k ok.2.2.1 ((w.alloc (.cells #[.int .i64 a, .int .i64 k, .bool p, .int .i64 ns, .int .i64 nr, v] 30)).drewN n) (hC.below (below_drewN ((Below.refl _ w).alloc (Nat.le_refl _) _) _) hs)
  have c2 := fun w => controlBytes_any m k ok.2.1 w
  go_enter Tryz.func77, Tryz.ntmps77
  go_wp2
  go_quiet (first | (go_at_call 115; exact Calls.quiet_of_same (c1 _)))
  go_wp2_with fail
  refine (c2 _).mono ?_
  rintro e W1 ⟨rfl, rfl⟩
  obtain ⟨W, hW⟩ : ∃ W, W = ((w.alloc (.cells #[.int .i64 a, .int .i64 k, .bool p, .int .i64 ns, .int .i64 nr, v] 30)).drewN nq) := ⟨_, rfl⟩
  have hbW : Below w.heap.size w W := by rw [hW]; exact below_drewN ((Below.refl _ w).alloc (Nat.le_refl _) _) nq
  have hR : W.heap[w.heap.size]? = some (.cells #[.int .i64 a, .int .i64 k, .bool p, .int .i64 ns, .int .i64 nr, v] 30 (0, 0)) := by rw [hW]; exact Array.getElem?_push_size
  rw [← hW]
  have r2 : W.cell? ⟨w.heap.size, 2, none⟩ = some (.bool p) := by rw [Lib.cell_of_heap hR]; rfl
  have r4 : W.cell? ⟨w.heap.size, 4, none⟩ = some (.int .i64 nr) := by rw [Lib.cell_of_heap hR]; rfl
  clear hW hR c1
  by_cases hw : wide m k = true
  · have hcb : cbN m k = 2 := by simp [cbN, hw]
    rw [hcb]
    go_wp2
    go_region_held3 (fun w' => w'.cell? ⟨w.heap.size, 2, none⟩ = some (.bool p) ∧ w'.cell? ⟨w.heap.size, 4, none⟩ = some (.int .i64 nr)) (go_keep) (first | (go_at_call 116; refine (bitIf_any p 1 _).mono ?_; rintro e w' ⟨rfl, rfl⟩))
    all_goals go_wp2
    go_ret
    refine ⟨W.heap.size, by rw [hcb]; rfl, hbW.size, by simp, ?_, below_drewN (hbW.alloc hbW.size _) 1⟩
    rw [wrap1 p nr hnr]
    exact seg_two W (baseN m k + 2 * ns) (bitN p 1 + 2 * nr) h1 (by have := bitN_le p 1; omega) _ (by simp [ctlL, hw])
  · have hcb : cbN m k = 1 := by simp [cbN, hw]
    rw [hcb]
    go_wp2
    go_region_held3 (fun w' => w'.cell? ⟨w.heap.size, 2, none⟩ = some (.bool p) ∧ w'.cell? ⟨w.heap.size, 4, none⟩ = some (.int .i64 nr)) (go_keep) (first | (go_at_call 116; refine (bitIf_any p 16 _).mono ?_; rintro e w' ⟨rfl, rfl⟩))
    all_goals go_wp2
    go_ret
    refine ⟨W.heap.size, by rw [hcb]; rfl, hbW.size, by simp, ?_, below_drewN (hbW.alloc hbW.size _) 1⟩
    have h2 := one_lt ok p hw
    rw [wrap16 p nr _ _ h2]
    exact seg_one W (baseN m k + 2 * ns + bitN p 16 + 32 * nr) h2 _ (by simp [ctlL, hw])
end Go.Proofs.YtkalonhalhdlaaaGreatDoor
